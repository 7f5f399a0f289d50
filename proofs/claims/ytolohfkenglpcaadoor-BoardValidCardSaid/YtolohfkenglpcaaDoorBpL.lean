/- Texts of boards: a round of the loop that collects the texts of the ranks: 'ranks = append(ranks, rankText(rank))' draws its order. -/
import Derived.Test.YtolohfkenglpcaaDoorBpH
import Derived.Test.YtolohfkenglpcaaDoorBpK
import Derived.Maps.AppendAt
namespace Go.Proofs.YtolohfkenglpcaaDoor
open Go.RowKit Go.Shelf
attribute [local go_sem] Oper.semAt_some

theorem infoStr2 : (Tryd.prog.info? 9).map (fun i => (i.zero, i.size, i.bytes)) = some (some (.string ByteArray.empty), 1, 16) := by kernel_rfl
theorem keepsB {W W' : World} (h : Below W.heap.size W W') : KeepsOthers W W' := ⟨h.size, fun _ _ hk _ => (h.block _ (Array.getElem?_eq_some_iff.1 hk).1).trans hk⟩
def ops87 : List Oper :=
  [{ dst := some 16, op := Op.load 66 (Operand.tmp 4), type := 66, pos := "board.go:87", after := #[], guard := none },
    { dst := some 17, op := Op.move (Operand.tmp 5), type := 24, pos := "board.go:87", after := #[], guard := none },
    { dst := some 18, op := Op.call { callee := Callee.value (Operand.func 50), args := #[Operand.tmp 17], argTypes := #[24] }, type := 9, pos := "board.go:87", after := #[{ on := 1, ground := Ground.data }], guard := none },
    { dst := some 19, op := Op.buildSlice 66 1 #[(0, Operand.tmp 18)], type := 66, pos := "board.go:87", after := #[{ on := 2, ground := Ground.data }], guard := none },
    { dst := some 20, op := Op.call { callee := Callee.builtin Builtin.append, args := #[Operand.tmp 16, Operand.tmp 19], argTypes := #[66, 66] }, type := 66, pos := "board.go:87", after := #[{ on := 0, ground := Ground.data }, { on := 3, ground := Ground.data }, { on := 2, ground := Ground.chain }], guard := none },
    { dst := none, op := Op.store 66 (Operand.tmp 4) (Operand.tmp 20), type := 0, pos := "board.go:87", after := #[{ on := 4, ground := Ground.data }, { on := 4, ground := Ground.chain }, { on := 0, ground := Ground.phase }, { on := 1, ground := Ground.phase }, { on := 2, ground := Ground.phase }, { on := 3, ground := Ground.phase }, { on := 4, ground := Ground.phase }], guard := none }]

set_option maxRecDepth 100000 in
set_option maxHeartbeats 2000000 in
theorem collect_rank (ll n B n0 k : Nat) (t0 t1 t2 t3 t6 t7 t8 t9 t10 t11 t12 t13 t14 t15 rv v : Value) (T : ByteArray) (xs : List Value) (W : World) (Q : Exit → Act → World → Prop)
    (hv : Boxed W B 66 v) (hrow : W.ownsRow n0 9 1 v k xs) (hn0 : n0 ≤ W.heap.size) (hB : n0 ≤ B) (hk : k ≤ 1000)
    (hcall : Calls Tryd.prog 50 #[rv] W.drew fun e w' => e = .returned (.string T) ∧ Below W.drew.heap.size W.drew w')
    (hQ : ∀ a w', KeepsOthers W w' → Below n0 W w' → (∀ b, b < W.heap.size → b ≠ B → some b ≠ v.ownBlock → w'.heap[b]? = W.heap[b]?) → (∃ v', Boxed w' B 66 v' ∧ w'.ownsRow n0 9 1 v' (k + 1) (xs ++ [.string T])) → Q .normal a w') :
    (Code.region 6 ops87.toArray true).wpIn (Fence.wide.inRound ll) n Tryd.prog Q { tmps := #[t0, t1, t2, t3, .pointer (some ⟨B, 0, none⟩), rv, t6, t7, t8, t9, t10, t11, t12, t13, t14, t15, undef, undef, undef, undef, undef, undef, undef, undef, undef], defers := [] } W := by
  obtain ⟨i0, hi, hz0, hz1, hz2⟩ := info_parts infoStr2
  have TAIL : ∀ w2, Below W.heap.size W w2 → wpAnyIn (Fence.wide.inRound ll) n Tryd.prog .any ops87.toArray Q 2 #[true, true, true, true, false, false] { tmps := #[t0, t1, t2, t3, .pointer (some ⟨B, 0, none⟩), rv, t6, t7, t8, t9, t10, t11, t12, t13, t14, t15, v, rv, (.string T), (.slice (some ⟨w2.heap.size, 0, none⟩) 1 1), undef, undef, undef, undef, undef], defers := [] } (w2.alloc (.cells #[.string T] 9)) := by
    intro w2 hb2
    have hv2 : Boxed w2 B 66 v := (hb2.block B hv.lt).trans hv
    have hrow2 := own_below hrow hb2
    refine wpAnyIn_ready (rs := [4]) (by kernel_rfl) (by simp) ?_
    refine AllReadyIn.cons (o := { dst := some 20, op := Op.call { callee := Callee.builtin Builtin.append, args := #[Operand.tmp 16, Operand.tmp 19], argTypes := #[66, 66] }, type := 66, pos := "board.go:87", after := #[{ on := 0, ground := Ground.data }, { on := 3, ground := Ground.data }, { on := 2, ground := Ground.chain }], guard := none }) rfl (fun K hK => step_round rfl (by intro c h; cases h) (step_append_own (.tmp 16) (.tmp 19) 66 rfl 9 i0 (.string ByteArray.empty) 1 16 Tryd.underlying66 hi hz0 hz1 hz2 rfl (by decide) v k xs n0 rfl (hrow2.alloc _) (by have := hb2.size; simp; omega) ⟨w2.heap.size, 0, none⟩ 1 1 [.string T] rfl rfl (cell_one_new _ _ _) (by simp [Value.oneCell']) (by unfold maxLen; omega) (by omega) ?_)) AllReadyIn.nil
    intro v' w3 hown' hgrow
    obtain ⟨g', cap', rfl⟩ := ownsRow_succ hown'
    obtain ⟨hv3, hv4, hr4, hk4, hb4⟩ := hv2.appended (by decide) hrow2 (Nat.le_trans hn0 hb2.size) hB hown' hgrow
    have hc3 := hv3.cell
    have hf3 := hv3.frozen
    refine hK _ _ ?_
    refine wpAnyIn_ready (rs := [5]) (by kernel_rfl) (by simp) ?_
    refine AllReadyIn.cons (o := { dst := none, op := Op.store 66 (Operand.tmp 4) (Operand.tmp 20), type := 0, pos := "board.go:87", after := #[{ on := 4, ground := Ground.data }, { on := 4, ground := Ground.chain }, { on := 0, ground := Ground.phase }, { on := 1, ground := Ground.phase }, { on := 2, ground := Ground.phase }, { on := 3, ground := Ground.phase }, { on := 4, ground := Ground.phase }], guard := none }) rfl (fun K hK => step_round rfl (by intro c h; cases h) ?_) AllReadyIn.nil
    go_simp
    refine hK _ _ (wpAnyIn_done (by kernel_rfl) ?_ _)
    refine hQ _ _ ((keepsB hb2).trans hk4) ((hb2.mono hn0).trans hb4) (fun b hb hne hno => ?_) ⟨_, hv4, hr4⟩
    rw [(grownBy_setCell' w3 B (.slice (some ⟨g', 0, none⟩) (k + 1) cap')).block b (Nat.lt_of_lt_of_le hb (Nat.le_trans hb2.size (Nat.le_trans (by simp) hgrow.size))) (by simpa using hne), hgrow.block b (by have := hb2.size; simp; omega) hno, Below.heap_alloc _ _ _ (Nat.lt_of_lt_of_le hb hb2.size)]
    exact hb2.block b hb
  have S012 : ∀ w2, Below W.heap.size W w2 → wpAnyIn (Fence.wide.inRound ll) n Tryd.prog .any ops87.toArray Q 3 #[true, true, true, false, false, false] { tmps := #[t0, t1, t2, t3, .pointer (some ⟨B, 0, none⟩), rv, t6, t7, t8, t9, t10, t11, t12, t13, t14, t15, v, rv, (.string T), undef, undef, undef, undef, undef, undef], defers := [] } w2 := by
    intro w2 hb2
    refine wpAnyIn_ready (rs := [3]) (by kernel_rfl) (by simp) ?_
    refine AllReadyIn.cons (o := { dst := some 19, op := Op.buildSlice 66 1 #[(0, Operand.tmp 18)], type := 66, pos := "board.go:87", after := #[{ on := 2, ground := Ground.data }], guard := none }) rfl (fun K hK => step_round rfl (by intro c h; cases h) ?_) AllReadyIn.nil
    go_simp
    exact hK _ _ (TAIL w2 hb2)
  have S123 : ∀ w2, Below W.heap.size W w2 → wpAnyIn (Fence.wide.inRound ll) n Tryd.prog .any ops87.toArray Q 3 #[false, true, true, true, false, false] { tmps := #[t0, t1, t2, t3, .pointer (some ⟨B, 0, none⟩), rv, t6, t7, t8, t9, t10, t11, t12, t13, t14, t15, undef, rv, (.string T), (.slice (some ⟨w2.heap.size, 0, none⟩) 1 1), undef, undef, undef, undef, undef], defers := [] } (w2.alloc (.cells #[.string T] 9)) := by
    intro w2 hb2
    have hv2 : Boxed (w2.alloc (.cells #[.string T] 9)) B 66 v := Boxed.alloc (show Boxed w2 B 66 v from (hb2.block B hv.lt).trans hv) _
    have hc2 := hv2.cell
    refine wpAnyIn_ready (rs := [0]) (by kernel_rfl) (by simp) ?_
    refine AllReadyIn.cons (o := { dst := some 16, op := Op.load 66 (Operand.tmp 4), type := 66, pos := "board.go:87", after := #[], guard := none }) rfl (fun K hK => step_round rfl (by intro c h; cases h) ?_) AllReadyIn.nil
    go_simp
    exact hK _ _ (TAIL w2 hb2)
  have S12 : ∀ w2, Below W.heap.size W w2 → wpAnyIn (Fence.wide.inRound ll) n Tryd.prog .any ops87.toArray Q 4 #[false, true, true, false, false, false] { tmps := #[t0, t1, t2, t3, .pointer (some ⟨B, 0, none⟩), rv, t6, t7, t8, t9, t10, t11, t12, t13, t14, t15, undef, rv, (.string T), undef, undef, undef, undef, undef, undef], defers := [] } w2 := by
    intro w2 hb2
    have hv2 : Boxed w2 B 66 v := (hb2.block B hv.lt).trans hv
    have hc2 := hv2.cell
    refine wpAnyIn_ready (rs := [0, 3]) (by kernel_rfl) (by simp) ?_
    refine AllReadyIn.cons (o := { dst := some 16, op := Op.load 66 (Operand.tmp 4), type := 66, pos := "board.go:87", after := #[], guard := none }) rfl (fun K hK => step_round rfl (by intro c h; cases h) ?_) (AllReadyIn.cons (o := { dst := some 19, op := Op.buildSlice 66 1 #[(0, Operand.tmp 18)], type := 66, pos := "board.go:87", after := #[{ on := 2, ground := Ground.data }], guard := none }) rfl (fun K hK => step_round rfl (by intro c h; cases h) ?_) AllReadyIn.nil)
    · go_simp
      exact hK _ _ (S012 w2 hb2)
    · go_simp
      exact hK _ _ (S123 w2 hb2)
  have hc0 : W.drew.cell? ⟨B, 0, none⟩ = some v := hv.cell
  have S01 : wpAnyIn (Fence.wide.inRound ll) n Tryd.prog .any ops87.toArray Q 4 #[true, true, false, false, false, false] { tmps := #[t0, t1, t2, t3, .pointer (some ⟨B, 0, none⟩), rv, t6, t7, t8, t9, t10, t11, t12, t13, t14, t15, v, rv, undef, undef, undef, undef, undef, undef, undef], defers := [] } W.drew := by
    refine wpAnyIn_ready (rs := [2]) (by kernel_rfl) (by simp) ?_
    refine AllReadyIn.cons (o := { dst := some 18, op := Op.call { callee := Callee.value (Operand.func 50), args := #[Operand.tmp 17], argTypes := #[24] }, type := 9, pos := "board.go:87", after := #[{ on := 1, ground := Ground.data }], guard := none }) rfl (fun K hK => step_round rfl (by intro c h; cases h) ?_) AllReadyIn.nil
    go_wp2_with fail
    refine hcall.mono ?_
    rintro e w2 ⟨rfl, hb2⟩
    have hb2 : Below W.heap.size W w2 := ⟨hb2.os, hb2.tape, hb2.output, hb2.size, hb2.block⟩
    go_simp
    exact hK _ _ (S012 w2 hb2)
  have S1 : wpAnyIn (Fence.wide.inRound ll) n Tryd.prog .any ops87.toArray Q 5 #[false, true, false, false, false, false] { tmps := #[t0, t1, t2, t3, .pointer (some ⟨B, 0, none⟩), rv, t6, t7, t8, t9, t10, t11, t12, t13, t14, t15, undef, rv, undef, undef, undef, undef, undef, undef, undef], defers := [] } W.drew := by
    refine wpAnyIn_ready (rs := [0, 2]) (by kernel_rfl) (by simp) ?_
    refine AllReadyIn.cons (o := { dst := some 16, op := Op.load 66 (Operand.tmp 4), type := 66, pos := "board.go:87", after := #[], guard := none }) rfl (fun K hK => step_round rfl (by intro c h; cases h) ?_) (AllReadyIn.cons (o := { dst := some 18, op := Op.call { callee := Callee.value (Operand.func 50), args := #[Operand.tmp 17], argTypes := #[24] }, type := 9, pos := "board.go:87", after := #[{ on := 1, ground := Ground.data }], guard := none }) rfl (fun K hK => step_round rfl (by intro c h; cases h) ?_) AllReadyIn.nil)
    · go_simp
      exact hK _ _ S01
    · go_wp2_with fail
      refine hcall.mono ?_
      rintro e w2 ⟨rfl, hb2⟩
      have hb2 : Below W.heap.size W w2 := ⟨hb2.os, hb2.tape, hb2.output, hb2.size, hb2.block⟩
      go_simp
      exact hK _ _ (S12 w2 hb2)
  have S0 : wpAnyIn (Fence.wide.inRound ll) n Tryd.prog .any ops87.toArray Q 5 #[true, false, false, false, false, false] { tmps := #[t0, t1, t2, t3, .pointer (some ⟨B, 0, none⟩), rv, t6, t7, t8, t9, t10, t11, t12, t13, t14, t15, v, undef, undef, undef, undef, undef, undef, undef, undef], defers := [] } W.drew := by
    refine wpAnyIn_ready (rs := [1]) (by kernel_rfl) (by simp) ?_
    refine AllReadyIn.cons (o := { dst := some 17, op := Op.move (Operand.tmp 5), type := 24, pos := "board.go:87", after := #[], guard := none }) rfl (fun K hK => step_round rfl (by intro c h; cases h) ?_) AllReadyIn.nil
    go_simp
    exact hK _ _ S01
  refine wpIn_region_any (by kernel_rfl) ?_
  show wpAnyIn (Fence.wide.inRound ll) n Tryd.prog .any ops87.toArray Q 6 #[false, false, false, false, false, false] { tmps := #[t0, t1, t2, t3, .pointer (some ⟨B, 0, none⟩), rv, t6, t7, t8, t9, t10, t11, t12, t13, t14, t15, undef, undef, undef, undef, undef, undef, undef, undef, undef], defers := [] } W.drew
  refine wpAnyIn_ready (rs := [0, 1]) (by kernel_rfl) (by simp) ?_
  refine AllReadyIn.cons (o := { dst := some 16, op := Op.load 66 (Operand.tmp 4), type := 66, pos := "board.go:87", after := #[], guard := none }) rfl (fun K hK => step_round rfl (by intro c h; cases h) ?_) (AllReadyIn.cons (o := { dst := some 17, op := Op.move (Operand.tmp 5), type := 24, pos := "board.go:87", after := #[], guard := none }) rfl (fun K hK => step_round rfl (by intro c h; cases h) ?_) AllReadyIn.nil)
  · go_simp
    exact hK _ _ S0
  · go_simp
    exact hK _ _ S1

end Go.Proofs.YtolohfkenglpcaaDoor
