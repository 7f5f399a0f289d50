/- A region that draws its order, inside a round of a range over a function: whatever the walk outside a round shows of all orders holds in it, where no operation is a defer statement. -/
import Derived.Sort.QuietTacIn
import Derived.Sort.BigQuietIn
import Derived.RangeFuncCalls
import Derived.Deep.RegionLaw
import Derived.Laws.OwnMore
import Derived.Test.YtelkmdklpcfobaaGreatDoorBpH
import Derived.Maps.AppendAt

namespace Go.Proofs.YtelkmdklpcfobaaGreatDoor
open Go

def noDefer (ops : Array Oper) : Prop := ∀ (i : Nat) (o : Oper), ops[i]? = some o → ∀ c, o.op ≠ .defer c

def plainB (ops : Array Oper) : Bool := ops.all fun o => match o.op with | .defer _ => false | _ => true
theorem noDefer_of (ops : Array Oper) (h : plainB ops = true) : noDefer ops := by
  intro i o ho c hc
  have := Array.all_eq_true.1 h i (Array.getElem?_eq_some_iff.1 ho).1
  rw [(Array.getElem?_eq_some_iff.1 ho).2] at this
  simp [hc] at this

theorem wpIn_round {l n : Nat} {P : Program} {o : Oper} {a : Act} {w : World} {K : Act → World → Prop} {Q : Exit → Act → World → Prop} (hd : ∀ c, o.op ≠ .defer c)
    (h : o.wpIn Fence.wide n P a w K Q) : o.wpIn (Fence.wide.inRound l) n P a w K Q := by
  unfold Oper.wpIn at *
  refine ⟨h.1, ?_⟩
  have h2 := h.2
  rw [Oper.semAt_eq _ _ _ hd] at h2 ⊢
  generalize (execOp a.eval o).run P w = r at *
  cases r with
  | ok x w' => cases x <;> exact h2
  | halt x w' => exact h2

theorem wpOpIn_round {l n : Nat} {P : Program} {ops : Array Oper} {i : Nat} {a : Act} {w : World} {K K' : Act → World → Prop} {Q : Exit → Act → World → Prop} (hd : noDefer ops) (hK : ∀ a w, K a w → K' a w)
    (h : wpOpIn Fence.wide n P ops Q i K a w) : wpOpIn (Fence.wide.inRound l) n P ops Q i K' a w := by
  unfold wpOpIn at *
  cases ho : ops[i]? with
  | none => simp only [ho] at h ⊢; exact hK _ _ h
  | some o =>
    simp only [ho] at h ⊢
    by_cases hw : Region.wanted o (yielded ops a.tmps) = true
    · simp only [hw, if_true] at h ⊢
      exact Oper.wpIn_mono hK (wpIn_round (hd i o ho) h)
    · simp only [hw] at h ⊢
      exact ⟨h.1, hK _ _ h.2⟩

theorem wpAnyIn_round {l n : Nat} {P : Program} {md : Region.Mode} {ops : Array Oper} {Q : Exit → Act → World → Prop} (hd : noDefer ops) :
    ∀ (fuel : Nat) (listed : Array Bool) (a : Act) (w : World), wpAnyIn Fence.wide n P md ops Q fuel listed a w → wpAnyIn (Fence.wide.inRound l) n P md ops Q fuel listed a w
  | 0, _, _, _, h => h
  | fuel + 1, _, _, _, h => ⟨h.1, fun i hi => wpOpIn_round hd (fun a w => wpAnyIn_round hd fuel _ a w) (h.2 i hi)⟩

theorem quiet_round {l n id : Nat} {P : Program} {Q : Exit → Act → World → Prop} {a : Act} {w : World} {L : List Oper} (hd : plainB L.toArray = true) (hm : P.follows .mixedOrders = true) (hB : Region.lexB .any L.toArray = true)
    (h : wpQuietIn Fence.wide n P L.toArray (fun w' => ∃ n, w' = w.drewN n) (fun a' => ∀ w', (∃ n, w' = w.drewN n) → Q .normal a' w') L a) : (Code.region id L.toArray true).wpIn (Fence.wide.inRound l) n P Q a w := by
  simp only [Region.lexB, Bool.and_eq_true] at hB
  refine wpIn_region_any hm (wpAnyIn_round (noDefer_of _ hd) _ _ _ _ (wpAnyIn_of_quiet (C := fun w' => ∃ n, w' = w.drewN n) (Q := fun a' => ∀ w', (∃ n, w' = w.drewN n) → Q .normal a' w') rfl (fun _ w' hw' h => h w' hw') _ _ _ _ ⟨1, rfl⟩ ?_))
  have := wpAnyQIn_lex (F := Fence.wide) (n := n) (P := P) (C := fun w' => ∃ n, w' = w.drewN n) (md := .any) hB.1 L 0 (Array.replicate L.toArray.size false) a (by simp) (by simpa using hB.2) h
  simpa using this

end Go.Proofs.YtelkmdklpcfobaaGreatDoor

/- A region that draws its order, inside a round of a range over a function: what the walk outside a fence shows of all orders holds in the round, where no operation is a defer statement. -/
namespace Go.Proofs.YtelkmdklpcfobaaGreatDoor
open Go

def onlyN (Q : Exit → Act → World → Prop) : Exit → Act → World → Prop := fun e a w => e = .normal ∧ Q .normal a w
theorem onlyN_out (Q : Exit → Act → World → Prop) : ¬ LetsOut (onlyN Q) := fun ⟨_, _, h, _⟩ => by cases h

theorem op_round {l n : Nat} {P : Program} {o : Oper} {a : Act} {w : World} {K K' : Act → World → Prop} {Q : Exit → Act → World → Prop} (hd : ∀ c, o.op ≠ .defer c) (hK : ∀ a w, K a w → K' a w)
    (h : Oper.wp P o a w K (onlyN Q)) : o.wpIn (Fence.wide.inRound l) n P a w K' Q := by
  refine ⟨fun _ _ => trivial, ?_⟩
  rw [Oper.semAt_eq _ _ _ hd]
  unfold Oper.wp at h
  generalize (execOp a.eval o).run P w = r at h
  cases r with
  | ok x w' =>
    cases x with
    | value v => exact hK _ _ h
    | skip => exact hK _ _ h
    | defer d => exact hK _ _ h
    | enter f args =>
      refine ⟨fun hh => by simp [Fence.inRound, Fence.wide] at hh, ?_⟩
      refine CallsIn.inRound l (callsIn_wide.2 (Calls.mono h ?_))
      intro e w'' he
      cases e with
      | returned v => exact hK _ _ he
      | panicked c => exact absurd he.1 (by simp)
      | outgrown => exact absurd he (onlyN_out Q)
    | row row args => exact ⟨fun hh => by simp [Fence.inRound, Fence.wide] at hh, fun c cs _ => let ⟨v, w3, r, st⟩ := h c cs; ⟨v, w3, hK _ _ r, stepsIn_wide.2 st⟩⟩
    | round l f tmps assign body => exact h.elim
    | _ => exact h.elim
  | halt x w' =>
    cases x with
    | panic v => exact absurd h.1 (by simp)
    | _ => exact h.elim

/-- an operation of such a region, walked as outside. -/
theorem step_round {l n : Nat} {P : Program} {ops : Array Oper} {o : Oper} {a : Act} {w : World} {K : Act → World → Prop} {Q : Exit → Act → World → Prop} {E : Prop} (hg : o.guard = none) (hd : ∀ c, o.op ≠ .defer c)
    (h : Oper.wp P o a w K (onlyN Q)) : if Region.wanted o (yielded ops a.tmps) = true then o.wpIn (Fence.wide.inRound l) n P a w K Q else E := by
  have hw : Region.wanted o (yielded ops a.tmps) = true := by simp [Region.wanted, hg]
  rw [if_pos hw]
  exact op_round hd (fun _ _ h => h) h

theorem step_value {P : Program} {o : Oper} {a : Act} {w w' : World} {K : Act → World → Prop} {Q : Exit → Act → World → Prop} {v : Value} (hr : (execOp a.eval o).run P w = .ok (.value v) w') (hK : K (a.put o.dst v) w') : Oper.wp P o a w K Q := by
  unfold Oper.wp
  rw [hr]
  exact hK

/-- 'append' to a row of one's own, as such an operation. -/
theorem step_append_own {P : Program} {o : Oper} {a : Act} {w : World} {K : Act → World → Prop} {Q : Exit → Act → World → Prop}
    (s x : Operand) (t : TypeId) (hop : o.op = Op.call { callee := Callee.builtin Builtin.append, args := #[s, x], argTypes := #[t, t] })
    (e : TypeId) (i : TypeInfo) (z : Value) (size bytes : Nat) (h1 : P.underlying t = some (.slice e)) (h2 : P.info? e = some i) (h3 : i.zero = some z) (h4 : i.size = size) (h5 : i.bytes = bytes) (h6 : z.cells.size = size) (h7 : 0 < size)
    (v : Value) (n : Nat) (xs : List Value) (base : Nat) (hs : a.eval s = v) (hown : w.ownsRow base e size v n xs) (hbase : base ≤ w.heap.size)
    (ad : Addr) (m c : Nat) (news : List Value) (hx : a.eval x = .slice (some ad) m c) (hn : news.length = m * size) (hc : ∀ j u, news[j]? = some u → w.cell? (ad.add j) = some u) (h1c : ∀ u ∈ news, u.oneCell' = true)
    (b1 : n + m ≤ maxLen) (b2 : (n + m) * bytes ≤ 140737488355328)
    (hK : ∀ v' w', w'.ownsRow base e size v' (n + m) (xs ++ news) → w.grownBy w' v.ownBlock → K (a.put o.dst v') w') : Oper.wp P o a w K Q := by
  obtain ⟨v', w', hrun, r1, r2, _⟩ := run_append_own (P := P) w base t o.type e i z size bytes h1 h2 h3 h4 h5 h6 h7 v n xs hown ad m c news hn hc h1c b1 b2 hbase
  have hv : ∃ A N C, v = .slice A N C := by
    obtain ⟨_, ⟨rfl, _⟩ | ⟨g, cap, cur, rfl, _⟩⟩ := hown
    · exact ⟨_, _, _, rfl⟩
    · exact ⟨_, _, _, rfl⟩
  obtain ⟨A, N, C, rfl⟩ := hv
  unfold Oper.wp
  simp [execOp, hop, resolve, invoke, builtin, hs, hx, hrun, Result.andThen]
  exact hK v' w' r1 r2

end Go.Proofs.YtelkmdklpcfobaaGreatDoor

/- Texts of boards: a round of the loop that collects the texts of the ranks: 'ranks = append(ranks, rankText(rank))' draws its order. -/
namespace Go.Proofs.YtelkmdklpcfobaaGreatDoor
open Go.RowKit Go.Shelf
attribute [local go_sem] Oper.semAt_some

theorem infoStr2 : (Tryz.prog.info? 9).map (fun i => (i.zero, i.size, i.bytes)) = some (some (.string ByteArray.empty), 1, 16) := by kernel_rfl
theorem keepsB {W W' : World} (h : Below W.heap.size W W') : KeepsOthers W W' := ⟨h.size, fun _ _ hk _ => (h.block _ (Array.getElem?_eq_some_iff.1 hk).1).trans hk⟩
def ops87 : List Oper :=
  [{ dst := some 16, op := Op.load 51 (Operand.tmp 4), type := 51, pos := "board.go:87", after := #[], guard := none },
    { dst := some 17, op := Op.move (Operand.tmp 5), type := 24, pos := "board.go:87", after := #[], guard := none },
    { dst := some 18, op := Op.call { callee := Callee.value (Operand.func 89), args := #[Operand.tmp 17], argTypes := #[24] }, type := 9, pos := "board.go:87", after := #[{ on := 1, ground := Ground.data }], guard := none },
    { dst := some 19, op := Op.buildSlice 51 1 #[(0, Operand.tmp 18)], type := 51, pos := "board.go:87", after := #[{ on := 2, ground := Ground.data }], guard := none },
    { dst := some 20, op := Op.call { callee := Callee.builtin Builtin.append, args := #[Operand.tmp 16, Operand.tmp 19], argTypes := #[51, 51] }, type := 51, pos := "board.go:87", after := #[{ on := 0, ground := Ground.data }, { on := 3, ground := Ground.data }, { on := 2, ground := Ground.chain }], guard := none },
    { dst := none, op := Op.store 51 (Operand.tmp 4) (Operand.tmp 20), type := 0, pos := "board.go:87", after := #[{ on := 4, ground := Ground.data }, { on := 4, ground := Ground.chain }, { on := 0, ground := Ground.phase }, { on := 1, ground := Ground.phase }, { on := 2, ground := Ground.phase }, { on := 3, ground := Ground.phase }, { on := 4, ground := Ground.phase }], guard := none }]

set_option maxRecDepth 100000 in
set_option maxHeartbeats 2000000 in
theorem collect_rank (ll n B n0 k : Nat) (t0 t1 t2 t3 t6 t7 t8 t9 t10 t11 t12 t13 t14 t15 rv v : Value) (T : ByteArray) (xs : List Value) (W : World) (Q : Exit → Act → World → Prop)
    (hv : Boxed W B 51 v) (hrow : W.ownsRow n0 9 1 v k xs) (hn0 : n0 ≤ W.heap.size) (hB : n0 ≤ B) (hk : k ≤ 1000)
    (hcall : Calls Tryz.prog 89 #[rv] W.drew fun e w' => e = .returned (.string T) ∧ Below W.drew.heap.size W.drew w')
    (hQ : ∀ a w', KeepsOthers W w' → Below n0 W w' → (∀ b, b < W.heap.size → b ≠ B → some b ≠ v.ownBlock → w'.heap[b]? = W.heap[b]?) → (∃ v', Boxed w' B 51 v' ∧ w'.ownsRow n0 9 1 v' (k + 1) (xs ++ [.string T])) → Q .normal a w') :
    (Code.region 6 ops87.toArray true).wpIn (Fence.wide.inRound ll) n Tryz.prog Q { tmps := #[t0, t1, t2, t3, .pointer (some ⟨B, 0, none⟩), rv, t6, t7, t8, t9, t10, t11, t12, t13, t14, t15, undef, undef, undef, undef, undef, undef, undef, undef, undef], defers := [] } W := by
  obtain ⟨i0, hi, hz0, hz1, hz2⟩ := info_parts infoStr2
  have TAIL : ∀ w2, Below W.heap.size W w2 → wpAnyIn (Fence.wide.inRound ll) n Tryz.prog .any ops87.toArray Q 2 #[true, true, true, true, false, false] { tmps := #[t0, t1, t2, t3, .pointer (some ⟨B, 0, none⟩), rv, t6, t7, t8, t9, t10, t11, t12, t13, t14, t15, v, rv, (.string T), (.slice (some ⟨w2.heap.size, 0, none⟩) 1 1), undef, undef, undef, undef, undef], defers := [] } (w2.alloc (.cells #[.string T] 9)) := by
    intro w2 hb2
    have hv2 : Boxed w2 B 51 v := (hb2.block B hv.lt).trans hv
    have hrow2 := own_below hrow hb2
    refine wpAnyIn_ready (rs := [4]) (by kernel_rfl) (by simp) ?_
    refine AllReadyIn.cons (o := { dst := some 20, op := Op.call { callee := Callee.builtin Builtin.append, args := #[Operand.tmp 16, Operand.tmp 19], argTypes := #[51, 51] }, type := 51, pos := "board.go:87", after := #[{ on := 0, ground := Ground.data }, { on := 3, ground := Ground.data }, { on := 2, ground := Ground.chain }], guard := none }) rfl (fun K hK => step_round rfl (by intro c h; cases h) (step_append_own (.tmp 16) (.tmp 19) 51 rfl 9 i0 (.string ByteArray.empty) 1 16 Tryz.underlying51 hi hz0 hz1 hz2 rfl (by decide) v k xs n0 rfl (hrow2.alloc _) (by have := hb2.size; simp; omega) ⟨w2.heap.size, 0, none⟩ 1 1 [.string T] rfl rfl (cell_one_new _ _ _) (by simp [Value.oneCell']) (by unfold maxLen; omega) (by omega) ?_)) AllReadyIn.nil
    intro v' w3 hown' hgrow
    obtain ⟨g', cap', rfl⟩ := ownsRow_succ hown'
    obtain ⟨hv3, hv4, hr4, hk4, hb4⟩ := hv2.appended (by decide) hrow2 (Nat.le_trans hn0 hb2.size) hB hown' hgrow
    have hc3 := hv3.cell
    have hf3 := hv3.frozen
    refine hK _ _ ?_
    refine wpAnyIn_ready (rs := [5]) (by kernel_rfl) (by simp) ?_
    refine AllReadyIn.cons (o := { dst := none, op := Op.store 51 (Operand.tmp 4) (Operand.tmp 20), type := 0, pos := "board.go:87", after := #[{ on := 4, ground := Ground.data }, { on := 4, ground := Ground.chain }, { on := 0, ground := Ground.phase }, { on := 1, ground := Ground.phase }, { on := 2, ground := Ground.phase }, { on := 3, ground := Ground.phase }, { on := 4, ground := Ground.phase }], guard := none }) rfl (fun K hK => step_round rfl (by intro c h; cases h) ?_) AllReadyIn.nil
    go_simp
    refine hK _ _ (wpAnyIn_done (by kernel_rfl) ?_ _)
    refine hQ _ _ ((keepsB hb2).trans hk4) ((hb2.mono hn0).trans hb4) (fun b hb hne hno => ?_) ⟨_, hv4, hr4⟩
    rw [(grownBy_setCell' w3 B (.slice (some ⟨g', 0, none⟩) (k + 1) cap')).block b (Nat.lt_of_lt_of_le hb (Nat.le_trans hb2.size (Nat.le_trans (by simp) hgrow.size))) (by simpa using hne), hgrow.block b (by have := hb2.size; simp; omega) hno, Below.heap_alloc _ _ _ (Nat.lt_of_lt_of_le hb hb2.size)]
    exact hb2.block b hb
  have S012 : ∀ w2, Below W.heap.size W w2 → wpAnyIn (Fence.wide.inRound ll) n Tryz.prog .any ops87.toArray Q 3 #[true, true, true, false, false, false] { tmps := #[t0, t1, t2, t3, .pointer (some ⟨B, 0, none⟩), rv, t6, t7, t8, t9, t10, t11, t12, t13, t14, t15, v, rv, (.string T), undef, undef, undef, undef, undef, undef], defers := [] } w2 := by
    intro w2 hb2
    refine wpAnyIn_ready (rs := [3]) (by kernel_rfl) (by simp) ?_
    refine AllReadyIn.cons (o := { dst := some 19, op := Op.buildSlice 51 1 #[(0, Operand.tmp 18)], type := 51, pos := "board.go:87", after := #[{ on := 2, ground := Ground.data }], guard := none }) rfl (fun K hK => step_round rfl (by intro c h; cases h) ?_) AllReadyIn.nil
    go_simp
    exact hK _ _ (TAIL w2 hb2)
  have S123 : ∀ w2, Below W.heap.size W w2 → wpAnyIn (Fence.wide.inRound ll) n Tryz.prog .any ops87.toArray Q 3 #[false, true, true, true, false, false] { tmps := #[t0, t1, t2, t3, .pointer (some ⟨B, 0, none⟩), rv, t6, t7, t8, t9, t10, t11, t12, t13, t14, t15, undef, rv, (.string T), (.slice (some ⟨w2.heap.size, 0, none⟩) 1 1), undef, undef, undef, undef, undef], defers := [] } (w2.alloc (.cells #[.string T] 9)) := by
    intro w2 hb2
    have hv2 : Boxed (w2.alloc (.cells #[.string T] 9)) B 51 v := Boxed.alloc (show Boxed w2 B 51 v from (hb2.block B hv.lt).trans hv) _
    have hc2 := hv2.cell
    refine wpAnyIn_ready (rs := [0]) (by kernel_rfl) (by simp) ?_
    refine AllReadyIn.cons (o := { dst := some 16, op := Op.load 51 (Operand.tmp 4), type := 51, pos := "board.go:87", after := #[], guard := none }) rfl (fun K hK => step_round rfl (by intro c h; cases h) ?_) AllReadyIn.nil
    go_simp
    exact hK _ _ (TAIL w2 hb2)
  have S12 : ∀ w2, Below W.heap.size W w2 → wpAnyIn (Fence.wide.inRound ll) n Tryz.prog .any ops87.toArray Q 4 #[false, true, true, false, false, false] { tmps := #[t0, t1, t2, t3, .pointer (some ⟨B, 0, none⟩), rv, t6, t7, t8, t9, t10, t11, t12, t13, t14, t15, undef, rv, (.string T), undef, undef, undef, undef, undef, undef], defers := [] } w2 := by
    intro w2 hb2
    have hv2 : Boxed w2 B 51 v := (hb2.block B hv.lt).trans hv
    have hc2 := hv2.cell
    refine wpAnyIn_ready (rs := [0, 3]) (by kernel_rfl) (by simp) ?_
    refine AllReadyIn.cons (o := { dst := some 16, op := Op.load 51 (Operand.tmp 4), type := 51, pos := "board.go:87", after := #[], guard := none }) rfl (fun K hK => step_round rfl (by intro c h; cases h) ?_) (AllReadyIn.cons (o := { dst := some 19, op := Op.buildSlice 51 1 #[(0, Operand.tmp 18)], type := 51, pos := "board.go:87", after := #[{ on := 2, ground := Ground.data }], guard := none }) rfl (fun K hK => step_round rfl (by intro c h; cases h) ?_) AllReadyIn.nil)
    · go_simp
      exact hK _ _ (S012 w2 hb2)
    · go_simp
      exact hK _ _ (S123 w2 hb2)
  have hc0 : W.drew.cell? ⟨B, 0, none⟩ = some v := hv.cell
  have S01 : wpAnyIn (Fence.wide.inRound ll) n Tryz.prog .any ops87.toArray Q 4 #[true, true, false, false, false, false] { tmps := #[t0, t1, t2, t3, .pointer (some ⟨B, 0, none⟩), rv, t6, t7, t8, t9, t10, t11, t12, t13, t14, t15, v, rv, undef, undef, undef, undef, undef, undef, undef], defers := [] } W.drew := by
    refine wpAnyIn_ready (rs := [2]) (by kernel_rfl) (by simp) ?_
    refine AllReadyIn.cons (o := { dst := some 18, op := Op.call { callee := Callee.value (Operand.func 89), args := #[Operand.tmp 17], argTypes := #[24] }, type := 9, pos := "board.go:87", after := #[{ on := 1, ground := Ground.data }], guard := none }) rfl (fun K hK => step_round rfl (by intro c h; cases h) ?_) AllReadyIn.nil
    go_wp2_with fail
    refine hcall.mono ?_
    rintro e w2 ⟨rfl, hb2⟩
    have hb2 : Below W.heap.size W w2 := ⟨hb2.os, hb2.tape, hb2.output, hb2.size, hb2.block⟩
    go_simp
    exact hK _ _ (S012 w2 hb2)
  have S1 : wpAnyIn (Fence.wide.inRound ll) n Tryz.prog .any ops87.toArray Q 5 #[false, true, false, false, false, false] { tmps := #[t0, t1, t2, t3, .pointer (some ⟨B, 0, none⟩), rv, t6, t7, t8, t9, t10, t11, t12, t13, t14, t15, undef, rv, undef, undef, undef, undef, undef, undef, undef], defers := [] } W.drew := by
    refine wpAnyIn_ready (rs := [0, 2]) (by kernel_rfl) (by simp) ?_
    refine AllReadyIn.cons (o := { dst := some 16, op := Op.load 51 (Operand.tmp 4), type := 51, pos := "board.go:87", after := #[], guard := none }) rfl (fun K hK => step_round rfl (by intro c h; cases h) ?_) (AllReadyIn.cons (o := { dst := some 18, op := Op.call { callee := Callee.value (Operand.func 89), args := #[Operand.tmp 17], argTypes := #[24] }, type := 9, pos := "board.go:87", after := #[{ on := 1, ground := Ground.data }], guard := none }) rfl (fun K hK => step_round rfl (by intro c h; cases h) ?_) AllReadyIn.nil)
    · go_simp
      exact hK _ _ S01
    · go_wp2_with fail
      refine hcall.mono ?_
      rintro e w2 ⟨rfl, hb2⟩
      have hb2 : Below W.heap.size W w2 := ⟨hb2.os, hb2.tape, hb2.output, hb2.size, hb2.block⟩
      go_simp
      exact hK _ _ (S12 w2 hb2)
  have S0 : wpAnyIn (Fence.wide.inRound ll) n Tryz.prog .any ops87.toArray Q 5 #[true, false, false, false, false, false] { tmps := #[t0, t1, t2, t3, .pointer (some ⟨B, 0, none⟩), rv, t6, t7, t8, t9, t10, t11, t12, t13, t14, t15, v, undef, undef, undef, undef, undef, undef, undef, undef], defers := [] } W.drew := by
    refine wpAnyIn_ready (rs := [1]) (by kernel_rfl) (by simp) ?_
    refine AllReadyIn.cons (o := { dst := some 17, op := Op.move (Operand.tmp 5), type := 24, pos := "board.go:87", after := #[], guard := none }) rfl (fun K hK => step_round rfl (by intro c h; cases h) ?_) AllReadyIn.nil
    go_simp
    exact hK _ _ S01
  refine wpIn_region_any (by kernel_rfl) ?_
  show wpAnyIn (Fence.wide.inRound ll) n Tryz.prog .any ops87.toArray Q 6 #[false, false, false, false, false, false] { tmps := #[t0, t1, t2, t3, .pointer (some ⟨B, 0, none⟩), rv, t6, t7, t8, t9, t10, t11, t12, t13, t14, t15, undef, undef, undef, undef, undef, undef, undef, undef, undef], defers := [] } W.drew
  refine wpAnyIn_ready (rs := [0, 1]) (by kernel_rfl) (by simp) ?_
  refine AllReadyIn.cons (o := { dst := some 16, op := Op.load 51 (Operand.tmp 4), type := 51, pos := "board.go:87", after := #[], guard := none }) rfl (fun K hK => step_round rfl (by intro c h; cases h) ?_) (AllReadyIn.cons (o := { dst := some 17, op := Op.move (Operand.tmp 5), type := 24, pos := "board.go:87", after := #[], guard := none }) rfl (fun K hK => step_round rfl (by intro c h; cases h) ?_) AllReadyIn.nil)
  · go_simp
    exact hK _ _ S0
  · go_simp
    exact hK _ _ S1

end Go.Proofs.YtelkmdklpcfobaaGreatDoor

/- Texts of boards: the program's text. -/
namespace Go.Proofs.YtelkmdklpcfobaaGreatDoor
open Go.RowKit Go.Shelf
attribute [local go_sem] Oper.semAt_some

/-- the ranks' texts, from the first on. -/
def upT (F : Nat) (l : List Int) {R : Nat} (pre : List (Fin R)) : List ByteArray := pre.map fun r => bsL (rowT (rk F l r.1))
def vsL (xs : List ByteArray) : List Value := xs.map Value.string
theorem upT_snoc (F : Nat) (l : List Int) {R : Nat} (pre : List (Fin R)) (x : Fin R) : upT F l (pre ++ [x]) = upT F l pre ++ [bsL (rowT (rk F l x.1))] := by simp [upT]

set_option maxRecDepth 100000 in
set_option maxHeartbeats 2000000 in
theorem text_in (F R : Nat) (l : List Int) (A : Option Addr) (c : Nat) (w : World) (hv : vbd F R l) (hcap : l.length ≤ c) (hA : RdP w w.heap.size A l c) (hK : Kinds w) :
    CallsIn Fence.wide 6 Tryz.prog 52 #[.agg #[.int .i64 F, .int .i64 R, .slice A l.length c]] w fun e w' => e = .returned (.tuple #[.string (textB F R l), .int .i64 0]) ∧ Below w.heap.size w w' := by
  obtain ⟨i0, hi, hz0, hz1, hz2⟩ := info_parts infoStr2
  obtain ⟨m0, m1⟩ := vsz_mul hv.1
  have W0 : Below w.heap.size w (w.alloc (.cells #[.int .i64 F, .int .i64 R, .slice A l.length c] 30)) := box1 _ _
  have A1 := (hA.below W0).grow W0.size
  refine callsIn_of_wp_marks Tryz.func52 rfl trivial ?_ rfl
  simp only [Tryz.ntmps52, List.size_toArray, List.length_cons, List.length_nil, Nat.reduceAdd, Nat.reduceSub, Array.replicate_succ, Array.replicate_zero, List.push_toArray, List.append_toArray, List.nil_append, List.cons_append]
  gi_wp2_with fail
  refine ⟨trivial, callsIn_wide.2 ((bValid_yes F R l A c hv _ A1).mono ?_)⟩
  rintro e w1 ⟨rfl, hb1⟩
  have s1 := hb1.size
  simp at s1
  have c0 := hb1.cell (p := ⟨w.heap.size, 0, none⟩) (by simp)
  have c1 := hb1.cell (p := ⟨w.heap.size, 1, none⟩) (by simp)
  have c2 := hb1.cell (p := ⟨w.heap.size, 2, none⟩) (by simp)
  simp [go_sem] at c0 c1 c2
  have d0 : ∀ o, (w1.alloc o).cell? ⟨w.heap.size, 0, none⟩ = some (.int .i64 F) := fun o => liv o c0
  have d2 : ∀ o, (w1.alloc o).cell? ⟨w.heap.size, 2, none⟩ = some (.slice A l.length c) := fun o => liv o c2
  gi_wp2_with fail
  refine ⟨trivial, callsIn_wide.2 ((chunk_any A l.length c F (by have := hv.1.1; omega) _).mono ?_)⟩
  rintro e w2 ⟨rfl, rfl⟩
  gi_wp2_with fail
  have hsz : l.length = R * F := by have := hv.2.1; rw [Int.mul_comm] at this; exact_mod_cast this
  have hl0 : 0 < l.length := by have := hv.2.1; omega
  have HS := Lib.hid hsz
  clear hsz
  obtain ⟨ad, rfl, hadB, hadC⟩ := hA.2 hl0
  obtain ⟨f3, f8, r3, r8⟩ : 3 ≤ F ∧ F ≤ 8 ∧ 3 ≤ R ∧ R ≤ 8 := by obtain ⟨a, b, c, d⟩ := hv.1; omega
  have bO := Boxed.new w1 51 (.slice none 0 0)
  have bS := Boxed.new (w1.alloc (.cells #[.slice none 0 0] 51)) 24 (.slice (some ad) l.length c)
  have bN := Boxed.new ((w1.alloc (.cells #[.slice none 0 0] 51)).alloc (.cells #[.slice (some ad) l.length c] 24)) 3 (.int .i64 F)
  simp only [World.size_alloc] at bS bN
  have hB1 : Below w.heap.size w w1 := chain W0 hb1
  have hB3 : Below w.heap.size w (((w1.alloc (.cells #[.slice none 0 0] 51)).alloc (.cells #[.slice (some ad) l.length c] 24)).alloc (.cells #[.int .i64 F] 3)) :=
    ((hB1.alloc hB1.size _).alloc (by have := hB1.size; simp; omega) _).alloc (by have := hB1.size; simp; omega) _
  refine wpIn_rangeFunc_ownF rfl (by omega) (gf := 117) (lb := #[.pointer (some ⟨w1.heap.size + 1, 0, none⟩), .pointer (some ⟨w1.heap.size + 1 + 1, 0, none⟩)]) rfl trivial (enters_of Tryz.func117 (by kernel_rfl) rfl)
    (chunk_stops (6 - 1) (w1.heap.size + 1) (w1.heap.size + 1 + 1) w.heap.size F R l.length c ad (by omega) (by omega) f8 r8 HS.out hcap (((w1.alloc (.cells #[.slice none 0 0] 51)).alloc (.cells #[.slice (some ad) l.length c] 24)).alloc (.cells #[.int .i64 F] 3)) (by simp) (by simp) (bS.alloc _).cell bN.cell)
    (fun h k => h.trans k)
    (fun W l' o o' hl ho hc hw => ⟨belowK_b (by simp; omega) W l' o o' hl ho hc hw, World.putObj_heap_other (by simp at hl; omega), World.putObj_heap_other (by simp at hl; omega)⟩)
    (Below.refl _ _) (fun _ => rfl)
    (fun pre W => (∃ v, Boxed W w1.heap.size 51 v ∧ W.ownsRow w.heap.size 9 1 v (upT F l pre).length (vsL (upT F l pre)) ∧ True) ∧ (Boxed W (w1.heap.size + 1) 24 (.slice (some ad) l.length c) ∧ Boxed W (w1.heap.size + 1 + 1) 3 (.int .i64 F)) ∧ (w1.heap.size + 2 < W.heap.size ∧ Below w.heap.size w W))
    (fun _ _ _ => False)
    (OwnFrom.and (Own.from (holdsRow_own w.heap.size w1.heap.size 51 9 1 (fun pre => (upT F l pre).length) (fun pre => vsL (upT F l pre)) (fun _ _ => True)) _) (OwnFrom.and (OwnFrom.and (Own.from (boxed_own _ _ _) _) (Own.from (boxed_own _ _ _) _)) (OwnFrom.and (Own.from (fun s A B row hs hg hr => Nat.lt_of_lt_of_le hs hg.size) _) (ownFrom_below (Nat.le_refl _) (by simp; omega)))))
    (fun _ _ _ _ _ hs _ _ => hs)
    ⟨⟨_, (bO.alloc _).alloc _, World.ownsRow_nil _ _ _ _, trivial⟩, ⟨bS.alloc _, bN⟩, by simp, hB3⟩
    (fun x => { tmps := #[.agg #[.int .i64 F, .int .i64 R, .slice (some ad) l.length c], .pointer (some ⟨w.heap.size, 0, none⟩), .string ⟨#[]⟩, .int .i64 0, .pointer (some ⟨w1.heap.size, 0, none⟩), .slice (some (ad.add (x.1 * F))) F F, .agg #[.int .i64 F, .int .i64 R, .slice (some ad) l.length c], .bool true, .bool false, .pointer (some ⟨w.heap.size, 2, none⟩), .slice (some ad) l.length c, .pointer (some ⟨w.heap.size, 0, none⟩), .pointer (some ⟨w.heap.size, 0, none⟩), .int .i64 F, .func (.func 117) #[] #[.pointer (some ⟨w1.heap.size + 1, 0, none⟩), .pointer (some ⟨w1.heap.size + 1 + 1, 0, none⟩)], .slice (some (ad.add (x.1 * F))) F F, undef, undef, undef, undef, undef, undef, undef, undef, undef], defers := [] }) ?assign ?body ?done ?stop
  case assign =>
    intro l x W K hK
    gi_wp2
    exact hK
  case body =>
    rintro ll pre x W ⟨⟨v, hv1, hrow, _⟩, ⟨hbs, hbn⟩, hgt, hB⟩ hlen
    have hrl : (rk F l x.1).length = F := rk_len HS.out x.2
    have hRd : RdP W W.heap.size (some (ad.add (x.1 * F))) (rk F l x.1) F := ⟨(fun h => by cases h), fun _ => ⟨_, rfl, by rw [blk_add]; exact Nat.lt_of_lt_of_le hadB hB.size, fun j u hu => by
      have hj : j < F := by have := (List.getElem?_eq_some_iff.1 hu).1; omega
      have e := rk_at HS.out x.2 hj
      rw [hu] at e
      have hin := rk_in HS.out x.2 hj
      rw [Addr.add_add, (hB.cell (by rw [blk_add]; exact hadB)).trans (hadC (x.1 * F + j) _ (by rw [List.getElem?_eq_getElem hin]))]
      rw [List.getElem?_eq_getElem hin] at e
      simp at e
      rw [e]⟩⟩
    have hok : ∀ j, j < (rk F l x.1).length → okP ((rk F l x.1)[j]?.getD 0) := fun j hj => by
      rw [rk_at HS.out x.2 (by omega)]
      exact hv.2.2 _ (rk_in HS.out x.2 (by omega))
    have hcall := rankText_any (rk F l x.1) (some (ad.add (x.1 * F))) F W.drew (by omega) (by omega) hok ((hRd.below ((Below.refl _ _).drew)).grow (Nat.le_refl _)) (hK.below hB.drew hK.1)
    rw [hrl] at hcall
    have hnr := hbs.not_row (by decide) hrow
    have hnr2 := hbn.not_row (by decide) hrow
    have hsl := hbs.lt
    have hnl := hbn.lt
    clear hRd hok
    gi_wp2_with fail
    refine collect_rank ll (6 - 1 - 1) w1.heap.size w.heap.size (upT F l pre).length _ _ _ _ _ _ _ _ _ _ _ _ _ _ _ v (bsL (rowT (rk F l x.1))) (vsL (upT F l pre)) W _ hv1 hrow hB.size (Nat.le_trans W0.size (Nat.le_trans (by simp; omega) (Nat.le_refl _))) (by simp [upT]; omega) hcall ?_
    intro a w' hko hbl hhp hex
    obtain ⟨v', hv', hr'⟩ := hex
    refine ⟨hko, ⟨hbl, hhp _ hsl (by omega) hnr, hhp _ hnl (by omega) hnr2⟩, ⟨v', hv', ?_, trivial⟩, ⟨(hhp _ hsl (by omega) hnr).trans hbs, (hhp _ hnl (by omega) hnr2).trans hbn⟩, Nat.lt_of_lt_of_le hgt hko.1, hB.trans hbl⟩
    rw [upT_snoc]
    simpa [vsL] using hr'
  case done =>
    rintro D ys W hD hys ⟨⟨v, hv1, hrow, _⟩, _, hgt, hB⟩ hKD
    have hyl : ys.length = R := by have := congrArg List.length hys; simpa [nums] using this
    obtain ⟨g, cap, rfl⟩ := Joins.ownsRow_form hrow (by simp [upT]; omega)
    obtain ⟨hg0, hg1⟩ := World.ownsRow.lt hrow g rfl
    have hne : w1.heap.size ≠ g := fun e => hv1.not_row (by decide) hrow (by simp [Value.ownBlock, e])
    have hrd : RdSt W g (upT F l ys) := fun j x hx => by
      have hj := (List.getElem?_eq_some_iff.1 hx).1
      rw [hrow.cellAt j (by omega)]
      simp [vsL, hx]
    have hup : (upT F l ys).map (·.data.toList) = (rks F R l).reverse := by
      apply List.ext_getElem
      · simp [upT, rks, hyl]
      · intro j h1 h2
        simp only [List.length_map, upT] at h1
        have hj : j < R := by omega
        have hyj : (ys[j]'(by omega)).1 = j := by
          have := congrArg (·[j]?) hys
          simp [nums, hj] at this
          rw [List.getElem?_eq_getElem (by omega)] at this
          simpa using this
        simp only [upT, List.getElem_map, List.getElem_reverse, rks, List.getElem_range, List.length_map, List.length_range, bsL_toList, hyj]
        congr 2
        omega
    have hrf := fun j => hrow.frozenAt j
    have hDg : D ≠ g := fun e => by
      subst e
      obtain ⟨_, ⟨h, _⟩ | ⟨g2, c2, cur, he, _, hcl, _⟩⟩ := hrow
      · cases h
      · cases he
        rw [hKD] at hcl
        cases hcl
    have hDl : D < W.heap.size := (Array.getElem?_eq_some_iff.1 hKD).1
    have HC : Hid ((upT F l ys).length ≤ cap) := Lib.hid (by
      obtain ⟨_, ⟨h, _⟩ | ⟨g2, c2, cur, he, _, _, hn, _⟩⟩ := hrow
      · cases h
      · cases he; exact hn)
    have hc1 := hv1.cell
    have hul : (upT F l ys).length = R := by simp [upT, hyl]
    have HB := Lib.hid hB
    have HU := Lib.hid hul
    have hwl := hv1.lt
    clear hrow hB hys hul
    gi_wp2_with fail
    refine ⟨trivial, callsIn_wide.2 ((reverse_any g cap w.heap.size (upT F l ys) W hg0 (by have := HU.out; omega) hrd hrf).mono ?_)⟩
    rintro e w4 ⟨rfl, hrd4, hbl4, hhp4⟩
    have hc4 : w4.cell? ⟨w1.heap.size, 0, none⟩ = some (.slice (some ⟨g, 0, none⟩) (upT F l ys).length cap) := (World.cell?_of_block (hhp4 _ hwl hne)).trans hc1
    have hK4 := (hhp4 D hDl hDg).trans hKD
    have hj := join_any g cap (upT F l ys).reverse w4 (Nat.lt_of_lt_of_le hg1 hbl4.size) (by rw [List.length_reverse]; have := HU.out; omega) (by rw [List.length_reverse]; exact HC.out) hrd4 (by rw [List.map_reverse, hup, List.reverse_reverse, ← text_jn]; have := accT_bd F R l R; have : R * (2 * F + 2) ≤ 8 * (2 * 8 + 2) := Nat.mul_le_mul r8 (by omega); omega)
    rw [List.length_reverse, List.map_reverse, hup, List.reverse_reverse, ← text_jn] at hj
    gi_wp2_with fail
    refine ⟨trivial, callsIn_wide.2 (hj.mono ?_)⟩
    rintro e w5 ⟨rfl, hb5⟩
    have hK5 := (hb5.block D (Nat.lt_of_lt_of_le hDl hbl4.size)).trans hK4
    gi_wp2
    refine ⟨by simp, .inl ⟨_, _, rfl, run_takeDeferred hK5, ?_⟩⟩
    exact ⟨_, results_tmp2 rfl _ _ _, rfl, (HB.out.trans (hbl4.trans (hb5.mono (Nat.le_trans HB.out.size hbl4.size)))).trans (belowK_b (w := w) (Nat.le_refl _) w5 D _ _ (by simp at hD; omega) hK5 rfl rfl)⟩
  case stop =>
    rintro D c pre W _ _ h _
    exact h.elim

/-- the program's text of a valid board. -/
theorem text_yes (F R : Nat) (l : List Int) (A : Option Addr) (c : Nat) (w : World) (hv : vbd F R l) (hcap : l.length ≤ c) (hA : RdP w w.heap.size A l c) (hK : Kinds w) :
    Calls Tryz.prog 52 #[.agg #[.int .i64 F, .int .i64 R, .slice A l.length c]] w fun e w' => e = .returned (.tuple #[.string (textB F R l), .int .i64 0]) ∧ Below w.heap.size w w' :=
  callsIn_wide.1 (text_in F R l A c w hv hcap hA hK)

set_option maxRecDepth 100000 in
set_option maxHeartbeats 1000000 in
theorem text_no (F R : Int) (l : List Int) (A : Option Addr) (c : Nat) (w : World) (hlen : l.length ≤ 100000) (hv : ¬ vbd F R l) (hA : RdP w w.heap.size A l c) :
    Calls Tryz.prog 52 #[.agg #[.int .i64 F, .int .i64 R, .slice A l.length c]] w fun e w' => e = .returned (.tuple #[.string ⟨#[]⟩, .int .i64 2]) ∧ Below w.heap.size w w' := by
  have W0 : Below w.heap.size w (w.alloc (.cells #[.int .i64 F, .int .i64 R, .slice A l.length c] 30)) := box1 _ _
  have A1 := (hA.below W0).grow W0.size
  clear hA
  go_enter Tryz.func52, Tryz.ntmps52
  go_wp2_with fail
  refine (bValid_no F R l A c hv _ hlen A1).mono ?_
  rintro e w1 ⟨rfl, hb1⟩
  have hB := Lib.hid (chain W0 hb1)
  clear hb1 W0 A1
  go_wp2
  go_ret2
  exact ⟨rfl, hB.out⟩

end Go.Proofs.YtelkmdklpcfobaaGreatDoor
