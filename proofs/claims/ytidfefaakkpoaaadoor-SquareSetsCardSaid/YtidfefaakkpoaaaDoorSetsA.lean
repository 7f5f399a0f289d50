/- The law of sets, where the size is valid and all of the list are squares of the board. -/
import Derived.Test.YtidfefaakkpoaaaDoorSqAA
import Derived.Test.YtidfefaakkpoaaaDoorLawL
import Derived.Lib.QuietBelowIn
import Derived.LoopNIn
import Derived.RangeFuncNested
namespace Go.Proofs.YtidfefaakkpoaaaDoor
open Go.RowKit Go.Shelf Go.Sort Go.BigFrame
attribute [local go_sem] Oper.semAt_some

theorem RdI.grow {w : World} {B B' : Nat} {A : Option Addr} {l : List Int} (h : RdI w B A l) (hB : B ≤ B') : RdI w B' A l := fun hl => by
  obtain ⟨ad, e, h1, hc⟩ := h hl
  exact ⟨ad, e, by omega, hc⟩

theorem next_of {X : Nat} {pre : List (Sq X)} {s : Sq X} (h : vals (pre ++ [s]) <+: listOf X) (hl : pre.length < (listOf X).length) : s.1 = (listOf X)[pre.length]'hl := by
  obtain ⟨t, ht⟩ := h
  rw [vals_snoc] at ht
  have hv : (vals pre).length = pre.length := vals_len pre
  have this := congrArg (fun q : List Nat => q[pre.length]?) ht
  simp only [List.append_assoc] at this
  rw [List.getElem?_append_right (by omega), List.getElem?_eq_getElem hl, hv, Nat.sub_self] at this
  simp at this
  have this := congrArg some this.symm
  exact (Option.some.inj this).symm
theorem has_b (X : Nat) (n : Int) (hX : X < 18446744073709551616) : ∃ b, (∀ w, Calls Tryd.prog 39 #[.int .u64 X, .int .i64 n] w fun e w' => e = .returned (.bool b) ∧ w = w') ∧ (∀ w, Calls Tryd.prog 40 #[.int .u64 X, .int .i64 n] w fun e w' => e = .returned (.bool b) ∧ w = w') := by
  by_cases h0 : 0 ≤ n
  · by_cases h1 : n < 64
    · exact ⟨_, fun w => has_in X n hX h0 h1 w, fun w => refHas_in X n hX h0 h1 w⟩
    · exact ⟨_, fun w => has_out X n (by omega) w, fun w => refHas_out X n (by omega) w⟩
  · exact ⟨_, fun w => has_out X n (by omega) w, fun w => refHas_out X n (by omega) w⟩
theorem refSize_ex (F R : Int) (h : vsz F R) (w : World) :
    Calls Tryd.prog 18 #[.agg #[.int .i64 F, .int .i64 R]] w fun e w' => e = .returned (.bool true) ∧ w.alloc (.cells #[.int .i64 F, .int .i64 R] 23) = w' := by
  obtain ⟨f1, f2, r1, r2⟩ := h
  go_enter Tryd.func18, Tryd.ntmps18
  go_wp2
  go_ret
  exact ⟨rfl, rfl⟩
theorem refValid_ex (F R a : Int) (h : vat F R a) (w : World) :
    Calls Tryd.prog 20 #[.agg #[.int .i64 F, .int .i64 R], .int .i64 a] w fun e w' => e = .returned (.bool true) ∧ (w.alloc (.cells #[.int .i64 F, .int .i64 R] 23)).alloc (.cells #[.int .i64 F, .int .i64 R] 23) = w' := by
  obtain ⟨hv, h0, h1⟩ := h
  obtain ⟨m0, m1⟩ := vsz_mul hv
  go_enter Tryd.func20, Tryd.ntmps20
  go_wp2_with fail
  refine (refSize_ex _ _ hv _).mono ?_
  rintro e w1 ⟨rfl, rfl⟩
  go_wp2
  go_ret
  exact ⟨rfl, rfl⟩

set_option maxRecDepth 100000 in
set_option maxHeartbeats 4000000 in
theorem sets_in (F R n many : Int) (l : List Int) (A : Option Addr) (c : Nat) (X : Nat) (hX64 : X < 18446744073709551616) (hlen : l.length ≤ 70) (hv : vsz F R) (H : Hid (∀ j, j < l.length → vat F R (l[j]?.getD 0))) (w : World) (hA : RdI w w.heap.size A l) (hT : Tab w) :
    CallsIn Fence.wide 6 Tryd.prog 7 #[.agg #[.int .i64 F, .int .i64 R], .slice A l.length c, .int .u64 X, .int .i64 n, .int .i64 many] w fun e w' => e = .returned (.bool true) ∧ Below w.heap.size w w' := by
  have H64 : Hid (∀ j, j < l.length → 0 ≤ l[j]?.getD 0 ∧ l[j]?.getD 0 < 64) := Lib.hid fun j hj => vat_64 (H.out j hj)
  obtain ⟨bb, hs1, hs2⟩ := has_b X n hX64
  have hbb : (bb != bb) = false := by simp
  have hnil : ∀ (p : Value) (W : World), (binOp BinOp.eql 59 (.func (.func 74) #[] #[p]) Value.nilFunc).run Tryd.prog W = .ok (.bool false) W := fun _ _ => by kernel_rfl
  have hl70 : ¬ (70 < (l.length : Int)) := by omega
  refine callsIn_of_wp_marks Tryd.func7 rfl trivial ?_ rfl
  simp only [Tryd.ntmps7, List.size_toArray, List.length_cons, List.length_nil, Nat.reduceAdd, Nat.reduceSub, Array.replicate_succ, Array.replicate_zero, List.push_toArray, List.append_toArray, List.nil_append, List.cons_append]
  have W0 : Below w.heap.size w (((w.alloc (.cells #[.int .i64 F, .int .i64 R] 23)).alloc (.cells #[.int .i64 many] 3)).alloc (.cells #[.bool false] 4)) := by
    go_grown
  have k0 : (((w.alloc (.cells #[.int .i64 F, .int .i64 R] 23)).alloc (.cells #[.int .i64 many] 3)).alloc (.cells #[.bool false] 4)).cell? ⟨w.heap.size, 0, none⟩ = some (.int .i64 F) := by simp [go_sem]
  have k1 : (((w.alloc (.cells #[.int .i64 F, .int .i64 R] 23)).alloc (.cells #[.int .i64 many] 3)).alloc (.cells #[.bool false] 4)).cell? ⟨w.heap.size, 1, none⟩ = some (.int .i64 R) := by simp [go_sem]
  have k2 : (((w.alloc (.cells #[.int .i64 F, .int .i64 R] 23)).alloc (.cells #[.int .i64 many] 3)).alloc (.cells #[.bool false] 4)).cell? ⟨w.heap.size + 1, 0, none⟩ = some (.int .i64 many) := by simp [go_sem]
  have k3 : (((w.alloc (.cells #[.int .i64 F, .int .i64 R] 23)).alloc (.cells #[.int .i64 many] 3)).alloc (.cells #[.bool false] 4)).cell? ⟨w.heap.size + 1 + 1, 0, none⟩ = some (.bool false) := by simp [go_sem]
  have f3 : (((w.alloc (.cells #[.int .i64 F, .int .i64 R] 23)).alloc (.cells #[.int .i64 many] 3)).alloc (.cells #[.bool false] 4)).frozen? ⟨w.heap.size + 1 + 1, 0, none⟩ = false := by simp [go_sem]
  gi_wp2_with fail
  refine ⟨trivial, callsIn_wide.2 ((of_yes F R l A c _ hv (by omega) ((hA.below W0).grow W0.size) H.out).mono ?_)⟩
  rintro e w0 ⟨rfl, hb⟩
  replace W0 := chain W0 hb
  replace f3 := (hb.frozen (p := ⟨w.heap.size + 1 + 1, 0, none⟩) (World.block_lt_of_cell? _ _ k3)).trans f3
  replace k0 := (hb.cell (World.block_lt_of_cell? _ _ k0)).trans k0
  replace k1 := (hb.cell (World.block_lt_of_cell? _ _ k1)).trans k1
  replace k2 := (hb.cell (World.block_lt_of_cell? _ _ k2)).trans k2
  replace k3 := (hb.cell (World.block_lt_of_cell? _ _ k3)).trans k3
  clear hb
  gi_wp2_with fail
  refine ⟨trivial, callsIn_wide.2 ((refSize_yes F R hv _).mono ?_)⟩
  rintro e w1 ⟨rfl, hb⟩
  replace W0 := chain W0 hb
  replace f3 := (hb.frozen (p := ⟨w.heap.size + 1 + 1, 0, none⟩) (World.block_lt_of_cell? _ _ k3)).trans f3
  replace k0 := (hb.cell (World.block_lt_of_cell? _ _ k0)).trans k0
  replace k1 := (hb.cell (World.block_lt_of_cell? _ _ k1)).trans k1
  replace k2 := (hb.cell (World.block_lt_of_cell? _ _ k2)).trans k2
  replace k3 := (hb.cell (World.block_lt_of_cell? _ _ k3)).trans k3
  clear hb
  gi_wp2_with fail
  have s1 := W0.size
  have A1 := (hA.below W0)
  have q0 := World.block_lt_of_cell? _ _ k0
  simp at q0
  gi_loopw [13, 14] (fun v i wr => ∃ k : Nat, k ≤ l.length ∧ i = .int .i64 k ∧ v = .bool true ∧ Below w1.heap.size w1 wr) (fun _ i _ => l.length - (intOf i).toNat)
  case atStart => exact ⟨0, by omega, rfl, rfl, Below.refl _ _⟩
  case round =>
    obtain ⟨k, hk, rfl, rfl, hB⟩ := hrel
    have s2 := hB.size
    by_cases hlt : k < l.length
    · obtain ⟨ad, rfl, hbl, hcl⟩ := (A1.below (hB.mono s1)).at_ hlt
      have d0 := (hB.cell (p := ⟨w.heap.size, 0, none⟩) (World.block_lt_of_cell? _ _ k0)).trans k0
      have d1 := (hB.cell (p := ⟨w.heap.size, 1, none⟩) (World.block_lt_of_cell? _ _ k1)).trans k1
      have hV := H.out k hlt
      clear A1 hA H
      generalize hn : l[k]?.getD 0 = m at *
      clear hn
      have e0 := cell_regrown d0
      have e1 := cell_regrown d1
      have em := cell_regrown hcl
      have cV : ∀ d os, CallsIn Fence.wide 5 Tryd.prog 20 #[.agg #[.int .i64 F, .int .i64 R], .int .i64 m] (grow (redrawn wr d) os) fun e w'' => e = .returned (.bool true) ∧ ∃ p : Regrown, w'' = grow (redrawn wr p.d) p.os := fun d os => CallsIn.regrown_of (callsIn_wide.2 (refValid_yes F R m hV _))
      clear hV d0 d1 hcl
      gi_wp2
      refine wpIn_region_quiet_below rfl (by kernel_rfl) (by kernel_rfl) ?_
      repeat (gi_big_quiet_step (exact cV _ _))
      refine wpQuietIn_want (fun _ _ _ _ => trivial) rfl (fun K hK => ?_)
      gi_big_quiet_op
      apply Exists.intro
      refine ⟨fun _ => cV _ _, ?_⟩
      refine hK _ ?_
      clear hK K
      repeat (gi_big_quiet_step (fail))

      refine wpQuietIn_nil ?_
      intro _ hw'
      obtain ⟨⟨dq, osq⟩, hw''⟩ := hw'
      subst hw''
      gi_wp2
      go_roundw
      case rel => exact ⟨k + 1, by omega, by go_num, rfl, chain hB (below_regrown wr dq osq)⟩
      case measure => simp [intOf]; omega
    · have hkl : k = l.length := by omega
      subst hkl
      clear H
      have W5 := chain W0 hB
      have K0 := (hB.cell (World.block_lt_of_cell? _ _ k0)).trans k0
      have K1 := (hB.cell (World.block_lt_of_cell? _ _ k1)).trans k1
      have K2 := (hB.cell (World.block_lt_of_cell? _ _ k2)).trans k2
      have K3 := (hB.cell (World.block_lt_of_cell? _ _ k3)).trans k3
      have F3 := (hB.frozen (p := ⟨w.heap.size + 1 + 1, 0, none⟩) (World.block_lt_of_cell? _ _ k3)).trans f3
      have A5 := (hA.below W5).grow W5.size
      clear W0 k0 k1 k2 k3 f3 hB A1 hA
      gi_wp2_with fail
      refine ⟨trivial, callsIn_wide.2 ((refOf_any l A c _ (by omega) A5 H64.out).mono ?_)⟩
      rintro e w2 ⟨rfl, rfl⟩
      clear A5 H64
      gi_wp2_with fail
      refine ⟨trivial, callsIn_wide.2 ((refList_any X hX64 _).mono ?_)⟩
      rintro e w3 ⟨v, rfl, hown, hb3⟩
      obtain ⟨A', c', rfl, hcap, hL⟩ := RdI.own' hown
      replace W5 := chain W5 hb3
      replace F3 := (hb3.frozen (p := ⟨w.heap.size + 1 + 1, 0, none⟩) (World.block_lt_of_cell? _ _ K3)).trans F3
      replace K0 := (hb3.cell (World.block_lt_of_cell? _ _ K0)).trans K0
      replace K1 := (hb3.cell (World.block_lt_of_cell? _ _ K1)).trans K1
      replace K2 := (hb3.cell (World.block_lt_of_cell? _ _ K2)).trans K2
      replace K3 := (hb3.cell (World.block_lt_of_cell? _ _ K3)).trans K3
      clear hown hb3
      gi_wp2_with fail
      refine ⟨trivial, callsIn_wide.2 ((each_any X _).mono ?_)⟩
      rintro e w4 ⟨rfl, rfl⟩
      gi_wp2_with fail
      refine ⟨trivial, callsIn_wide.2 ((hs1 _).mono ?_)⟩
      rintro e w4 ⟨rfl, rfl⟩
      gi_wp2_with fail
      refine ⟨trivial, callsIn_wide.2 ((hs2 _).mono ?_)⟩
      rintro e w4 ⟨rfl, rfl⟩
      clear hs1 hs2 hbb
      gi_wp2_with fail
      refine wpIn_loop_rounds 3 ?_
      rw [roundsIn_succ]
      gi_wp2_with fail
      have hn1 := Nat.le_trans hT.1 W5.size
      have q3 := World.block_lt_of_cell? _ _ K3
      simp at q3
      have hT3 := hT.below W5 hT.1
      have hZ0 : Below w3.heap.size w3 ((((w3.alloc (.cells #[.slice A' (listOf X).length c'] 54)).alloc (.cells #[.int .u64 X] 28)).alloc (.cells #[.int .i64 0] 3)).alloc (.cells #[.int .i64 0] 3)) := by
        go_grown
      have hJ : OwnFrom ((((w3.alloc (.cells #[.slice A' (listOf X).length c'] 54)).alloc (.cells #[.int .u64 X] 28)).alloc (.cells #[.int .i64 0] 3)).alloc (.cells #[.int .i64 0] 3)).heap.size (fun (pre : List (Sq X)) W => (W.cell? ⟨w3.heap.size + 1 + 1 + 1, 0, none⟩ = some (.int .i64 (pre.length : Int)) ∧ W.frozen? ⟨w3.heap.size + 1 + 1 + 1, 0, none⟩ = false ∧ W.cell? ⟨w3.heap.size, 0, none⟩ = some (.slice A' (listOf X).length c') ∧ W.cell? ⟨w3.heap.size + 1 + 1, 0, none⟩ = some (.int .i64 0) ∧ W.frozen? ⟨w3.heap.size + 1 + 1, 0, none⟩ = false ∧ W.cell? ⟨w3.heap.size + 1, 0, none⟩ = some (.int .u64 X)) ∧ (w3.heap.size + 1 + 1 + 1 < W.heap.size ∧ Below w3.heap.size w3 W)) :=
        OwnFrom.and (Own.from (fun s A B row hs hg hr => ⟨cell_kept hs.1 hg hr, (frozen_kept hs.1 hg hr).trans hs.2.1, cell_kept hs.2.2.1 hg hr, cell_kept hs.2.2.2.1 hg hr, (frozen_kept hs.2.2.2.1 hg hr).trans hs.2.2.2.2.1, cell_kept hs.2.2.2.2.2 hg hr⟩) _) (OwnFrom.and (Own.from (fun s A B row hs hg hr => Nat.lt_of_lt_of_le hs hg.size) _) (ownFrom_below (Nat.le_refl _) (by first | (simp; done) | (simp; omega))))
      refine wpIn_rangeFunc_ownF rfl (by omega) (gf := 74) (lb := #[.pointer (some ⟨w3.heap.size + 1, 0, none⟩)]) rfl trivial (enters_of Tryd.func74 (by kernel_rfl) rfl)
        (each_stops (6 - 1) (w3.heap.size + 1) w3.heap.size X (by omega) hX64 _ (by first | (simp; done) | (simp; omega)) hn1 (by simp [go_sem]) (hT3.below hZ0 hn1)) belowK_t (belowK_b (by first | (simp; done) | (simp; omega))) (Below.refl _ _) (fun _ => rfl)
        (fun pre W => ((W.cell? ⟨w3.heap.size + 1 + 1 + 1, 0, none⟩ = some (.int .i64 (pre.length : Int)) ∧ W.frozen? ⟨w3.heap.size + 1 + 1 + 1, 0, none⟩ = false ∧ W.cell? ⟨w3.heap.size, 0, none⟩ = some (.slice A' (listOf X).length c') ∧ W.cell? ⟨w3.heap.size + 1 + 1, 0, none⟩ = some (.int .i64 0) ∧ W.frozen? ⟨w3.heap.size + 1 + 1, 0, none⟩ = false ∧ W.cell? ⟨w3.heap.size + 1, 0, none⟩ = some (.int .u64 X)) ∧ (w3.heap.size + 1 + 1 + 1 < W.heap.size ∧ Below w3.heap.size w3 W)) ∧ (vals pre = (listOf X).take pre.length ∧ (pre = [] ∨ (pre.length : Int) < many)))
        (fun cc pre W => (cc = .ret ∧ ¬ vals pre <+: listOf X) ∨ ((cc = .exit 4 ∧ many ≤ (pre.length : Int) ∧ 1 ≤ pre.length ∧ pre.length ≤ (listOf X).length ∧ (pre.length = 1 ∨ (pre.length : Int) - 1 < many)) ∧ ((W.cell? ⟨w3.heap.size + 1 + 1 + 1, 0, none⟩ = some (.int .i64 (pre.length : Int)) ∧ W.frozen? ⟨w3.heap.size + 1 + 1 + 1, 0, none⟩ = false ∧ W.cell? ⟨w3.heap.size, 0, none⟩ = some (.slice A' (listOf X).length c') ∧ W.cell? ⟨w3.heap.size + 1 + 1, 0, none⟩ = some (.int .i64 0) ∧ W.frozen? ⟨w3.heap.size + 1 + 1, 0, none⟩ = false ∧ W.cell? ⟨w3.heap.size + 1, 0, none⟩ = some (.int .u64 X)) ∧ (w3.heap.size + 1 + 1 + 1 < W.heap.size ∧ Below w3.heap.size w3 W))))
        (OwnFrom.and hJ (ownFrom_pure _ _))
        (fun _ s A B row hs hg hr => hs.elim (fun h => .inl h) (fun h => .inr ⟨h.1, hJ s A B row h.2 hg hr⟩))
        ⟨⟨⟨by simp [go_sem], by simp [go_sem], alive _ (alive _ (alive _ (by simp [go_sem]))), alive _ (by simp [go_sem]), by simp [go_sem], alive _ (alive _ (by simp [go_sem]))⟩, by first | (simp; done) | (simp; omega), hZ0⟩, by simp [vals], .inl rfl⟩
        (fun s => { tmps := #[Value.agg #[Value.int .i64 F, Value.int .i64 R], Value.slice A l.length c, Value.int .u64 (X : Int), Value.int .i64 n, Value.int .i64 many, Value.pointer (some ⟨w.heap.size, 0, none⟩), undef, undef, undef, Value.pointer (some ⟨w.heap.size + 1, 0, none⟩), Value.pointer (some ⟨w.heap.size + 1 + 1, 0, none⟩), Value.int .u64 (ofL (sqs l) : Int), Value.int .i64 0, Value.bool true, Value.int .i64 (l.length : Int), Value.pointer (some ⟨w3.heap.size, 0, none⟩), Value.func (Fn.func 74) #[] #[Value.pointer (some ⟨w3.heap.size + 1, 0, none⟩)], Value.pointer (some ⟨w3.heap.size + 1 + 1, 0, none⟩), Value.pointer (some ⟨w3.heap.size + 1 + 1 + 1, 0, none⟩), Value.int .i64 (s.1 : Int), Value.slice A l.length c, Value.int .i64 (l.length : Int), Value.bool false, undef, Value.tuple #[Value.int .u64 (ofL (sqs l) : Int), Value.int .i64 0], Value.agg #[Value.int .i64 F, Value.int .i64 R], Value.slice A l.length c, Value.tuple #[Value.int .u64 (ofL (sqs l) : Int), Value.int .i64 0], Value.int .u64 (ofL (sqs l) : Int), Value.int .i64 0, Value.agg #[Value.int .i64 F, Value.int .i64 R], Value.bool true, Value.int .i64 (l.length : Int), Value.slice A l.length c, Value.int .i64 (l.length : Int), Value.bool false, u36, u37, u38, u39, u40, u41, u42, u43, u44, u45, u46, Value.bool true, Value.bool false, undef, undef, undef, undef, undef, undef, Value.int .u64 (ofL (sqs l) : Int), Value.slice A l.length c, Value.int .u64 (ofL (sqs l) : Int), Value.bool false, Value.bool false, Value.int .i64 0, Value.bool false, Value.bool false, Value.int .u64 (X : Int), Value.slice A' (listOf X).length c', Value.int .u64 (X : Int), Value.func (Fn.func 74) #[] #[Value.pointer (some ⟨w3.heap.size + 1, 0, none⟩)], Value.int .u64 (X : Int), Value.int .i64 n, Value.bool bb, Value.int .u64 (X : Int), Value.int .i64 n, Value.bool bb, Value.bool false, Value.bool false, Value.func (Fn.func 74) #[] #[Value.pointer (some ⟨w3.heap.size + 1, 0, none⟩)], Value.bool false, Value.bool false, Value.int .i64 0, Value.bool true, undef, undef, Value.func (Fn.func 74) #[] #[Value.pointer (some ⟨w3.heap.size + 1, 0, none⟩)], Value.int .i64 (s.1 : Int), undef, undef, undef, undef, undef, undef, undef, undef, undef, undef, undef, undef, undef, undef, undef, undef, undef, undef, undef, undef, undef, undef, undef, undef, undef, undef, undef, undef, undef, undef, undef, undef, undef, undef, undef, undef, undef, undef, undef, undef, undef, undef, undef, undef], defers := [] }) ?assign ?body ?done ?stop
      case assign =>
        intro l s W K hK
        gi_wp2
        exact hK
      case body =>
        rintro lp pre s W ⟨⟨⟨hk1, hk2, hk3, hk4, hk5, hk6⟩, hsz, hB⟩, hv1, hv2⟩ hlen1
        obtain ⟨ad, rfl, hbl, hcl⟩ := (hL.below hB).at_ (k := pre.length) (by simpa using hlen1)
        have hm2 := (hB.cell (World.block_lt_of_cell? _ _ K2)).trans K2
        have hr2 := (hB.cell (World.block_lt_of_cell? _ _ K3)).trans K3
        have fr2 := (hB.frozen (p := ⟨w.heap.size + 1 + 1, 0, none⟩) (World.block_lt_of_cell? _ _ K3)).trans F3
        have hge : ¬ (((listOf X).length : Int) ≤ (pre.length : Int)) := by omega
        have hg : ((listOf X).map fun i : Nat => (i : Int))[pre.length]?.getD 0 = (((listOf X)[pre.length]'hlen1 : Nat) : Int) := by
          rw [List.getElem?_map, List.getElem?_eq_getElem hlen1]
          rfl
        rw [hg] at hcl
        clear hg
        obtain ⟨y, hy⟩ : ∃ y, y = (listOf X)[pre.length]'hlen1 := ⟨_, rfl⟩
        rw [← hy] at hcl
        by_cases hm : s.1 = y
        · have hvs : vals (pre ++ [s]) = (listOf X).take (pre ++ [s]).length := by
            rw [vals_snoc, hv1, hm, hy, List.length_append, List.length_singleton, List.take_succ_eq_append_getElem hlen1]
          have hne : ((s.1 : Int) != (y : Int)) = false := by simp [hm]
          have hpl : (((pre ++ [s]).length : Nat) : Int) = (pre.length : Int) + 1 := by simp
          have J2 : ∀ v : Value, v = .int .i64 ((pre.length : Int) + 1) → (((W.setCell ⟨w3.heap.size + 1 + 1 + 1, 0, none⟩ v).cell? ⟨w3.heap.size + 1 + 1 + 1, 0, none⟩ = some (.int .i64 ((pre ++ [s]).length : Int)) ∧ (W.setCell ⟨w3.heap.size + 1 + 1 + 1, 0, none⟩ v).frozen? ⟨w3.heap.size + 1 + 1 + 1, 0, none⟩ = false ∧ (W.setCell ⟨w3.heap.size + 1 + 1 + 1, 0, none⟩ v).cell? ⟨w3.heap.size, 0, none⟩ = some (.slice (some ad) (listOf X).length c') ∧ (W.setCell ⟨w3.heap.size + 1 + 1 + 1, 0, none⟩ v).cell? ⟨w3.heap.size + 1 + 1, 0, none⟩ = some (.int .i64 0) ∧ (W.setCell ⟨w3.heap.size + 1 + 1 + 1, 0, none⟩ v).frozen? ⟨w3.heap.size + 1 + 1, 0, none⟩ = false ∧ (W.setCell ⟨w3.heap.size + 1 + 1 + 1, 0, none⟩ v).cell? ⟨w3.heap.size + 1, 0, none⟩ = some (.int .u64 X)) ∧ (w3.heap.size + 1 + 1 + 1 < (W.setCell ⟨w3.heap.size + 1 + 1 + 1, 0, none⟩ v).heap.size ∧ Below w3.heap.size w3 (W.setCell ⟨w3.heap.size + 1 + 1 + 1, 0, none⟩ v))) := by
            rintro v rfl
            refine ⟨⟨?_, (World.frozen?_setCell ..).trans hk2, (World.cell?_setCell_other W ⟨w3.heap.size + 1 + 1 + 1, 0, none⟩ ⟨w3.heap.size, 0, none⟩ _ (fun e => by injection e; omega)).trans hk3, (World.cell?_setCell_other W ⟨w3.heap.size + 1 + 1 + 1, 0, none⟩ ⟨w3.heap.size + 1 + 1, 0, none⟩ _ (fun e => by injection e; omega)).trans hk4, (World.frozen?_setCell ..).trans hk5, (World.cell?_setCell_other W ⟨w3.heap.size + 1 + 1 + 1, 0, none⟩ ⟨w3.heap.size + 1, 0, none⟩ _ (fun e => by injection e; omega)).trans hk6⟩, by simp; omega, hB.setCell (p := ⟨w3.heap.size + 1 + 1 + 1, 0, none⟩) (by simp; omega) _⟩
            rw [hpl]
            exact World.cell?_setCell_same W ⟨w3.heap.size + 1 + 1 + 1, 0, none⟩ _ hk1
          have hKp : ∀ v : Value, Below w3.heap.size W (W.setCell ⟨w3.heap.size + 1 + 1 + 1, 0, none⟩ v) := fun v => (Below.refl w3.heap.size W).setCell (p := ⟨w3.heap.size + 1 + 1 + 1, 0, none⟩) (by simp; omega) _
          have hp64 := listOf_len X
          have hps : (pre ++ [s]).length = pre.length + 1 := by simp
          by_cases hmany : many ≤ (pre.length : Int) + 1
          · gi_wp2
            refine ⟨KeepsOthers.setCell _ _ _, .inr ⟨⟨rfl, by rw [hpl]; exact hmany, by omega, by omega, ?_⟩, J2 _ rfl⟩⟩
            rcases hv2 with h | h
            · subst h; exact .inl rfl
            · right; rw [hpl]; omega
          · gi_wp2
            exact ⟨KeepsOthers.setCell _ _ _, hKp _, J2 _ rfl, hvs, .inr (by rw [hpl]; omega)⟩
        · have hne : ((s.1 : Int) != (y : Int)) = true := by simp; omega
          have hno : ¬ vals (pre ++ [s]) <+: listOf X := fun h => hm ((next_of h hlen1).trans hy.symm)
          gi_wp2
          exact ⟨KeepsOthers.setCell _ _ _, .inl ⟨rfl, hno⟩⟩
      case done =>
        rintro D ys W hD hys ⟨⟨⟨hk1, hk2, hk3, hk4, hk5, hk6⟩, hsz, hB⟩, hv1, hv2⟩ hK
        have hm2 := (hB.cell (World.block_lt_of_cell? _ _ K2)).trans K2
        have hyl : ys.length = (listOf X).length := by rw [← vals_len ys, hys]
        rw [hyl] at hk1 hv2
        have hlX := listOf_len X
        have hr2 := (hB.cell (World.block_lt_of_cell? _ _ K3)).trans K3
        have fr2 := (hB.frozen (p := ⟨w.heap.size + 1 + 1, 0, none⟩) (World.block_lt_of_cell? _ _ K3)).trans F3
        have hlm : ((listOf X).length : Int) = 0 ∨ ((listOf X).length : Int) < many := by
          rcases hv2 with h | h
          · subst h; left; simp at hyl; omega
          · exact .inr h
        have hll : (((listOf X).length : Int) != ((listOf X).length : Int)) = false := by simp
        clear hv1 hv2 hys hyl
        by_cases h1m : 1 < many
        · have hmn : ¬ (many < ((listOf X).length : Int)) := by omega
          gi_wp2_with fail
          have hlt0 : w3.heap.size + 1 + 1 + 1 < W.heap.size := hsz
          obtain ⟨V, hV⟩ : ∃ V, V = W.alloc (.cells #[.int .i64 1] 3) := ⟨_, rfl⟩
          have v1 : V.cell? ⟨W.heap.size, 0, none⟩ = some (.int .i64 1) := by rw [hV]; simp [go_sem]
          have v1f : V.frozen? ⟨W.heap.size, 0, none⟩ = false := by rw [hV]; simp [go_sem]
          have v2 : V.cell? ⟨w3.heap.size, 0, none⟩ = some (.slice A' (listOf X).length c') := by rw [hV]; exact alive _ hk3
          have v3 : Below w3.heap.size w3 V := by rw [hV]; exact hB.trans ((box1 _ _).mono (by omega))
          have v4 : V.heap[D]? = some (.deferred (some [])) := by rw [hV]; exact (((box1 W _).block _ (Array.getElem?_eq_some_iff.1 hK).1)).trans hK
          have v5 : V.heap.size = W.heap.size + 1 := by rw [hV]; simp
          have v6 := (v3.cell (World.block_lt_of_cell? _ _ K2)).trans K2
          have v7 := (v3.cell (World.block_lt_of_cell? _ _ K3)).trans K3
          have v8 := (v3.frozen (p := ⟨w.heap.size + 1 + 1, 0, none⟩) (World.block_lt_of_cell? _ _ K3)).trans F3
          have hTV := hT3.below v3 hn1
          have hLV := hL.below v3
          have hXV : V.cell? ⟨w3.heap.size + 1, 0, none⟩ = some (.int .u64 X) := by rw [hV]; exact alive _ hk6
          rw [← hV]
          have v9 : W.heap.size < V.heap.size := by omega
          clear hV v5 hk1 hk2 hk3 hk4 hk5 hk6 hB hK hsz hm2 hr2 fr2
          rw [roundsIn_succ]
          gi_wp2_with fail
          have hVa : Below V.heap.size V (V.alloc (.cells #[.int .i64 0] 3)) := box1 _ _
          apply wpIn_rangeFunc_ownF rfl (by omega) (gf := 74) (lb := #[.pointer (some ⟨w3.heap.size + 1, 0, none⟩)]) rfl trivial (enters_of Tryd.func74 (by kernel_rfl) rfl)
            (each_stops (6 - 1) (w3.heap.size + 1) V.heap.size X (by omega) hX64 (V.alloc (.cells #[.int .i64 0] 3)) (by simp; omega) (by omega) (alive _ hXV) (hTV.below hVa (by omega))) belowK_t (belowK_b (by simp)) (Below.refl _ _) (fun _ => rfl)
            (fun pre W => ((W.cell? ⟨V.heap.size, 0, none⟩ = some (.int .i64 (pre.length : Int)) ∧ W.frozen? ⟨V.heap.size, 0, none⟩ = false) ∧ (V.heap.size < W.heap.size ∧ Below V.heap.size V W)) ∧ (vals pre = (listOf X).take pre.length))
            (fun cc pre W => cc = .ret ∧ ¬ vals pre <+: listOf X)
            (OwnFrom.and (OwnFrom.and (Own.from (fun s A B row hs hg hr => ⟨cell_kept hs.1 hg hr, (frozen_kept hs.1 hg hr).trans hs.2⟩) _) (OwnFrom.and (Own.from (fun s A B row hs hg hr => Nat.lt_of_lt_of_le hs hg.size) _) (ownFrom_below (Nat.le_refl _) (by simp)))) (ownFrom_pure _ _))
            (fun _ _ _ _ _ hs _ _ => hs)
            ⟨⟨⟨by simp [go_sem], by simp [go_sem]⟩, by simp, hVa⟩, by simp [vals]⟩
          case hassign =>
            intro l s W K hK
            gi_wp2
            exact hK
          case hbody =>
            rintro lp pre s Y ⟨⟨⟨hk1, hk2⟩, hsz, hB⟩, hv1⟩ hlen1
            obtain ⟨ad, rfl, hbl, hcl⟩ := (hLV.below (hB.mono v3.size)).at_ (k := pre.length) (by simpa using hlen1)
            have t2 := (hB.cell (World.block_lt_of_cell? _ _ v2)).trans v2
            have t1 := (hB.cell (World.block_lt_of_cell? _ _ v1)).trans v1
            have t7 := (hB.cell (World.block_lt_of_cell? _ _ v7)).trans v7
            have t8 := (hB.frozen (p := ⟨w.heap.size + 1 + 1, 0, none⟩) (World.block_lt_of_cell? _ _ v7)).trans v8
            have hge : ¬ (((listOf X).length : Int) ≤ (pre.length : Int)) := by omega
            have hg : ((listOf X).map fun i : Nat => (i : Int))[pre.length]?.getD 0 = (((listOf X)[pre.length]'hlen1 : Nat) : Int) := by
              rw [List.getElem?_map, List.getElem?_eq_getElem hlen1]
              rfl
            rw [hg] at hcl
            clear hg
            obtain ⟨y, hy⟩ : ∃ y, y = (listOf X)[pre.length]'hlen1 := ⟨_, rfl⟩
            rw [← hy] at hcl
            have hp64 := listOf_len X
            by_cases hm : s.1 = y
            · have hvs : vals (pre ++ [s]) = (listOf X).take (pre ++ [s]).length := by
                rw [vals_snoc, hv1, hm, hy, List.length_append, List.length_singleton, List.take_succ_eq_append_getElem hlen1]
              have hne : ((s.1 : Int) != (y : Int)) = false := by simp [hm]
              have hpl : (((pre ++ [s]).length : Nat) : Int) = (pre.length : Int) + 1 := by simp
              have hps : (pre ++ [s]).length = pre.length + 1 := by simp
              have hKp : ∀ v : Value, Below V.heap.size Y (Y.setCell ⟨V.heap.size, 0, none⟩ v) := fun v => (Below.refl V.heap.size Y).setCell (p := ⟨V.heap.size, 0, none⟩) (by simp) _
              gi_wp2
              exact ⟨KeepsOthers.setCell _ _ _, hKp _, ⟨⟨by rw [hpl]; exact World.cell?_setCell_same Y ⟨V.heap.size, 0, none⟩ _ hk1, (World.frozen?_setCell ..).trans hk2⟩, by simp; omega, hB.trans (hKp _)⟩, hvs⟩
            · have hne : ((s.1 : Int) != (y : Int)) = true := by simp; omega
              have hno : ¬ vals (pre ++ [s]) <+: listOf X := fun h => hm ((next_of h hlen1).trans hy.symm)
              gi_wp2
              exact ⟨KeepsOthers.setCell _ _ _, ⟨rfl, hno⟩⟩
          case hstop =>
            rintro D2 cc pre Y hD2 hSp ⟨_, hno⟩ _
            exact absurd hSp hno
          case hdone =>
            rintro D2 ys Y hD2 hys ⟨⟨⟨hk1, hk2⟩, hsz, hB⟩, hv1⟩ hK2
            have hyl : ys.length = (listOf X).length := by rw [← vals_len ys, hys]
            rw [hyl] at hk1
            have t2 := (hB.cell (World.block_lt_of_cell? _ _ v2)).trans v2
            have t1 := (hB.cell (World.block_lt_of_cell? _ _ v1)).trans v1
            have t7 := (hB.cell (World.block_lt_of_cell? _ _ v7)).trans v7
            have t8 := (hB.frozen (p := ⟨w.heap.size + 1 + 1, 0, none⟩) (World.block_lt_of_cell? _ _ v7)).trans v8
            have hp64 := listOf_len X
            clear hv1 hys hyl
            gi_wp2_with fail
            obtain ⟨Z, hZ⟩ : ∃ Z, Z = Y.alloc (.cells #[.int .i64 2] 3) := ⟨_, rfl⟩
            have z5 : Z.cell? ⟨Y.heap.size, 0, none⟩ = some (.int .i64 2) := by rw [hZ]; simp [go_sem]
            have zb : Below V.heap.size V Z := by rw [hZ]; exact hB.trans ((box1 Y _).mono hB.size)
            have z1 := (zb.cell (World.block_lt_of_cell? _ _ v7)).trans v7
            have z8 := (zb.frozen (p := ⟨w.heap.size + 1 + 1, 0, none⟩) (World.block_lt_of_cell? _ _ v7)).trans v8
            have zD := (zb.block _ (Array.getElem?_eq_some_iff.1 v4).1).trans v4
            have zD2 : Z.heap[D2]? = some (.deferred (some [])) := by rw [hZ]; exact (((box1 Y _).block _ (Array.getElem?_eq_some_iff.1 hK2).1)).trans hK2
            have hTZ := hTV.below zb (by omega)
            have zw : Below w.heap.size w Z := (W5.trans (v3.mono W5.size)).trans (zb.mono (Nat.le_trans W5.size v3.size))
            rw [← hZ]
            clear hZ t1 t2 t7 t8 hk1 hk2 hB
            rw [roundsIn_succ]
            gi_wp2_with fail
            refine ⟨trivial, callsIn_wide.2 ((known_any _ hTZ).mono ?_)⟩
            rintro e w9 ⟨rfl, hb⟩
            have k6 := (hb.cell (World.block_lt_of_cell? _ _ z1)).trans z1
            have f6 := (hb.frozen (p := ⟨w.heap.size + 1 + 1, 0, none⟩) (World.block_lt_of_cell? _ _ z1)).trans z8
            have yD := (hb.block _ (Array.getElem?_eq_some_iff.1 zD).1).trans zD
            have yD2 := (hb.block _ (Array.getElem?_eq_some_iff.1 zD2).1).trans zD2
            have yw := chain zw hb
            clear z1 z8 zD zD2 z5
            gi_wp2
            have hD3 : V.heap.size + 1 ≤ D2 := by simpa using hD2
            have hDV : D < V.heap.size := (Array.getElem?_eq_some_iff.1 v4).1
            have hDw : w3.heap.size + 1 + 1 + 1 ≤ D := by simp at hD; omega
            have hs3 := v3.size
            have hS2 : (w9.setCell ⟨w.heap.size + 1 + 1, 0, none⟩ (.bool true)).heap[D2]? = some (.deferred (some [])) := (Below.heap_setCell w9 ⟨w.heap.size + 1 + 1, 0, none⟩ (.bool true) D2 (by simp; omega)).trans yD2
            have hb2 : Below V.heap.size (w9.setCell ⟨w.heap.size + 1 + 1, 0, none⟩ (.bool true)) ((w9.setCell ⟨w.heap.size + 1 + 1, 0, none⟩ (.bool true)).putObj D2 (.deferred none)) := belowK_b (n₀ := V.heap.size) (w := V) (Nat.le_refl _) _ D2 _ _ (by omega) hS2 rfl rfl
            have hSD : ((w9.setCell ⟨w.heap.size + 1 + 1, 0, none⟩ (.bool true)).putObj D2 (.deferred none)).heap[D]? = some (.deferred (some [])) := (hb2.block _ hDV).trans ((Below.heap_setCell w9 ⟨w.heap.size + 1 + 1, 0, none⟩ (.bool true) D (by simp; omega)).trans yD)
            have hb4 : Below w3.heap.size ((w9.setCell ⟨w.heap.size + 1 + 1, 0, none⟩ (.bool true)).putObj D2 (.deferred none)) (((w9.setCell ⟨w.heap.size + 1 + 1, 0, none⟩ (.bool true)).putObj D2 (.deferred none)).putObj D (.deferred none)) := belowK_b (n₀ := w3.heap.size) (w := w3) (Nat.le_refl _) _ D _ _ (by omega) hSD rfl rfl
            have hcv := (hb4.cell (p := ⟨w.heap.size + 1 + 1, 0, none⟩) q3).trans ((hb2.cell (p := ⟨w.heap.size + 1 + 1, 0, none⟩) (by simp; omega)).trans (World.cell?_setCell_same w9 ⟨w.heap.size + 1 + 1, 0, none⟩ (.bool true) k6))
            have hfin : Below w.heap.size w (((w9.setCell ⟨w.heap.size + 1 + 1, 0, none⟩ (.bool true)).putObj D2 (.deferred none)).putObj D (.deferred none)) := ((yw.setCell (p := ⟨w.heap.size + 1 + 1, 0, none⟩) (by simp; omega) (.bool true)).trans (hb2.mono (by omega))).trans (hb4.mono W5.size)
            clear k6 f6 yD yD2 yw
            refine ⟨by simp, .inl ⟨_, _, rfl, run_takeDeferred hS2, ?_⟩⟩
            refine ⟨by simp, .inl ⟨_, _, rfl, run_takeDeferred hSD, ?_⟩⟩
            refine ⟨.bool true, ?_, rfl, hfin⟩
            have hres : Tryd.f7.results = #[.cell 10 4] := by kernel_rfl
            simp only [results, hres]
            go_simp
        · have hmn : ¬ (1 < ((listOf X).length : Int)) := by omega
          gi_wp2_with fail
          have hlt0 : w3.heap.size + 1 + 1 + 1 < W.heap.size := hsz
          obtain ⟨V, hV⟩ : ∃ V, V = W.alloc (.cells #[.int .i64 1] 3) := ⟨_, rfl⟩
          have v1 : V.cell? ⟨W.heap.size, 0, none⟩ = some (.int .i64 1) := by rw [hV]; simp [go_sem]
          have v1f : V.frozen? ⟨W.heap.size, 0, none⟩ = false := by rw [hV]; simp [go_sem]
          have v2 : V.cell? ⟨w3.heap.size, 0, none⟩ = some (.slice A' (listOf X).length c') := by rw [hV]; exact alive _ hk3
          have v3 : Below w3.heap.size w3 V := by rw [hV]; exact hB.trans ((box1 _ _).mono (by omega))
          have v4 : V.heap[D]? = some (.deferred (some [])) := by rw [hV]; exact (((box1 W _).block _ (Array.getElem?_eq_some_iff.1 hK).1)).trans hK
          have v5 : V.heap.size = W.heap.size + 1 := by rw [hV]; simp
          have v6 := (v3.cell (World.block_lt_of_cell? _ _ K2)).trans K2
          have v7 := (v3.cell (World.block_lt_of_cell? _ _ K3)).trans K3
          have v8 := (v3.frozen (p := ⟨w.heap.size + 1 + 1, 0, none⟩) (World.block_lt_of_cell? _ _ K3)).trans F3
          have hTV := hT3.below v3 hn1
          have hLV := hL.below v3
          have hXV : V.cell? ⟨w3.heap.size + 1, 0, none⟩ = some (.int .u64 X) := by rw [hV]; exact alive _ hk6
          rw [← hV]
          have v9 : W.heap.size < V.heap.size := by omega
          clear hV v5 hk1 hk2 hk3 hk4 hk5 hk6 hB hK hsz hm2 hr2 fr2
          rw [roundsIn_succ]
          gi_wp2_with fail
          have hVa : Below V.heap.size V (V.alloc (.cells #[.int .i64 0] 3)) := box1 _ _
          apply wpIn_rangeFunc_ownF rfl (by omega) (gf := 74) (lb := #[.pointer (some ⟨w3.heap.size + 1, 0, none⟩)]) rfl trivial (enters_of Tryd.func74 (by kernel_rfl) rfl)
            (each_stops (6 - 1) (w3.heap.size + 1) V.heap.size X (by omega) hX64 (V.alloc (.cells #[.int .i64 0] 3)) (by simp; omega) (by omega) (alive _ hXV) (hTV.below hVa (by omega))) belowK_t (belowK_b (by simp)) (Below.refl _ _) (fun _ => rfl)
            (fun pre W => ((W.cell? ⟨V.heap.size, 0, none⟩ = some (.int .i64 (pre.length : Int)) ∧ W.frozen? ⟨V.heap.size, 0, none⟩ = false) ∧ (V.heap.size < W.heap.size ∧ Below V.heap.size V W)) ∧ (vals pre = (listOf X).take pre.length))
            (fun cc pre W => cc = .ret ∧ ¬ vals pre <+: listOf X)
            (OwnFrom.and (OwnFrom.and (Own.from (fun s A B row hs hg hr => ⟨cell_kept hs.1 hg hr, (frozen_kept hs.1 hg hr).trans hs.2⟩) _) (OwnFrom.and (Own.from (fun s A B row hs hg hr => Nat.lt_of_lt_of_le hs hg.size) _) (ownFrom_below (Nat.le_refl _) (by simp)))) (ownFrom_pure _ _))
            (fun _ _ _ _ _ hs _ _ => hs)
            ⟨⟨⟨by simp [go_sem], by simp [go_sem]⟩, by simp, hVa⟩, by simp [vals]⟩
          case hassign =>
            intro l s W K hK
            gi_wp2
            exact hK
          case hbody =>
            rintro lp pre s Y _ hlen1
            exfalso
            omega
          case hstop =>
            rintro D2 cc pre Y hD2 hSp ⟨_, hno⟩ _
            exact absurd hSp hno
          case hdone =>
            rintro D2 ys Y hD2 hys ⟨⟨⟨hk1, hk2⟩, hsz, hB⟩, hv1⟩ hK2
            have hyl : ys.length = (listOf X).length := by rw [← vals_len ys, hys]
            rw [hyl] at hk1
            have t2 := (hB.cell (World.block_lt_of_cell? _ _ v2)).trans v2
            have t1 := (hB.cell (World.block_lt_of_cell? _ _ v1)).trans v1
            have t7 := (hB.cell (World.block_lt_of_cell? _ _ v7)).trans v7
            have t8 := (hB.frozen (p := ⟨w.heap.size + 1 + 1, 0, none⟩) (World.block_lt_of_cell? _ _ v7)).trans v8
            have hp64 := listOf_len X
            clear hv1 hys hyl
            gi_wp2_with fail
            obtain ⟨Z, hZ⟩ : ∃ Z, Z = Y.alloc (.cells #[.int .i64 2] 3) := ⟨_, rfl⟩
            have z5 : Z.cell? ⟨Y.heap.size, 0, none⟩ = some (.int .i64 2) := by rw [hZ]; simp [go_sem]
            have zb : Below V.heap.size V Z := by rw [hZ]; exact hB.trans ((box1 Y _).mono hB.size)
            have z1 := (zb.cell (World.block_lt_of_cell? _ _ v7)).trans v7
            have z8 := (zb.frozen (p := ⟨w.heap.size + 1 + 1, 0, none⟩) (World.block_lt_of_cell? _ _ v7)).trans v8
            have zD := (zb.block _ (Array.getElem?_eq_some_iff.1 v4).1).trans v4
            have zD2 : Z.heap[D2]? = some (.deferred (some [])) := by rw [hZ]; exact (((box1 Y _).block _ (Array.getElem?_eq_some_iff.1 hK2).1)).trans hK2
            have hTZ := hTV.below zb (by omega)
            have zw : Below w.heap.size w Z := (W5.trans (v3.mono W5.size)).trans (zb.mono (Nat.le_trans W5.size v3.size))
            rw [← hZ]
            clear hZ t1 t2 t7 t8 hk1 hk2 hB
            rw [roundsIn_succ]
            gi_wp2_with fail
            refine ⟨trivial, callsIn_wide.2 ((known_any _ hTZ).mono ?_)⟩
            rintro e w9 ⟨rfl, hb⟩
            have k6 := (hb.cell (World.block_lt_of_cell? _ _ z1)).trans z1
            have f6 := (hb.frozen (p := ⟨w.heap.size + 1 + 1, 0, none⟩) (World.block_lt_of_cell? _ _ z1)).trans z8
            have yD := (hb.block _ (Array.getElem?_eq_some_iff.1 zD).1).trans zD
            have yD2 := (hb.block _ (Array.getElem?_eq_some_iff.1 zD2).1).trans zD2
            have yw := chain zw hb
            clear z1 z8 zD zD2 z5
            gi_wp2
            have hD3 : V.heap.size + 1 ≤ D2 := by simpa using hD2
            have hDV : D < V.heap.size := (Array.getElem?_eq_some_iff.1 v4).1
            have hDw : w3.heap.size + 1 + 1 + 1 ≤ D := by simp at hD; omega
            have hs3 := v3.size
            have hS2 : (w9.setCell ⟨w.heap.size + 1 + 1, 0, none⟩ (.bool true)).heap[D2]? = some (.deferred (some [])) := (Below.heap_setCell w9 ⟨w.heap.size + 1 + 1, 0, none⟩ (.bool true) D2 (by simp; omega)).trans yD2
            have hb2 : Below V.heap.size (w9.setCell ⟨w.heap.size + 1 + 1, 0, none⟩ (.bool true)) ((w9.setCell ⟨w.heap.size + 1 + 1, 0, none⟩ (.bool true)).putObj D2 (.deferred none)) := belowK_b (n₀ := V.heap.size) (w := V) (Nat.le_refl _) _ D2 _ _ (by omega) hS2 rfl rfl
            have hSD : ((w9.setCell ⟨w.heap.size + 1 + 1, 0, none⟩ (.bool true)).putObj D2 (.deferred none)).heap[D]? = some (.deferred (some [])) := (hb2.block _ hDV).trans ((Below.heap_setCell w9 ⟨w.heap.size + 1 + 1, 0, none⟩ (.bool true) D (by simp; omega)).trans yD)
            have hb4 : Below w3.heap.size ((w9.setCell ⟨w.heap.size + 1 + 1, 0, none⟩ (.bool true)).putObj D2 (.deferred none)) (((w9.setCell ⟨w.heap.size + 1 + 1, 0, none⟩ (.bool true)).putObj D2 (.deferred none)).putObj D (.deferred none)) := belowK_b (n₀ := w3.heap.size) (w := w3) (Nat.le_refl _) _ D _ _ (by omega) hSD rfl rfl
            have hcv := (hb4.cell (p := ⟨w.heap.size + 1 + 1, 0, none⟩) q3).trans ((hb2.cell (p := ⟨w.heap.size + 1 + 1, 0, none⟩) (by simp; omega)).trans (World.cell?_setCell_same w9 ⟨w.heap.size + 1 + 1, 0, none⟩ (.bool true) k6))
            have hfin : Below w.heap.size w (((w9.setCell ⟨w.heap.size + 1 + 1, 0, none⟩ (.bool true)).putObj D2 (.deferred none)).putObj D (.deferred none)) := ((yw.setCell (p := ⟨w.heap.size + 1 + 1, 0, none⟩) (by simp; omega) (.bool true)).trans (hb2.mono (by omega))).trans (hb4.mono W5.size)
            clear k6 f6 yD yD2 yw
            refine ⟨by simp, .inl ⟨_, _, rfl, run_takeDeferred hS2, ?_⟩⟩
            refine ⟨by simp, .inl ⟨_, _, rfl, run_takeDeferred hSD, ?_⟩⟩
            refine ⟨.bool true, ?_, rfl, hfin⟩
            have hres : Tryd.f7.results = #[.cell 10 4] := by kernel_rfl
            simp only [results, hres]
            go_simp
      case stop =>
        rintro D cc pre W hD hSp hIx hK
        rcases hIx with ⟨_, hno⟩ | ⟨⟨rfl, x1, x2, x3, x4⟩, ⟨hk1, hk2, hk3, hk4, hk5, hk6⟩, hsz, hB⟩
        · exact absurd hSp hno
        have hm2 := (hB.cell (World.block_lt_of_cell? _ _ K2)).trans K2
        have hr2 := (hB.cell (World.block_lt_of_cell? _ _ K3)).trans K3
        have fr2 := (hB.frozen (p := ⟨w.heap.size + 1 + 1, 0, none⟩) (World.block_lt_of_cell? _ _ K3)).trans F3
        have hlX := listOf_len X
        have hll : (((listOf X).length : Int) != ((listOf X).length : Int)) = false := by simp
        clear hSp
        by_cases h1m : 1 < many
        · have hpm : (pre.length : Int) = many := by omega
          rw [hpm] at hk1
          have hmm : (many != many) = false := by simp
          by_cases hq : many < ((listOf X).length : Int)
          · clear x4 hpm
            gi_wp2_with fail
            have hlt0 : w3.heap.size + 1 + 1 + 1 < W.heap.size := hsz
            obtain ⟨V, hV⟩ : ∃ V, V = W.alloc (.cells #[.int .i64 1] 3) := ⟨_, rfl⟩
            have v1 : V.cell? ⟨W.heap.size, 0, none⟩ = some (.int .i64 1) := by rw [hV]; simp [go_sem]
            have v1f : V.frozen? ⟨W.heap.size, 0, none⟩ = false := by rw [hV]; simp [go_sem]
            have v2 : V.cell? ⟨w3.heap.size, 0, none⟩ = some (.slice A' (listOf X).length c') := by rw [hV]; exact alive _ hk3
            have v3 : Below w3.heap.size w3 V := by rw [hV]; exact hB.trans ((box1 _ _).mono (by omega))
            have v4 : V.heap[D]? = some (.deferred (some [])) := by rw [hV]; exact (((box1 W _).block _ (Array.getElem?_eq_some_iff.1 hK).1)).trans hK
            have v5 : V.heap.size = W.heap.size + 1 := by rw [hV]; simp
            have v6 := (v3.cell (World.block_lt_of_cell? _ _ K2)).trans K2
            have v7 := (v3.cell (World.block_lt_of_cell? _ _ K3)).trans K3
            have v8 := (v3.frozen (p := ⟨w.heap.size + 1 + 1, 0, none⟩) (World.block_lt_of_cell? _ _ K3)).trans F3
            have hTV := hT3.below v3 hn1
            have hLV := hL.below v3
            have hXV : V.cell? ⟨w3.heap.size + 1, 0, none⟩ = some (.int .u64 X) := by rw [hV]; exact alive _ hk6
            rw [← hV]
            have v9 : W.heap.size < V.heap.size := by omega
            clear hV v5 hk1 hk2 hk3 hk4 hk5 hk6 hB hK hsz hm2 hr2 fr2
            rw [roundsIn_succ]
            gi_wp2_with fail
            have hVa : Below V.heap.size V (V.alloc (.cells #[.int .i64 0] 3)) := box1 _ _
            apply wpIn_rangeFunc_ownF rfl (by omega) (gf := 74) (lb := #[.pointer (some ⟨w3.heap.size + 1, 0, none⟩)]) rfl trivial (enters_of Tryd.func74 (by kernel_rfl) rfl)
              (each_stops (6 - 1) (w3.heap.size + 1) V.heap.size X (by omega) hX64 (V.alloc (.cells #[.int .i64 0] 3)) (by simp; omega) (by omega) (alive _ hXV) (hTV.below hVa (by omega))) belowK_t (belowK_b (by simp)) (Below.refl _ _) (fun _ => rfl)
              (fun pre W => ((W.cell? ⟨V.heap.size, 0, none⟩ = some (.int .i64 (pre.length : Int)) ∧ W.frozen? ⟨V.heap.size, 0, none⟩ = false) ∧ (V.heap.size < W.heap.size ∧ Below V.heap.size V W)) ∧ (vals pre = (listOf X).take pre.length))
              (fun cc pre W => cc = .ret ∧ ¬ vals pre <+: listOf X)
              (OwnFrom.and (OwnFrom.and (Own.from (fun s A B row hs hg hr => ⟨cell_kept hs.1 hg hr, (frozen_kept hs.1 hg hr).trans hs.2⟩) _) (OwnFrom.and (Own.from (fun s A B row hs hg hr => Nat.lt_of_lt_of_le hs hg.size) _) (ownFrom_below (Nat.le_refl _) (by simp)))) (ownFrom_pure _ _))
              (fun _ _ _ _ _ hs _ _ => hs)
              ⟨⟨⟨by simp [go_sem], by simp [go_sem]⟩, by simp, hVa⟩, by simp [vals]⟩
            case hassign =>
              intro l s W K hK
              gi_wp2
              exact hK
            case hbody =>
              rintro lp pre s Y ⟨⟨⟨hk1, hk2⟩, hsz, hB⟩, hv1⟩ hlen1
              obtain ⟨ad, rfl, hbl, hcl⟩ := (hLV.below (hB.mono v3.size)).at_ (k := pre.length) (by simpa using hlen1)
              have t2 := (hB.cell (World.block_lt_of_cell? _ _ v2)).trans v2
              have t1 := (hB.cell (World.block_lt_of_cell? _ _ v1)).trans v1
              have t7 := (hB.cell (World.block_lt_of_cell? _ _ v7)).trans v7
              have t8 := (hB.frozen (p := ⟨w.heap.size + 1 + 1, 0, none⟩) (World.block_lt_of_cell? _ _ v7)).trans v8
              have hge : ¬ (((listOf X).length : Int) ≤ (pre.length : Int)) := by omega
              have hg : ((listOf X).map fun i : Nat => (i : Int))[pre.length]?.getD 0 = (((listOf X)[pre.length]'hlen1 : Nat) : Int) := by
                rw [List.getElem?_map, List.getElem?_eq_getElem hlen1]
                rfl
              rw [hg] at hcl
              clear hg
              obtain ⟨y, hy⟩ : ∃ y, y = (listOf X)[pre.length]'hlen1 := ⟨_, rfl⟩
              rw [← hy] at hcl
              have hp64 := listOf_len X
              by_cases hm : s.1 = y
              · have hvs : vals (pre ++ [s]) = (listOf X).take (pre ++ [s]).length := by
                  rw [vals_snoc, hv1, hm, hy, List.length_append, List.length_singleton, List.take_succ_eq_append_getElem hlen1]
                have hne : ((s.1 : Int) != (y : Int)) = false := by simp [hm]
                have hpl : (((pre ++ [s]).length : Nat) : Int) = (pre.length : Int) + 1 := by simp
                have hps : (pre ++ [s]).length = pre.length + 1 := by simp
                have hKp : ∀ v : Value, Below V.heap.size Y (Y.setCell ⟨V.heap.size, 0, none⟩ v) := fun v => (Below.refl V.heap.size Y).setCell (p := ⟨V.heap.size, 0, none⟩) (by simp) _
                gi_wp2
                exact ⟨KeepsOthers.setCell _ _ _, hKp _, ⟨⟨by rw [hpl]; exact World.cell?_setCell_same Y ⟨V.heap.size, 0, none⟩ _ hk1, (World.frozen?_setCell ..).trans hk2⟩, by simp; omega, hB.trans (hKp _)⟩, hvs⟩
              · have hne : ((s.1 : Int) != (y : Int)) = true := by simp; omega
                have hno : ¬ vals (pre ++ [s]) <+: listOf X := fun h => hm ((next_of h hlen1).trans hy.symm)
                gi_wp2
                exact ⟨KeepsOthers.setCell _ _ _, ⟨rfl, hno⟩⟩
            case hstop =>
              rintro D2 cc pre Y hD2 hSp ⟨_, hno⟩ _
              exact absurd hSp hno
            case hdone =>
              rintro D2 ys Y hD2 hys ⟨⟨⟨hk1, hk2⟩, hsz, hB⟩, hv1⟩ hK2
              have hyl : ys.length = (listOf X).length := by rw [← vals_len ys, hys]
              rw [hyl] at hk1
              have t2 := (hB.cell (World.block_lt_of_cell? _ _ v2)).trans v2
              have t1 := (hB.cell (World.block_lt_of_cell? _ _ v1)).trans v1
              have t7 := (hB.cell (World.block_lt_of_cell? _ _ v7)).trans v7
              have t8 := (hB.frozen (p := ⟨w.heap.size + 1 + 1, 0, none⟩) (World.block_lt_of_cell? _ _ v7)).trans v8
              have hp64 := listOf_len X
              clear hv1 hys hyl
              gi_wp2_with fail
              obtain ⟨Z, hZ⟩ : ∃ Z, Z = Y.alloc (.cells #[.int .i64 2] 3) := ⟨_, rfl⟩
              have z5 : Z.cell? ⟨Y.heap.size, 0, none⟩ = some (.int .i64 2) := by rw [hZ]; simp [go_sem]
              have zb : Below V.heap.size V Z := by rw [hZ]; exact hB.trans ((box1 Y _).mono hB.size)
              have z1 := (zb.cell (World.block_lt_of_cell? _ _ v7)).trans v7
              have z8 := (zb.frozen (p := ⟨w.heap.size + 1 + 1, 0, none⟩) (World.block_lt_of_cell? _ _ v7)).trans v8
              have zD := (zb.block _ (Array.getElem?_eq_some_iff.1 v4).1).trans v4
              have zD2 : Z.heap[D2]? = some (.deferred (some [])) := by rw [hZ]; exact (((box1 Y _).block _ (Array.getElem?_eq_some_iff.1 hK2).1)).trans hK2
              have hTZ := hTV.below zb (by omega)
              have zw : Below w.heap.size w Z := (W5.trans (v3.mono W5.size)).trans (zb.mono (Nat.le_trans W5.size v3.size))
              rw [← hZ]
              clear hZ t1 t2 t7 t8 hk1 hk2 hB
              rw [roundsIn_succ]
              gi_wp2_with fail
              refine ⟨trivial, callsIn_wide.2 ((known_any _ hTZ).mono ?_)⟩
              rintro e w9 ⟨rfl, hb⟩
              have k6 := (hb.cell (World.block_lt_of_cell? _ _ z1)).trans z1
              have f6 := (hb.frozen (p := ⟨w.heap.size + 1 + 1, 0, none⟩) (World.block_lt_of_cell? _ _ z1)).trans z8
              have yD := (hb.block _ (Array.getElem?_eq_some_iff.1 zD).1).trans zD
              have yD2 := (hb.block _ (Array.getElem?_eq_some_iff.1 zD2).1).trans zD2
              have yw := chain zw hb
              clear z1 z8 zD zD2 z5
              gi_wp2
              have hD3 : V.heap.size + 1 ≤ D2 := by simpa using hD2
              have hDV : D < V.heap.size := (Array.getElem?_eq_some_iff.1 v4).1
              have hDw : w3.heap.size + 1 + 1 + 1 ≤ D := by simp at hD; omega
              have hs3 := v3.size
              have hS2 : (w9.setCell ⟨w.heap.size + 1 + 1, 0, none⟩ (.bool true)).heap[D2]? = some (.deferred (some [])) := (Below.heap_setCell w9 ⟨w.heap.size + 1 + 1, 0, none⟩ (.bool true) D2 (by simp; omega)).trans yD2
              have hb2 : Below V.heap.size (w9.setCell ⟨w.heap.size + 1 + 1, 0, none⟩ (.bool true)) ((w9.setCell ⟨w.heap.size + 1 + 1, 0, none⟩ (.bool true)).putObj D2 (.deferred none)) := belowK_b (n₀ := V.heap.size) (w := V) (Nat.le_refl _) _ D2 _ _ (by omega) hS2 rfl rfl
              have hSD : ((w9.setCell ⟨w.heap.size + 1 + 1, 0, none⟩ (.bool true)).putObj D2 (.deferred none)).heap[D]? = some (.deferred (some [])) := (hb2.block _ hDV).trans ((Below.heap_setCell w9 ⟨w.heap.size + 1 + 1, 0, none⟩ (.bool true) D (by simp; omega)).trans yD)
              have hb4 : Below w3.heap.size ((w9.setCell ⟨w.heap.size + 1 + 1, 0, none⟩ (.bool true)).putObj D2 (.deferred none)) (((w9.setCell ⟨w.heap.size + 1 + 1, 0, none⟩ (.bool true)).putObj D2 (.deferred none)).putObj D (.deferred none)) := belowK_b (n₀ := w3.heap.size) (w := w3) (Nat.le_refl _) _ D _ _ (by omega) hSD rfl rfl
              have hcv := (hb4.cell (p := ⟨w.heap.size + 1 + 1, 0, none⟩) q3).trans ((hb2.cell (p := ⟨w.heap.size + 1 + 1, 0, none⟩) (by simp; omega)).trans (World.cell?_setCell_same w9 ⟨w.heap.size + 1 + 1, 0, none⟩ (.bool true) k6))
              have hfin : Below w.heap.size w (((w9.setCell ⟨w.heap.size + 1 + 1, 0, none⟩ (.bool true)).putObj D2 (.deferred none)).putObj D (.deferred none)) := ((yw.setCell (p := ⟨w.heap.size + 1 + 1, 0, none⟩) (by simp; omega) (.bool true)).trans (hb2.mono (by omega))).trans (hb4.mono W5.size)
              clear k6 f6 yD yD2 yw
              refine ⟨by simp, .inl ⟨_, _, rfl, run_takeDeferred hS2, ?_⟩⟩
              refine ⟨by simp, .inl ⟨_, _, rfl, run_takeDeferred hSD, ?_⟩⟩
              refine ⟨.bool true, ?_, rfl, hfin⟩
              have hres : Tryd.f7.results = #[.cell 10 4] := by kernel_rfl
              simp only [results, hres]
              go_simp
          · have hml : (many != ((listOf X).length : Int)) = false := by rw [show many = ((listOf X).length : Int) from by omega]; simp
            clear x4 hpm
            gi_wp2_with fail
            have hlt0 : w3.heap.size + 1 + 1 + 1 < W.heap.size := hsz
            obtain ⟨V, hV⟩ : ∃ V, V = W.alloc (.cells #[.int .i64 1] 3) := ⟨_, rfl⟩
            have v1 : V.cell? ⟨W.heap.size, 0, none⟩ = some (.int .i64 1) := by rw [hV]; simp [go_sem]
            have v1f : V.frozen? ⟨W.heap.size, 0, none⟩ = false := by rw [hV]; simp [go_sem]
            have v2 : V.cell? ⟨w3.heap.size, 0, none⟩ = some (.slice A' (listOf X).length c') := by rw [hV]; exact alive _ hk3
            have v3 : Below w3.heap.size w3 V := by rw [hV]; exact hB.trans ((box1 _ _).mono (by omega))
            have v4 : V.heap[D]? = some (.deferred (some [])) := by rw [hV]; exact (((box1 W _).block _ (Array.getElem?_eq_some_iff.1 hK).1)).trans hK
            have v5 : V.heap.size = W.heap.size + 1 := by rw [hV]; simp
            have v6 := (v3.cell (World.block_lt_of_cell? _ _ K2)).trans K2
            have v7 := (v3.cell (World.block_lt_of_cell? _ _ K3)).trans K3
            have v8 := (v3.frozen (p := ⟨w.heap.size + 1 + 1, 0, none⟩) (World.block_lt_of_cell? _ _ K3)).trans F3
            have hTV := hT3.below v3 hn1
            have hLV := hL.below v3
            have hXV : V.cell? ⟨w3.heap.size + 1, 0, none⟩ = some (.int .u64 X) := by rw [hV]; exact alive _ hk6
            rw [← hV]
            have v9 : W.heap.size < V.heap.size := by omega
            clear hV v5 hk1 hk2 hk3 hk4 hk5 hk6 hB hK hsz hm2 hr2 fr2
            rw [roundsIn_succ]
            gi_wp2_with fail
            have hVa : Below V.heap.size V (V.alloc (.cells #[.int .i64 0] 3)) := box1 _ _
            apply wpIn_rangeFunc_ownF rfl (by omega) (gf := 74) (lb := #[.pointer (some ⟨w3.heap.size + 1, 0, none⟩)]) rfl trivial (enters_of Tryd.func74 (by kernel_rfl) rfl)
              (each_stops (6 - 1) (w3.heap.size + 1) V.heap.size X (by omega) hX64 (V.alloc (.cells #[.int .i64 0] 3)) (by simp; omega) (by omega) (alive _ hXV) (hTV.below hVa (by omega))) belowK_t (belowK_b (by simp)) (Below.refl _ _) (fun _ => rfl)
              (fun pre W => ((W.cell? ⟨V.heap.size, 0, none⟩ = some (.int .i64 (pre.length : Int)) ∧ W.frozen? ⟨V.heap.size, 0, none⟩ = false) ∧ (V.heap.size < W.heap.size ∧ Below V.heap.size V W)) ∧ (vals pre = (listOf X).take pre.length))
              (fun cc pre W => cc = .ret ∧ ¬ vals pre <+: listOf X)
              (OwnFrom.and (OwnFrom.and (Own.from (fun s A B row hs hg hr => ⟨cell_kept hs.1 hg hr, (frozen_kept hs.1 hg hr).trans hs.2⟩) _) (OwnFrom.and (Own.from (fun s A B row hs hg hr => Nat.lt_of_lt_of_le hs hg.size) _) (ownFrom_below (Nat.le_refl _) (by simp)))) (ownFrom_pure _ _))
              (fun _ _ _ _ _ hs _ _ => hs)
              ⟨⟨⟨by simp [go_sem], by simp [go_sem]⟩, by simp, hVa⟩, by simp [vals]⟩
            case hassign =>
              intro l s W K hK
              gi_wp2
              exact hK
            case hbody =>
              rintro lp pre s Y ⟨⟨⟨hk1, hk2⟩, hsz, hB⟩, hv1⟩ hlen1
              obtain ⟨ad, rfl, hbl, hcl⟩ := (hLV.below (hB.mono v3.size)).at_ (k := pre.length) (by simpa using hlen1)
              have t2 := (hB.cell (World.block_lt_of_cell? _ _ v2)).trans v2
              have t1 := (hB.cell (World.block_lt_of_cell? _ _ v1)).trans v1
              have t7 := (hB.cell (World.block_lt_of_cell? _ _ v7)).trans v7
              have t8 := (hB.frozen (p := ⟨w.heap.size + 1 + 1, 0, none⟩) (World.block_lt_of_cell? _ _ v7)).trans v8
              have hge : ¬ (((listOf X).length : Int) ≤ (pre.length : Int)) := by omega
              have hg : ((listOf X).map fun i : Nat => (i : Int))[pre.length]?.getD 0 = (((listOf X)[pre.length]'hlen1 : Nat) : Int) := by
                rw [List.getElem?_map, List.getElem?_eq_getElem hlen1]
                rfl
              rw [hg] at hcl
              clear hg
              obtain ⟨y, hy⟩ : ∃ y, y = (listOf X)[pre.length]'hlen1 := ⟨_, rfl⟩
              rw [← hy] at hcl
              have hp64 := listOf_len X
              by_cases hm : s.1 = y
              · have hvs : vals (pre ++ [s]) = (listOf X).take (pre ++ [s]).length := by
                  rw [vals_snoc, hv1, hm, hy, List.length_append, List.length_singleton, List.take_succ_eq_append_getElem hlen1]
                have hne : ((s.1 : Int) != (y : Int)) = false := by simp [hm]
                have hpl : (((pre ++ [s]).length : Nat) : Int) = (pre.length : Int) + 1 := by simp
                have hps : (pre ++ [s]).length = pre.length + 1 := by simp
                have hKp : ∀ v : Value, Below V.heap.size Y (Y.setCell ⟨V.heap.size, 0, none⟩ v) := fun v => (Below.refl V.heap.size Y).setCell (p := ⟨V.heap.size, 0, none⟩) (by simp) _
                gi_wp2
                exact ⟨KeepsOthers.setCell _ _ _, hKp _, ⟨⟨by rw [hpl]; exact World.cell?_setCell_same Y ⟨V.heap.size, 0, none⟩ _ hk1, (World.frozen?_setCell ..).trans hk2⟩, by simp; omega, hB.trans (hKp _)⟩, hvs⟩
              · have hne : ((s.1 : Int) != (y : Int)) = true := by simp; omega
                have hno : ¬ vals (pre ++ [s]) <+: listOf X := fun h => hm ((next_of h hlen1).trans hy.symm)
                gi_wp2
                exact ⟨KeepsOthers.setCell _ _ _, ⟨rfl, hno⟩⟩
            case hstop =>
              rintro D2 cc pre Y hD2 hSp ⟨_, hno⟩ _
              exact absurd hSp hno
            case hdone =>
              rintro D2 ys Y hD2 hys ⟨⟨⟨hk1, hk2⟩, hsz, hB⟩, hv1⟩ hK2
              have hyl : ys.length = (listOf X).length := by rw [← vals_len ys, hys]
              rw [hyl] at hk1
              have t2 := (hB.cell (World.block_lt_of_cell? _ _ v2)).trans v2
              have t1 := (hB.cell (World.block_lt_of_cell? _ _ v1)).trans v1
              have t7 := (hB.cell (World.block_lt_of_cell? _ _ v7)).trans v7
              have t8 := (hB.frozen (p := ⟨w.heap.size + 1 + 1, 0, none⟩) (World.block_lt_of_cell? _ _ v7)).trans v8
              have hp64 := listOf_len X
              clear hv1 hys hyl
              gi_wp2_with fail
              obtain ⟨Z, hZ⟩ : ∃ Z, Z = Y.alloc (.cells #[.int .i64 2] 3) := ⟨_, rfl⟩
              have z5 : Z.cell? ⟨Y.heap.size, 0, none⟩ = some (.int .i64 2) := by rw [hZ]; simp [go_sem]
              have zb : Below V.heap.size V Z := by rw [hZ]; exact hB.trans ((box1 Y _).mono hB.size)
              have z1 := (zb.cell (World.block_lt_of_cell? _ _ v7)).trans v7
              have z8 := (zb.frozen (p := ⟨w.heap.size + 1 + 1, 0, none⟩) (World.block_lt_of_cell? _ _ v7)).trans v8
              have zD := (zb.block _ (Array.getElem?_eq_some_iff.1 v4).1).trans v4
              have zD2 : Z.heap[D2]? = some (.deferred (some [])) := by rw [hZ]; exact (((box1 Y _).block _ (Array.getElem?_eq_some_iff.1 hK2).1)).trans hK2
              have hTZ := hTV.below zb (by omega)
              have zw : Below w.heap.size w Z := (W5.trans (v3.mono W5.size)).trans (zb.mono (Nat.le_trans W5.size v3.size))
              rw [← hZ]
              clear hZ t1 t2 t7 t8 hk1 hk2 hB
              rw [roundsIn_succ]
              gi_wp2_with fail
              refine ⟨trivial, callsIn_wide.2 ((known_any _ hTZ).mono ?_)⟩
              rintro e w9 ⟨rfl, hb⟩
              have k6 := (hb.cell (World.block_lt_of_cell? _ _ z1)).trans z1
              have f6 := (hb.frozen (p := ⟨w.heap.size + 1 + 1, 0, none⟩) (World.block_lt_of_cell? _ _ z1)).trans z8
              have yD := (hb.block _ (Array.getElem?_eq_some_iff.1 zD).1).trans zD
              have yD2 := (hb.block _ (Array.getElem?_eq_some_iff.1 zD2).1).trans zD2
              have yw := chain zw hb
              clear z1 z8 zD zD2 z5
              gi_wp2
              have hD3 : V.heap.size + 1 ≤ D2 := by simpa using hD2
              have hDV : D < V.heap.size := (Array.getElem?_eq_some_iff.1 v4).1
              have hDw : w3.heap.size + 1 + 1 + 1 ≤ D := by simp at hD; omega
              have hs3 := v3.size
              have hS2 : (w9.setCell ⟨w.heap.size + 1 + 1, 0, none⟩ (.bool true)).heap[D2]? = some (.deferred (some [])) := (Below.heap_setCell w9 ⟨w.heap.size + 1 + 1, 0, none⟩ (.bool true) D2 (by simp; omega)).trans yD2
              have hb2 : Below V.heap.size (w9.setCell ⟨w.heap.size + 1 + 1, 0, none⟩ (.bool true)) ((w9.setCell ⟨w.heap.size + 1 + 1, 0, none⟩ (.bool true)).putObj D2 (.deferred none)) := belowK_b (n₀ := V.heap.size) (w := V) (Nat.le_refl _) _ D2 _ _ (by omega) hS2 rfl rfl
              have hSD : ((w9.setCell ⟨w.heap.size + 1 + 1, 0, none⟩ (.bool true)).putObj D2 (.deferred none)).heap[D]? = some (.deferred (some [])) := (hb2.block _ hDV).trans ((Below.heap_setCell w9 ⟨w.heap.size + 1 + 1, 0, none⟩ (.bool true) D (by simp; omega)).trans yD)
              have hb4 : Below w3.heap.size ((w9.setCell ⟨w.heap.size + 1 + 1, 0, none⟩ (.bool true)).putObj D2 (.deferred none)) (((w9.setCell ⟨w.heap.size + 1 + 1, 0, none⟩ (.bool true)).putObj D2 (.deferred none)).putObj D (.deferred none)) := belowK_b (n₀ := w3.heap.size) (w := w3) (Nat.le_refl _) _ D _ _ (by omega) hSD rfl rfl
              have hcv := (hb4.cell (p := ⟨w.heap.size + 1 + 1, 0, none⟩) q3).trans ((hb2.cell (p := ⟨w.heap.size + 1 + 1, 0, none⟩) (by simp; omega)).trans (World.cell?_setCell_same w9 ⟨w.heap.size + 1 + 1, 0, none⟩ (.bool true) k6))
              have hfin : Below w.heap.size w (((w9.setCell ⟨w.heap.size + 1 + 1, 0, none⟩ (.bool true)).putObj D2 (.deferred none)).putObj D (.deferred none)) := ((yw.setCell (p := ⟨w.heap.size + 1 + 1, 0, none⟩) (by simp; omega) (.bool true)).trans (hb2.mono (by omega))).trans (hb4.mono W5.size)
              clear k6 f6 yD yD2 yw
              refine ⟨by simp, .inl ⟨_, _, rfl, run_takeDeferred hS2, ?_⟩⟩
              refine ⟨by simp, .inl ⟨_, _, rfl, run_takeDeferred hSD, ?_⟩⟩
              refine ⟨.bool true, ?_, rfl, hfin⟩
              have hres : Tryd.f7.results = #[.cell 10 4] := by kernel_rfl
              simp only [results, hres]
              go_simp
        · rw [show ((pre.length : Nat) : Int) = 1 from by omega] at hk1
          by_cases hq : 1 < ((listOf X).length : Int)
          · clear x4
            gi_wp2_with fail
            have hlt0 : w3.heap.size + 1 + 1 + 1 < W.heap.size := hsz
            obtain ⟨V, hV⟩ : ∃ V, V = W.alloc (.cells #[.int .i64 1] 3) := ⟨_, rfl⟩
            have v1 : V.cell? ⟨W.heap.size, 0, none⟩ = some (.int .i64 1) := by rw [hV]; simp [go_sem]
            have v1f : V.frozen? ⟨W.heap.size, 0, none⟩ = false := by rw [hV]; simp [go_sem]
            have v2 : V.cell? ⟨w3.heap.size, 0, none⟩ = some (.slice A' (listOf X).length c') := by rw [hV]; exact alive _ hk3
            have v3 : Below w3.heap.size w3 V := by rw [hV]; exact hB.trans ((box1 _ _).mono (by omega))
            have v4 : V.heap[D]? = some (.deferred (some [])) := by rw [hV]; exact (((box1 W _).block _ (Array.getElem?_eq_some_iff.1 hK).1)).trans hK
            have v5 : V.heap.size = W.heap.size + 1 := by rw [hV]; simp
            have v6 := (v3.cell (World.block_lt_of_cell? _ _ K2)).trans K2
            have v7 := (v3.cell (World.block_lt_of_cell? _ _ K3)).trans K3
            have v8 := (v3.frozen (p := ⟨w.heap.size + 1 + 1, 0, none⟩) (World.block_lt_of_cell? _ _ K3)).trans F3
            have hTV := hT3.below v3 hn1
            have hLV := hL.below v3
            have hXV : V.cell? ⟨w3.heap.size + 1, 0, none⟩ = some (.int .u64 X) := by rw [hV]; exact alive _ hk6
            rw [← hV]
            have v9 : W.heap.size < V.heap.size := by omega
            clear hV v5 hk1 hk2 hk3 hk4 hk5 hk6 hB hK hsz hm2 hr2 fr2
            rw [roundsIn_succ]
            gi_wp2_with fail
            have hVa : Below V.heap.size V (V.alloc (.cells #[.int .i64 0] 3)) := box1 _ _
            apply wpIn_rangeFunc_ownF rfl (by omega) (gf := 74) (lb := #[.pointer (some ⟨w3.heap.size + 1, 0, none⟩)]) rfl trivial (enters_of Tryd.func74 (by kernel_rfl) rfl)
              (each_stops (6 - 1) (w3.heap.size + 1) V.heap.size X (by omega) hX64 (V.alloc (.cells #[.int .i64 0] 3)) (by simp; omega) (by omega) (alive _ hXV) (hTV.below hVa (by omega))) belowK_t (belowK_b (by simp)) (Below.refl _ _) (fun _ => rfl)
              (fun pre W => ((W.cell? ⟨V.heap.size, 0, none⟩ = some (.int .i64 (pre.length : Int)) ∧ W.frozen? ⟨V.heap.size, 0, none⟩ = false) ∧ (V.heap.size < W.heap.size ∧ Below V.heap.size V W)) ∧ (vals pre = (listOf X).take pre.length))
              (fun cc pre W => cc = .ret ∧ ¬ vals pre <+: listOf X)
              (OwnFrom.and (OwnFrom.and (Own.from (fun s A B row hs hg hr => ⟨cell_kept hs.1 hg hr, (frozen_kept hs.1 hg hr).trans hs.2⟩) _) (OwnFrom.and (Own.from (fun s A B row hs hg hr => Nat.lt_of_lt_of_le hs hg.size) _) (ownFrom_below (Nat.le_refl _) (by simp)))) (ownFrom_pure _ _))
              (fun _ _ _ _ _ hs _ _ => hs)
              ⟨⟨⟨by simp [go_sem], by simp [go_sem]⟩, by simp, hVa⟩, by simp [vals]⟩
            case hassign =>
              intro l s W K hK
              gi_wp2
              exact hK
            case hbody =>
              rintro lp pre s Y ⟨⟨⟨hk1, hk2⟩, hsz, hB⟩, hv1⟩ hlen1
              obtain ⟨ad, rfl, hbl, hcl⟩ := (hLV.below (hB.mono v3.size)).at_ (k := pre.length) (by simpa using hlen1)
              have t2 := (hB.cell (World.block_lt_of_cell? _ _ v2)).trans v2
              have t1 := (hB.cell (World.block_lt_of_cell? _ _ v1)).trans v1
              have t7 := (hB.cell (World.block_lt_of_cell? _ _ v7)).trans v7
              have t8 := (hB.frozen (p := ⟨w.heap.size + 1 + 1, 0, none⟩) (World.block_lt_of_cell? _ _ v7)).trans v8
              have hge : ¬ (((listOf X).length : Int) ≤ (pre.length : Int)) := by omega
              have hg : ((listOf X).map fun i : Nat => (i : Int))[pre.length]?.getD 0 = (((listOf X)[pre.length]'hlen1 : Nat) : Int) := by
                rw [List.getElem?_map, List.getElem?_eq_getElem hlen1]
                rfl
              rw [hg] at hcl
              clear hg
              obtain ⟨y, hy⟩ : ∃ y, y = (listOf X)[pre.length]'hlen1 := ⟨_, rfl⟩
              rw [← hy] at hcl
              have hp64 := listOf_len X
              by_cases hm : s.1 = y
              · have hvs : vals (pre ++ [s]) = (listOf X).take (pre ++ [s]).length := by
                  rw [vals_snoc, hv1, hm, hy, List.length_append, List.length_singleton, List.take_succ_eq_append_getElem hlen1]
                have hne : ((s.1 : Int) != (y : Int)) = false := by simp [hm]
                have hpl : (((pre ++ [s]).length : Nat) : Int) = (pre.length : Int) + 1 := by simp
                have hps : (pre ++ [s]).length = pre.length + 1 := by simp
                have hKp : ∀ v : Value, Below V.heap.size Y (Y.setCell ⟨V.heap.size, 0, none⟩ v) := fun v => (Below.refl V.heap.size Y).setCell (p := ⟨V.heap.size, 0, none⟩) (by simp) _
                gi_wp2
                exact ⟨KeepsOthers.setCell _ _ _, hKp _, ⟨⟨by rw [hpl]; exact World.cell?_setCell_same Y ⟨V.heap.size, 0, none⟩ _ hk1, (World.frozen?_setCell ..).trans hk2⟩, by simp; omega, hB.trans (hKp _)⟩, hvs⟩
              · have hne : ((s.1 : Int) != (y : Int)) = true := by simp; omega
                have hno : ¬ vals (pre ++ [s]) <+: listOf X := fun h => hm ((next_of h hlen1).trans hy.symm)
                gi_wp2
                exact ⟨KeepsOthers.setCell _ _ _, ⟨rfl, hno⟩⟩
            case hstop =>
              rintro D2 cc pre Y hD2 hSp ⟨_, hno⟩ _
              exact absurd hSp hno
            case hdone =>
              rintro D2 ys Y hD2 hys ⟨⟨⟨hk1, hk2⟩, hsz, hB⟩, hv1⟩ hK2
              have hyl : ys.length = (listOf X).length := by rw [← vals_len ys, hys]
              rw [hyl] at hk1
              have t2 := (hB.cell (World.block_lt_of_cell? _ _ v2)).trans v2
              have t1 := (hB.cell (World.block_lt_of_cell? _ _ v1)).trans v1
              have t7 := (hB.cell (World.block_lt_of_cell? _ _ v7)).trans v7
              have t8 := (hB.frozen (p := ⟨w.heap.size + 1 + 1, 0, none⟩) (World.block_lt_of_cell? _ _ v7)).trans v8
              have hp64 := listOf_len X
              clear hv1 hys hyl
              gi_wp2_with fail
              obtain ⟨Z, hZ⟩ : ∃ Z, Z = Y.alloc (.cells #[.int .i64 2] 3) := ⟨_, rfl⟩
              have z5 : Z.cell? ⟨Y.heap.size, 0, none⟩ = some (.int .i64 2) := by rw [hZ]; simp [go_sem]
              have zb : Below V.heap.size V Z := by rw [hZ]; exact hB.trans ((box1 Y _).mono hB.size)
              have z1 := (zb.cell (World.block_lt_of_cell? _ _ v7)).trans v7
              have z8 := (zb.frozen (p := ⟨w.heap.size + 1 + 1, 0, none⟩) (World.block_lt_of_cell? _ _ v7)).trans v8
              have zD := (zb.block _ (Array.getElem?_eq_some_iff.1 v4).1).trans v4
              have zD2 : Z.heap[D2]? = some (.deferred (some [])) := by rw [hZ]; exact (((box1 Y _).block _ (Array.getElem?_eq_some_iff.1 hK2).1)).trans hK2
              have hTZ := hTV.below zb (by omega)
              have zw : Below w.heap.size w Z := (W5.trans (v3.mono W5.size)).trans (zb.mono (Nat.le_trans W5.size v3.size))
              rw [← hZ]
              clear hZ t1 t2 t7 t8 hk1 hk2 hB
              rw [roundsIn_succ]
              gi_wp2_with fail
              refine ⟨trivial, callsIn_wide.2 ((known_any _ hTZ).mono ?_)⟩
              rintro e w9 ⟨rfl, hb⟩
              have k6 := (hb.cell (World.block_lt_of_cell? _ _ z1)).trans z1
              have f6 := (hb.frozen (p := ⟨w.heap.size + 1 + 1, 0, none⟩) (World.block_lt_of_cell? _ _ z1)).trans z8
              have yD := (hb.block _ (Array.getElem?_eq_some_iff.1 zD).1).trans zD
              have yD2 := (hb.block _ (Array.getElem?_eq_some_iff.1 zD2).1).trans zD2
              have yw := chain zw hb
              clear z1 z8 zD zD2 z5
              gi_wp2
              have hD3 : V.heap.size + 1 ≤ D2 := by simpa using hD2
              have hDV : D < V.heap.size := (Array.getElem?_eq_some_iff.1 v4).1
              have hDw : w3.heap.size + 1 + 1 + 1 ≤ D := by simp at hD; omega
              have hs3 := v3.size
              have hS2 : (w9.setCell ⟨w.heap.size + 1 + 1, 0, none⟩ (.bool true)).heap[D2]? = some (.deferred (some [])) := (Below.heap_setCell w9 ⟨w.heap.size + 1 + 1, 0, none⟩ (.bool true) D2 (by simp; omega)).trans yD2
              have hb2 : Below V.heap.size (w9.setCell ⟨w.heap.size + 1 + 1, 0, none⟩ (.bool true)) ((w9.setCell ⟨w.heap.size + 1 + 1, 0, none⟩ (.bool true)).putObj D2 (.deferred none)) := belowK_b (n₀ := V.heap.size) (w := V) (Nat.le_refl _) _ D2 _ _ (by omega) hS2 rfl rfl
              have hSD : ((w9.setCell ⟨w.heap.size + 1 + 1, 0, none⟩ (.bool true)).putObj D2 (.deferred none)).heap[D]? = some (.deferred (some [])) := (hb2.block _ hDV).trans ((Below.heap_setCell w9 ⟨w.heap.size + 1 + 1, 0, none⟩ (.bool true) D (by simp; omega)).trans yD)
              have hb4 : Below w3.heap.size ((w9.setCell ⟨w.heap.size + 1 + 1, 0, none⟩ (.bool true)).putObj D2 (.deferred none)) (((w9.setCell ⟨w.heap.size + 1 + 1, 0, none⟩ (.bool true)).putObj D2 (.deferred none)).putObj D (.deferred none)) := belowK_b (n₀ := w3.heap.size) (w := w3) (Nat.le_refl _) _ D _ _ (by omega) hSD rfl rfl
              have hcv := (hb4.cell (p := ⟨w.heap.size + 1 + 1, 0, none⟩) q3).trans ((hb2.cell (p := ⟨w.heap.size + 1 + 1, 0, none⟩) (by simp; omega)).trans (World.cell?_setCell_same w9 ⟨w.heap.size + 1 + 1, 0, none⟩ (.bool true) k6))
              have hfin : Below w.heap.size w (((w9.setCell ⟨w.heap.size + 1 + 1, 0, none⟩ (.bool true)).putObj D2 (.deferred none)).putObj D (.deferred none)) := ((yw.setCell (p := ⟨w.heap.size + 1 + 1, 0, none⟩) (by simp; omega) (.bool true)).trans (hb2.mono (by omega))).trans (hb4.mono W5.size)
              clear k6 f6 yD yD2 yw
              refine ⟨by simp, .inl ⟨_, _, rfl, run_takeDeferred hS2, ?_⟩⟩
              refine ⟨by simp, .inl ⟨_, _, rfl, run_takeDeferred hSD, ?_⟩⟩
              refine ⟨.bool true, ?_, rfl, hfin⟩
              have hres : Tryd.f7.results = #[.cell 10 4] := by kernel_rfl
              simp only [results, hres]
              go_simp
          · have hml : ((1 : Int) != ((listOf X).length : Int)) = false := by rw [show ((listOf X).length : Int) = 1 from by omega]; rfl
            clear x4
            gi_wp2_with fail
            have hlt0 : w3.heap.size + 1 + 1 + 1 < W.heap.size := hsz
            obtain ⟨V, hV⟩ : ∃ V, V = W.alloc (.cells #[.int .i64 1] 3) := ⟨_, rfl⟩
            have v1 : V.cell? ⟨W.heap.size, 0, none⟩ = some (.int .i64 1) := by rw [hV]; simp [go_sem]
            have v1f : V.frozen? ⟨W.heap.size, 0, none⟩ = false := by rw [hV]; simp [go_sem]
            have v2 : V.cell? ⟨w3.heap.size, 0, none⟩ = some (.slice A' (listOf X).length c') := by rw [hV]; exact alive _ hk3
            have v3 : Below w3.heap.size w3 V := by rw [hV]; exact hB.trans ((box1 _ _).mono (by omega))
            have v4 : V.heap[D]? = some (.deferred (some [])) := by rw [hV]; exact (((box1 W _).block _ (Array.getElem?_eq_some_iff.1 hK).1)).trans hK
            have v5 : V.heap.size = W.heap.size + 1 := by rw [hV]; simp
            have v6 := (v3.cell (World.block_lt_of_cell? _ _ K2)).trans K2
            have v7 := (v3.cell (World.block_lt_of_cell? _ _ K3)).trans K3
            have v8 := (v3.frozen (p := ⟨w.heap.size + 1 + 1, 0, none⟩) (World.block_lt_of_cell? _ _ K3)).trans F3
            have hTV := hT3.below v3 hn1
            have hLV := hL.below v3
            have hXV : V.cell? ⟨w3.heap.size + 1, 0, none⟩ = some (.int .u64 X) := by rw [hV]; exact alive _ hk6
            rw [← hV]
            have v9 : W.heap.size < V.heap.size := by omega
            clear hV v5 hk1 hk2 hk3 hk4 hk5 hk6 hB hK hsz hm2 hr2 fr2
            rw [roundsIn_succ]
            gi_wp2_with fail
            have hVa : Below V.heap.size V (V.alloc (.cells #[.int .i64 0] 3)) := box1 _ _
            apply wpIn_rangeFunc_ownF rfl (by omega) (gf := 74) (lb := #[.pointer (some ⟨w3.heap.size + 1, 0, none⟩)]) rfl trivial (enters_of Tryd.func74 (by kernel_rfl) rfl)
              (each_stops (6 - 1) (w3.heap.size + 1) V.heap.size X (by omega) hX64 (V.alloc (.cells #[.int .i64 0] 3)) (by simp; omega) (by omega) (alive _ hXV) (hTV.below hVa (by omega))) belowK_t (belowK_b (by simp)) (Below.refl _ _) (fun _ => rfl)
              (fun pre W => ((W.cell? ⟨V.heap.size, 0, none⟩ = some (.int .i64 (pre.length : Int)) ∧ W.frozen? ⟨V.heap.size, 0, none⟩ = false) ∧ (V.heap.size < W.heap.size ∧ Below V.heap.size V W)) ∧ (vals pre = (listOf X).take pre.length))
              (fun cc pre W => cc = .ret ∧ ¬ vals pre <+: listOf X)
              (OwnFrom.and (OwnFrom.and (Own.from (fun s A B row hs hg hr => ⟨cell_kept hs.1 hg hr, (frozen_kept hs.1 hg hr).trans hs.2⟩) _) (OwnFrom.and (Own.from (fun s A B row hs hg hr => Nat.lt_of_lt_of_le hs hg.size) _) (ownFrom_below (Nat.le_refl _) (by simp)))) (ownFrom_pure _ _))
              (fun _ _ _ _ _ hs _ _ => hs)
              ⟨⟨⟨by simp [go_sem], by simp [go_sem]⟩, by simp, hVa⟩, by simp [vals]⟩
            case hassign =>
              intro l s W K hK
              gi_wp2
              exact hK
            case hbody =>
              rintro lp pre s Y ⟨⟨⟨hk1, hk2⟩, hsz, hB⟩, hv1⟩ hlen1
              obtain ⟨ad, rfl, hbl, hcl⟩ := (hLV.below (hB.mono v3.size)).at_ (k := pre.length) (by simpa using hlen1)
              have t2 := (hB.cell (World.block_lt_of_cell? _ _ v2)).trans v2
              have t1 := (hB.cell (World.block_lt_of_cell? _ _ v1)).trans v1
              have t7 := (hB.cell (World.block_lt_of_cell? _ _ v7)).trans v7
              have t8 := (hB.frozen (p := ⟨w.heap.size + 1 + 1, 0, none⟩) (World.block_lt_of_cell? _ _ v7)).trans v8
              have hge : ¬ (((listOf X).length : Int) ≤ (pre.length : Int)) := by omega
              have hg : ((listOf X).map fun i : Nat => (i : Int))[pre.length]?.getD 0 = (((listOf X)[pre.length]'hlen1 : Nat) : Int) := by
                rw [List.getElem?_map, List.getElem?_eq_getElem hlen1]
                rfl
              rw [hg] at hcl
              clear hg
              obtain ⟨y, hy⟩ : ∃ y, y = (listOf X)[pre.length]'hlen1 := ⟨_, rfl⟩
              rw [← hy] at hcl
              have hp64 := listOf_len X
              by_cases hm : s.1 = y
              · have hvs : vals (pre ++ [s]) = (listOf X).take (pre ++ [s]).length := by
                  rw [vals_snoc, hv1, hm, hy, List.length_append, List.length_singleton, List.take_succ_eq_append_getElem hlen1]
                have hne : ((s.1 : Int) != (y : Int)) = false := by simp [hm]
                have hpl : (((pre ++ [s]).length : Nat) : Int) = (pre.length : Int) + 1 := by simp
                have hps : (pre ++ [s]).length = pre.length + 1 := by simp
                have hKp : ∀ v : Value, Below V.heap.size Y (Y.setCell ⟨V.heap.size, 0, none⟩ v) := fun v => (Below.refl V.heap.size Y).setCell (p := ⟨V.heap.size, 0, none⟩) (by simp) _
                gi_wp2
                exact ⟨KeepsOthers.setCell _ _ _, hKp _, ⟨⟨by rw [hpl]; exact World.cell?_setCell_same Y ⟨V.heap.size, 0, none⟩ _ hk1, (World.frozen?_setCell ..).trans hk2⟩, by simp; omega, hB.trans (hKp _)⟩, hvs⟩
              · have hne : ((s.1 : Int) != (y : Int)) = true := by simp; omega
                have hno : ¬ vals (pre ++ [s]) <+: listOf X := fun h => hm ((next_of h hlen1).trans hy.symm)
                gi_wp2
                exact ⟨KeepsOthers.setCell _ _ _, ⟨rfl, hno⟩⟩
            case hstop =>
              rintro D2 cc pre Y hD2 hSp ⟨_, hno⟩ _
              exact absurd hSp hno
            case hdone =>
              rintro D2 ys Y hD2 hys ⟨⟨⟨hk1, hk2⟩, hsz, hB⟩, hv1⟩ hK2
              have hyl : ys.length = (listOf X).length := by rw [← vals_len ys, hys]
              rw [hyl] at hk1
              have t2 := (hB.cell (World.block_lt_of_cell? _ _ v2)).trans v2
              have t1 := (hB.cell (World.block_lt_of_cell? _ _ v1)).trans v1
              have t7 := (hB.cell (World.block_lt_of_cell? _ _ v7)).trans v7
              have t8 := (hB.frozen (p := ⟨w.heap.size + 1 + 1, 0, none⟩) (World.block_lt_of_cell? _ _ v7)).trans v8
              have hp64 := listOf_len X
              clear hv1 hys hyl
              gi_wp2_with fail
              obtain ⟨Z, hZ⟩ : ∃ Z, Z = Y.alloc (.cells #[.int .i64 2] 3) := ⟨_, rfl⟩
              have z5 : Z.cell? ⟨Y.heap.size, 0, none⟩ = some (.int .i64 2) := by rw [hZ]; simp [go_sem]
              have zb : Below V.heap.size V Z := by rw [hZ]; exact hB.trans ((box1 Y _).mono hB.size)
              have z1 := (zb.cell (World.block_lt_of_cell? _ _ v7)).trans v7
              have z8 := (zb.frozen (p := ⟨w.heap.size + 1 + 1, 0, none⟩) (World.block_lt_of_cell? _ _ v7)).trans v8
              have zD := (zb.block _ (Array.getElem?_eq_some_iff.1 v4).1).trans v4
              have zD2 : Z.heap[D2]? = some (.deferred (some [])) := by rw [hZ]; exact (((box1 Y _).block _ (Array.getElem?_eq_some_iff.1 hK2).1)).trans hK2
              have hTZ := hTV.below zb (by omega)
              have zw : Below w.heap.size w Z := (W5.trans (v3.mono W5.size)).trans (zb.mono (Nat.le_trans W5.size v3.size))
              rw [← hZ]
              clear hZ t1 t2 t7 t8 hk1 hk2 hB
              rw [roundsIn_succ]
              gi_wp2_with fail
              refine ⟨trivial, callsIn_wide.2 ((known_any _ hTZ).mono ?_)⟩
              rintro e w9 ⟨rfl, hb⟩
              have k6 := (hb.cell (World.block_lt_of_cell? _ _ z1)).trans z1
              have f6 := (hb.frozen (p := ⟨w.heap.size + 1 + 1, 0, none⟩) (World.block_lt_of_cell? _ _ z1)).trans z8
              have yD := (hb.block _ (Array.getElem?_eq_some_iff.1 zD).1).trans zD
              have yD2 := (hb.block _ (Array.getElem?_eq_some_iff.1 zD2).1).trans zD2
              have yw := chain zw hb
              clear z1 z8 zD zD2 z5
              gi_wp2
              have hD3 : V.heap.size + 1 ≤ D2 := by simpa using hD2
              have hDV : D < V.heap.size := (Array.getElem?_eq_some_iff.1 v4).1
              have hDw : w3.heap.size + 1 + 1 + 1 ≤ D := by simp at hD; omega
              have hs3 := v3.size
              have hS2 : (w9.setCell ⟨w.heap.size + 1 + 1, 0, none⟩ (.bool true)).heap[D2]? = some (.deferred (some [])) := (Below.heap_setCell w9 ⟨w.heap.size + 1 + 1, 0, none⟩ (.bool true) D2 (by simp; omega)).trans yD2
              have hb2 : Below V.heap.size (w9.setCell ⟨w.heap.size + 1 + 1, 0, none⟩ (.bool true)) ((w9.setCell ⟨w.heap.size + 1 + 1, 0, none⟩ (.bool true)).putObj D2 (.deferred none)) := belowK_b (n₀ := V.heap.size) (w := V) (Nat.le_refl _) _ D2 _ _ (by omega) hS2 rfl rfl
              have hSD : ((w9.setCell ⟨w.heap.size + 1 + 1, 0, none⟩ (.bool true)).putObj D2 (.deferred none)).heap[D]? = some (.deferred (some [])) := (hb2.block _ hDV).trans ((Below.heap_setCell w9 ⟨w.heap.size + 1 + 1, 0, none⟩ (.bool true) D (by simp; omega)).trans yD)
              have hb4 : Below w3.heap.size ((w9.setCell ⟨w.heap.size + 1 + 1, 0, none⟩ (.bool true)).putObj D2 (.deferred none)) (((w9.setCell ⟨w.heap.size + 1 + 1, 0, none⟩ (.bool true)).putObj D2 (.deferred none)).putObj D (.deferred none)) := belowK_b (n₀ := w3.heap.size) (w := w3) (Nat.le_refl _) _ D _ _ (by omega) hSD rfl rfl
              have hcv := (hb4.cell (p := ⟨w.heap.size + 1 + 1, 0, none⟩) q3).trans ((hb2.cell (p := ⟨w.heap.size + 1 + 1, 0, none⟩) (by simp; omega)).trans (World.cell?_setCell_same w9 ⟨w.heap.size + 1 + 1, 0, none⟩ (.bool true) k6))
              have hfin : Below w.heap.size w (((w9.setCell ⟨w.heap.size + 1 + 1, 0, none⟩ (.bool true)).putObj D2 (.deferred none)).putObj D (.deferred none)) := ((yw.setCell (p := ⟨w.heap.size + 1 + 1, 0, none⟩) (by simp; omega) (.bool true)).trans (hb2.mono (by omega))).trans (hb4.mono W5.size)
              clear k6 f6 yD yD2 yw
              refine ⟨by simp, .inl ⟨_, _, rfl, run_takeDeferred hS2, ?_⟩⟩
              refine ⟨by simp, .inl ⟨_, _, rfl, run_takeDeferred hSD, ?_⟩⟩
              refine ⟨.bool true, ?_, rfl, hfin⟩
              have hres : Tryd.f7.results = #[.cell 10 4] := by kernel_rfl
              simp only [results, hres]
              go_simp
end Go.Proofs.YtidfefaakkpoaaaDoor
