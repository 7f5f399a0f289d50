/- The law of sets: it answers true whatever comes in, and changes nothing that lay before; under the table of package math/bits as its text lays it. -/
import Derived.Test.YtidfefaakkpoaaaDoorSetsB
namespace Go.Proofs.YtidfefaakkpoaaaDoor
open Go.RowKit Go.Shelf Go.Sort Go.BigFrame
attribute [local go_sem] Oper.semAt_some

set_option maxRecDepth 100000 in
set_option maxHeartbeats 4000000 in
theorem sets_long (F R n many : Int) (l : List Int) (A : Option Addr) (c : Nat) (X : Nat) (hlen : 70 < (l.length : Int)) (w : World) (hT : Tab w) :
    CallsIn Fence.wide 6 Tryd.prog 7 #[.agg #[.int .i64 F, .int .i64 R], .slice A l.length c, .int .u64 X, .int .i64 n, .int .i64 many] w fun e w' => e = .returned (.bool true) ∧ Below w.heap.size w w' := by
  refine callsIn_of_wp_marks Tryd.func7 rfl trivial ?_ rfl
  simp only [Tryd.ntmps7, List.size_toArray, List.length_cons, List.length_nil, Nat.reduceAdd, Nat.reduceSub, Array.replicate_succ, Array.replicate_zero, List.push_toArray, List.append_toArray, List.nil_append, List.cons_append]
  have W0 : Below w.heap.size w (((w.alloc (.cells #[.int .i64 F, .int .i64 R] 23)).alloc (.cells #[.int .i64 many] 3)).alloc (.cells #[.bool false] 4)) := by
    go_grown
  have k3 : (((w.alloc (.cells #[.int .i64 F, .int .i64 R] 23)).alloc (.cells #[.int .i64 many] 3)).alloc (.cells #[.bool false] 4)).cell? ⟨w.heap.size + 1 + 1, 0, none⟩ = some (.bool false) := by simp [go_sem]
  have f3 : (((w.alloc (.cells #[.int .i64 F, .int .i64 R] 23)).alloc (.cells #[.int .i64 many] 3)).alloc (.cells #[.bool false] 4)).frozen? ⟨w.heap.size + 1 + 1, 0, none⟩ = false := by simp [go_sem]
  gi_wp2_with fail
  refine ⟨trivial, callsIn_wide.2 ((known_any _ (hT.below W0 hT.1)).mono ?_)⟩
  rintro e w0 ⟨rfl, hb⟩
  replace W0 := chain W0 hb
  replace f3 := (hb.frozen (p := ⟨w.heap.size + 1 + 1, 0, none⟩) (World.block_lt_of_cell? _ _ k3)).trans f3
  replace k3 := (hb.cell (World.block_lt_of_cell? _ _ k3)).trans k3
  clear hb
  gi_wp2
  have hfin : Below w.heap.size w (w0.setCell ⟨w.heap.size + 1 + 1, 0, none⟩ (.bool true)) := W0.setCell (p := ⟨w.heap.size + 1 + 1, 0, none⟩) (by simp; omega) (.bool true)
  have hcv := World.cell?_setCell_same w0 ⟨w.heap.size + 1 + 1, 0, none⟩ (.bool true) k3
  refine ⟨.bool true, ?_, rfl, hfin⟩
  have hres : Tryd.f7.results = #[.cell 10 4] := by kernel_rfl
  simp only [results, hres]
  go_simp

theorem law_sets (F R n many : Int) (l : List Int) (A : Option Addr) (c : Nat) (X : Nat) (hX64 : X < 18446744073709551616) (w : World) (hA : RdI w w.heap.size A l) (hT : Tab w) :
    Calls Tryd.prog 7 #[.agg #[.int .i64 F, .int .i64 R], .slice A l.length c, .int .u64 X, .int .i64 n, .int .i64 many] w fun e w' => e = .returned (.bool true) ∧ Below w.heap.size w w' := by
  classical
  refine callsIn_wide.1 (?_ : CallsIn Fence.wide 6 _ _ _ _ _)
  by_cases hl : 70 < (l.length : Int)
  · exact sets_long F R n many l A c X hl w hT
  by_cases hv : vsz F R
  · by_cases H : ∀ j, j < l.length → vat F R (l[j]?.getD 0)
    · exact sets_in F R n many l A c X hX64 (by omega) hv (Lib.hid H) w hA hT
    · refine sets_bad F R n many l A c X hX64 (by omega) w hA hT (fun w' hb => of_bad F R l A c w' hv (by omega) ((hA.below hb).grow hb.size) H)
        (fun k => decide (∀ j, j < k → vat F R (l[j]?.getD 0))) (fun k => decide (vat F R (l[k]?.getD 0))) true (fun w' => refSize_yes F R hv w') (by simp) (Lib.hid ?_) (by simpa using H) (Lib.hid ?_)
      · intro k hk
        rw [Bool.eq_iff_iff, Bool.and_eq_true, decide_eq_true_iff, decide_eq_true_iff, decide_eq_true_iff]
        constructor
        · intro h
          exact ⟨fun j hj => h j (by omega), h k (by omega)⟩
        · rintro ⟨h1, h2⟩ j hj
          by_cases e : j = k
          · rw [e]; exact h2
          · exact h1 j (by omega)
      · intro k hk w'
        by_cases hq : vat F R (l[k]?.getD 0)
        · simp only [hq, decide_true]
          exact refValid_yes F R _ hq w'
        · simp only [hq, decide_false]
          exact refValid_no F R _ hq w'
  · exact sets_bad F R n many l A c X hX64 (by omega) w hA hT (fun w' _ => of_no F R _ w' hv) (fun _ => false) (fun _ => false) false (fun w' => refSize_no F R hv w') rfl (Lib.hid fun _ _ => rfl) rfl
      (Lib.hid fun k _ w' => refValid_no F R _ (fun h => hv h.1) w')

end Go.Proofs.YtidfefaakkpoaaaDoor
