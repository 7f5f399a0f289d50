/- Contracts of Valid, Count, onBoard, number, place and of their references: which answer each gives, and that nothing that lay before is changed. -/
import Derived.Test.YtolohfkenglpcaaDoorSqA
namespace Go.Proofs.YtolohfkenglpcaaDoor
open Go.RowKit

def vat (F R a : Int) : Prop := vsz F R ∧ 0 ≤ a ∧ a < F * R

theorem chain {a b c : World} (h : Below a.heap.size a b) (k : Below b.heap.size b c) : Below a.heap.size a c := h.trans (k.mono h.size)
theorem after1 {w w1 : World} {o : Obj} (k : Below (w.alloc o).heap.size (w.alloc o) w1) : Below w.heap.size w w1 := chain (box1 _ _) k
theorem after2 {w w1 : World} {o o2 : Obj} (k : Below ((w.alloc o).alloc o2).heap.size ((w.alloc o).alloc o2) w1) : Below w.heap.size w w1 := chain (box1 _ _) (after1 k)
theorem drawn {a w : World} (h : Below a.heap.size a w) (n : Nat) : Below a.heap.size a (w.drewN n) := ⟨h.os, h.tape, h.output, h.size, h.block⟩

set_option maxRecDepth 100000 in
set_option maxHeartbeats 400000 in
theorem valid_yes (F R a : Int) (h : vat F R a) (w : World) :
    Calls Tryd.prog 40 #[.agg #[.int .i64 F, .int .i64 R], .int .i64 a] w fun e w' => e = .returned (.bool true) ∧ Below w.heap.size w w' := by
  obtain ⟨hv, h0, h1⟩ := h
  obtain ⟨m0, m1⟩ := vsz_mul hv
  go_enter Tryd.func40, Tryd.ntmps40
  go_wp2_with fail
  refine (validSize_yes _ _ hv _).mono ?_
  rintro e w1 ⟨rfl, hb⟩
  have hc0 := hb.cell (p := ⟨w.heap.size, 0, none⟩) (by simp)
  have hc1 := hb.cell (p := ⟨w.heap.size, 1, none⟩) (by simp)
  go_wp2
  go_ret
  exact ⟨rfl, after1 hb⟩

set_option maxRecDepth 100000 in
set_option maxHeartbeats 400000 in
theorem valid_no (F R a : Int) (h : ¬ vat F R a) (w : World) :
    Calls Tryd.prog 40 #[.agg #[.int .i64 F, .int .i64 R], .int .i64 a] w fun e w' => e = .returned (.bool false) ∧ Below w.heap.size w w' := by
  unfold vat at h
  by_cases hv : vsz F R
  · obtain ⟨m0, m1⟩ := vsz_mul hv
    by_cases h0 : 0 ≤ a
    · have h1 : F * R ≤ a := Int.not_lt.1 fun h1 => h ⟨hv, h0, h1⟩
      have hd : decide (a < F * R) = false := decide_eq_false (by omega)
      clear h
      go_enter Tryd.func40, Tryd.ntmps40
      go_wp2_with fail
      refine (validSize_yes _ _ hv _).mono ?_
      rintro e w1 ⟨rfl, hb⟩
      have hc0 := hb.cell (p := ⟨w.heap.size, 0, none⟩) (by simp)
      have hc1 := hb.cell (p := ⟨w.heap.size, 1, none⟩) (by simp)
      go_wp2
      go_ret
      exact ⟨rfl, after1 hb⟩
    · have h0' : a < 0 := by omega
      clear h h0
      go_enter Tryd.func40, Tryd.ntmps40
      go_wp2_with fail
      refine (validSize_yes _ _ hv _).mono ?_
      rintro e w1 ⟨rfl, hb⟩
      go_wp2
      go_ret
      exact ⟨rfl, after1 hb⟩
  · clear h
    go_enter Tryd.func40, Tryd.ntmps40
    go_wp2_with fail
    refine (validSize_no _ _ hv _).mono ?_
    rintro e w1 ⟨rfl, hb⟩
    go_wp2
    go_ret
    exact ⟨rfl, after1 hb⟩

set_option maxRecDepth 100000 in
set_option maxHeartbeats 400000 in
theorem refValid_yes (F R a : Int) (h : vat F R a) (w : World) :
    Calls Tryd.prog 21 #[.agg #[.int .i64 F, .int .i64 R], .int .i64 a] w fun e w' => e = .returned (.bool true) ∧ Below w.heap.size w w' := by
  obtain ⟨hv, h0, h1⟩ := h
  obtain ⟨m0, m1⟩ := vsz_mul hv
  go_enter Tryd.func21, Tryd.ntmps21
  go_wp2_with fail
  refine (refSize_yes _ _ hv _).mono ?_
  rintro e w1 ⟨rfl, hb⟩
  have hc0 := hb.cell (p := ⟨w.heap.size, 0, none⟩) (by simp)
  have hc1 := hb.cell (p := ⟨w.heap.size, 1, none⟩) (by simp)
  go_wp2
  go_ret
  exact ⟨rfl, after1 hb⟩

set_option maxRecDepth 100000 in
set_option maxHeartbeats 400000 in
theorem refValid_no (F R a : Int) (h : ¬ vat F R a) (w : World) :
    Calls Tryd.prog 21 #[.agg #[.int .i64 F, .int .i64 R], .int .i64 a] w fun e w' => e = .returned (.bool false) ∧ Below w.heap.size w w' := by
  unfold vat at h
  by_cases hv : vsz F R
  · obtain ⟨m0, m1⟩ := vsz_mul hv
    by_cases h0 : 0 ≤ a
    · have h1 : F * R ≤ a := Int.not_lt.1 fun h1 => h ⟨hv, h0, h1⟩
      have hd : decide (a < F * R) = false := decide_eq_false (by omega)
      clear h
      go_enter Tryd.func21, Tryd.ntmps21
      go_wp2_with fail
      refine (refSize_yes _ _ hv _).mono ?_
      rintro e w1 ⟨rfl, hb⟩
      have hc0 := hb.cell (p := ⟨w.heap.size, 0, none⟩) (by simp)
      have hc1 := hb.cell (p := ⟨w.heap.size, 1, none⟩) (by simp)
      go_wp2
      go_ret
      exact ⟨rfl, after1 hb⟩
    · have h0' : a < 0 := by omega
      clear h h0
      go_enter Tryd.func21, Tryd.ntmps21
      go_wp2_with fail
      refine (refSize_yes _ _ hv _).mono ?_
      rintro e w1 ⟨rfl, hb⟩
      go_wp2
      go_ret
      exact ⟨rfl, after1 hb⟩
  · clear h
    go_enter Tryd.func21, Tryd.ntmps21
    go_wp2_with fail
    refine (refSize_no _ _ hv _).mono ?_
    rintro e w1 ⟨rfl, hb⟩
    go_wp2
    go_ret
    exact ⟨rfl, after1 hb⟩

set_option maxRecDepth 100000 in
set_option maxHeartbeats 400000 in
theorem count_yes (F R : Int) (hv : vsz F R) (w : World) :
    Calls Tryd.prog 37 #[.agg #[.int .i64 F, .int .i64 R]] w fun e w' => e = .returned (.tuple #[.int .i64 (F * R), .int .i64 0]) ∧ Below w.heap.size w w' := by
  obtain ⟨m0, m1⟩ := vsz_mul hv
  go_enter Tryd.func37, Tryd.ntmps37
  go_wp2_with fail
  refine (validSize_yes _ _ hv _).mono ?_
  rintro e w1 ⟨rfl, hb⟩
  have hc0 := hb.cell (p := ⟨w.heap.size, 0, none⟩) (by simp)
  have hc1 := hb.cell (p := ⟨w.heap.size, 1, none⟩) (by simp)
  go_wp2
  go_ret2
  exact ⟨rfl, after1 hb⟩

set_option maxRecDepth 100000 in
set_option maxHeartbeats 400000 in
theorem count_no (F R : Int) (hv : ¬ vsz F R) (w : World) :
    Calls Tryd.prog 37 #[.agg #[.int .i64 F, .int .i64 R]] w fun e w' => e = .returned (.tuple #[.int .i64 0, .int .i64 2]) ∧ Below w.heap.size w w' := by
  go_enter Tryd.func37, Tryd.ntmps37
  go_wp2_with fail
  refine (validSize_no _ _ hv _).mono ?_
  rintro e w1 ⟨rfl, hb⟩
  go_wp2
  go_ret2
  exact ⟨rfl, after1 hb⟩

/-- a file and a rank on the board. -/
def onb (F R f r : Int) : Prop := 0 ≤ f ∧ f < F ∧ 0 ≤ r ∧ r < R

end Go.Proofs.YtolohfkenglpcaaDoor
