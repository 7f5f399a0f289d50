/- Contracts of Valid, Count, onBoard, number, place and of their references: which answer each gives, and that nothing that lay before is changed. -/
import Derived.Test.YtpcfgeggjfbfjaaDoorSqA
namespace Go.Proofs.YtpcfgeggjfbfjaaDoor
open Go.RowKit

def vat (F R a : Int) : Prop := vsz F R ∧ 0 ≤ a ∧ a < F * R

theorem chain {a b c : World} (h : Below a.heap.size a b) (k : Below b.heap.size b c) : Below a.heap.size a c := h.trans (k.mono h.size)
theorem after1 {w w1 : World} {o : Obj} (k : Below (w.alloc o).heap.size (w.alloc o) w1) : Below w.heap.size w w1 := chain (box1 _ _) k
theorem after2 {w w1 : World} {o o2 : Obj} (k : Below ((w.alloc o).alloc o2).heap.size ((w.alloc o).alloc o2) w1) : Below w.heap.size w w1 := chain (box1 _ _) (after1 k)
theorem drawn {a w : World} (h : Below a.heap.size a w) (n : Nat) : Below a.heap.size a (w.drewN n) := ⟨h.os, h.tape, h.output, h.size, h.block⟩

set_option maxRecDepth 100000 in
set_option maxHeartbeats 400000 in
theorem valid_yes (F R a : Int) (h : vat F R a) (w : World) :
    Calls Tryd.prog 24 #[.agg #[.int .i64 F, .int .i64 R], .int .i64 a] w fun e w' => e = .returned (.bool true) ∧ Below w.heap.size w w' := by
  obtain ⟨hv, h0, h1⟩ := h
  obtain ⟨m0, m1⟩ := vsz_mul hv
  go_enter Tryd.func24, Tryd.ntmps24
  go_wp2_with fail
  refine (validSize_yes _ _ hv _).mono ?_
  rintro e w1 ⟨rfl, hb⟩
  have hc0 := hb.cell (p := ⟨w.heap.size, 0, none⟩) (by simp)
  have hc1 := hb.cell (p := ⟨w.heap.size, 1, none⟩) (by simp)
  go_wp2
  go_ret
  exact ⟨rfl, after1 hb⟩

set_option maxRecDepth 100000 in
set_option maxHeartbeats 400000 in
theorem valid_no (F R a : Int) (h : ¬ vat F R a) (w : World) :
    Calls Tryd.prog 24 #[.agg #[.int .i64 F, .int .i64 R], .int .i64 a] w fun e w' => e = .returned (.bool false) ∧ Below w.heap.size w w' := by
  unfold vat at h
  by_cases hv : vsz F R
  · obtain ⟨m0, m1⟩ := vsz_mul hv
    by_cases h0 : 0 ≤ a
    · have h1 : F * R ≤ a := Int.not_lt.1 fun h1 => h ⟨hv, h0, h1⟩
      have hd : decide (a < F * R) = false := decide_eq_false (by omega)
      clear h
      go_enter Tryd.func24, Tryd.ntmps24
      go_wp2_with fail
      refine (validSize_yes _ _ hv _).mono ?_
      rintro e w1 ⟨rfl, hb⟩
      have hc0 := hb.cell (p := ⟨w.heap.size, 0, none⟩) (by simp)
      have hc1 := hb.cell (p := ⟨w.heap.size, 1, none⟩) (by simp)
      go_wp2
      go_ret
      exact ⟨rfl, after1 hb⟩
    · have h0' : a < 0 := by omega
      clear h h0
      go_enter Tryd.func24, Tryd.ntmps24
      go_wp2_with fail
      refine (validSize_yes _ _ hv _).mono ?_
      rintro e w1 ⟨rfl, hb⟩
      go_wp2
      go_ret
      exact ⟨rfl, after1 hb⟩
  · clear h
    go_enter Tryd.func24, Tryd.ntmps24
    go_wp2_with fail
    refine (validSize_no _ _ hv _).mono ?_
    rintro e w1 ⟨rfl, hb⟩
    go_wp2
    go_ret
    exact ⟨rfl, after1 hb⟩

set_option maxRecDepth 100000 in
set_option maxHeartbeats 400000 in
theorem refValid_yes (F R a : Int) (h : vat F R a) (w : World) :
    Calls Tryd.prog 26 #[.agg #[.int .i64 F, .int .i64 R], .int .i64 a] w fun e w' => e = .returned (.bool true) ∧ Below w.heap.size w w' := by
  obtain ⟨hv, h0, h1⟩ := h
  obtain ⟨m0, m1⟩ := vsz_mul hv
  go_enter Tryd.func26, Tryd.ntmps26
  go_wp2_with fail
  refine (refSize_yes _ _ hv _).mono ?_
  rintro e w1 ⟨rfl, hb⟩
  have hc0 := hb.cell (p := ⟨w.heap.size, 0, none⟩) (by simp)
  have hc1 := hb.cell (p := ⟨w.heap.size, 1, none⟩) (by simp)
  go_wp2
  go_ret
  exact ⟨rfl, after1 hb⟩

set_option maxRecDepth 100000 in
set_option maxHeartbeats 400000 in
theorem refValid_no (F R a : Int) (h : ¬ vat F R a) (w : World) :
    Calls Tryd.prog 26 #[.agg #[.int .i64 F, .int .i64 R], .int .i64 a] w fun e w' => e = .returned (.bool false) ∧ Below w.heap.size w w' := by
  unfold vat at h
  by_cases hv : vsz F R
  · obtain ⟨m0, m1⟩ := vsz_mul hv
    by_cases h0 : 0 ≤ a
    · have h1 : F * R ≤ a := Int.not_lt.1 fun h1 => h ⟨hv, h0, h1⟩
      have hd : decide (a < F * R) = false := decide_eq_false (by omega)
      clear h
      go_enter Tryd.func26, Tryd.ntmps26
      go_wp2_with fail
      refine (refSize_yes _ _ hv _).mono ?_
      rintro e w1 ⟨rfl, hb⟩
      have hc0 := hb.cell (p := ⟨w.heap.size, 0, none⟩) (by simp)
      have hc1 := hb.cell (p := ⟨w.heap.size, 1, none⟩) (by simp)
      go_wp2
      go_ret
      exact ⟨rfl, after1 hb⟩
    · have h0' : a < 0 := by omega
      clear h h0
      go_enter Tryd.func26, Tryd.ntmps26
      go_wp2_with fail
      refine (refSize_yes _ _ hv _).mono ?_
      rintro e w1 ⟨rfl, hb⟩
      go_wp2
      go_ret
      exact ⟨rfl, after1 hb⟩
  · clear h
    go_enter Tryd.func26, Tryd.ntmps26
    go_wp2_with fail
    refine (refSize_no _ _ hv _).mono ?_
    rintro e w1 ⟨rfl, hb⟩
    go_wp2
    go_ret
    exact ⟨rfl, after1 hb⟩

/-- a file and a rank on the board. -/
def onb (F R f r : Int) : Prop := 0 ≤ f ∧ f < F ∧ 0 ≤ r ∧ r < R

set_option maxRecDepth 100000 in
set_option maxHeartbeats 400000 in
theorem onBoard_yes (F R f r : Int) (h : onb F R f r) (w : World) :
    Calls Tryd.prog 46 #[.agg #[.int .i64 F, .int .i64 R], .int .i64 f, .int .i64 r] w fun e w' => e = .returned (.bool true) ∧ Below w.heap.size w w' := by
  obtain ⟨a, b, c, d⟩ := h
  go_enter Tryd.func46, Tryd.ntmps46
  go_wp2
  go_ret
  exact ⟨rfl, box1 _ _⟩

set_option maxRecDepth 100000 in
set_option maxHeartbeats 400000 in
theorem onBoard_no (F R f r : Int) (h : ¬ onb F R f r) (w : World) :
    Calls Tryd.prog 46 #[.agg #[.int .i64 F, .int .i64 R], .int .i64 f, .int .i64 r] w fun e w' => e = .returned (.bool false) ∧ Below w.heap.size w w' := by
  unfold onb at h
  have h4 : f < 0 ∨ (0 ≤ f ∧ F ≤ f) ∨ (0 ≤ f ∧ f < F ∧ r < 0) ∨ (0 ≤ f ∧ f < F ∧ 0 ≤ r ∧ R ≤ r) := by omega
  clear h
  rcases h4 with h | ⟨h, k⟩ | ⟨h, k, l⟩ | ⟨h, k, l, m⟩
  · go_enter Tryd.func46, Tryd.ntmps46
    go_wp2
    go_ret
    exact ⟨rfl, box1 _ _⟩
  · have hd : decide (f < F) = false := by simp; omega
    go_enter Tryd.func46, Tryd.ntmps46
    go_wp2
    go_ret
    exact ⟨rfl, box1 _ _⟩
  · go_enter Tryd.func46, Tryd.ntmps46
    go_wp2
    go_ret
    exact ⟨rfl, box1 _ _⟩
  · have hd : decide (r < R) = false := by simp; omega
    go_enter Tryd.func46, Tryd.ntmps46
    go_wp2
    go_ret
    exact ⟨rfl, box1 _ _⟩

set_option maxRecDepth 100000 in
set_option maxHeartbeats 400000 in
theorem number_any (F R f r : Int) (hv : vsz F R) (h : onb F R f r) (w : World) :
    Calls Tryd.prog 47 #[.agg #[.int .i64 F, .int .i64 R], .int .i64 f, .int .i64 r] w fun e w' => e = .returned (.int .i64 (f + r * F)) ∧ Below w.heap.size w w' := by
  obtain ⟨m0, m1⟩ := vsz_mul hv
  obtain ⟨a, b, c, d⟩ := h
  obtain ⟨n0, n1, n2, n3, n4⟩ := number_bd hv a b c d
  clear n3 n4
  go_enter Tryd.func47, Tryd.ntmps47
  go_wp2
  go_ret
  exact ⟨rfl, box1 _ _⟩

set_option maxRecDepth 100000 in
set_option maxHeartbeats 400000 in
theorem place_any (F R a : Int) (h : vat F R a) (w : World) :
    Calls Tryd.prog 42 #[.agg #[.int .i64 F, .int .i64 R], .int .i64 a] w fun e w' => e = .returned (.tuple #[.int .i64 (a % F), .int .i64 (a / F)]) ∧ Below w.heap.size w w' := by
  obtain ⟨hv, h0, h1⟩ := h
  obtain ⟨m0, m1⟩ := vsz_mul hv
  obtain ⟨p0, p1, p2, p3⟩ := place_bd hv h0 h1
  obtain ⟨f1, f2, r1, r2⟩ := hv
  have hne : ¬ F = 0 := by omega
  go_enter Tryd.func42, Tryd.ntmps42
  go_wp2
  go_quiet (fail)
  go_wp2
  go_ret2
  exact ⟨rfl, drawn (box1 _ _) _⟩

end Go.Proofs.YtpcfgeggjfbfjaaDoor
