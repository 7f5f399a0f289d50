/- Contracts of the small functions of package square and its reference: sizes, squares, places. No conditions beyond the ranges named in each. -/
import Derived.Test.YtelkmdklpcfobaaGreatDoorProg
import Derived.WalkKit
import Derived.WalkSpells
import Derived.WalkLawsBesides
import Derived.BigQuiet
import Derived.Deep.QuietTactic
import Derived.Handy

namespace Go.Proofs.YtelkmdklpcfobaaGreatDoor
open Go.RowKit

/-- a valid size. -/
def vsz (F R : Int) : Prop := 3 ≤ F ∧ F ≤ 8 ∧ 3 ≤ R ∧ R ≤ 8

theorem vsz_mul {F R : Int} (h : vsz F R) : 9 ≤ F * R ∧ F * R ≤ 64 := by
  obtain ⟨a, b, c, d⟩ := h
  have : F = 3 ∨ F = 4 ∨ F = 5 ∨ F = 6 ∨ F = 7 ∨ F = 8 := by omega
  rcases this with rfl | rfl | rfl | rfl | rfl | rfl <;> omega

theorem place_bd {F R a : Int} (h : vsz F R) (h0 : 0 ≤ a) (h1 : a < F * R) : 0 ≤ a % F ∧ a % F < F ∧ 0 ≤ a / F ∧ a / F < R := by
  obtain ⟨p, q, c, d⟩ := h
  have : F = 3 ∨ F = 4 ∨ F = 5 ∨ F = 6 ∨ F = 7 ∨ F = 8 := by omega
  rcases this with rfl | rfl | rfl | rfl | rfl | rfl <;> omega

theorem place_eq {F R a : Int} (h : vsz F R) : a % F + a / F * F = a := by
  obtain ⟨p, q, c, d⟩ := h
  have : F = 3 ∨ F = 4 ∨ F = 5 ∨ F = 6 ∨ F = 7 ∨ F = 8 := by omega
  rcases this with rfl | rfl | rfl | rfl | rfl | rfl <;> omega

theorem number_bd {F R f r : Int} (h : vsz F R) (f0 : 0 ≤ f) (f1 : f < F) (r0 : 0 ≤ r) (r1 : r < R) : 0 ≤ r * F ∧ r * F ≤ 56 ∧ f + r * F < F * R ∧ (f + r * F) % F = f ∧ (f + r * F) / F = r := by
  obtain ⟨p, q, c, d⟩ := h
  have : F = 3 ∨ F = 4 ∨ F = 5 ∨ F = 6 ∨ F = 7 ∨ F = 8 := by omega
  rcases this with rfl | rfl | rfl | rfl | rfl | rfl <;> omega

theorem ret_bool {a b : Bool} (h : a = b) : Ending.returned (.bool a) = .returned (.bool b) := by rw [h]
theorem ret_int {k : IntKind} {a b : Int} (h : a = b) : Ending.returned (.int k a) = .returned (.int k b) := by rw [h]
theorem ret2 {a b c d : Value} (h : a = b) (k : c = d) : Ending.returned (.tuple #[a, c]) = .returned (.tuple #[b, d]) := by rw [h, k]
theorem vint {k : IntKind} {a b : Int} (h : a = b) : Value.int k a = .int k b := by rw [h]
theorem vbool {a b : Bool} (h : a = b) : Value.bool a = .bool b := by rw [h]
theorem box1 (w : World) (o : Obj) : Below w.heap.size w (w.alloc o) := (Below.refl _ _).alloc (Nat.le_refl _) _

set_option maxRecDepth 100000 in
set_option maxHeartbeats 400000 in
theorem validSide_yes (n : Int) (h : 3 ≤ n) (h2 : n ≤ 8) (w : World) :
    Calls Tryz.prog 129 #[.int .i64 n] w fun e w' => e = .returned (.bool true) ∧ w = w' := by
  go_enter Tryz.func129, Tryz.ntmps129
  go_wp2
  go_ret
  exact ⟨rfl, rfl⟩

set_option maxRecDepth 100000 in
set_option maxHeartbeats 400000 in
theorem validSide_no (n : Int) (h : n < 3 ∨ 8 < n) (w : World) :
    Calls Tryz.prog 129 #[.int .i64 n] w fun e w' => e = .returned (.bool false) ∧ w = w' := by
  rcases h with h | h
  · go_enter Tryz.func129, Tryz.ntmps129
    go_wp2
    go_ret
    exact ⟨rfl, rfl⟩
  · have h' : 3 ≤ n := by omega
    have hd : decide (n ≤ 8) = false := by simp; omega
    go_enter Tryz.func129, Tryz.ntmps129
    go_wp2
    go_ret
    exact ⟨rfl, rfl⟩

set_option maxRecDepth 100000 in
set_option maxHeartbeats 400000 in
theorem validSize_yes (F R : Int) (h : vsz F R) (w : World) :
    Calls Tryz.prog 97 #[.agg #[.int .i64 F, .int .i64 R]] w fun e w' => e = .returned (.bool true) ∧ Below w.heap.size w w' := by
  obtain ⟨f1, f2, r1, r2⟩ := h
  go_enter Tryz.func97, Tryz.ntmps97
  go_wp2_with (go_at_call 129; refine (validSide_yes _ (by omega) (by omega) _).mono ?_; rintro e w' ⟨rfl, rfl⟩)
  go_ret
  exact ⟨rfl, box1 _ _⟩

set_option maxRecDepth 100000 in
set_option maxHeartbeats 400000 in
theorem validSize_no (F R : Int) (h : ¬ vsz F R) (w : World) :
    Calls Tryz.prog 97 #[.agg #[.int .i64 F, .int .i64 R]] w fun e w' => e = .returned (.bool false) ∧ Below w.heap.size w w' := by
  unfold vsz at h
  by_cases hF : 3 ≤ F ∧ F ≤ 8
  · have hR : R < 3 ∨ 8 < R := by omega
    go_enter Tryz.func97, Tryz.ntmps97
    go_wp2_with fail
    refine (validSide_yes _ (by omega) (by omega) _).mono ?_
    rintro e w' ⟨rfl, rfl⟩
    go_wp2_with fail
    refine (validSide_no _ hR _).mono ?_
    rintro e w' ⟨rfl, rfl⟩
    go_wp2
    go_ret
    exact ⟨rfl, box1 _ _⟩
  · have hF' : F < 3 ∨ 8 < F := by omega
    go_enter Tryz.func97, Tryz.ntmps97
    go_wp2_with fail
    refine (validSide_no _ hF' _).mono ?_
    rintro e w' ⟨rfl, rfl⟩
    go_wp2
    go_ret
    exact ⟨rfl, box1 _ _⟩

set_option maxRecDepth 100000 in
set_option maxHeartbeats 400000 in
theorem refSize_yes (F R : Int) (h : vsz F R) (w : World) :
    Calls Tryz.prog 109 #[.agg #[.int .i64 F, .int .i64 R]] w fun e w' => e = .returned (.bool true) ∧ Below w.heap.size w w' := by
  obtain ⟨f1, f2, r1, r2⟩ := h
  go_enter Tryz.func109, Tryz.ntmps109
  go_wp2
  go_ret
  exact ⟨rfl, box1 _ _⟩

set_option maxRecDepth 100000 in
set_option maxHeartbeats 400000 in
theorem refSize_no (F R : Int) (h : ¬ vsz F R) (w : World) :
    Calls Tryz.prog 109 #[.agg #[.int .i64 F, .int .i64 R]] w fun e w' => e = .returned (.bool false) ∧ Below w.heap.size w w' := by
  unfold vsz at h
  have h4 : F < 3 ∨ (3 ≤ F ∧ 8 < F) ∨ (3 ≤ F ∧ F ≤ 8 ∧ R < 3) ∨ (3 ≤ F ∧ F ≤ 8 ∧ 3 ≤ R ∧ 8 < R) := by omega
  clear h
  rcases h4 with h | ⟨h, k⟩ | ⟨h, k, l⟩ | ⟨h, k, l, m⟩
  · go_enter Tryz.func109, Tryz.ntmps109
    go_wp2
    go_ret
    exact ⟨rfl, box1 _ _⟩
  · have hd : decide (F ≤ 8) = false := by simp; omega
    go_enter Tryz.func109, Tryz.ntmps109
    go_wp2
    go_ret
    exact ⟨rfl, box1 _ _⟩
  · go_enter Tryz.func109, Tryz.ntmps109
    go_wp2
    go_ret
    exact ⟨rfl, box1 _ _⟩
  · have hd : decide (R ≤ 8) = false := by simp; omega
    go_enter Tryz.func109, Tryz.ntmps109
    go_wp2
    go_ret
    exact ⟨rfl, box1 _ _⟩

end Go.Proofs.YtelkmdklpcfobaaGreatDoor

/- Contracts of Valid, Count, onBoard, number, place and of their references: which answer each gives, and that nothing that lay before is changed. -/
namespace Go.Proofs.YtelkmdklpcfobaaGreatDoor
open Go.RowKit

def vat (F R a : Int) : Prop := vsz F R ∧ 0 ≤ a ∧ a < F * R

theorem chain {a b c : World} (h : Below a.heap.size a b) (k : Below b.heap.size b c) : Below a.heap.size a c := h.trans (k.mono h.size)
theorem after1 {w w1 : World} {o : Obj} (k : Below (w.alloc o).heap.size (w.alloc o) w1) : Below w.heap.size w w1 := chain (box1 _ _) k
theorem after2 {w w1 : World} {o o2 : Obj} (k : Below ((w.alloc o).alloc o2).heap.size ((w.alloc o).alloc o2) w1) : Below w.heap.size w w1 := chain (box1 _ _) (after1 k)
theorem drawn {a w : World} (h : Below a.heap.size a w) (n : Nat) : Below a.heap.size a (w.drewN n) := ⟨h.os, h.tape, h.output, h.size, h.block⟩

set_option maxRecDepth 100000 in
set_option maxHeartbeats 400000 in
theorem valid_yes (F R a : Int) (h : vat F R a) (w : World) :
    Calls Tryz.prog 107 #[.agg #[.int .i64 F, .int .i64 R], .int .i64 a] w fun e w' => e = .returned (.bool true) ∧ Below w.heap.size w w' := by
  obtain ⟨hv, h0, h1⟩ := h
  obtain ⟨m0, m1⟩ := vsz_mul hv
  go_enter Tryz.func107, Tryz.ntmps107
  go_wp2_with fail
  refine (validSize_yes _ _ hv _).mono ?_
  rintro e w1 ⟨rfl, hb⟩
  have hc0 := hb.cell (p := ⟨w.heap.size, 0, none⟩) (by simp)
  have hc1 := hb.cell (p := ⟨w.heap.size, 1, none⟩) (by simp)
  go_wp2
  go_ret
  exact ⟨rfl, after1 hb⟩

set_option maxRecDepth 100000 in
set_option maxHeartbeats 400000 in
theorem valid_no (F R a : Int) (h : ¬ vat F R a) (w : World) :
    Calls Tryz.prog 107 #[.agg #[.int .i64 F, .int .i64 R], .int .i64 a] w fun e w' => e = .returned (.bool false) ∧ Below w.heap.size w w' := by
  unfold vat at h
  by_cases hv : vsz F R
  · obtain ⟨m0, m1⟩ := vsz_mul hv
    by_cases h0 : 0 ≤ a
    · have h1 : F * R ≤ a := Int.not_lt.1 fun h1 => h ⟨hv, h0, h1⟩
      have hd : decide (a < F * R) = false := decide_eq_false (by omega)
      clear h
      go_enter Tryz.func107, Tryz.ntmps107
      go_wp2_with fail
      refine (validSize_yes _ _ hv _).mono ?_
      rintro e w1 ⟨rfl, hb⟩
      have hc0 := hb.cell (p := ⟨w.heap.size, 0, none⟩) (by simp)
      have hc1 := hb.cell (p := ⟨w.heap.size, 1, none⟩) (by simp)
      go_wp2
      go_ret
      exact ⟨rfl, after1 hb⟩
    · have h0' : a < 0 := by omega
      clear h h0
      go_enter Tryz.func107, Tryz.ntmps107
      go_wp2_with fail
      refine (validSize_yes _ _ hv _).mono ?_
      rintro e w1 ⟨rfl, hb⟩
      go_wp2
      go_ret
      exact ⟨rfl, after1 hb⟩
  · clear h
    go_enter Tryz.func107, Tryz.ntmps107
    go_wp2_with fail
    refine (validSize_no _ _ hv _).mono ?_
    rintro e w1 ⟨rfl, hb⟩
    go_wp2
    go_ret
    exact ⟨rfl, after1 hb⟩

set_option maxRecDepth 100000 in
set_option maxHeartbeats 400000 in
theorem refValid_yes (F R a : Int) (h : vat F R a) (w : World) :
    Calls Tryz.prog 82 #[.agg #[.int .i64 F, .int .i64 R], .int .i64 a] w fun e w' => e = .returned (.bool true) ∧ Below w.heap.size w w' := by
  obtain ⟨hv, h0, h1⟩ := h
  obtain ⟨m0, m1⟩ := vsz_mul hv
  go_enter Tryz.func82, Tryz.ntmps82
  go_wp2_with fail
  refine (refSize_yes _ _ hv _).mono ?_
  rintro e w1 ⟨rfl, hb⟩
  have hc0 := hb.cell (p := ⟨w.heap.size, 0, none⟩) (by simp)
  have hc1 := hb.cell (p := ⟨w.heap.size, 1, none⟩) (by simp)
  go_wp2
  go_ret
  exact ⟨rfl, after1 hb⟩

set_option maxRecDepth 100000 in
set_option maxHeartbeats 400000 in
theorem refValid_no (F R a : Int) (h : ¬ vat F R a) (w : World) :
    Calls Tryz.prog 82 #[.agg #[.int .i64 F, .int .i64 R], .int .i64 a] w fun e w' => e = .returned (.bool false) ∧ Below w.heap.size w w' := by
  unfold vat at h
  by_cases hv : vsz F R
  · obtain ⟨m0, m1⟩ := vsz_mul hv
    by_cases h0 : 0 ≤ a
    · have h1 : F * R ≤ a := Int.not_lt.1 fun h1 => h ⟨hv, h0, h1⟩
      have hd : decide (a < F * R) = false := decide_eq_false (by omega)
      clear h
      go_enter Tryz.func82, Tryz.ntmps82
      go_wp2_with fail
      refine (refSize_yes _ _ hv _).mono ?_
      rintro e w1 ⟨rfl, hb⟩
      have hc0 := hb.cell (p := ⟨w.heap.size, 0, none⟩) (by simp)
      have hc1 := hb.cell (p := ⟨w.heap.size, 1, none⟩) (by simp)
      go_wp2
      go_ret
      exact ⟨rfl, after1 hb⟩
    · have h0' : a < 0 := by omega
      clear h h0
      go_enter Tryz.func82, Tryz.ntmps82
      go_wp2_with fail
      refine (refSize_yes _ _ hv _).mono ?_
      rintro e w1 ⟨rfl, hb⟩
      go_wp2
      go_ret
      exact ⟨rfl, after1 hb⟩
  · clear h
    go_enter Tryz.func82, Tryz.ntmps82
    go_wp2_with fail
    refine (refSize_no _ _ hv _).mono ?_
    rintro e w1 ⟨rfl, hb⟩
    go_wp2
    go_ret
    exact ⟨rfl, after1 hb⟩

set_option maxRecDepth 100000 in
set_option maxHeartbeats 400000 in
theorem count_yes (F R : Int) (hv : vsz F R) (w : World) :
    Calls Tryz.prog 115 #[.agg #[.int .i64 F, .int .i64 R]] w fun e w' => e = .returned (.tuple #[.int .i64 (F * R), .int .i64 0]) ∧ Below w.heap.size w w' := by
  obtain ⟨m0, m1⟩ := vsz_mul hv
  go_enter Tryz.func115, Tryz.ntmps115
  go_wp2_with fail
  refine (validSize_yes _ _ hv _).mono ?_
  rintro e w1 ⟨rfl, hb⟩
  have hc0 := hb.cell (p := ⟨w.heap.size, 0, none⟩) (by simp)
  have hc1 := hb.cell (p := ⟨w.heap.size, 1, none⟩) (by simp)
  go_wp2
  go_ret2
  exact ⟨rfl, after1 hb⟩

set_option maxRecDepth 100000 in
set_option maxHeartbeats 400000 in
theorem count_no (F R : Int) (hv : ¬ vsz F R) (w : World) :
    Calls Tryz.prog 115 #[.agg #[.int .i64 F, .int .i64 R]] w fun e w' => e = .returned (.tuple #[.int .i64 0, .int .i64 2]) ∧ Below w.heap.size w w' := by
  go_enter Tryz.func115, Tryz.ntmps115
  go_wp2_with fail
  refine (validSize_no _ _ hv _).mono ?_
  rintro e w1 ⟨rfl, hb⟩
  go_wp2
  go_ret2
  exact ⟨rfl, after1 hb⟩

/-- a file and a rank on the board. -/
def onb (F R f r : Int) : Prop := 0 ≤ f ∧ f < F ∧ 0 ≤ r ∧ r < R

set_option maxRecDepth 100000 in
set_option maxHeartbeats 400000 in
theorem onBoard_yes (F R f r : Int) (h : onb F R f r) (w : World) :
    Calls Tryz.prog 136 #[.agg #[.int .i64 F, .int .i64 R], .int .i64 f, .int .i64 r] w fun e w' => e = .returned (.bool true) ∧ Below w.heap.size w w' := by
  obtain ⟨a, b, c, d⟩ := h
  go_enter Tryz.func136, Tryz.ntmps136
  go_wp2
  go_ret
  exact ⟨rfl, box1 _ _⟩

set_option maxRecDepth 100000 in
set_option maxHeartbeats 400000 in
theorem onBoard_no (F R f r : Int) (h : ¬ onb F R f r) (w : World) :
    Calls Tryz.prog 136 #[.agg #[.int .i64 F, .int .i64 R], .int .i64 f, .int .i64 r] w fun e w' => e = .returned (.bool false) ∧ Below w.heap.size w w' := by
  unfold onb at h
  have h4 : f < 0 ∨ (0 ≤ f ∧ F ≤ f) ∨ (0 ≤ f ∧ f < F ∧ r < 0) ∨ (0 ≤ f ∧ f < F ∧ 0 ≤ r ∧ R ≤ r) := by omega
  clear h
  rcases h4 with h | ⟨h, k⟩ | ⟨h, k, l⟩ | ⟨h, k, l, m⟩
  · go_enter Tryz.func136, Tryz.ntmps136
    go_wp2
    go_ret
    exact ⟨rfl, box1 _ _⟩
  · have hd : decide (f < F) = false := by simp; omega
    go_enter Tryz.func136, Tryz.ntmps136
    go_wp2
    go_ret
    exact ⟨rfl, box1 _ _⟩
  · go_enter Tryz.func136, Tryz.ntmps136
    go_wp2
    go_ret
    exact ⟨rfl, box1 _ _⟩
  · have hd : decide (r < R) = false := by simp; omega
    go_enter Tryz.func136, Tryz.ntmps136
    go_wp2
    go_ret
    exact ⟨rfl, box1 _ _⟩

set_option maxRecDepth 100000 in
set_option maxHeartbeats 400000 in
theorem number_any (F R f r : Int) (hv : vsz F R) (h : onb F R f r) (w : World) :
    Calls Tryz.prog 137 #[.agg #[.int .i64 F, .int .i64 R], .int .i64 f, .int .i64 r] w fun e w' => e = .returned (.int .i64 (f + r * F)) ∧ Below w.heap.size w w' := by
  obtain ⟨m0, m1⟩ := vsz_mul hv
  obtain ⟨a, b, c, d⟩ := h
  obtain ⟨n0, n1, n2, n3, n4⟩ := number_bd hv a b c d
  clear n3 n4
  go_enter Tryz.func137, Tryz.ntmps137
  go_wp2
  go_ret
  exact ⟨rfl, box1 _ _⟩

set_option maxRecDepth 100000 in
set_option maxHeartbeats 400000 in
theorem place_any (F R a : Int) (h : vat F R a) (w : World) :
    Calls Tryz.prog 108 #[.agg #[.int .i64 F, .int .i64 R], .int .i64 a] w fun e w' => e = .returned (.tuple #[.int .i64 (a % F), .int .i64 (a / F)]) ∧ Below w.heap.size w w' := by
  obtain ⟨hv, h0, h1⟩ := h
  obtain ⟨m0, m1⟩ := vsz_mul hv
  obtain ⟨p0, p1, p2, p3⟩ := place_bd hv h0 h1
  obtain ⟨f1, f2, r1, r2⟩ := hv
  have hne : ¬ F = 0 := by omega
  go_enter Tryz.func108, Tryz.ntmps108
  go_wp2
  go_quiet (fail)
  go_wp2
  go_ret2
  exact ⟨rfl, drawn (box1 _ _) _⟩

end Go.Proofs.YtelkmdklpcfobaaGreatDoor

/- Contracts of At, Place, Light, Distance and of their references: which answer each gives, and that nothing that lay before is changed. -/
namespace Go.Proofs.YtelkmdklpcfobaaGreatDoor
open Go.RowKit

set_option maxRecDepth 100000 in
set_option maxHeartbeats 400000 in
theorem at_yes (F R f r : Int) (hv : vsz F R) (h : onb F R f r) (w : World) :
    Calls Tryz.prog 202 #[.agg #[.int .i64 F, .int .i64 R], .int .i64 f, .int .i64 r] w fun e w' => e = .returned (.tuple #[.int .i64 (f + r * F), .int .i64 0]) ∧ Below w.heap.size w w' := by
  go_enter Tryz.func202, Tryz.ntmps202
  go_wp2_with fail
  refine (validSize_yes _ _ hv _).mono ?_
  rintro e w1 ⟨rfl, hb⟩
  have hc0 := hb.cell (p := ⟨w.heap.size, 0, none⟩) (by simp)
  have hc1 := hb.cell (p := ⟨w.heap.size, 1, none⟩) (by simp)
  go_wp2_with fail
  refine (onBoard_yes _ _ _ _ h _).mono ?_
  rintro e w2 ⟨rfl, hb2⟩
  have hs := hb.size
  simp at hs
  have hd0 := hb2.cell (p := ⟨w.heap.size, 0, none⟩) (by simp; omega)
  have hd1 := hb2.cell (p := ⟨w.heap.size, 1, none⟩) (by simp; omega)
  go_wp2_with fail
  refine (number_any _ _ _ _ hv h _).mono ?_
  rintro e w3 ⟨rfl, hb3⟩
  go_wp2
  go_ret2
  exact ⟨rfl, after1 (chain (chain hb hb2) hb3)⟩

set_option maxRecDepth 100000 in
set_option maxHeartbeats 400000 in
theorem at_off (F R f r : Int) (hv : vsz F R) (h : ¬ onb F R f r) (w : World) :
    Calls Tryz.prog 202 #[.agg #[.int .i64 F, .int .i64 R], .int .i64 f, .int .i64 r] w fun e w' => e = .returned (.tuple #[.int .i64 0, .int .i64 3]) ∧ Below w.heap.size w w' := by
  go_enter Tryz.func202, Tryz.ntmps202
  go_wp2_with fail
  refine (validSize_yes _ _ hv _).mono ?_
  rintro e w1 ⟨rfl, hb⟩
  have hc0 := hb.cell (p := ⟨w.heap.size, 0, none⟩) (by simp)
  have hc1 := hb.cell (p := ⟨w.heap.size, 1, none⟩) (by simp)
  go_wp2_with fail
  refine (onBoard_no _ _ _ _ h _).mono ?_
  rintro e w2 ⟨rfl, hb2⟩
  go_wp2
  go_ret2
  exact ⟨rfl, after1 (chain hb hb2)⟩

set_option maxRecDepth 100000 in
set_option maxHeartbeats 400000 in
theorem at_no (F R f r : Int) (hv : ¬ vsz F R) (w : World) :
    Calls Tryz.prog 202 #[.agg #[.int .i64 F, .int .i64 R], .int .i64 f, .int .i64 r] w fun e w' => e = .returned (.tuple #[.int .i64 0, .int .i64 2]) ∧ Below w.heap.size w w' := by
  go_enter Tryz.func202, Tryz.ntmps202
  go_wp2_with fail
  refine (validSize_no _ _ hv _).mono ?_
  rintro e w1 ⟨rfl, hb⟩
  go_wp2
  go_ret2
  exact ⟨rfl, after1 hb⟩

set_option maxRecDepth 100000 in
set_option maxHeartbeats 400000 in
theorem placeX_yes (F R a : Int) (h : vat F R a) (w : World) :
    Calls Tryz.prog 75 #[.agg #[.int .i64 F, .int .i64 R], .int .i64 a] w fun e w' => e = .returned (.tuple #[.int .i64 (a % F), .int .i64 (a / F), .int .i64 0]) ∧ Below w.heap.size w w' := by
  go_enter Tryz.func75, Tryz.ntmps75
  go_wp2_with fail
  refine (valid_yes _ _ _ h _).mono ?_
  rintro e w1 ⟨rfl, hb⟩
  have hc0 := hb.cell (p := ⟨w.heap.size, 0, none⟩) (by simp)
  have hc1 := hb.cell (p := ⟨w.heap.size, 1, none⟩) (by simp)
  go_wp2_with fail
  refine (place_any _ _ _ h _).mono ?_
  rintro e w2 ⟨rfl, hb2⟩
  go_wp2
  go_ret3
  exact ⟨rfl, after1 (chain hb hb2)⟩

set_option maxRecDepth 100000 in
set_option maxHeartbeats 400000 in
theorem placeX_no (F R a : Int) (h : ¬ vat F R a) (w : World) :
    Calls Tryz.prog 75 #[.agg #[.int .i64 F, .int .i64 R], .int .i64 a] w fun e w' => e = .returned (.tuple #[.int .i64 0, .int .i64 0, .int .i64 2]) ∧ Below w.heap.size w w' := by
  go_enter Tryz.func75, Tryz.ntmps75
  go_wp2_with fail
  refine (valid_no _ _ _ h _).mono ?_
  rintro e w1 ⟨rfl, hb⟩
  go_wp2
  go_ret3
  exact ⟨rfl, after1 hb⟩

set_option maxRecDepth 100000 in
set_option maxHeartbeats 400000 in
theorem refNumber_yes (F R f r : Int) (hv : vsz F R) (h : onb F R f r) (w : World) :
    Calls Tryz.prog 84 #[.agg #[.int .i64 F, .int .i64 R], .int .i64 f, .int .i64 r] w fun e w' => e = .returned (.int .i64 (r * F + f)) ∧ Below w.heap.size w w' := by
  obtain ⟨a, b, c, d⟩ := h
  obtain ⟨n0, n1, n2, n3, n4⟩ := number_bd hv a b c d
  obtain ⟨m0, m1⟩ := vsz_mul hv
  clear n3 n4
  go_enter Tryz.func84, Tryz.ntmps84
  go_wp2
  go_ret
  exact ⟨rfl, box1 _ _⟩

set_option maxRecDepth 100000 in
set_option maxHeartbeats 400000 in
theorem refNumber_no (F R f r : Int) (h : ¬ onb F R f r) (w : World) :
    Calls Tryz.prog 84 #[.agg #[.int .i64 F, .int .i64 R], .int .i64 f, .int .i64 r] w fun e w' => e = .returned (.int .i64 (-1)) ∧ Below w.heap.size w w' := by
  unfold onb at h
  have h4 : f < 0 ∨ (0 ≤ f ∧ F ≤ f) ∨ (0 ≤ f ∧ f < F ∧ r < 0) ∨ (0 ≤ f ∧ f < F ∧ 0 ≤ r ∧ R ≤ r) := by omega
  clear h
  rcases h4 with h | ⟨h, k⟩ | ⟨h, k, l⟩ | ⟨h, k, l, m⟩
  all_goals
    go_enter Tryz.func84, Tryz.ntmps84
    go_wp2
    go_ret
    exact ⟨rfl, box1 _ _⟩

set_option maxRecDepth 100000 in
set_option maxHeartbeats 400000 in
theorem refPlace_any (F R a : Int) (h : vat F R a) (w : World) :
    Calls Tryz.prog 45 #[.agg #[.int .i64 F, .int .i64 R], .int .i64 a] w fun e w' => e = .returned (.agg #[.int .i64 (a % F), .int .i64 (a / F)]) ∧ Below w.heap.size w w' := by
  obtain ⟨hv, h0, h1⟩ := h
  obtain ⟨m0, m1⟩ := vsz_mul hv
  obtain ⟨p0, p1, p2, p3⟩ := place_bd hv h0 h1
  obtain ⟨f1, f2, r1, r2⟩ := hv
  have hne : ¬ F = 0 := by omega
  go_enter Tryz.func45, Tryz.ntmps45
  go_wp2
  go_region
  all_goals
    go_wp2
    exact bodyPost_ret (v := .agg #[.int .i64 (a % F), .int .i64 (a / F)]) (by simp [results, Tryz.results45, go_sem]) rfl ⟨rfl, by go_grown⟩

end Go.Proofs.YtelkmdklpcfobaaGreatDoor
