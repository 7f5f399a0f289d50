/- Contracts of the small functions of package square and its reference: sizes, squares, places. No conditions beyond the ranges named in each. -/
import Derived.Test.YtpcfgeggjfbfjaaDoorProg
import Derived.WalkKit
import Derived.WalkSpells
import Derived.WalkLawsBesides
import Derived.BigQuiet
import Derived.Deep.QuietTactic
namespace Go.Proofs.YtpcfgeggjfbfjaaDoor
open Go.RowKit

/-- a valid size. -/
def vsz (F R : Int) : Prop := 3 ≤ F ∧ F ≤ 8 ∧ 3 ≤ R ∧ R ≤ 8

theorem vsz_mul {F R : Int} (h : vsz F R) : 9 ≤ F * R ∧ F * R ≤ 64 := by
  obtain ⟨a, b, c, d⟩ := h
  have : F = 3 ∨ F = 4 ∨ F = 5 ∨ F = 6 ∨ F = 7 ∨ F = 8 := by omega
  rcases this with rfl | rfl | rfl | rfl | rfl | rfl <;> omega

theorem place_bd {F R a : Int} (h : vsz F R) (h0 : 0 ≤ a) (h1 : a < F * R) : 0 ≤ a % F ∧ a % F < F ∧ 0 ≤ a / F ∧ a / F < R := by
  obtain ⟨p, q, c, d⟩ := h
  have : F = 3 ∨ F = 4 ∨ F = 5 ∨ F = 6 ∨ F = 7 ∨ F = 8 := by omega
  rcases this with rfl | rfl | rfl | rfl | rfl | rfl <;> omega

theorem place_eq {F R a : Int} (h : vsz F R) : a % F + a / F * F = a := by
  obtain ⟨p, q, c, d⟩ := h
  have : F = 3 ∨ F = 4 ∨ F = 5 ∨ F = 6 ∨ F = 7 ∨ F = 8 := by omega
  rcases this with rfl | rfl | rfl | rfl | rfl | rfl <;> omega

theorem number_bd {F R f r : Int} (h : vsz F R) (f0 : 0 ≤ f) (f1 : f < F) (r0 : 0 ≤ r) (r1 : r < R) : 0 ≤ r * F ∧ r * F ≤ 56 ∧ f + r * F < F * R ∧ (f + r * F) % F = f ∧ (f + r * F) / F = r := by
  obtain ⟨p, q, c, d⟩ := h
  have : F = 3 ∨ F = 4 ∨ F = 5 ∨ F = 6 ∨ F = 7 ∨ F = 8 := by omega
  rcases this with rfl | rfl | rfl | rfl | rfl | rfl <;> omega

theorem ret_bool {a b : Bool} (h : a = b) : Ending.returned (.bool a) = .returned (.bool b) := by rw [h]
theorem ret_int {k : IntKind} {a b : Int} (h : a = b) : Ending.returned (.int k a) = .returned (.int k b) := by rw [h]
theorem ret2 {a b c d : Value} (h : a = b) (k : c = d) : Ending.returned (.tuple #[a, c]) = .returned (.tuple #[b, d]) := by rw [h, k]
theorem vint {k : IntKind} {a b : Int} (h : a = b) : Value.int k a = .int k b := by rw [h]
theorem vbool {a b : Bool} (h : a = b) : Value.bool a = .bool b := by rw [h]
theorem box1 (w : World) (o : Obj) : Below w.heap.size w (w.alloc o) := (Below.refl _ _).alloc (Nat.le_refl _) _

set_option maxRecDepth 100000 in
set_option maxHeartbeats 400000 in
theorem validSide_yes (n : Int) (h : 3 ≤ n) (h2 : n ≤ 8) (w : World) :
    Calls Tryd.prog 45 #[.int .i64 n] w fun e w' => e = .returned (.bool true) ∧ w = w' := by
  go_enter Tryd.func45, Tryd.ntmps45
  go_wp2
  go_ret
  exact ⟨rfl, rfl⟩

set_option maxRecDepth 100000 in
set_option maxHeartbeats 400000 in
theorem validSide_no (n : Int) (h : n < 3 ∨ 8 < n) (w : World) :
    Calls Tryd.prog 45 #[.int .i64 n] w fun e w' => e = .returned (.bool false) ∧ w = w' := by
  rcases h with h | h
  · go_enter Tryd.func45, Tryd.ntmps45
    go_wp2
    go_ret
    exact ⟨rfl, rfl⟩
  · have h' : 3 ≤ n := by omega
    have hd : decide (n ≤ 8) = false := by simp; omega
    go_enter Tryd.func45, Tryd.ntmps45
    go_wp2
    go_ret
    exact ⟨rfl, rfl⟩

set_option maxRecDepth 100000 in
set_option maxHeartbeats 400000 in
theorem validSize_yes (F R : Int) (h : vsz F R) (w : World) :
    Calls Tryd.prog 34 #[.agg #[.int .i64 F, .int .i64 R]] w fun e w' => e = .returned (.bool true) ∧ Below w.heap.size w w' := by
  obtain ⟨f1, f2, r1, r2⟩ := h
  go_enter Tryd.func34, Tryd.ntmps34
  go_wp2_with (go_at_call 45; refine (validSide_yes _ (by omega) (by omega) _).mono ?_; rintro e w' ⟨rfl, rfl⟩)
  go_ret
  exact ⟨rfl, box1 _ _⟩

set_option maxRecDepth 100000 in
set_option maxHeartbeats 400000 in
theorem validSize_no (F R : Int) (h : ¬ vsz F R) (w : World) :
    Calls Tryd.prog 34 #[.agg #[.int .i64 F, .int .i64 R]] w fun e w' => e = .returned (.bool false) ∧ Below w.heap.size w w' := by
  unfold vsz at h
  by_cases hF : 3 ≤ F ∧ F ≤ 8
  · have hR : R < 3 ∨ 8 < R := by omega
    go_enter Tryd.func34, Tryd.ntmps34
    go_wp2_with fail
    refine (validSide_yes _ (by omega) (by omega) _).mono ?_
    rintro e w' ⟨rfl, rfl⟩
    go_wp2_with fail
    refine (validSide_no _ hR _).mono ?_
    rintro e w' ⟨rfl, rfl⟩
    go_wp2
    go_ret
    exact ⟨rfl, box1 _ _⟩
  · have hF' : F < 3 ∨ 8 < F := by omega
    go_enter Tryd.func34, Tryd.ntmps34
    go_wp2_with fail
    refine (validSide_no _ hF' _).mono ?_
    rintro e w' ⟨rfl, rfl⟩
    go_wp2
    go_ret
    exact ⟨rfl, box1 _ _⟩

set_option maxRecDepth 100000 in
set_option maxHeartbeats 400000 in
theorem refSize_yes (F R : Int) (h : vsz F R) (w : World) :
    Calls Tryd.prog 17 #[.agg #[.int .i64 F, .int .i64 R]] w fun e w' => e = .returned (.bool true) ∧ Below w.heap.size w w' := by
  obtain ⟨f1, f2, r1, r2⟩ := h
  go_enter Tryd.func17, Tryd.ntmps17
  go_wp2
  go_ret
  exact ⟨rfl, box1 _ _⟩

set_option maxRecDepth 100000 in
set_option maxHeartbeats 400000 in
theorem refSize_no (F R : Int) (h : ¬ vsz F R) (w : World) :
    Calls Tryd.prog 17 #[.agg #[.int .i64 F, .int .i64 R]] w fun e w' => e = .returned (.bool false) ∧ Below w.heap.size w w' := by
  unfold vsz at h
  have h4 : F < 3 ∨ (3 ≤ F ∧ 8 < F) ∨ (3 ≤ F ∧ F ≤ 8 ∧ R < 3) ∨ (3 ≤ F ∧ F ≤ 8 ∧ 3 ≤ R ∧ 8 < R) := by omega
  clear h
  rcases h4 with h | ⟨h, k⟩ | ⟨h, k, l⟩ | ⟨h, k, l, m⟩
  · go_enter Tryd.func17, Tryd.ntmps17
    go_wp2
    go_ret
    exact ⟨rfl, box1 _ _⟩
  · have hd : decide (F ≤ 8) = false := by simp; omega
    go_enter Tryd.func17, Tryd.ntmps17
    go_wp2
    go_ret
    exact ⟨rfl, box1 _ _⟩
  · go_enter Tryd.func17, Tryd.ntmps17
    go_wp2
    go_ret
    exact ⟨rfl, box1 _ _⟩
  · have hd : decide (R ≤ 8) = false := by simp; omega
    go_enter Tryd.func17, Tryd.ntmps17
    go_wp2
    go_ret
    exact ⟨rfl, box1 _ _⟩

end Go.Proofs.YtpcfgeggjfbfjaaDoor
