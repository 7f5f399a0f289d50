/- Pieces: contracts of the reference's functions that make no memory, and of Orthodox. -/
import Derived.Test.YtolohfkenglpcaaDoorPcA
namespace Go.Proofs.YtolohfkenglpcaaDoor
open Go.RowKit

theorem okP_pos {i : Nat} (h : i ≤ 15) : okP (i : Int) := ⟨by omega, by omega⟩
theorem okP_neg {i : Nat} (h : i ≤ 15) : okP (-(i : Int)) := ⟨by omega, by omega⟩

/-- is it a piece of one of the six usual kinds? -/
def orthB (p : Int) : Bool := p != 0 && decide (-6 ≤ p) && decide (p ≤ 6)
theorem orth_0 : orthB 0 = false := rfl
theorem orth_lo {p : Int} (h : p < -6) : orthB p = false := by unfold orthB; rw [decide_eq_false (by omega : ¬ -6 ≤ p)]; simp
theorem orth_hi {p : Int} (h : 6 < p) : orthB p = false := by unfold orthB; rw [decide_eq_false (by omega : ¬ p ≤ 6)]; simp
theorem orth_in {p : Int} (h : p ≠ 0) (h0 : -6 ≤ p) (h1 : p ≤ 6) : orthB p = true := by unfold orthB; simp [h, h0, h1]

set_option maxRecDepth 100000 in
set_option maxHeartbeats 400000 in
theorem rpValid_yes (p : Int) (h : okP p) (w : World) :
    Calls Tryd.prog 22 #[.int .i8 p] w fun e w' => e = .returned (.bool true) ∧ w = w' := by
  obtain ⟨h0, h1⟩ := h
  go_enter Tryd.func22, Tryd.ntmps22
  go_wp2
  go_ret
  exact ⟨rfl, rfl⟩

set_option maxRecDepth 100000 in
set_option maxHeartbeats 400000 in
theorem rpValid_no (p : Int) (h : ¬ okP p) (w : World) :
    Calls Tryd.prog 22 #[.int .i8 p] w fun e w' => e = .returned (.bool false) ∧ w = w' := by
  by_cases h0 : -15 ≤ p
  · have hd : decide (p ≤ 15) = false := decide_eq_false fun h1 => h ⟨h0, h1⟩
    clear h
    go_enter Tryd.func22, Tryd.ntmps22
    go_wp2
    go_ret
    exact ⟨rfl, rfl⟩
  · have hd : decide (-15 ≤ p) = false := decide_eq_false h0
    clear h
    go_enter Tryd.func22, Tryd.ntmps22
    go_wp2
    go_ret
    exact ⟨rfl, rfl⟩

set_option maxRecDepth 100000 in
set_option maxHeartbeats 400000 in
theorem rKind_pos (i : Nat) (h1 : i ≤ 15) (w : World) :
    Calls Tryd.prog 59 #[.int .i8 (i : Int)] w fun e w' => e = .returned (.int .i8 (i : Int)) ∧ w = w' := by
  have hn : decide ((i : Int) < 0) = false := decide_eq_false (by omega)
  go_enter Tryd.func59, Tryd.ntmps59
  go_wp2
  go_ret
  exact ⟨rfl, rfl⟩

set_option maxRecDepth 100000 in
set_option maxHeartbeats 400000 in
theorem rKind_neg (i : Nat) (h0 : 1 ≤ i) (h1 : i ≤ 15) (w : World) :
    Calls Tryd.prog 59 #[.int .i8 (-(i : Int))] w fun e w' => e = .returned (.int .i8 (i : Int)) ∧ w = w' := by
  have hn : -(i : Int) < 0 := by omega
  go_enter Tryd.func59, Tryd.ntmps59
  go_wp2
  go_ret
  exact ⟨ret_int (by omega), rfl⟩

set_option maxRecDepth 100000 in
set_option maxHeartbeats 400000 in
theorem rSide_pos (i : Nat) (h0 : 1 ≤ i) (h1 : i ≤ 15) (w : World) :
    Calls Tryd.prog 47 #[.int .i8 (i : Int)] w fun e w' => e = .returned (.int .i64 1) ∧ w = w' := by
  have hn : decide ((i : Int) < 0) = false := decide_eq_false (by omega)
  have hp : (0 : Int) < (i : Int) := by omega
  go_enter Tryd.func47, Tryd.ntmps47
  go_wp2
  go_ret
  exact ⟨rfl, rfl⟩

set_option maxRecDepth 100000 in
set_option maxHeartbeats 400000 in
theorem rSide_neg (i : Nat) (h0 : 1 ≤ i) (h1 : i ≤ 15) (w : World) :
    Calls Tryd.prog 47 #[.int .i8 (-(i : Int))] w fun e w' => e = .returned (.int .i64 (-1)) ∧ w = w' := by
  have hn : -(i : Int) < 0 := by omega
  go_enter Tryd.func47, Tryd.ntmps47
  go_wp2
  go_ret
  exact ⟨rfl, rfl⟩

set_option maxRecDepth 100000 in
set_option maxHeartbeats 400000 in
theorem rSide_zero (w : World) :
    Calls Tryd.prog 47 #[.int .i8 0] w fun e w' => e = .returned (.int .i64 0) ∧ w = w' := by
  go_enter Tryd.func47, Tryd.ntmps47
  go_wp2
  go_ret
  exact ⟨rfl, rfl⟩

theorem vlu_hi : ∀ i, i < 15 → 5 ≤ i → vlu i = 0 := by decide +kernel

set_option maxRecDepth 100000 in
set_option maxHeartbeats 400000 in
theorem rValue_pos (i : Nat) (h0 : 1 ≤ i) (h1 : i ≤ 15) (w : World) :
    Calls Tryd.prog 48 #[.int .i8 (i : Int)] w fun e w' => e = .returned (.int .i64 (vlu (i - 1))) ∧ w = w' := by
  by_cases h6 : 6 ≤ i
  · rw [vlu_hi (i - 1) (by omega) (by omega)]
    have k1 : ((i : Int) == 1) = false := beq_eq_false_iff_ne.2 (by omega)
    have k2 : ((i : Int) == 2) = false := beq_eq_false_iff_ne.2 (by omega)
    have k3 : ((i : Int) == 3) = false := beq_eq_false_iff_ne.2 (by omega)
    have k4 : ((i : Int) == 4) = false := beq_eq_false_iff_ne.2 (by omega)
    have k5 : ((i : Int) == 5) = false := beq_eq_false_iff_ne.2 (by omega)
    go_enter Tryd.func48, Tryd.ntmps48
    go_wp2_with fail
    refine (rKind_pos i h1 _).mono ?_
    rintro e w1 ⟨rfl, rfl⟩
    go_wp2
    go_ret
    exact ⟨rfl, rfl⟩
  · have h5 : i = 1 ∨ i = 2 ∨ i = 3 ∨ i = 4 ∨ i = 5 := by omega
    clear h6
    rcases h5 with rfl | rfl | rfl | rfl | rfl
    all_goals
      go_enter Tryd.func48, Tryd.ntmps48
      go_wp2_with fail
      refine (rKind_pos _ (by decide) _).mono ?_
      rintro e w1 ⟨rfl, rfl⟩
      go_wp2
      go_ret
      exact ⟨rfl, rfl⟩

set_option maxRecDepth 100000 in
set_option maxHeartbeats 400000 in
theorem rValue_neg (i : Nat) (h0 : 1 ≤ i) (h1 : i ≤ 15) (w : World) :
    Calls Tryd.prog 48 #[.int .i8 (-(i : Int))] w fun e w' => e = .returned (.int .i64 (vlu (i - 1))) ∧ w = w' := by
  by_cases h6 : 6 ≤ i
  · rw [vlu_hi (i - 1) (by omega) (by omega)]
    have k1 : ((i : Int) == 1) = false := beq_eq_false_iff_ne.2 (by omega)
    have k2 : ((i : Int) == 2) = false := beq_eq_false_iff_ne.2 (by omega)
    have k3 : ((i : Int) == 3) = false := beq_eq_false_iff_ne.2 (by omega)
    have k4 : ((i : Int) == 4) = false := beq_eq_false_iff_ne.2 (by omega)
    have k5 : ((i : Int) == 5) = false := beq_eq_false_iff_ne.2 (by omega)
    go_enter Tryd.func48, Tryd.ntmps48
    go_wp2_with fail
    refine (rKind_neg i h0 h1 _).mono ?_
    rintro e w1 ⟨rfl, rfl⟩
    go_wp2
    go_ret
    exact ⟨rfl, rfl⟩
  · have h5 : i = 1 ∨ i = 2 ∨ i = 3 ∨ i = 4 ∨ i = 5 := by omega
    clear h6
    rcases h5 with rfl | rfl | rfl | rfl | rfl
    all_goals
      go_enter Tryd.func48, Tryd.ntmps48
      go_wp2_with fail
      refine (rKind_neg _ (by decide) (by decide) _).mono ?_
      rintro e w1 ⟨rfl, rfl⟩
      go_wp2
      go_ret
      exact ⟨rfl, rfl⟩

set_option maxRecDepth 100000 in
set_option maxHeartbeats 400000 in
theorem rValue_zero (w : World) :
    Calls Tryd.prog 48 #[.int .i8 0] w fun e w' => e = .returned (.int .i64 0) ∧ w = w' := by
  go_enter Tryd.func48, Tryd.ntmps48
  go_wp2_with fail
  refine (rKind_pos 0 (by decide) _).mono ?_
  rintro e w1 ⟨rfl, rfl⟩
  go_wp2
  go_ret
  exact ⟨rfl, rfl⟩

end Go.Proofs.YtolohfkenglpcaaDoor
