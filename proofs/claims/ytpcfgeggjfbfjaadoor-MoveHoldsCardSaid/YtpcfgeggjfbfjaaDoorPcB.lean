/- Pieces: contracts of the reference's functions that make no memory, and of Orthodox. -/
import Derived.Test.YtpcfgeggjfbfjaaDoorPcA
namespace Go.Proofs.YtpcfgeggjfbfjaaDoor
open Go.RowKit

theorem okP_pos {i : Nat} (h : i ≤ 15) : okP (i : Int) := ⟨by omega, by omega⟩
theorem okP_neg {i : Nat} (h : i ≤ 15) : okP (-(i : Int)) := ⟨by omega, by omega⟩

/-- is it a piece of one of the six usual kinds? -/
def orthB (p : Int) : Bool := p != 0 && decide (-6 ≤ p) && decide (p ≤ 6)
theorem orth_0 : orthB 0 = false := rfl
theorem orth_lo {p : Int} (h : p < -6) : orthB p = false := by unfold orthB; rw [decide_eq_false (by omega : ¬ -6 ≤ p)]; simp
theorem orth_hi {p : Int} (h : 6 < p) : orthB p = false := by unfold orthB; rw [decide_eq_false (by omega : ¬ p ≤ 6)]; simp
theorem orth_in {p : Int} (h : p ≠ 0) (h0 : -6 ≤ p) (h1 : p ≤ 6) : orthB p = true := by unfold orthB; simp [h, h0, h1]

theorem vlu_hi : ∀ i, i < 15 → 5 ≤ i → vlu i = 0 := by decide +kernel

end Go.Proofs.YtpcfgeggjfbfjaaDoor
