/- Positions: what the theorem of positions asks of plain mathematics. -/
import Derived.Test.YtelkmdklpcfobaaGreatDoorPpF
import Derived.Test.YtelkmdklpcfobaaGreatDoorPpH
namespace Go.Proofs.YtelkmdklpcfobaaGreatDoor
open Go.RowKit

/-- a valid position without its rights is valid. -/
theorem ok_noCa (F R : Int) (l : List Int) (bl : Bool) (ca : Nat) (ps ha fu : Int) (h : okPo ⟨F, R, l, bl, ca, ps, ha, fu⟩ = true) : okPo ⟨F, R, l, bl, 0, ps, ha, fu⟩ = true := by
  unfold okPo at h ⊢
  simp only [Bool.and_eq_true] at h ⊢
  obtain ⟨⟨⟨⟨h1, h2⟩, h3⟩, h4⟩, h5⟩ := h
  exact ⟨⟨⟨⟨h1, h2⟩, by simp [poCas, poBit]⟩, h4⟩, h5⟩
/-- a valid position without the square behind a pawn is valid. -/
theorem ok_noPs (F R : Int) (l : List Int) (bl : Bool) (ca : Nat) (ps ha fu : Int) (h : okPo ⟨F, R, l, bl, ca, ps, ha, fu⟩ = true) : okPo ⟨F, R, l, bl, ca, -1, ha, fu⟩ = true := by
  unfold okPo at h ⊢
  simp only [Bool.and_eq_true] at h ⊢
  obtain ⟨⟨⟨⟨h1, h2⟩, h3⟩, h4⟩, h5⟩ := h
  exact ⟨⟨⟨⟨h1, h2⟩, h3⟩, by simp [poPas]⟩, h5⟩
/-- the text of a valid position has at most 200 bytes. -/
theorem posT_len {p : Po} (h : okPo p = true) : (posT p).length ≤ 200 := by
  obtain ⟨f, r, e1, e2, f0, f1, r0, r1, hl, hrow, hca, hps, hcnt, hvb⟩ := okPo_nat h
  obtain ⟨F, R, l, bl, ca, ps, ha, fu⟩ := p
  simp only at e1 e2 hl hrow hca hps hcnt hvb
  subst e1 e2
  have b1 := dec_len (n := f) (by omega)
  have b2 := dec_len (n := r) (by omega)
  have b3 := dec_len (n := ha.toNat) (by omega)
  have b4 := dec_len (n := fu.toNat) (by omega)
  have b5 := accT_bd f r l r
  have b6 : r * (2 * f + 2) ≤ 8 * 18 := Nat.mul_le_mul (by omega) (by omega)
  have b7 : (sdL bl).length = 1 := by cases bl <;> rfl
  have b8 : (caL ca).length ≤ 4 := by
    have : ∀ c, c < 16 → (caL c).length ≤ 4 := by decide +kernel
    exact this ca (by omega)
  have b9 : (psL (f : Int) ps).length ≤ 2 := by unfold psL; split <;> simp [nameB_list]
  have b10 : (szL (f : Int) (r : Int)).length ≤ 11 := by unfold szL; simp; omega
  unfold posT wrdL
  simp only [Int.toNat_natCast]
  simp only [jw, List.flatMap_cons, List.flatMap_nil, List.length_append, List.length_cons, List.length_nil]
  omega

end Go.Proofs.YtelkmdklpcfobaaGreatDoor
