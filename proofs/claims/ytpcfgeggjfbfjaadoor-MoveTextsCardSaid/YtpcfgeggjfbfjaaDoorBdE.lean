/- Boards: what the text of a board is, as a list of bytes. -/
import Derived.Test.YtpcfgeggjfbfjaaDoorPcC
namespace Go.Proofs.YtpcfgeggjfbfjaaDoor
open Go.RowKit

def bsL (L : List UInt8) : ByteArray := ⟨L.toArray⟩
theorem bsL_append (a b : List UInt8) : bsL a ++ bsL b = bsL (a ++ b) := by
  apply ByteArray.ext
  simp [bsL]
theorem bsL_size (a : List UInt8) : (bsL a).size = a.length := by simp [bsL, ByteArray.size]
theorem bsL_toList (a : List UInt8) : (bsL a).data.toList = a := by simp [bsL]
theorem bsL_of (s : ByteArray) : bsL s.data.toList = s := by
  apply ByteArray.ext; simp [bsL]

/-- the digit of a group of empty squares, if there is one. -/
def flu (e : Nat) : List UInt8 := if 0 < e then [UInt8.ofNat (48 + e)] else []
theorem flu_zero : flu 0 = [] := rfl
theorem flu_pos {e : Nat} (h : 0 < e) : flu e = [UInt8.ofNat (48 + e)] := by unfold flu; rw [if_pos h]
theorem flu_le (e : Nat) : (flu e).length ≤ 1 := by unfold flu; split <;> simp
def stp (st : List UInt8 × Nat) (p : Int) : List UInt8 × Nat := if p = 0 then (st.1, st.2 + 1) else (st.1 ++ flu st.2 ++ [UInt8.ofNat (lt p)], 0)
def rowS (row : List Int) (k : Nat) : List UInt8 × Nat := (row.take k).foldl stp ([], 0)
def rowT (row : List Int) : List UInt8 := (rowS row row.length).1 ++ flu (rowS row row.length).2
theorem rowS_zero (row : List Int) : rowS row 0 = ([], 0) := rfl
theorem rowS_succ (row : List Int) (k : Nat) (h : k < row.length) : rowS row (k + 1) = stp (rowS row k) (row[k]?.getD 0) := by
  unfold rowS
  rw [List.take_succ_eq_append_getElem h, List.foldl_append, List.getElem?_eq_getElem h]
  rfl
theorem rowS_emp {row : List Int} {k : Nat} (h : k < row.length) (hz : row[k]?.getD 0 = 0) : rowS row (k + 1) = ((rowS row k).1, (rowS row k).2 + 1) := by
  rw [rowS_succ row k h, hz]; unfold stp; rw [if_pos rfl]
theorem rowS_pc {row : List Int} {k : Nat} (h : k < row.length) (hz : row[k]?.getD 0 ≠ 0) : rowS row (k + 1) = ((rowS row k).1 ++ flu (rowS row k).2 ++ [UInt8.ofNat (lt (row[k]?.getD 0))], 0) := by
  rw [rowS_succ row k h]; unfold stp; rw [if_neg hz]
theorem rowS_bd (row : List Int) (k : Nat) (h : k ≤ row.length) : (rowS row k).1.length ≤ 2 * k ∧ (rowS row k).2 ≤ k := by
  induction k with
  | zero => simp [rowS_zero]
  | succ k ih =>
    have := ih (by omega)
    by_cases hz : row[k]?.getD 0 = 0
    · rw [rowS_emp (by omega) hz]; simp; omega
    · rw [rowS_pc (by omega) hz]
      have := flu_le (rowS row k).2
      simp; omega
theorem rowT_bd (row : List Int) : (rowT row).length ≤ 2 * row.length + 1 := by
  have := rowS_bd row row.length (Nat.le_refl _)
  have := flu_le (rowS row row.length).2
  unfold rowT; simp; omega
/-- a row's text is not empty. -/
theorem rowT_ne (row : List Int) (h : 0 < row.length) : rowT row ≠ [] := by
  obtain ⟨k, hk⟩ : ∃ k, row.length = k + 1 := ⟨row.length - 1, by omega⟩
  unfold rowT
  rw [hk]
  by_cases hz : row[k]?.getD 0 = 0
  · rw [rowS_emp (by omega) hz, flu_pos (by simp)]; simp
  · rw [rowS_pc (by omega) hz]; simp

/-- the inner loop's state: before square j, and behind the last one. -/
def rowX (row : List Int) (j : Nat) : List UInt8 × Nat := if j ≤ row.length then rowS row j else (rowT row, 0)
theorem rowX_le {row : List Int} {j : Nat} (h : j ≤ row.length) : rowX row j = rowS row j := by unfold rowX; rw [if_pos h]
theorem rowX_end (row : List Int) : rowX row (row.length + 1) = ((rowS row row.length).1 ++ flu (rowS row row.length).2, 0) := by unfold rowX rowT; rw [if_neg (by omega)]

/-- rank r of a board. -/
def rk (F : Nat) (l : List Int) (r : Nat) : List Int := (l.drop (r * F)).take F
theorem rk_len {F R r : Nat} {l : List Int} (hl : l.length = R * F) (hr : r < R) : (rk F l r).length = F := by
  unfold rk
  have : (r + 1) * F ≤ R * F := Nat.mul_le_mul_right F hr
  rw [Nat.add_mul] at this
  rw [List.length_take, List.length_drop]
  omega
theorem rk_at {F R r j : Nat} {l : List Int} (_hl : l.length = R * F) (_hr : r < R) (hj : j < F) : (rk F l r)[j]?.getD 0 = l[r * F + j]?.getD 0 := by
  unfold rk
  rw [List.getElem?_take, if_pos hj, List.getElem?_drop]
theorem rk_in {F R r j : Nat} {l : List Int} (hl : l.length = R * F) (hr : r < R) (hj : j < F) : r * F + j < l.length := by
  have : (r + 1) * F ≤ R * F := Nat.mul_le_mul_right F hr
  rw [Nat.add_mul] at this
  omega
/-- the text of the last k ranks. -/
def accT (F R : Nat) (l : List Int) : Nat → List UInt8
  | 0 => []
  | k + 1 => accT F R l k ++ (if k = 0 then [] else [47]) ++ rowT (rk F l (R - 1 - k))
theorem accT_one (F R : Nat) (l : List Int) : accT F R l 1 = rowT (rk F l (R - 1)) := by simp [accT]
theorem accT_succ (F R : Nat) (l : List Int) (k : Nat) (h : 0 < k) : accT F R l (k + 1) = accT F R l k ++ [47] ++ rowT (rk F l (R - 1 - k)) := by
  rw [accT, if_neg (by omega)]
theorem accT_bd (F R : Nat) (l : List Int) (k : Nat) : (accT F R l k).length ≤ k * (2 * F + 2) := by
  induction k with
  | zero => simp [accT]
  | succ k ih =>
    rw [accT, Nat.add_mul]
    have h1 := rowT_bd (rk F l (R - 1 - k))
    have h2 : (rk F l (R - 1 - k)).length ≤ F := by unfold rk; rw [List.length_take]; omega
    by_cases h : k = 0
    · rw [if_pos h]; simp; omega
    · rw [if_neg h]; simp; omega
theorem accT_ne {F R : Nat} {l : List Int} (hF : 0 < F) (hl : l.length = R * F) {k : Nat} (h0 : 0 < k) (hk : k ≤ R) : accT F R l k ≠ [] := by
  obtain ⟨j, rfl⟩ : ∃ j, k = j + 1 := ⟨k - 1, by omega⟩
  have := rowT_ne (rk F l (R - 1 - j)) (by rw [rk_len hl (by omega)]; exact hF)
  rw [accT]
  intro h
  exact this (List.append_eq_nil_iff.1 h).2
def textB (F R : Nat) (l : List Int) : ByteArray := bsL (accT F R l R)

end Go.Proofs.YtpcfgeggjfbfjaaDoor
