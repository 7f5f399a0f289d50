/- Boards: how the document's function reads a text: ranks, rows, and the whole, as functions on lists of bytes. -/
import Derived.Test.YtpcfgeggjfbfjaaDoorBdE
namespace Go.Proofs.YtpcfgeggjfbfjaaDoor
open Go.RowKit

/-- the ranks of a text so far, and one byte more. -/
def spS (st : List (List UInt8)) (c : UInt8) : List (List UInt8) := if c = 47 then st ++ [[]] else st.set (st.length - 1) (st[st.length - 1]?.getD [] ++ [c])
def spT (L : List UInt8) (k : Nat) : List (List UInt8) := (L.take k).foldl spS [[]]
def spl (L : List UInt8) : List (List UInt8) := spT L L.length
theorem spT_succ (L : List UInt8) (k : Nat) (h : k < L.length) : spT L (k + 1) = spS (spT L k) (L[k]) := by
  unfold spT
  rw [List.take_succ_eq_append_getElem h, List.foldl_append]
  rfl
theorem spS_len (st : List (List UInt8)) (c : UInt8) : st.length ≤ (spS st c).length ∧ (spS st c).length ≤ st.length + 1 := by
  unfold spS; split <;> simp
theorem spT_len (L : List UInt8) (k : Nat) (h : k ≤ L.length) : 1 ≤ (spT L k).length ∧ (spT L k).length ≤ k + 1 := by
  induction k with
  | zero => simp [spT]
  | succ k ih =>
    have := ih (by omega)
    rw [spT_succ L k (by omega)]
    have := spS_len (spT L k) L[k]
    omega
theorem spT_each (L : List UInt8) (k : Nat) (h : k ≤ L.length) : ∀ t ∈ spT L k, t.length ≤ k := by
  induction k with
  | zero => intro t ht; simp [spT] at ht; subst ht; simp
  | succ k ih =>
    have := ih (by omega)
    rw [spT_succ L k (by omega)]
    unfold spS
    split
    · intro t ht
      rw [List.mem_append, List.mem_singleton] at ht
      rcases ht with ht | rfl
      · have := this t ht; omega
      · simp
    · intro t ht
      rcases List.mem_or_eq_of_mem_set ht with ht | rfl
      · have := this t ht; omega
      · rw [List.length_append]
        have h1 := (spT_len L k (by omega)).1
        rw [List.getElem?_eq_getElem (show (spT L k).length - 1 < (spT L k).length by omega)]
        have := this _ (List.getElem_mem (show (spT L k).length - 1 < (spT L k).length by omega))
        simp; omega

/-- the pieces of a rank so far and whether the last byte was a digit, and one byte more. -/
def prS (st : Option (List Int × Bool)) (c : UInt8) : Option (List Int × Bool) :=
  match st with
  | none => none
  | some (row, d) => if 49 ≤ c.toNat ∧ c.toNat ≤ 56 then (if d then none else some (row ++ List.replicate (c.toNat - 48) 0, true)) else if piP c.toNat = 0 then none else some (row ++ [piP c.toNat], false)
def prT (t : List UInt8) (k : Nat) : Option (List Int × Bool) := (t.take k).foldl prS (some ([], false))
def prow (t : List UInt8) : Option (List Int) := (prT t t.length).map (·.1)
theorem prT_succ (t : List UInt8) (k : Nat) (h : k < t.length) : prT t (k + 1) = prS (prT t k) t[k] := by
  unfold prT
  rw [List.take_succ_eq_append_getElem h, List.foldl_append]
  rfl
theorem prS_none : ∀ t : List UInt8, t.foldl prS none = none
  | [] => rfl
  | _ :: t => prS_none t
theorem prT_dead (t : List UInt8) (k : Nat) (h : prT t k = none) : prow t = none := by
  unfold prow prT at *
  rw [List.take_length, ← List.take_append_drop k t, List.foldl_append, h, prS_none]
  rfl
theorem prT_bd (t : List UInt8) (k : Nat) (hk : k ≤ t.length) {row : List Int} {d : Bool} (h : prT t k = some (row, d)) : row.length ≤ 8 * k := by
  induction k generalizing row d with
  | zero => simp [prT] at h; rw [h.1]; simp
  | succ k ih =>
    rw [prT_succ t k (by omega)] at h
    cases hp : prT t k with
    | none => rw [hp] at h; simp [prS] at h
    | some st =>
      obtain ⟨r, d'⟩ := st
      rw [hp] at h
      have := ih (by omega) hp
      simp only [prS] at h
      split at h
      · split at h
        · simp at h
        · simp at h; rw [← h.1]; simp; omega
      · split at h
        · simp at h
        · simp at h; rw [← h.1]; simp; omega

/-- the board so far, from the last rank on, and one rank more. -/
def brS (st : Option (Nat × List Int)) (t : List UInt8) : Option (Nat × List Int) :=
  match st with
  | none => none
  | some (f, ps) => match prow t with
    | none => none
    | some row => if row.length < 3 ∨ 8 < row.length ∨ (0 < ps.length ∧ row.length ≠ f) then none else some (row.length, ps ++ row)
def brT (ts : List (List UInt8)) (m : Nat) : Option (Nat × List Int) := (ts.reverse.take m).foldl brS (some (0, []))
theorem brT_succ (ts : List (List UInt8)) (m : Nat) (h : m < ts.length) : brT ts (m + 1) = brS (brT ts m) (ts[ts.length - 1 - m]?.getD []) := by
  unfold brT
  have h' : m < ts.reverse.length := by simpa using h
  rw [List.take_succ_eq_append_getElem h', List.foldl_append, List.getElem_reverse, List.getElem?_eq_getElem (by omega)]
  rfl
theorem brS_none : ∀ t : List (List UInt8), t.foldl brS none = none
  | [] => rfl
  | _ :: t => brS_none t
theorem brT_dead (ts : List (List UInt8)) (m : Nat) (h : brT ts m = none) : brT ts ts.length = none := by
  unfold brT at *
  have e : ts.reverse.take ts.length = ts.reverse.take m ++ ts.reverse.drop m := by
    rw [List.take_append_drop, List.take_of_length_le (by simp)]
  rw [e, List.foldl_append, h, brS_none]
theorem brT_bd (ts : List (List UInt8)) (m : Nat) (hm : m ≤ ts.length) {f : Nat} {ps : List Int} (h : brT ts m = some (f, ps)) : f ≤ 8 ∧ ps.length ≤ 8 * m := by
  induction m generalizing f ps with
  | zero => simp [brT] at h; rw [← h.1, h.2]; simp
  | succ m ih =>
    rw [brT_succ ts m (by omega)] at h
    cases hp : brT ts m with
    | none => rw [hp] at h; simp [brS] at h
    | some st =>
      obtain ⟨f', ps'⟩ := st
      rw [hp] at h
      have := ih (by omega) hp
      simp only [brS] at h
      split at h
      · simp at h
      · split at h
        · simp at h
        · rename_i hc
          simp at h hc
          rw [← h.1, ← h.2]
          simp; omega
def parseB (L : List UInt8) : Option (Nat × Nat × List Int) :=
  if (spl L).length < 3 ∨ 8 < (spl L).length then none else (brT (spl L) (spl L).length).map fun st => (st.1, (spl L).length, st.2)

end Go.Proofs.YtpcfgeggjfbfjaaDoor
