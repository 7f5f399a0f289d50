/- Texts of boards: what the program's reading computes is what the document's does. Plain mathematics. -/
import Derived.Test.YtolohfkenglpcaaDoorBpM
namespace Go.Proofs.YtolohfkenglpcaaDoor
open Go.RowKit

/-- the program's reading, so many ranks of it, from the last part on. -/
def pgT (ts : List (List UInt8)) : Nat → Option (Nat × List Int)
  | 0 => some (0, [])
  | m + 1 => match pgT ts m with
    | none => none
    | some (f, ps) => match prow8 (ts[ts.length - 1 - m]?.getD []) with
      | none => none
      | some row => if 0 < m ∧ row.length ≠ f then none else some (row.length, ps ++ row)
def pgFin (n : Nat) (st : Option (Nat × List Int)) : Option (Nat × Nat × List Int) := match st with
  | none => none
  | some (f, ps) => if 3 ≤ f ∧ f ≤ 8 ∧ 3 ≤ n ∧ n ≤ 8 then some (f, n, ps) else none
def pgParse (L : List UInt8) : Option (Nat × Nat × List Int) := pgFin (parts9 L).length (pgT (parts9 L) (parts9 L).length)

theorem pgT_dead (ts : List (List UInt8)) (m : Nat) (h : pgT ts m = none) : ∀ j, pgT ts (m + j) = none
  | 0 => h
  | j + 1 => by
    show pgT ts ((m + j) + 1) = none
    unfold pgT
    rw [pgT_dead ts m h j]
theorem pgT_end (ts : List (List UInt8)) (m : Nat) (hm : m ≤ ts.length) (h : pgT ts m = none) : pgT ts ts.length = none := by
  have := pgT_dead ts m h (ts.length - m)
  rwa [show m + (ts.length - m) = ts.length by omega] at this
theorem prow8_len {t : List UInt8} {row : List Int} (h : prow8 t = some row) : row.length ≤ 8 := by
  unfold prow8 at h
  split at h
  · split at h
    · cases h; assumption
    · cases h
  · cases h

/-- where the program stands, there the document stands. -/
theorem pgT_brT (ts : List (List UInt8)) (m : Nat) (hm : m ≤ ts.length) : match pgT ts m with
    | none => brT ts m = none
    | some (f, ps) => f ≤ 8 ∧ (m = 0 → f = 0 ∧ ps = []) ∧ ps.length = m * f ∧ (m = 0 ∨ 3 ≤ f → brT ts m = some (f, ps)) ∧ (0 < m → f < 3 → brT ts m = none) := by
  induction m with
  | zero => simp [pgT, brT]
  | succ m ih =>
    have ih := ih (by omega)
    rw [brT_succ ts m (by omega)]
    unfold pgT
    cases hp : pgT ts m with
    | none =>
      rw [hp] at ih
      simp only at ih ⊢
      rw [ih]
      rfl
    | some st =>
      obtain ⟨f, ps⟩ := st
      rw [hp] at ih
      simp only at ih ⊢
      obtain ⟨h8, hz, hl, hy, hn⟩ := ih
      generalize ts[ts.length - 1 - m]?.getD [] = t
      cases hr : prow t with
      | none =>
        have hq : prow8 t = none := by unfold prow8; rw [hr]
        rw [hq]
        simp only
        unfold brS
        split
        · rfl
        · rw [hr]
      | some row =>
        by_cases hlen : row.length ≤ 8
        · have hq : prow8 t = some row := by unfold prow8; rw [hr]; simp [hlen]
          rw [hq]
          simp only
          by_cases hne : 0 < m ∧ row.length ≠ f
          · rw [if_pos hne]
            simp only
            by_cases h3 : 3 ≤ f
            · rw [hy (.inr h3)]
              simp only [brS, hr]
              rw [if_pos]
              refine .inr (.inr ⟨?_, hne.2⟩)
              rw [hl]
              exact Nat.mul_pos hne.1 (by omega)
            · rw [hn hne.1 (by omega)]
              rfl
          · rw [if_neg hne]
            simp only
            refine ⟨hlen, fun h => by omega, ?_, fun h => ?_, fun _ h => ?_⟩
            · rw [List.length_append, hl, Nat.add_mul, Nat.one_mul]
              by_cases hm0 : m = 0
              · subst hm0; simp
              · have : row.length = f := Classical.byContradiction fun hc => hne ⟨by omega, hc⟩
                rw [this]
            · have h3 : 3 ≤ row.length := by omega
              have hb : brT ts m = some (f, ps) := hy (by
                by_cases hm0 : m = 0
                · exact .inl hm0
                · have : row.length = f := Classical.byContradiction fun hc => hne ⟨by omega, hc⟩
                  exact .inr (by omega))
              rw [hb]
              simp only [brS, hr]
              rw [if_neg]
              rintro (hc | hc | ⟨hc, hc2⟩)
              · omega
              · omega
              · refine hne ⟨?_, hc2⟩
                by_cases hm0 : m = 0
                · rw [(hz hm0).2] at hc; simp at hc
                · omega
            · by_cases hm0 : m = 0
              · rw [hy (.inl hm0)]
                simp only [brS, hr]
                rw [if_pos (.inl h)]
              · have : row.length = f := Classical.byContradiction fun hc => hne ⟨by omega, hc⟩
                rw [hn (by omega) (by omega)]
                rfl
        · have hq : prow8 t = none := by unfold prow8; rw [hr]; simp; omega
          rw [hq]
          simp only
          unfold brS
          split
          · rfl
          · rw [hr]
            simp only
            rw [if_pos (.inr (.inl (by omega)))]

theorem pgParse_eq (L : List UInt8) : pgParse L = parseB L := by
  obtain ⟨h1, h2, h3⟩ := parts9_or L
  rcases h1 with h1 | ⟨h9, hn⟩
  · have hm := pgT_brT (parts9 L) (parts9 L).length (Nat.le_refl _)
    unfold pgParse parseB pgFin
    rw [← h1]
    by_cases hr : (parts9 L).length < 3 ∨ 8 < (parts9 L).length
    · rw [if_pos hr]
      split
      · rfl
      · rw [if_neg (by omega)]
    · rw [if_neg hr]
      cases hp : pgT (parts9 L) (parts9 L).length with
      | none =>
        rw [hp] at hm
        simp only at hm ⊢
        rw [hm]
        rfl
      | some st =>
        obtain ⟨f, ps⟩ := st
        rw [hp] at hm
        simp only at hm ⊢
        obtain ⟨h8, _, _, hy, hn⟩ := hm
        by_cases h3 : 3 ≤ f
        · rw [hy (.inr h3), if_pos ⟨h3, h8, by omega, by omega⟩]
          rfl
        · rw [hn (by omega) (by omega), if_neg (by omega)]
          rfl
  · rw [parts9_none hn]
    unfold pgParse pgFin
    rw [h9]
    split
    · rfl
    · rw [if_neg (by omega)]

end Go.Proofs.YtolohfkenglpcaaDoor
