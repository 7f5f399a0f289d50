/- Boards: rows of pieces in memory; which boards are valid, by the document's own functions. -/
import Derived.Test.YtpcfgeggjfbfjaaDoorSqI
import Derived.Test.YtpcfgeggjfbfjaaDoorPcB
namespace Go.Proofs.YtpcfgeggjfbfjaaDoor
open Go.RowKit

/-- a slice value that reads, below block B, as the list l of pieces. -/
def RdP (w : World) (B : Nat) (A : Option Addr) (l : List Int) (c : Nat) : Prop :=
  (A = none → l.length = 0 ∧ c = 0) ∧ (0 < l.length → ∃ ad, A = some ad ∧ ad.block < B ∧ ∀ j u, l[j]? = some u → w.cell? (ad.add j) = some (.int .i8 u))
theorem RdP.at_ {w : World} {B : Nat} {A : Option Addr} {l : List Int} {c : Nat} (h : RdP w B A l c) {k : Nat} (hk : k < l.length) : ∃ ad, A = some ad ∧ ad.block < B ∧ w.cell? (ad.add k) = some (.int .i8 (l[k]?.getD 0)) := by
  obtain ⟨ad, e, hb, hc⟩ := h.2 (by omega)
  exact ⟨ad, e, hb, hc k _ (by rw [List.getElem?_eq_getElem hk]; rfl)⟩
theorem RdP.below {w w' : World} {B : Nat} {A : Option Addr} {l : List Int} {c : Nat} (h : RdP w B A l c) (hb : Below B w w') : RdP w' B A l c := ⟨h.1, fun hl => by
  obtain ⟨ad, e, h1, hc⟩ := h.2 hl
  exact ⟨ad, e, h1, fun j u hu => (hb.cell (by rw [blk_add]; exact h1)).trans (hc j u hu)⟩⟩
theorem RdP.grow {w : World} {B B' : Nat} {A : Option Addr} {l : List Int} {c : Nat} (h : RdP w B A l c) (hB : B ≤ B') : RdP w B' A l c := ⟨h.1, fun hl => by
  obtain ⟨ad, e, h1, hc⟩ := h.2 hl
  exact ⟨ad, e, by omega, hc⟩⟩

/-- a valid board. -/
def vbd (F R : Int) (l : List Int) : Prop := vsz F R ∧ (l.length : Int) = F * R ∧ ∀ j, j < l.length → okP (l[j]?.getD 0)

theorem least {P : Nat → Prop} (n : Nat) : P n → ∃ m, m ≤ n ∧ P m ∧ ∀ j, j < m → ¬ P j := by
  induction n using Nat.strongRecOn with
  | ind n ih =>
    intro h
    by_cases hx : ∃ j, j < n ∧ P j
    · obtain ⟨j, hj, hp⟩ := hx
      obtain ⟨m, hm, h1, h2⟩ := ih j hj hp
      exact ⟨m, by omega, h1, h2⟩
    · exact ⟨n, Nat.le_refl _, h, fun j hj hp => hx ⟨j, hj, hp⟩⟩
/-- the first number of a list that is no piece. -/
theorem first_bad {l : List Int} (h : ¬ ∀ j, j < l.length → okP (l[j]?.getD 0)) : ∃ m, m < l.length ∧ ¬ okP (l[m]?.getD 0) ∧ ∀ j, j < m → okP (l[j]?.getD 0) := by
  have h' : ∃ m, m < l.length ∧ ¬ okP (l[m]?.getD 0) := by
    apply Classical.byContradiction
    intro hc
    exact h fun j hj => Classical.byContradiction fun hb => hc ⟨j, hj, hb⟩
  obtain ⟨n, hn⟩ := h'
  obtain ⟨m, hm, hp, hl⟩ := least (P := fun m => m < l.length ∧ ¬ okP (l[m]?.getD 0)) n hn
  exact ⟨m, hp.1, hp.2, fun j hj => Classical.byContradiction fun hb => hl j hj ⟨by omega, hb⟩⟩

end Go.Proofs.YtpcfgeggjfbfjaaDoor
