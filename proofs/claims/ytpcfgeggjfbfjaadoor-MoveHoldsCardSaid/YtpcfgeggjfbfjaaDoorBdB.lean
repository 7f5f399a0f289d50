/- Boards: which are the same, by the document's own function. -/
import Derived.Test.YtpcfgeggjfbfjaaDoorBdA
namespace Go.Proofs.YtpcfgeggjfbfjaaDoor
open Go.RowKit

theorem first_diff {l l' : List Int} (hl : l.length = l'.length) (h : l ≠ l') : ∃ m, m < l.length ∧ l[m]?.getD 0 ≠ l'[m]?.getD 0 ∧ ∀ j, j < m → l[j]?.getD 0 = l'[j]?.getD 0 := by
  have h' : ∃ m, m < l.length ∧ l[m]?.getD 0 ≠ l'[m]?.getD 0 := by
    apply Classical.byContradiction
    intro hc
    apply h
    apply List.ext_getElem hl
    intro j h1 h2
    have : l[j]?.getD 0 = l'[j]?.getD 0 := Classical.byContradiction fun hb => hc ⟨j, h1, hb⟩
    rw [List.getElem?_eq_getElem h1, List.getElem?_eq_getElem h2] at this
    exact this
  obtain ⟨n, hn⟩ := h'
  obtain ⟨m, hm, hp, hq⟩ := least (P := fun m => m < l.length ∧ l[m]?.getD 0 ≠ l'[m]?.getD 0) n hn
  exact ⟨m, hp.1, hp.2, fun j hj => Classical.byContradiction fun hb => hq j hj ⟨by omega, hb⟩⟩

end Go.Proofs.YtpcfgeggjfbfjaaDoor
