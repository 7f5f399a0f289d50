/- The program's set of a list of squares, and the reference's set of all squares. -/
import Derived.Test.YtejlbjbmpdddkaaDoorSqI
namespace Go.Proofs.YtejlbjbmpdddkaaDoor
open Go.RowKit

theorem vat_64 {F R a : Int} (h : vat F R a) : 0 ≤ a ∧ a < 64 := by
  have := vsz_mul h.1
  exact ⟨h.2.1, by have := h.2.2; omega⟩

end Go.Proofs.YtejlbjbmpdddkaaDoor
