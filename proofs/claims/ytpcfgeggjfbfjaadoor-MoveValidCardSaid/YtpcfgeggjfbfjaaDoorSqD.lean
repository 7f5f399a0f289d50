/- Contracts of All, Has, Distance, of their references and of what they call: which answer each gives, and that nothing that lay before is changed. -/
import Derived.Test.YtpcfgeggjfbfjaaDoorSqC
import Derived.Test.YtpcfgeggjfbfjaaDoorSqP
import Derived.Laws.ShiftsVar
import Derived.Lib.Hide
namespace Go.Proofs.YtpcfgeggjfbfjaaDoor
open Go.RowKit

/-- the distance of two squares. -/
def dist (F a b : Int) : Int := max (max (a % F - b % F) (b % F - a % F)) (max (a / F - b / F) (b / F - a / F))

end Go.Proofs.YtpcfgeggjfbfjaaDoor
