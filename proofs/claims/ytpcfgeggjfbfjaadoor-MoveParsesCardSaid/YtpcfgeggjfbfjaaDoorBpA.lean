/- Boards: the program's own validity. -/
import Derived.Test.YtpcfgeggjfbfjaaDoorBdA
namespace Go.Proofs.YtpcfgeggjfbfjaaDoor
open Go.RowKit

end Go.Proofs.YtpcfgeggjfbfjaaDoor
