/- Boards: the program's own copy, and a piece put on a square. -/
import Derived.Test.YtpcfgeggjfbfjaaDoorBpB
import Derived.Shelf.RegionOpen
import Derived.Sort.BigQuietIn
import Derived.Lib.QuietBelow
namespace Go.Proofs.YtpcfgeggjfbfjaaDoor
open Go.RowKit

end Go.Proofs.YtpcfgeggjfbfjaaDoor
