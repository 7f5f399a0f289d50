/- Boards: the program's own comparison, copies and empty boards. -/
import Derived.Test.YtpcfgeggjfbfjaaDoorBdC
import Derived.Test.YtpcfgeggjfbfjaaDoorBpA
import Derived.Lib.SliceRun
namespace Go.Proofs.YtpcfgeggjfbfjaaDoor
open Go.RowKit

theorem liv {w : World} (o : Obj) {p : Addr} {v : Value} (h : w.cell? p = some v) : (w.alloc o).cell? p = some v :=
  (World.cell?_alloc_lt w o p (World.block_lt_of_cell? w p h)).trans h

end Go.Proofs.YtpcfgeggjfbfjaaDoor
