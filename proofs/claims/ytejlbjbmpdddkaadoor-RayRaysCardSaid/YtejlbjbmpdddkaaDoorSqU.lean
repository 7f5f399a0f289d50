/- Shift: the set whose squares are moved, without those that leave the board. -/
import Derived.Test.YtejlbjbmpdddkaaDoorSqS
import Derived.Test.YtejlbjbmpdddkaaDoorSqT
import Derived.RangeFuncFrom
import Derived.Test.YtejlbjbmpdddkaaDoorSqV
namespace Go.Proofs.YtejlbjbmpdddkaaDoor
open Go.RowKit Go.Shelf
attribute [local go_sem] Oper.semAt_some

theorem alive {w : World} (o : Obj) {p : Addr} {v : Value} (h : w.cell? p = some v) : (w.alloc o).cell? p = some v :=
  (World.cell?_alloc_lt w o p (World.block_lt_of_cell? w p h)).trans h
theorem keeps_below {W W' : World} (h : Below W.heap.size W W') : KeepsOthers W W' := ⟨h.size, fun _ _ hk _ => (h.block _ (Array.getElem?_eq_some_iff.1 hk).1).trans hk⟩

end Go.Proofs.YtejlbjbmpdddkaaDoor
