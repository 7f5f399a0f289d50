/- Each: the iterator over the squares of a set gives them in order, as far as the loop takes them. Under the table of package math/bits as its text lays it. -/
import Derived.RangeFuncNested
import Derived.RangeFuncBound
import Derived.RangeFuncCalls
import Derived.RangeFuncLeaves
import Derived.Shelf.Abstract
import Derived.Shelf.RegionOpen
import Derived.WalkKit
import Derived.OwnWalkIn
import Derived.TacticsInMore
import Derived.LoopNIn
import Derived.LoopIn
import Derived.Shelf.Spec.TrailingZeros
import Derived.Test.YtpcfgeggjfbfjaaDoorSqD
namespace Go.Proofs.YtpcfgeggjfbfjaaDoor
open Go.RowKit Go.Shelf
attribute [local go_sem] Oper.semAt_some

/-- a square of a set. -/
abbrev Sq (X : Nat) := { i : Nat // i ∈ listOf X }
def vals {X : Nat} (l : List (Sq X)) : List Nat := l.map (·.1)
theorem vals_snoc {X : Nat} (l : List (Sq X)) (x : Sq X) : vals (l ++ [x]) = vals l ++ [x.1] := by simp [vals]
theorem vals_len {X : Nat} (l : List (Sq X)) : (vals l).length = l.length := by simp [vals]

theorem and_pred (x : Nat) (h0 : x ≠ 0) (hx : x < 18446744073709551616) : bits .and .u64 (x : Int) ((x : Int) - 1) = ((x &&& (x - 1) : Nat) : Int) := by
  have e : ((x : Int) - 1) = ((x - 1 : Nat) : Int) := by omega
  rw [e, u64_and_nat x (x - 1) hx (by omega)]

end Go.Proofs.YtpcfgeggjfbfjaaDoor
