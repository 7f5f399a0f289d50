/- The reference's list of the squares of a set, and the set of a list. -/
import Derived.Test.YtpcfgeggjfbfjaaDoorSqD
namespace Go.Proofs.YtpcfgeggjfbfjaaDoor
open Go.RowKit

theorem ints3 : (Tryd.prog.info? 3).map (fun i => (i.zero, i.size, i.bytes)) = some (some (.int .i64 0), 1, 8) := by kernel_rfl

/-- the squares of a set among the first k. -/
def listTo (X k : Nat) : List Nat := (List.range k).filter (fun i => X.testBit i)
theorem listTo_yes (X k : Nat) (h : X.testBit k = true) : listTo X (k + 1) = listTo X k ++ [k] := by
  unfold listTo; rw [List.range_succ, List.filter_append]; simp [h]
theorem listTo_no (X k : Nat) (h : X.testBit k = false) : listTo X (k + 1) = listTo X k := by
  unfold listTo; rw [List.range_succ, List.filter_append]; simp [h]
theorem listTo_le (X k : Nat) : (listTo X k).length ≤ k := by
  unfold listTo
  have := List.length_filter_le (fun i => X.testBit i) (List.range k)
  simpa using this
theorem listTo_64 (X : Nat) : listTo X 64 = listOf X := rfl
def vnat (i : Nat) : Value := .int .i64 (i : Int)
def vnats (l : List Nat) : List Value := l.map vnat
theorem vnats_snoc (l : List Nat) (i : Nat) : vnats (l ++ [i]) = vnats l ++ [.int .i64 (i : Int)] := by simp [vnats, vnat]
theorem vnats_len (l : List Nat) : (vnats l).length = l.length := by simp [vnats]

end Go.Proofs.YtpcfgeggjfbfjaaDoor
