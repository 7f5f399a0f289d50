/- The reference's list of all squares and its set of all squares. -/
import Derived.Test.YtejlbjbmpdddkaaDoorSqJ
namespace Go.Proofs.YtejlbjbmpdddkaaDoor
open Go.RowKit

theorem infoP : (Tryd.prog.info? 57).map (fun i => (i.zero, i.size, i.bytes)) = some (some (.agg #[.int .i64 0, .int .i64 0]), 2, 16) := by kernel_rfl

/-- a slice of so many elements is returned. -/
def SomeLen (m : Int) (e : Ending) : Prop := ∃ A n c, e = .returned (.slice A n c) ∧ (n : Int) = m

theorem sqs_nat (l : List Nat) : sqs (l.map fun i : Nat => (i : Int)) = l := by
  unfold sqs
  rw [List.map_map]
  conv => rhs; rw [← List.map_id l]
  apply List.map_congr_left
  intro a _
  simp

end Go.Proofs.YtejlbjbmpdddkaaDoor
