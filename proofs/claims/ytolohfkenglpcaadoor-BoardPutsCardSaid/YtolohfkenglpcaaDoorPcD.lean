/- Pieces: kinds' names: the program's Find, the reference's Name and Find. -/
import Derived.Test.YtolohfkenglpcaaDoorPcC
import Derived.Laws.BytesString
namespace Go.Proofs.YtolohfkenglpcaaDoor
open Go.RowKit

/-- the kind with a name, or 0. -/
def fdP (s : ByteArray) : Int := match (List.range 15).find? (fun k => decide (knm k = s)) with
  | some k => (k : Int) + 1
  | none => 0
theorem fdP_no {s : ByteArray} (h : ∀ k, k < 15 → knm k ≠ s) : fdP s = 0 := by
  unfold fdP
  rw [List.find?_eq_none.2]
  intro k hk hc
  exact h k (List.mem_range.1 hk) (by simpa using hc)
theorem fdP_nm {k : Nat} (hk : k < 15) : fdP (knm k) = (k : Int) + 1 := by
  have key : ∀ k : Nat, k < 15 → fdP (knm k) = (k : Int) + 1 := by decide +kernel
  exact key k hk

def noName (s : ByteArray) (k : Nat) : Prop := ∀ j, j < k → knm j ≠ s
theorem pTo_ne {a b : ByteArray} (h : a ≠ b) : (a.toList == b.toList) = false := by
  rw [beq_eq_false_iff_ne, ByteArray.toList_eq, ByteArray.toList_eq]
  intro e
  apply h
  cases a; cases b
  simpa using e
theorem pTo_eq {a b : ByteArray} (h : a = b) : (a.toList == b.toList) = true := by rw [h]; simp

def b1 (x : Int) : ByteArray := ByteArray.empty.push (UInt8.ofNat x.toNat)
theorem conv1 (W : World) (x : Int) : (convert 82 9 (.slice (some ⟨W.heap.size, 0, none⟩) 1 1)).run Tryd.prog (W.alloc (.cells #[.int .u8 x] 5)) = .ok (.string (b1 x)) (W.alloc (.cells #[.int .u8 x] 5)) := by
  rw [run_convert_bytes_string _ _ _ _ _ _ _ Tryd.underlying82 Tryd.underlying5 Tryd.underlying9, run_bytesToString _ _ _ _ [x] (by simp [go_sem, loadCells])]
  rfl
theorem ret_strP {a b : ByteArray} (h : a = b) : Ending.returned (.string a) = .returned (.string b) := by rw [h]
theorem fairy_nm : ∀ k : Nat, k < 15 → 6 ≤ k → (ByteArray.mk #[102, 97, 105, 114, 121, 45]) ++ b1 ((ltr k : Int) + 32) = knm k := by decide +kernel

end Go.Proofs.YtolohfkenglpcaaDoor
