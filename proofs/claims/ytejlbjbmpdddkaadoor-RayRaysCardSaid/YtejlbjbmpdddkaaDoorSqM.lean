/- The names of squares: the program's and the reference's. -/
import Derived.Test.YtejlbjbmpdddkaaDoorSqC
import Derived.Laws.BytesString
import Derived.Lib.Hide
namespace Go.Proofs.YtejlbjbmpdddkaaDoor
open Go.RowKit

/-- the string of two bytes. -/
def nm (x y : Int) : ByteArray := (ByteArray.empty.push (UInt8.ofNat x.toNat)).push (UInt8.ofNat y.toNat)

theorem nm_ref : ∀ f, f < 8 → ∀ r, r < 8 → (ByteArray.mk #[97, 98, 99, 100, 101, 102, 103, 104]).extract f (f + 1) ++ (ByteArray.mk #[49, 50, 51, 52, 53, 54, 55, 56]).extract r (r + 1) = nm (97 + (f : Int)) (49 + (r : Int)) := by decide +kernel

theorem ret_str {a b : ByteArray} (h : a = b) : Ending.returned (.string a) = .returned (.string b) := by rw [h]

/-- the name of a square. -/
def nameB (F a : Int) : ByteArray := nm (97 + a % F) (49 + a / F)

set_option maxRecDepth 100000 in
set_option maxHeartbeats 400000 in
theorem refName_any (F R a : Int) (h : vat F R a) (w : World) :
    Calls Tryd.prog 59 #[.agg #[.int .i64 F, .int .i64 R], .int .i64 a] w fun e w' => e = .returned (.string (nameB F a)) ∧ Below w.heap.size w w' := by
  obtain ⟨p0, p1, p2, p3⟩ := place_bd h.1 h.2.1 h.2.2
  have f2 := h.1.2.1
  have r2 := h.1.2.2.2
  have E : Hid ((ByteArray.mk #[97, 98, 99, 100, 101, 102, 103, 104]).extract (a % F).toNat (a % F + 1).toNat ++ (ByteArray.mk #[49, 50, 51, 52, 53, 54, 55, 56]).extract (a / F).toNat (a / F + 1).toNat = nameB F a) := Lib.hid (by
    have := nm_ref (a % F).toNat (by omega) (a / F).toNat (by omega)
    rw [show (a % F + 1).toNat = (a % F).toNat + 1 from by omega, show (a / F + 1).toNat = (a / F).toNat + 1 from by omega, this]
    unfold nameB
    rw [Int.toNat_of_nonneg p0, Int.toNat_of_nonneg p2])
  go_enter Tryd.func59, Tryd.ntmps59
  go_wp2_with fail
  refine (refPlace_any _ _ _ h _).mono ?_
  rintro e w1 ⟨rfl, hb⟩
  go_wp2
  go_quiet (fail)
  go_wp2
  go_ret
  exact ⟨ret_str E.out, drawn (after1 (hb.alloc hb.size _)) _⟩
end Go.Proofs.YtejlbjbmpdddkaaDoor
