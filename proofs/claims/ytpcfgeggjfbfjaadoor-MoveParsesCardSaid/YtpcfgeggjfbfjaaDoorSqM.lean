/- The names of squares: the program's and the reference's. -/
import Derived.Test.YtpcfgeggjfbfjaaDoorSqC
import Derived.Laws.BytesString
import Derived.Lib.Hide
namespace Go.Proofs.YtpcfgeggjfbfjaaDoor
open Go.RowKit

/-- the string of two bytes. -/
def nm (x y : Int) : ByteArray := (ByteArray.empty.push (UInt8.ofNat x.toNat)).push (UInt8.ofNat y.toNat)

theorem conv2 (W : World) (x y : Int) : (convert 71 9 (.slice (some ⟨W.heap.size, 0, none⟩) 2 2)).run Tryd.prog (W.alloc (.cells #[.int .u8 x, .int .u8 y] 5)) = .ok (.string (nm x y)) (W.alloc (.cells #[.int .u8 x, .int .u8 y] 5)) := by
  rw [run_convert_bytes_string _ _ _ _ _ _ _ Tryd.underlying71 Tryd.underlying5 Tryd.underlying9, run_bytesToString _ _ _ _ [x, y] (by simp [go_sem, loadCells])]
  rfl

theorem nm_ref : ∀ f, f < 8 → ∀ r, r < 8 → (ByteArray.mk #[97, 98, 99, 100, 101, 102, 103, 104]).extract f (f + 1) ++ (ByteArray.mk #[49, 50, 51, 52, 53, 54, 55, 56]).extract r (r + 1) = nm (97 + (f : Int)) (49 + (r : Int)) := by decide +kernel

theorem ret_str {a b : ByteArray} (h : a = b) : Ending.returned (.string a) = .returned (.string b) := by rw [h]

/-- the name of a square. -/
def nameB (F a : Int) : ByteArray := nm (97 + a % F) (49 + a / F)

set_option maxRecDepth 100000 in
set_option maxHeartbeats 400000 in
theorem name_yes (F R a : Int) (h : vat F R a) (w : World) :
    Calls Tryd.prog 31 #[.agg #[.int .i64 F, .int .i64 R], .int .i64 a] w fun e w' => e = .returned (.tuple #[.string (nameB F a), .int .i64 0]) ∧ Below w.heap.size w w' := by
  obtain ⟨p0, p1, p2, p3⟩ := place_bd h.1 h.2.1 h.2.2
  have f2 := h.1.2.1
  have r2 := h.1.2.2.2
  have hcv := fun W => conv2 W (97 + a % F) (49 + a / F)
  have E : Hid (nameB F a = nm (97 + a % F) (49 + a / F)) := Lib.hid rfl
  go_enter Tryd.func31, Tryd.ntmps31
  go_wp2_with fail
  refine (valid_yes _ _ _ h _).mono ?_
  rintro e w1 ⟨rfl, hb⟩
  have hc0 := hb.cell (p := ⟨w.heap.size, 0, none⟩) (by simp)
  have hc1 := hb.cell (p := ⟨w.heap.size, 1, none⟩) (by simp)
  go_wp2_with fail
  refine (place_any _ _ _ h _).mono ?_
  rintro e w2 ⟨rfl, hb2⟩
  go_wp2
  go_ret2
  exact ⟨ret2 (by rw [E.out]; rfl) rfl, after1 ((chain hb hb2).alloc (chain hb hb2).size _)⟩

set_option maxRecDepth 100000 in
set_option maxHeartbeats 400000 in
theorem name_no (F R a : Int) (h : ¬ vat F R a) (w : World) :
    Calls Tryd.prog 31 #[.agg #[.int .i64 F, .int .i64 R], .int .i64 a] w fun e w' => e = .returned (.tuple #[.string ⟨#[]⟩, .int .i64 2]) ∧ Below w.heap.size w w' := by
  go_enter Tryd.func31, Tryd.ntmps31
  go_wp2_with fail
  refine (valid_no _ _ _ h _).mono ?_
  rintro e w1 ⟨rfl, hb⟩
  go_wp2
  go_ret2
  exact ⟨rfl, after1 hb⟩

set_option maxRecDepth 100000 in
set_option maxHeartbeats 400000 in
theorem refName_any (F R a : Int) (h : vat F R a) (w : World) :
    Calls Tryd.prog 33 #[.agg #[.int .i64 F, .int .i64 R], .int .i64 a] w fun e w' => e = .returned (.string (nameB F a)) ∧ Below w.heap.size w w' := by
  obtain ⟨p0, p1, p2, p3⟩ := place_bd h.1 h.2.1 h.2.2
  have f2 := h.1.2.1
  have r2 := h.1.2.2.2
  have E : Hid ((ByteArray.mk #[97, 98, 99, 100, 101, 102, 103, 104]).extract (a % F).toNat (a % F + 1).toNat ++ (ByteArray.mk #[49, 50, 51, 52, 53, 54, 55, 56]).extract (a / F).toNat (a / F + 1).toNat = nameB F a) := Lib.hid (by
    have := nm_ref (a % F).toNat (by omega) (a / F).toNat (by omega)
    rw [show (a % F + 1).toNat = (a % F).toNat + 1 from by omega, show (a / F + 1).toNat = (a / F).toNat + 1 from by omega, this]
    unfold nameB
    rw [Int.toNat_of_nonneg p0, Int.toNat_of_nonneg p2])
  go_enter Tryd.func33, Tryd.ntmps33
  go_wp2_with fail
  refine (refPlace_any _ _ _ h _).mono ?_
  rintro e w1 ⟨rfl, hb⟩
  go_wp2
  go_quiet (fail)
  go_wp2
  go_ret
  exact ⟨ret_str E.out, drawn (after1 (hb.alloc hb.size _)) _⟩
end Go.Proofs.YtpcfgeggjfbfjaaDoor
