/- The examples of the chapter: known answers true, and changes nothing that lay before. Under the table of package math/bits as its text lays it. -/
import Derived.Test.YtejlbjbmpdddkaaDoorSqU
import Derived.Test.YtejlbjbmpdddkaaDoorSqW
import Derived.Test.YtejlbjbmpdddkaaDoorSqQ
namespace Go.Proofs.YtejlbjbmpdddkaaDoor
open Go.RowKit

theorem vsz_of (F R : Int) (h : (decide (3 ≤ F) && decide (F ≤ 8) && decide (3 ≤ R) && decide (R ≤ 8)) = true) : vsz F R := by simp at h; exact ⟨h.1.1.1, h.1.1.2, h.1.2, h.2⟩
theorem v34 : vsz 3 4 := vsz_of _ _ rfl
theorem v33 : vsz 3 3 := vsz_of _ _ rfl
theorem v54 : vsz 5 4 := vsz_of _ _ rfl
theorem v88 : vsz 8 8 := vsz_of _ _ rfl
theorem v89 : ¬ vsz 8 9 := fun h => by have := h.2.2.2; omega
theorem a17 : vat 5 4 17 := ⟨v54, by omega, by omega⟩

theorem nm_none (s : ByteArray) (h : ∀ n, n < 20 → nameB 5 ((n : Nat) : Int) ≠ s) : ∀ a, vat 5 4 a → nameB 5 a ≠ s := by
  intro a ha
  obtain ⟨n, rfl⟩ := Int.eq_ofNat_of_zero_le ha.2.1
  exact h n (by have := ha.2.2; omega)

theorem l273 : listOf 273 = [0, 4, 8] := by decide +kernel
theorem s273 : ofL (shl 3 3 1 0 (listOf 273)) = 34 := by
  rw [l273]
  have h0 : onb 3 3 (((0 : Nat) : Int) % 3 + 1) (((0 : Nat) : Int) / 3 + 0) := ⟨by decide, by decide, by decide, by decide⟩
  have h4 : onb 3 3 (((4 : Nat) : Int) % 3 + 1) (((4 : Nat) : Int) / 3 + 0) := ⟨by decide, by decide, by decide, by decide⟩
  have h8 : ¬ onb 3 3 (((8 : Nat) : Int) % 3 + 1) (((8 : Nat) : Int) / 3 + 0) := fun h => absurd h.2.1 (by decide)
  have e1 := shl_yes (l := []) h0
  have e2 := shl_yes (l := [0]) h4
  have e3 := shl_no (l := [0, 4]) h8
  have e : shl 3 3 1 0 [0, 4, 8] = [1, 5] := by
    show shl 3 3 1 0 ([0, 4] ++ [8]) = _
    rw [e3]
    show shl 3 3 1 0 ([0] ++ [4]) = _
    rw [e2]
    show shl 3 3 1 0 ([] ++ [0]) ++ _ = _
    rw [e1]
    rfl
  rw [e]
  rfl

theorem carry4 {w w' : World} {b c : Addr} {d f : Addr} {v0 v1 v2 v3 : Value} (hb : Below w.heap.size w w') (h : w.cell? b = some v0 ∧ w.cell? c = some v1 ∧ w.cell? d = some v2 ∧ w.cell? f = some v3) :
    w'.cell? b = some v0 ∧ w'.cell? c = some v1 ∧ w'.cell? d = some v2 ∧ w'.cell? f = some v3 :=
  ⟨(hb.cell (World.block_lt_of_cell? w _ h.1)).trans h.1, (hb.cell (World.block_lt_of_cell? w _ h.2.1)).trans h.2.1, (hb.cell (World.block_lt_of_cell? w _ h.2.2.1)).trans h.2.2.1, (hb.cell (World.block_lt_of_cell? w _ h.2.2.2)).trans h.2.2.2⟩

theorem k_at1 (w : World) : Calls Tryd.prog 28 #[.agg #[.int .i64 5, .int .i64 4], .int .i64 2, .int .i64 3] w fun e w' => e = .returned (.tuple #[.int .i64 17, .int .i64 0]) ∧ Below w.heap.size w w' :=
  (at_yes 5 4 2 3 v54 ⟨by omega, by omega, by omega, by omega⟩ w).mono fun e w' h => ⟨by rw [h.1]; try rfl, h.2⟩

theorem k_at2 (w : World) : Calls Tryd.prog 28 #[.agg #[.int .i64 5, .int .i64 4], .int .i64 5, .int .i64 0] w fun e w' => e = .returned (.tuple #[.int .i64 0, .int .i64 3]) ∧ Below w.heap.size w w' :=
  (at_off 5 4 5 0 v54 (fun h => absurd h.2.1 (by omega)) w).mono fun e w' h => ⟨by rw [h.1]; try rfl, h.2⟩

theorem k_place (w : World) : Calls Tryd.prog 27 #[.agg #[.int .i64 5, .int .i64 4], .int .i64 17] w fun e w' => e = .returned (.tuple #[.int .i64 2, .int .i64 3, .int .i64 0]) ∧ Below w.heap.size w w' :=
  (placeX_yes 5 4 17 a17 w).mono fun e w' h => ⟨by rw [h.1]; try rfl, h.2⟩

theorem k_dist1 (w : World) : Calls Tryd.prog 33 #[.agg #[.int .i64 8, .int .i64 8], .int .i64 0, .int .i64 63] w fun e w' => e = .returned (.tuple #[.int .i64 7, .int .i64 0]) ∧ Below w.heap.size w w' :=
  (distance_yes 8 8 0 63 ⟨v88, by omega, by omega⟩ ⟨v88, by omega, by omega⟩ w).mono fun e w' h => ⟨by rw [h.1]; try rfl, h.2⟩

theorem k_dist2 (w : World) : Calls Tryd.prog 33 #[.agg #[.int .i64 8, .int .i64 8], .int .i64 0, .int .i64 2] w fun e w' => e = .returned (.tuple #[.int .i64 2, .int .i64 0]) ∧ Below w.heap.size w w' :=
  (distance_yes 8 8 0 2 ⟨v88, by omega, by omega⟩ ⟨v88, by omega, by omega⟩ w).mono fun e w' h => ⟨by rw [h.1]; try rfl, h.2⟩

theorem k_all (w : World) : Calls Tryd.prog 54 #[.agg #[.int .i64 3, .int .i64 3]] w fun e w' => e = .returned (.tuple #[.int .u64 511, .int .i64 0]) ∧ Below w.heap.size w w' :=
  (all_yes 3 3 v33 w).mono fun e w' h => ⟨by rw [h.1]; try rfl, h.2⟩

end Go.Proofs.YtejlbjbmpdddkaaDoor
