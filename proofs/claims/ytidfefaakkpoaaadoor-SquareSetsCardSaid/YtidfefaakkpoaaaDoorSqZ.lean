/- The examples of the chapter: known answers true, and changes nothing that lay before. Under the table of package math/bits as its text lays it. -/
import Derived.Test.YtidfefaakkpoaaaDoorSqU
import Derived.Test.YtidfefaakkpoaaaDoorSqW
import Derived.Test.YtidfefaakkpoaaaDoorSqQ
namespace Go.Proofs.YtidfefaakkpoaaaDoor
open Go.RowKit

theorem size_any (F R : Int) (w : World) :
    Calls Tryd.prog 67 #[.int .i64 F, .int .i64 R] w fun e w' => e = .returned (.agg #[.int .i64 F, .int .i64 R]) ∧ Below w.heap.size w w' := by
  go_enter Tryd.func67, Tryd.ntmps67
  go_wp2
  exact bodyPost_ret (v := .agg #[.int .i64 F, .int .i64 R]) (by simp [results, Tryd.results67, go_sem]) rfl ⟨rfl, by go_grown⟩

theorem vsz_of (F R : Int) (h : (decide (3 ≤ F) && decide (F ≤ 8) && decide (3 ≤ R) && decide (R ≤ 8)) = true) : vsz F R := by simp at h; exact ⟨h.1.1.1, h.1.1.2, h.1.2, h.2⟩
theorem v34 : vsz 3 4 := vsz_of _ _ rfl
theorem v33 : vsz 3 3 := vsz_of _ _ rfl
theorem v54 : vsz 5 4 := vsz_of _ _ rfl
theorem v88 : vsz 8 8 := vsz_of _ _ rfl
theorem v89 : ¬ vsz 8 9 := fun h => by have := h.2.2.2; omega
theorem a17 : vat 5 4 17 := ⟨v54, by omega, by omega⟩

theorem nm_none (s : ByteArray) (h : ∀ n, n < 20 → nameB 5 ((n : Nat) : Int) ≠ s) : ∀ a, vat 5 4 a → nameB 5 a ≠ s := by
  intro a ha
  obtain ⟨n, rfl⟩ := Int.eq_ofNat_of_zero_le ha.2.1
  exact h n (by have := ha.2.2; omega)

theorem l273 : listOf 273 = [0, 4, 8] := by decide +kernel
theorem s273 : ofL (shl 3 3 1 0 (listOf 273)) = 34 := by
  rw [l273]
  have h0 : onb 3 3 (((0 : Nat) : Int) % 3 + 1) (((0 : Nat) : Int) / 3 + 0) := ⟨by decide, by decide, by decide, by decide⟩
  have h4 : onb 3 3 (((4 : Nat) : Int) % 3 + 1) (((4 : Nat) : Int) / 3 + 0) := ⟨by decide, by decide, by decide, by decide⟩
  have h8 : ¬ onb 3 3 (((8 : Nat) : Int) % 3 + 1) (((8 : Nat) : Int) / 3 + 0) := fun h => absurd h.2.1 (by decide)
  have e1 := shl_yes (l := []) h0
  have e2 := shl_yes (l := [0]) h4
  have e3 := shl_no (l := [0, 4]) h8
  have e : shl 3 3 1 0 [0, 4, 8] = [1, 5] := by
    show shl 3 3 1 0 ([0, 4] ++ [8]) = _
    rw [e3]
    show shl 3 3 1 0 ([0] ++ [4]) = _
    rw [e2]
    show shl 3 3 1 0 ([] ++ [0]) ++ _ = _
    rw [e1]
    rfl
  rw [e]
  rfl

theorem carry4 {w w' : World} {b c : Addr} {d f : Addr} {v0 v1 v2 v3 : Value} (hb : Below w.heap.size w w') (h : w.cell? b = some v0 ∧ w.cell? c = some v1 ∧ w.cell? d = some v2 ∧ w.cell? f = some v3) :
    w'.cell? b = some v0 ∧ w'.cell? c = some v1 ∧ w'.cell? d = some v2 ∧ w'.cell? f = some v3 :=
  ⟨(hb.cell (World.block_lt_of_cell? w _ h.1)).trans h.1, (hb.cell (World.block_lt_of_cell? w _ h.2.1)).trans h.2.1, (hb.cell (World.block_lt_of_cell? w _ h.2.2.1)).trans h.2.2.1, (hb.cell (World.block_lt_of_cell? w _ h.2.2.2)).trans h.2.2.2⟩

theorem k_count1 (w : World) : Calls Tryd.prog 15 #[.agg #[.int .i64 3, .int .i64 4]] w fun e w' => e = .returned (.tuple #[.int .i64 12, .int .i64 0]) ∧ Below w.heap.size w w' :=
  (count_yes 3 4 v34 w).mono fun e w' h => ⟨by rw [h.1]; try rfl, h.2⟩

theorem k_count2 (w : World) : Calls Tryd.prog 15 #[.agg #[.int .i64 8, .int .i64 9]] w fun e w' => e = .returned (.tuple #[.int .i64 0, .int .i64 2]) ∧ Below w.heap.size w w' :=
  (count_no 8 9 v89 w).mono fun e w' h => ⟨by rw [h.1]; try rfl, h.2⟩

theorem k_at1 (w : World) : Calls Tryd.prog 24 #[.agg #[.int .i64 5, .int .i64 4], .int .i64 2, .int .i64 3] w fun e w' => e = .returned (.tuple #[.int .i64 17, .int .i64 0]) ∧ Below w.heap.size w w' :=
  (at_yes 5 4 2 3 v54 ⟨by omega, by omega, by omega, by omega⟩ w).mono fun e w' h => ⟨by rw [h.1]; try rfl, h.2⟩

theorem k_at2 (w : World) : Calls Tryd.prog 24 #[.agg #[.int .i64 5, .int .i64 4], .int .i64 5, .int .i64 0] w fun e w' => e = .returned (.tuple #[.int .i64 0, .int .i64 3]) ∧ Below w.heap.size w w' :=
  (at_off 5 4 5 0 v54 (fun h => absurd h.2.1 (by omega)) w).mono fun e w' h => ⟨by rw [h.1]; try rfl, h.2⟩

theorem k_place (w : World) : Calls Tryd.prog 25 #[.agg #[.int .i64 5, .int .i64 4], .int .i64 17] w fun e w' => e = .returned (.tuple #[.int .i64 2, .int .i64 3, .int .i64 0]) ∧ Below w.heap.size w w' :=
  (placeX_yes 5 4 17 a17 w).mono fun e w' h => ⟨by rw [h.1]; try rfl, h.2⟩

theorem k_name (w : World) : Calls Tryd.prog 27 #[.agg #[.int .i64 5, .int .i64 4], .int .i64 17] w fun e w' => e = .returned (.tuple #[.string ⟨#[99, 52]⟩, .int .i64 0]) ∧ Below w.heap.size w w' :=
  (name_yes 5 4 17 a17 w).mono fun e w' h => ⟨by rw [h.1]; try rfl, h.2⟩

theorem k_light1 (w : World) : Calls Tryd.prog 26 #[.agg #[.int .i64 5, .int .i64 4], .int .i64 17] w fun e w' => e = .returned (.tuple #[.bool true, .int .i64 0]) ∧ Below w.heap.size w w' :=
  (light_yes 5 4 17 a17 w).mono fun e w' h => ⟨by rw [h.1]; try rfl, h.2⟩

theorem k_light2 (w : World) : Calls Tryd.prog 26 #[.agg #[.int .i64 5, .int .i64 4], .int .i64 0] w fun e w' => e = .returned (.tuple #[.bool false, .int .i64 0]) ∧ Below w.heap.size w w' :=
  (light_yes 5 4 0 ⟨v54, by omega, by omega⟩ w).mono fun e w' h => ⟨by rw [h.1]; try rfl, h.2⟩

theorem k_parse1 (w : World) : Calls Tryd.prog 31 #[.agg #[.int .i64 5, .int .i64 4], .string ⟨#[101, 49]⟩] w fun e w' => e = .returned (.tuple #[.int .i64 4, .int .i64 0]) ∧ Below w.heap.size w w' :=
  (parse_name 5 4 4 ⟨v54, by omega, by omega⟩ w).mono fun e w' h => ⟨by rw [h.1]; try rfl, h.2⟩

theorem k_parse2 (w : World) : Calls Tryd.prog 31 #[.agg #[.int .i64 5, .int .i64 4], .string ⟨#[102, 49]⟩] w fun e w' => e = .returned (.tuple #[.int .i64 0, .int .i64 6]) ∧ Below w.heap.size w w' :=
  (parse_none 5 4 ⟨#[102, 49]⟩ v54 (nm_none _ (by decide +kernel)) w).mono fun e w' h => ⟨by rw [h.1]; try rfl, h.2⟩

theorem k_parse3 (w : World) : Calls Tryd.prog 31 #[.agg #[.int .i64 5, .int .i64 4], .string ⟨#[69, 49]⟩] w fun e w' => e = .returned (.tuple #[.int .i64 0, .int .i64 6]) ∧ Below w.heap.size w w' :=
  (parse_none 5 4 ⟨#[69, 49]⟩ v54 (nm_none _ (by decide +kernel)) w).mono fun e w' h => ⟨by rw [h.1]; try rfl, h.2⟩

theorem k_dist1 (w : World) : Calls Tryd.prog 33 #[.agg #[.int .i64 8, .int .i64 8], .int .i64 0, .int .i64 63] w fun e w' => e = .returned (.tuple #[.int .i64 7, .int .i64 0]) ∧ Below w.heap.size w w' :=
  (distance_yes 8 8 0 63 ⟨v88, by omega, by omega⟩ ⟨v88, by omega, by omega⟩ w).mono fun e w' h => ⟨by rw [h.1]; try rfl, h.2⟩

theorem k_dist2 (w : World) : Calls Tryd.prog 33 #[.agg #[.int .i64 8, .int .i64 8], .int .i64 0, .int .i64 2] w fun e w' => e = .returned (.tuple #[.int .i64 2, .int .i64 0]) ∧ Below w.heap.size w w' :=
  (distance_yes 8 8 0 2 ⟨v88, by omega, by omega⟩ ⟨v88, by omega, by omega⟩ w).mono fun e w' h => ⟨by rw [h.1]; try rfl, h.2⟩

theorem k_all (w : World) : Calls Tryd.prog 16 #[.agg #[.int .i64 3, .int .i64 3]] w fun e w' => e = .returned (.tuple #[.int .u64 511, .int .i64 0]) ∧ Below w.heap.size w w' :=
  (all_yes 3 3 v33 w).mono fun e w' h => ⟨by rw [h.1]; try rfl, h.2⟩

theorem k_of (w : World) : Calls Tryd.prog 35 #[.agg #[.int .i64 3, .int .i64 3], .slice (some ⟨w.heap.size, 0, none⟩) 3 3] (w.alloc (.cells #[.int .i64 0, .int .i64 8, .int .i64 0] 3)) fun e w' => e = .returned (.tuple #[.int .u64 257, .int .i64 0]) ∧ Below (w.alloc (.cells #[.int .i64 0, .int .i64 8, .int .i64 0] 3)).heap.size (w.alloc (.cells #[.int .i64 0, .int .i64 8, .int .i64 0] 3)) w' :=
  (of_yes 3 3 [0, 8, 0] (some ⟨w.heap.size, 0, none⟩) 3 (w.alloc (.cells #[.int .i64 0, .int .i64 8, .int .i64 0] 3)) v33 (by decide)
    (fun _ => ⟨_, rfl, by simp, fun j u hu => by
      match j, hu with
      | 0, hu => simp at hu; subst hu; simp [Addr.add]
      | 1, hu => simp at hu; subst hu; simp [Addr.add]
      | 2, hu => simp at hu; subst hu; simp [Addr.add]⟩)
    (fun j hj => by
      match j, hj with
      | 0, _ => exact ⟨v33, by decide, by decide⟩
      | 1, _ => exact ⟨v33, by decide, by decide⟩
      | 2, _ => exact ⟨v33, by decide, by decide⟩)).mono fun e w' h => ⟨by rw [h.1]; try rfl, h.2⟩
theorem k_shift (w : World) (hT : Tab w) : Calls Tryd.prog 41 #[.agg #[.int .i64 3, .int .i64 3], .int .u64 273, .int .i64 1, .int .i64 0] w fun e w' => e = .returned (.tuple #[.int .u64 34, .int .i64 0]) ∧ Below w.heap.size w w' :=
  (shift_yes 3 3 1 0 273 v33 (by decide) ⟨by omega, by omega, by omega, by omega⟩ w hT).mono fun e w' h => ⟨by rw [h.1, s273]; try rfl, h.2⟩

set_option maxRecDepth 100000 in
set_option maxHeartbeats 4000000 in
theorem known_any (w : World) (hT : Tab w) : Calls Tryd.prog 21 #[] w fun e w' => e = .returned (.bool true) ∧ Below w.heap.size w w' := by
  go_enter Tryd.func21, Tryd.ntmps21
  go_wp2_with fail
  refine (size_any 5 4 _).mono ?_
  rintro e w1 ⟨rfl, b1⟩
  go_wp2_with fail
  refine (size_any 3 3 _).mono ?_
  rintro e w2 ⟨rfl, b2⟩
  have B2 := chain b1 b2
  clear b1 b2
  obtain ⟨W2, hW2⟩ : ∃ W, (w2.alloc (.cells #[.int .i64 5, .int .i64 4] 23)).alloc (.cells #[.int .i64 3, .int .i64 3] 23) = W := ⟨_, rfl⟩
  have B : Below w.heap.size w W2 := by
    rw [← hW2]
    exact (B2.alloc B2.size _).alloc (by have := B2.size; simp; omega) _
  have C : W2.cell? ⟨w2.heap.size, 0, none⟩ = some (.int .i64 5) ∧ W2.cell? ⟨w2.heap.size, 1, none⟩ = some (.int .i64 4) ∧ W2.cell? ⟨w2.heap.size + 1, 0, none⟩ = some (.int .i64 3) ∧ W2.cell? ⟨w2.heap.size + 1, 1, none⟩ = some (.int .i64 3) := by
    rw [← hW2]
    refine ⟨?_, ?_, ?_, ?_⟩ <;> simp [go_sem]
  have HW := Lib.hid hW2
  clear hW2
  go_wp2_with fail
  rw [HW.out]
  clear HW B2
  refine (size_any 3 4 _).mono ?_
  rintro e w13 ⟨rfl, hb⟩
  replace B := chain B hb
  replace C := carry4 hb C
  obtain ⟨q0, q1, q2, q3⟩ := C
  clear hb
  go_wp2_with fail
  have C := And.intro q0 (And.intro q1 (And.intro q2 q3))
  clear q0 q1 q2 q3
  refine (k_count1 _).mono ?_
  rintro e w14 ⟨rfl, hb⟩
  replace B := chain B hb
  replace C := carry4 hb C
  obtain ⟨q0, q1, q2, q3⟩ := C
  clear hb
  go_wp2_with fail
  have C := And.intro q0 (And.intro q1 (And.intro q2 q3))
  clear q0 q1 q2 q3
  refine (size_any 8 9 _).mono ?_
  rintro e w15 ⟨rfl, hb⟩
  replace B := chain B hb
  replace C := carry4 hb C
  obtain ⟨q0, q1, q2, q3⟩ := C
  clear hb
  go_wp2_with fail
  have C := And.intro q0 (And.intro q1 (And.intro q2 q3))
  clear q0 q1 q2 q3
  refine (k_count2 _).mono ?_
  rintro e w16 ⟨rfl, hb⟩
  replace B := chain B hb
  replace C := carry4 hb C
  obtain ⟨q0, q1, q2, q3⟩ := C
  clear hb
  go_wp2_with fail
  have C := And.intro q0 (And.intro q1 (And.intro q2 q3))
  clear q0 q1 q2 q3
  refine (k_at1 _).mono ?_
  rintro e w17 ⟨rfl, hb⟩
  replace B := chain B hb
  replace C := carry4 hb C
  obtain ⟨q0, q1, q2, q3⟩ := C
  clear hb
  go_wp2_with fail
  have C := And.intro q0 (And.intro q1 (And.intro q2 q3))
  clear q0 q1 q2 q3
  refine (k_at2 _).mono ?_
  rintro e w18 ⟨rfl, hb⟩
  replace B := chain B hb
  replace C := carry4 hb C
  obtain ⟨q0, q1, q2, q3⟩ := C
  clear hb
  go_wp2_with fail
  have C := And.intro q0 (And.intro q1 (And.intro q2 q3))
  clear q0 q1 q2 q3
  refine (k_place _).mono ?_
  rintro e w19 ⟨rfl, hb⟩
  replace B := chain B hb
  replace C := carry4 hb C
  obtain ⟨q0, q1, q2, q3⟩ := C
  clear hb
  go_wp2_with fail
  have C := And.intro q0 (And.intro q1 (And.intro q2 q3))
  clear q0 q1 q2 q3
  refine (k_name _).mono ?_
  rintro e w20 ⟨rfl, hb⟩
  replace B := chain B hb
  replace C := carry4 hb C
  obtain ⟨q0, q1, q2, q3⟩ := C
  clear hb
  go_wp2_with fail
  have C := And.intro q0 (And.intro q1 (And.intro q2 q3))
  clear q0 q1 q2 q3
  refine (k_light1 _).mono ?_
  rintro e w21 ⟨rfl, hb⟩
  replace B := chain B hb
  replace C := carry4 hb C
  obtain ⟨q0, q1, q2, q3⟩ := C
  clear hb
  go_wp2_with fail
  have C := And.intro q0 (And.intro q1 (And.intro q2 q3))
  clear q0 q1 q2 q3
  refine (k_light2 _).mono ?_
  rintro e w22 ⟨rfl, hb⟩
  replace B := chain B hb
  replace C := carry4 hb C
  obtain ⟨q0, q1, q2, q3⟩ := C
  clear hb
  go_wp2_with fail
  have C := And.intro q0 (And.intro q1 (And.intro q2 q3))
  clear q0 q1 q2 q3
  refine (k_parse1 _).mono ?_
  rintro e w23 ⟨rfl, hb⟩
  replace B := chain B hb
  replace C := carry4 hb C
  obtain ⟨q0, q1, q2, q3⟩ := C
  clear hb
  go_wp2_with fail
  have C := And.intro q0 (And.intro q1 (And.intro q2 q3))
  clear q0 q1 q2 q3
  refine (k_parse2 _).mono ?_
  rintro e w24 ⟨rfl, hb⟩
  replace B := chain B hb
  replace C := carry4 hb C
  obtain ⟨q0, q1, q2, q3⟩ := C
  clear hb
  go_wp2_with fail
  have C := And.intro q0 (And.intro q1 (And.intro q2 q3))
  clear q0 q1 q2 q3
  refine (k_parse3 _).mono ?_
  rintro e w25 ⟨rfl, hb⟩
  replace B := chain B hb
  replace C := carry4 hb C
  obtain ⟨q0, q1, q2, q3⟩ := C
  clear hb
  go_wp2_with fail
  have C := And.intro q0 (And.intro q1 (And.intro q2 q3))
  clear q0 q1 q2 q3
  refine (size_any 8 8 _).mono ?_
  rintro e w26 ⟨rfl, hb⟩
  replace B := chain B hb
  replace C := carry4 hb C
  obtain ⟨q0, q1, q2, q3⟩ := C
  clear hb
  go_wp2_with fail
  have C := And.intro q0 (And.intro q1 (And.intro q2 q3))
  clear q0 q1 q2 q3
  refine (k_dist1 _).mono ?_
  rintro e w27 ⟨rfl, hb⟩
  replace B := chain B hb
  replace C := carry4 hb C
  obtain ⟨q0, q1, q2, q3⟩ := C
  clear hb
  go_wp2_with fail
  have C := And.intro q0 (And.intro q1 (And.intro q2 q3))
  clear q0 q1 q2 q3
  refine (size_any 8 8 _).mono ?_
  rintro e w28 ⟨rfl, hb⟩
  replace B := chain B hb
  replace C := carry4 hb C
  obtain ⟨q0, q1, q2, q3⟩ := C
  clear hb
  go_wp2_with fail
  have C := And.intro q0 (And.intro q1 (And.intro q2 q3))
  clear q0 q1 q2 q3
  refine (k_dist2 _).mono ?_
  rintro e w29 ⟨rfl, hb⟩
  replace B := chain B hb
  replace C := carry4 hb C
  obtain ⟨q0, q1, q2, q3⟩ := C
  clear hb
  go_wp2_with fail
  have C := And.intro q0 (And.intro q1 (And.intro q2 q3))
  clear q0 q1 q2 q3
  refine (k_of _).mono ?_
  rintro e w40 ⟨rfl, hb⟩
  replace hb := after1 hb
  replace B := chain B hb
  replace C := carry4 hb C
  obtain ⟨q0, q1, q2, q3⟩ := C
  clear hb
  go_wp2_with fail
  have C := And.intro q0 (And.intro q1 (And.intro q2 q3))
  clear q0 q1 q2 q3
  refine (k_all _).mono ?_
  rintro e w41 ⟨rfl, hb⟩
  replace B := chain B hb
  replace C := carry4 hb C
  obtain ⟨q0, q1, q2, q3⟩ := C
  clear hb
  go_wp2_with fail
  clear q0 q1 q2 q3
  refine (k_shift _ (hT.below B hT.1)).mono ?_
  rintro e w42 ⟨rfl, hb⟩
  replace B := chain B hb
  clear hb
  go_wp2
  go_ret
  exact ⟨rfl, B⟩

end Go.Proofs.YtidfefaakkpoaaaDoor
