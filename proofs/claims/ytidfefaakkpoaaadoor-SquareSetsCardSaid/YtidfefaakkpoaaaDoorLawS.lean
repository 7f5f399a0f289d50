/- The law of shifted sets: it answers true whatever comes in, and changes nothing that lay before; under the table of package math/bits as its text lays it. -/
import Derived.Test.YtidfefaakkpoaaaDoorSqZ
import Derived.Test.YtidfefaakkpoaaaDoorSqY
namespace Go.Proofs.YtidfefaakkpoaaaDoor
open Go.RowKit

theorem shl_far {F R df dr : Int} (hv : vsz F R) (fd : ¬ (-F < df ∧ df < F ∧ -R < dr ∧ dr < R)) : ∀ {l : List Nat}, (∀ i ∈ l, vat F R (i : Int)) → shl F R df dr l = [] := by
  intro l h
  unfold shl
  rw [List.filterMap_eq_nil_iff]
  intro i hi
  obtain ⟨p0, p1, p2, p3⟩ := place_bd hv (h i hi).2.1 (h i hi).2.2
  unfold tgt
  rw [if_neg]
  rintro ⟨a, b, c, d⟩
  apply fd
  omega

set_option maxRecDepth 100000 in
set_option maxHeartbeats 4000000 in
theorem law_shifts (F R df dr : Int) (X : Nat) (hX64 : X < 18446744073709551616) (w : World) (hT : Tab w) :
    Calls Tryd.prog 8 #[.agg #[.int .i64 F, .int .i64 R], .int .u64 X, .int .i64 df, .int .i64 dr] w fun e w' => e = .returned (.bool true) ∧ Below w.heap.size w w' := by
  have B : Below w.heap.size w (w.alloc (.cells #[.int .i64 F, .int .i64 R] 23)) := box1 _ _
  have c0 : (w.alloc (.cells #[.int .i64 F, .int .i64 R] 23)).cell? ⟨w.heap.size, 0, none⟩ = some (.int .i64 F) := by simp [go_sem]
  have c1 : (w.alloc (.cells #[.int .i64 F, .int .i64 R] 23)).cell? ⟨w.heap.size, 1, none⟩ = some (.int .i64 R) := by simp [go_sem]
  by_cases hv : vsz F R
  · by_cases hX : X < 2 ^ (F * R).toNat
    · have hf8 := hv.2.1
      have hr8 := hv.2.2.2
      by_cases hd : df < -8 ∨ 8 < df ∨ dr < -8 ∨ 8 < dr
      · have fd : ¬ (-F < df ∧ df < F ∧ -R < dr ∧ dr < R) := by omega
        have HF := Lib.hid fd
        clear fd
        have h4 : df < -8 ∨ (-8 ≤ df ∧ 8 < df) ∨ (-8 ≤ df ∧ df ≤ 8 ∧ dr < -8) ∨ (-8 ≤ df ∧ df ≤ 8 ∧ -8 ≤ dr ∧ 8 < dr) := by omega
        clear hd
        rcases h4 with h | ⟨h, k⟩ | ⟨h, k, l⟩ | ⟨h, k, l, m⟩
        all_goals
          go_enter Tryd.func8, Tryd.ntmps8
          go_wp2_with fail
          refine (shift_far F R df dr X hv hX HF.out _).mono ?_
          rintro e x0 ⟨rfl, hb⟩
          replace B := chain B hb
          replace c0 := (hb.cell (World.block_lt_of_cell? _ _ c0)).trans c0
          replace c1 := (hb.cell (World.block_lt_of_cell? _ _ c1)).trans c1
          clear hb
          go_wp2_with fail
          refine (refOn_any F R X hX64 _ true ⟨fun _ => ⟨hv, hX⟩, fun _ => rfl⟩).mono ?_
          rintro e x1 ⟨rfl, hb⟩
          replace B := chain B hb
          replace c0 := (hb.cell (World.block_lt_of_cell? _ _ c0)).trans c0
          replace c1 := (hb.cell (World.block_lt_of_cell? _ _ c1)).trans c1
          clear hb
          go_wp2_with fail
          refine (known_any _ (hT.below B hT.1)).mono ?_
          rintro e x2 ⟨rfl, hb⟩
          replace B := chain B hb
          replace c0 := (hb.cell (World.block_lt_of_cell? _ _ c0)).trans c0
          replace c1 := (hb.cell (World.block_lt_of_cell? _ _ c1)).trans c1
          clear hb
          go_wp2
          go_ret
          exact ⟨rfl, B⟩
      · have d0 : -8 ≤ df := by omega
        have d1 : df ≤ 8 := by omega
        have e0 : -8 ≤ dr := by omega
        have e1 : dr ≤ 8 := by omega
        clear hd
        by_cases fd : -F < df ∧ df < F ∧ -R < dr ∧ dr < R
        · have HF := Lib.hid fd
          clear fd
          go_enter Tryd.func8, Tryd.ntmps8
          go_wp2_with fail
          refine (shift_yes F R df dr X hv hX HF.out _ (hT.below B hT.1)).mono ?_
          rintro e x0 ⟨rfl, hb⟩
          replace B := chain B hb
          replace c0 := (hb.cell (World.block_lt_of_cell? _ _ c0)).trans c0
          replace c1 := (hb.cell (World.block_lt_of_cell? _ _ c1)).trans c1
          clear hb
          go_wp2_with fail
          refine (refOn_any F R X hX64 _ true ⟨fun _ => ⟨hv, hX⟩, fun _ => rfl⟩).mono ?_
          rintro e x1 ⟨rfl, hb⟩
          replace B := chain B hb
          replace c0 := (hb.cell (World.block_lt_of_cell? _ _ c0)).trans c0
          replace c1 := (hb.cell (World.block_lt_of_cell? _ _ c1)).trans c1
          clear hb
          go_wp2_with fail
          refine (refShift_any F R df dr X hv hX d0 d1 e0 e1 _).mono ?_
          rintro e x2 ⟨rfl, hb⟩
          replace B := chain B hb
          replace c0 := (hb.cell (World.block_lt_of_cell? _ _ c0)).trans c0
          replace c1 := (hb.cell (World.block_lt_of_cell? _ _ c1)).trans c1
          clear hb
          go_wp2_with fail
          refine (known_any _ (hT.below B hT.1)).mono ?_
          rintro e x3 ⟨rfl, hb⟩
          replace B := chain B hb
          replace c0 := (hb.cell (World.block_lt_of_cell? _ _ c0)).trans c0
          replace c1 := (hb.cell (World.block_lt_of_cell? _ _ c1)).trans c1
          clear hb
          go_wp2
          go_ret
          exact ⟨rfl, B⟩
        · have HZ : Hid (ofL (shl F R df dr (listOf X)) = 0) := Lib.hid (by rw [shl_far hv fd (fun i hi => ⟨hv, by omega, by have := in_board hX hi; omega⟩)]; rfl)
          have HF := Lib.hid fd
          clear fd
          go_enter Tryd.func8, Tryd.ntmps8
          go_wp2_with fail
          refine (shift_far F R df dr X hv hX HF.out _).mono ?_
          rintro e x0 ⟨rfl, hb⟩
          replace B := chain B hb
          replace c0 := (hb.cell (World.block_lt_of_cell? _ _ c0)).trans c0
          replace c1 := (hb.cell (World.block_lt_of_cell? _ _ c1)).trans c1
          clear hb
          go_wp2_with fail
          refine (refOn_any F R X hX64 _ true ⟨fun _ => ⟨hv, hX⟩, fun _ => rfl⟩).mono ?_
          rintro e x1 ⟨rfl, hb⟩
          replace B := chain B hb
          replace c0 := (hb.cell (World.block_lt_of_cell? _ _ c0)).trans c0
          replace c1 := (hb.cell (World.block_lt_of_cell? _ _ c1)).trans c1
          clear hb
          go_wp2_with fail
          refine (refShift_any F R df dr X hv hX d0 d1 e0 e1 _).mono ?_
          rintro e x0 ⟨rfl, hb⟩
          replace B := chain B hb
          replace c0 := (hb.cell (World.block_lt_of_cell? _ _ c0)).trans c0
          replace c1 := (hb.cell (World.block_lt_of_cell? _ _ c1)).trans c1
          clear hb
          rw [HZ.out]
          go_wp2_with fail
          refine (known_any _ (hT.below B hT.1)).mono ?_
          rintro e x0 ⟨rfl, hb⟩
          replace B := chain B hb
          replace c0 := (hb.cell (World.block_lt_of_cell? _ _ c0)).trans c0
          replace c1 := (hb.cell (World.block_lt_of_cell? _ _ c1)).trans c1
          clear hb
          go_wp2
          go_ret
          exact ⟨rfl, B⟩
    · go_enter Tryd.func8, Tryd.ntmps8
      go_wp2_with fail
      refine (shift_bad F R df dr X hX64 hv hX _).mono ?_
      rintro e x0 ⟨rfl, hb⟩
      replace B := chain B hb
      replace c0 := (hb.cell (World.block_lt_of_cell? _ _ c0)).trans c0
      replace c1 := (hb.cell (World.block_lt_of_cell? _ _ c1)).trans c1
      clear hb
      go_wp2_with fail
      refine (refOn_any F R X hX64 _ false ⟨fun h => absurd h (by decide), fun h => absurd h.2 hX⟩).mono ?_
      rintro e x1 ⟨rfl, hb⟩
      replace B := chain B hb
      replace c0 := (hb.cell (World.block_lt_of_cell? _ _ c0)).trans c0
      replace c1 := (hb.cell (World.block_lt_of_cell? _ _ c1)).trans c1
      clear hb
      go_wp2_with fail
      refine (known_any _ (hT.below B hT.1)).mono ?_
      rintro e x2 ⟨rfl, hb⟩
      replace B := chain B hb
      replace c0 := (hb.cell (World.block_lt_of_cell? _ _ c0)).trans c0
      replace c1 := (hb.cell (World.block_lt_of_cell? _ _ c1)).trans c1
      clear hb
      go_wp2
      go_ret
      exact ⟨rfl, B⟩
  · go_enter Tryd.func8, Tryd.ntmps8
    go_wp2_with fail
    refine (shift_no F R df dr X hv _).mono ?_
    rintro e x0 ⟨rfl, hb⟩
    replace B := chain B hb
    replace c0 := (hb.cell (World.block_lt_of_cell? _ _ c0)).trans c0
    replace c1 := (hb.cell (World.block_lt_of_cell? _ _ c1)).trans c1
    clear hb
    go_wp2_with fail
    refine (refOn_any F R X hX64 _ false ⟨fun h => absurd h (by decide), fun h => absurd h.1 hv⟩).mono ?_
    rintro e x1 ⟨rfl, hb⟩
    replace B := chain B hb
    replace c0 := (hb.cell (World.block_lt_of_cell? _ _ c0)).trans c0
    replace c1 := (hb.cell (World.block_lt_of_cell? _ _ c1)).trans c1
    clear hb
    go_wp2_with fail
    refine (known_any _ (hT.below B hT.1)).mono ?_
    rintro e x2 ⟨rfl, hb⟩
    replace B := chain B hb
    replace c0 := (hb.cell (World.block_lt_of_cell? _ _ c0)).trans c0
    replace c1 := (hb.cell (World.block_lt_of_cell? _ _ c1)).trans c1
    clear hb
    go_wp2
    go_ret
    exact ⟨rfl, B⟩

end Go.Proofs.YtidfefaakkpoaaaDoor
