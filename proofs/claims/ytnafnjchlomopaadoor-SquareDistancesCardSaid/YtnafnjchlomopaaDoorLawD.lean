/- The law of distances: it answers true at every size and every two numbers, and changes nothing that lay before; under the table of package math/bits as its text lays it. -/
import Derived.Test.YtnafnjchlomopaaDoorSqZ
import Derived.Test.YtnafnjchlomopaaDoorSqY
namespace Go.Proofs.YtnafnjchlomopaaDoor
open Go.RowKit

set_option maxRecDepth 100000 in
set_option maxHeartbeats 2000000 in
theorem law_distances (F R a b : Int) (w : World) (hT : Tab w) :
    Calls Tryd.prog 6 #[.agg #[.int .i64 F, .int .i64 R], .int .i64 a, .int .i64 b] w fun e w' => e = .returned (.bool true) ∧ Below w.heap.size w w' := by
  have B : Below w.heap.size w (w.alloc (.cells #[.int .i64 F, .int .i64 R] 23)) := box1 _ _
  have c0 : (w.alloc (.cells #[.int .i64 F, .int .i64 R] 23)).cell? ⟨w.heap.size, 0, none⟩ = some (.int .i64 F) := by simp [go_sem]
  have c1 : (w.alloc (.cells #[.int .i64 F, .int .i64 R] 23)).cell? ⟨w.heap.size, 1, none⟩ = some (.int .i64 R) := by simp [go_sem]
  by_cases ha : vat F R a
  · by_cases hb' : vat F R b
    ·
      go_enter Tryd.func6, Tryd.ntmps6
      go_wp2_with fail
      refine (distance_yes F R a b ha hb' _).mono ?_
      rintro e x0 ⟨rfl, hb⟩
      replace B := chain B hb
      replace c0 := (hb.cell (World.block_lt_of_cell? _ _ c0)).trans c0
      replace c1 := (hb.cell (World.block_lt_of_cell? _ _ c1)).trans c1
      clear hb
      go_wp2_with fail
      refine (refValid_yes F R a ha _).mono ?_
      rintro e x1 ⟨rfl, hb⟩
      replace B := chain B hb
      replace c0 := (hb.cell (World.block_lt_of_cell? _ _ c0)).trans c0
      replace c1 := (hb.cell (World.block_lt_of_cell? _ _ c1)).trans c1
      clear hb
      go_wp2_with fail
      refine (refValid_yes F R b hb' _).mono ?_
      rintro e x2 ⟨rfl, hb⟩
      replace B := chain B hb
      replace c0 := (hb.cell (World.block_lt_of_cell? _ _ c0)).trans c0
      replace c1 := (hb.cell (World.block_lt_of_cell? _ _ c1)).trans c1
      clear hb
      go_wp2_with fail
      refine (refDistance_any F R a b ha hb' _).mono ?_
      rintro e x3 ⟨rfl, hb⟩
      replace B := chain B hb
      replace c0 := (hb.cell (World.block_lt_of_cell? _ _ c0)).trans c0
      replace c1 := (hb.cell (World.block_lt_of_cell? _ _ c1)).trans c1
      clear hb
      go_wp2_with fail
      refine (known_any _ (hT.below B hT.1)).mono ?_
      rintro e x4 ⟨rfl, hb⟩
      replace B := chain B hb
      replace c0 := (hb.cell (World.block_lt_of_cell? _ _ c0)).trans c0
      replace c1 := (hb.cell (World.block_lt_of_cell? _ _ c1)).trans c1
      clear hb
      go_wp2
      go_ret
      exact ⟨rfl, B⟩
    · have hn : ¬ (vat F R a ∧ vat F R b) := fun h => hb' h.2
      go_enter Tryd.func6, Tryd.ntmps6
      go_wp2_with fail
      refine (distance_no F R a b hn _).mono ?_
      rintro e x0 ⟨rfl, hb⟩
      replace B := chain B hb
      replace c0 := (hb.cell (World.block_lt_of_cell? _ _ c0)).trans c0
      replace c1 := (hb.cell (World.block_lt_of_cell? _ _ c1)).trans c1
      clear hb
      go_wp2_with fail
      refine (refValid_yes F R a ha _).mono ?_
      rintro e x1 ⟨rfl, hb⟩
      replace B := chain B hb
      replace c0 := (hb.cell (World.block_lt_of_cell? _ _ c0)).trans c0
      replace c1 := (hb.cell (World.block_lt_of_cell? _ _ c1)).trans c1
      clear hb
      go_wp2_with fail
      refine (refValid_no F R b hb' _).mono ?_
      rintro e x2 ⟨rfl, hb⟩
      replace B := chain B hb
      replace c0 := (hb.cell (World.block_lt_of_cell? _ _ c0)).trans c0
      replace c1 := (hb.cell (World.block_lt_of_cell? _ _ c1)).trans c1
      clear hb
      go_wp2_with fail
      refine (known_any _ (hT.below B hT.1)).mono ?_
      rintro e x3 ⟨rfl, hb⟩
      replace B := chain B hb
      replace c0 := (hb.cell (World.block_lt_of_cell? _ _ c0)).trans c0
      replace c1 := (hb.cell (World.block_lt_of_cell? _ _ c1)).trans c1
      clear hb
      go_wp2
      go_ret
      exact ⟨rfl, B⟩
  · have hn : ¬ (vat F R a ∧ vat F R b) := fun h => ha h.1
    go_enter Tryd.func6, Tryd.ntmps6
    go_wp2_with fail
    refine (distance_no F R a b hn _).mono ?_
    rintro e x0 ⟨rfl, hb⟩
    replace B := chain B hb
    replace c0 := (hb.cell (World.block_lt_of_cell? _ _ c0)).trans c0
    replace c1 := (hb.cell (World.block_lt_of_cell? _ _ c1)).trans c1
    clear hb
    go_wp2_with fail
    refine (refValid_no F R a ha _).mono ?_
    rintro e x1 ⟨rfl, hb⟩
    replace B := chain B hb
    replace c0 := (hb.cell (World.block_lt_of_cell? _ _ c0)).trans c0
    replace c1 := (hb.cell (World.block_lt_of_cell? _ _ c1)).trans c1
    clear hb
    go_wp2_with fail
    refine (known_any _ (hT.below B hT.1)).mono ?_
    rintro e x2 ⟨rfl, hb⟩
    replace B := chain B hb
    replace c0 := (hb.cell (World.block_lt_of_cell? _ _ c0)).trans c0
    replace c1 := (hb.cell (World.block_lt_of_cell? _ _ c1)).trans c1
    clear hb
    go_wp2
    go_ret
    exact ⟨rfl, B⟩

end Go.Proofs.YtnafnjchlomopaaDoor
