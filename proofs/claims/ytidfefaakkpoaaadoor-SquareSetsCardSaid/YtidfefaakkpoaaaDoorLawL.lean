/- The law of places and names: it answers true whatever comes in, and changes nothing that lay before; under the table of package math/bits as its text lays it. -/
import Derived.Test.YtidfefaakkpoaaaDoorSqZ
import Derived.Test.YtidfefaakkpoaaaDoorSqY
namespace Go.Proofs.YtidfefaakkpoaaaDoor
open Go.RowKit

theorem vsum {x y : Int} (h : x = y) : (x == y) = true := by rw [beq_iff_eq]; exact h

set_option maxRecDepth 100000 in
set_option maxHeartbeats 4000000 in
theorem law_places (F R f r a : Int) (w : World) (hT : Tab w) :
    Calls Tryd.prog 4 #[.agg #[.int .i64 F, .int .i64 R], .int .i64 f, .int .i64 r, .int .i64 a] w fun e w' => e = .returned (.bool true) ∧ Below w.heap.size w w' := by
  have B : Below w.heap.size w (w.alloc (.cells #[.int .i64 F, .int .i64 R] 23)) := box1 _ _
  have c0 : (w.alloc (.cells #[.int .i64 F, .int .i64 R] 23)).cell? ⟨w.heap.size, 0, none⟩ = some (.int .i64 F) := by simp [go_sem]
  have c1 : (w.alloc (.cells #[.int .i64 F, .int .i64 R] 23)).cell? ⟨w.heap.size, 1, none⟩ = some (.int .i64 R) := by simp [go_sem]
  by_cases hv : vsz F R
  · have hf8 := hv.2.1
    have hr8 := hv.2.2.2
    by_cases hon' : onb F R f r
    · obtain ⟨o0, o1, o2, o3⟩ := id hon'
      obtain ⟨n0, n1, n2, _, _⟩ := number_bd hv o0 o1 o2 o3
      have hsum : f + r * F = r * F + f := Int.add_comm _ _
      have hnn : ¬ (r * F + f < 0) := by omega
      have hne : ((f + r * F != r * F + f)) = false := by rw [hsum]; simp
      clear hsum
      have hon := hon'
      clear hon'
      by_cases ha : vat F R a
      · obtain ⟨p0, p1, p2, p3⟩ := place_bd ha.1 ha.2.1 ha.2.2
        go_enter Tryd.func4, Tryd.ntmps4
        go_wp2_with fail
        refine (at_yes F R f r hv hon _).mono ?_
        rintro e x0 ⟨rfl, hb⟩
        replace B := chain B hb
        replace c0 := (hb.cell (World.block_lt_of_cell? _ _ c0)).trans c0
        replace c1 := (hb.cell (World.block_lt_of_cell? _ _ c1)).trans c1
        clear hb
        go_wp2_with fail
        refine (placeX_yes F R a ha _).mono ?_
        rintro e x1 ⟨rfl, hb⟩
        replace B := chain B hb
        replace c0 := (hb.cell (World.block_lt_of_cell? _ _ c0)).trans c0
        replace c1 := (hb.cell (World.block_lt_of_cell? _ _ c1)).trans c1
        clear hb
        go_wp2_with fail
        refine (light_yes F R a ha _).mono ?_
        rintro e x2 ⟨rfl, hb⟩
        replace B := chain B hb
        replace c0 := (hb.cell (World.block_lt_of_cell? _ _ c0)).trans c0
        replace c1 := (hb.cell (World.block_lt_of_cell? _ _ c1)).trans c1
        clear hb
        go_wp2_with fail
        refine (name_yes F R a ha _).mono ?_
        rintro e x3 ⟨rfl, hb⟩
        replace B := chain B hb
        replace c0 := (hb.cell (World.block_lt_of_cell? _ _ c0)).trans c0
        replace c1 := (hb.cell (World.block_lt_of_cell? _ _ c1)).trans c1
        clear hb
        go_wp2_with fail
        refine (refSize_yes F R hv _).mono ?_
        rintro e x0 ⟨rfl, hb⟩
        replace B := chain B hb
        replace c0 := (hb.cell (World.block_lt_of_cell? _ _ c0)).trans c0
        replace c1 := (hb.cell (World.block_lt_of_cell? _ _ c1)).trans c1
        clear hb
        go_wp2_with fail
        refine (refNumber_yes F R f r hv hon _).mono ?_
        rintro e x0 ⟨rfl, hb⟩
        replace B := chain B hb
        replace c0 := (hb.cell (World.block_lt_of_cell? _ _ c0)).trans c0
        replace c1 := (hb.cell (World.block_lt_of_cell? _ _ c1)).trans c1
        clear hb
        go_wp2_with fail
        refine (refNumber_yes F R f r hv hon _).mono ?_
        rintro e x1 ⟨rfl, hb⟩
        replace B := chain B hb
        replace c0 := (hb.cell (World.block_lt_of_cell? _ _ c0)).trans c0
        replace c1 := (hb.cell (World.block_lt_of_cell? _ _ c1)).trans c1
        clear hb
        go_wp2_with fail
        refine (refValid_yes F R a ha _).mono ?_
        rintro e x0 ⟨rfl, hb⟩
        replace B := chain B hb
        replace c0 := (hb.cell (World.block_lt_of_cell? _ _ c0)).trans c0
        replace c1 := (hb.cell (World.block_lt_of_cell? _ _ c1)).trans c1
        clear hb
        go_wp2_with fail
        refine (refPlace_any F R a ha _).mono ?_
        rintro e y0 ⟨rfl, hb⟩
        replace B := chain B hb
        replace c0 := (hb.cell (World.block_lt_of_cell? _ _ c0)).trans c0
        replace c1 := (hb.cell (World.block_lt_of_cell? _ _ c1)).trans c1
        clear hb
        replace B := B.alloc B.size (.cells #[.int .i64 (a % F), .int .i64 (a / F)] 46)
        replace c0 := alive (.cells #[.int .i64 (a % F), .int .i64 (a / F)] 46) c0
        replace c1 := alive (.cells #[.int .i64 (a % F), .int .i64 (a / F)] 46) c1
        go_wp2_with fail
        refine (refName_any F R a ha _).mono ?_
        rintro e x0 ⟨rfl, hb⟩
        replace B := chain B hb
        replace c0 := (hb.cell (World.block_lt_of_cell? _ _ c0)).trans c0
        replace c1 := (hb.cell (World.block_lt_of_cell? _ _ c1)).trans c1
        clear hb
        go_wp2_with fail
        refine (known_any _ (hT.below B hT.1)).mono ?_
        rintro e x1 ⟨rfl, hb⟩
        replace B := chain B hb
        replace c0 := (hb.cell (World.block_lt_of_cell? _ _ c0)).trans c0
        replace c1 := (hb.cell (World.block_lt_of_cell? _ _ c1)).trans c1
        clear hb
        go_wp2
        go_ret
        exact ⟨rfl, B⟩
      · go_enter Tryd.func4, Tryd.ntmps4
        go_wp2_with fail
        refine (at_yes F R f r hv hon _).mono ?_
        rintro e x0 ⟨rfl, hb⟩
        replace B := chain B hb
        replace c0 := (hb.cell (World.block_lt_of_cell? _ _ c0)).trans c0
        replace c1 := (hb.cell (World.block_lt_of_cell? _ _ c1)).trans c1
        clear hb
        go_wp2_with fail
        refine (placeX_no F R a ha _).mono ?_
        rintro e x1 ⟨rfl, hb⟩
        replace B := chain B hb
        replace c0 := (hb.cell (World.block_lt_of_cell? _ _ c0)).trans c0
        replace c1 := (hb.cell (World.block_lt_of_cell? _ _ c1)).trans c1
        clear hb
        go_wp2_with fail
        refine (light_no F R a ha _).mono ?_
        rintro e x2 ⟨rfl, hb⟩
        replace B := chain B hb
        replace c0 := (hb.cell (World.block_lt_of_cell? _ _ c0)).trans c0
        replace c1 := (hb.cell (World.block_lt_of_cell? _ _ c1)).trans c1
        clear hb
        go_wp2_with fail
        refine (name_no F R a ha _).mono ?_
        rintro e x3 ⟨rfl, hb⟩
        replace B := chain B hb
        replace c0 := (hb.cell (World.block_lt_of_cell? _ _ c0)).trans c0
        replace c1 := (hb.cell (World.block_lt_of_cell? _ _ c1)).trans c1
        clear hb
        go_wp2_with fail
        refine (refSize_yes F R hv _).mono ?_
        rintro e x0 ⟨rfl, hb⟩
        replace B := chain B hb
        replace c0 := (hb.cell (World.block_lt_of_cell? _ _ c0)).trans c0
        replace c1 := (hb.cell (World.block_lt_of_cell? _ _ c1)).trans c1
        clear hb
        go_wp2_with fail
        refine (refNumber_yes F R f r hv hon _).mono ?_
        rintro e x0 ⟨rfl, hb⟩
        replace B := chain B hb
        replace c0 := (hb.cell (World.block_lt_of_cell? _ _ c0)).trans c0
        replace c1 := (hb.cell (World.block_lt_of_cell? _ _ c1)).trans c1
        clear hb
        go_wp2_with fail
        refine (refNumber_yes F R f r hv hon _).mono ?_
        rintro e x1 ⟨rfl, hb⟩
        replace B := chain B hb
        replace c0 := (hb.cell (World.block_lt_of_cell? _ _ c0)).trans c0
        replace c1 := (hb.cell (World.block_lt_of_cell? _ _ c1)).trans c1
        clear hb
        go_wp2_with fail
        refine (refValid_no F R a ha _).mono ?_
        rintro e x0 ⟨rfl, hb⟩
        replace B := chain B hb
        replace c0 := (hb.cell (World.block_lt_of_cell? _ _ c0)).trans c0
        replace c1 := (hb.cell (World.block_lt_of_cell? _ _ c1)).trans c1
        clear hb
        go_wp2_with fail
        refine (known_any _ (hT.below B hT.1)).mono ?_
        rintro e x1 ⟨rfl, hb⟩
        replace B := chain B hb
        replace c0 := (hb.cell (World.block_lt_of_cell? _ _ c0)).trans c0
        replace c1 := (hb.cell (World.block_lt_of_cell? _ _ c1)).trans c1
        clear hb
        go_wp2
        go_ret
        exact ⟨rfl, B⟩
    · have hon := hon'
      clear hon'
      by_cases ha : vat F R a
      · obtain ⟨p0, p1, p2, p3⟩ := place_bd ha.1 ha.2.1 ha.2.2
        go_enter Tryd.func4, Tryd.ntmps4
        go_wp2_with fail
        refine (at_off F R f r hv hon _).mono ?_
        rintro e x0 ⟨rfl, hb⟩
        replace B := chain B hb
        replace c0 := (hb.cell (World.block_lt_of_cell? _ _ c0)).trans c0
        replace c1 := (hb.cell (World.block_lt_of_cell? _ _ c1)).trans c1
        clear hb
        go_wp2_with fail
        refine (placeX_yes F R a ha _).mono ?_
        rintro e x1 ⟨rfl, hb⟩
        replace B := chain B hb
        replace c0 := (hb.cell (World.block_lt_of_cell? _ _ c0)).trans c0
        replace c1 := (hb.cell (World.block_lt_of_cell? _ _ c1)).trans c1
        clear hb
        go_wp2_with fail
        refine (light_yes F R a ha _).mono ?_
        rintro e x2 ⟨rfl, hb⟩
        replace B := chain B hb
        replace c0 := (hb.cell (World.block_lt_of_cell? _ _ c0)).trans c0
        replace c1 := (hb.cell (World.block_lt_of_cell? _ _ c1)).trans c1
        clear hb
        go_wp2_with fail
        refine (name_yes F R a ha _).mono ?_
        rintro e x3 ⟨rfl, hb⟩
        replace B := chain B hb
        replace c0 := (hb.cell (World.block_lt_of_cell? _ _ c0)).trans c0
        replace c1 := (hb.cell (World.block_lt_of_cell? _ _ c1)).trans c1
        clear hb
        go_wp2_with fail
        refine (refSize_yes F R hv _).mono ?_
        rintro e x0 ⟨rfl, hb⟩
        replace B := chain B hb
        replace c0 := (hb.cell (World.block_lt_of_cell? _ _ c0)).trans c0
        replace c1 := (hb.cell (World.block_lt_of_cell? _ _ c1)).trans c1
        clear hb
        go_wp2_with fail
        refine (refNumber_no F R f r hon _).mono ?_
        rintro e x0 ⟨rfl, hb⟩
        replace B := chain B hb
        replace c0 := (hb.cell (World.block_lt_of_cell? _ _ c0)).trans c0
        replace c1 := (hb.cell (World.block_lt_of_cell? _ _ c1)).trans c1
        clear hb
        go_wp2_with fail
        refine (refValid_yes F R a ha _).mono ?_
        rintro e x0 ⟨rfl, hb⟩
        replace B := chain B hb
        replace c0 := (hb.cell (World.block_lt_of_cell? _ _ c0)).trans c0
        replace c1 := (hb.cell (World.block_lt_of_cell? _ _ c1)).trans c1
        clear hb
        go_wp2_with fail
        refine (refPlace_any F R a ha _).mono ?_
        rintro e y0 ⟨rfl, hb⟩
        replace B := chain B hb
        replace c0 := (hb.cell (World.block_lt_of_cell? _ _ c0)).trans c0
        replace c1 := (hb.cell (World.block_lt_of_cell? _ _ c1)).trans c1
        clear hb
        replace B := B.alloc B.size (.cells #[.int .i64 (a % F), .int .i64 (a / F)] 46)
        replace c0 := alive (.cells #[.int .i64 (a % F), .int .i64 (a / F)] 46) c0
        replace c1 := alive (.cells #[.int .i64 (a % F), .int .i64 (a / F)] 46) c1
        go_wp2_with fail
        refine (refName_any F R a ha _).mono ?_
        rintro e x0 ⟨rfl, hb⟩
        replace B := chain B hb
        replace c0 := (hb.cell (World.block_lt_of_cell? _ _ c0)).trans c0
        replace c1 := (hb.cell (World.block_lt_of_cell? _ _ c1)).trans c1
        clear hb
        go_wp2_with fail
        refine (known_any _ (hT.below B hT.1)).mono ?_
        rintro e x1 ⟨rfl, hb⟩
        replace B := chain B hb
        replace c0 := (hb.cell (World.block_lt_of_cell? _ _ c0)).trans c0
        replace c1 := (hb.cell (World.block_lt_of_cell? _ _ c1)).trans c1
        clear hb
        go_wp2
        go_ret
        exact ⟨rfl, B⟩
      · go_enter Tryd.func4, Tryd.ntmps4
        go_wp2_with fail
        refine (at_off F R f r hv hon _).mono ?_
        rintro e x0 ⟨rfl, hb⟩
        replace B := chain B hb
        replace c0 := (hb.cell (World.block_lt_of_cell? _ _ c0)).trans c0
        replace c1 := (hb.cell (World.block_lt_of_cell? _ _ c1)).trans c1
        clear hb
        go_wp2_with fail
        refine (placeX_no F R a ha _).mono ?_
        rintro e x1 ⟨rfl, hb⟩
        replace B := chain B hb
        replace c0 := (hb.cell (World.block_lt_of_cell? _ _ c0)).trans c0
        replace c1 := (hb.cell (World.block_lt_of_cell? _ _ c1)).trans c1
        clear hb
        go_wp2_with fail
        refine (light_no F R a ha _).mono ?_
        rintro e x2 ⟨rfl, hb⟩
        replace B := chain B hb
        replace c0 := (hb.cell (World.block_lt_of_cell? _ _ c0)).trans c0
        replace c1 := (hb.cell (World.block_lt_of_cell? _ _ c1)).trans c1
        clear hb
        go_wp2_with fail
        refine (name_no F R a ha _).mono ?_
        rintro e x3 ⟨rfl, hb⟩
        replace B := chain B hb
        replace c0 := (hb.cell (World.block_lt_of_cell? _ _ c0)).trans c0
        replace c1 := (hb.cell (World.block_lt_of_cell? _ _ c1)).trans c1
        clear hb
        go_wp2_with fail
        refine (refSize_yes F R hv _).mono ?_
        rintro e x0 ⟨rfl, hb⟩
        replace B := chain B hb
        replace c0 := (hb.cell (World.block_lt_of_cell? _ _ c0)).trans c0
        replace c1 := (hb.cell (World.block_lt_of_cell? _ _ c1)).trans c1
        clear hb
        go_wp2_with fail
        refine (refNumber_no F R f r hon _).mono ?_
        rintro e x0 ⟨rfl, hb⟩
        replace B := chain B hb
        replace c0 := (hb.cell (World.block_lt_of_cell? _ _ c0)).trans c0
        replace c1 := (hb.cell (World.block_lt_of_cell? _ _ c1)).trans c1
        clear hb
        go_wp2_with fail
        refine (refValid_no F R a ha _).mono ?_
        rintro e x0 ⟨rfl, hb⟩
        replace B := chain B hb
        replace c0 := (hb.cell (World.block_lt_of_cell? _ _ c0)).trans c0
        replace c1 := (hb.cell (World.block_lt_of_cell? _ _ c1)).trans c1
        clear hb
        go_wp2_with fail
        refine (known_any _ (hT.below B hT.1)).mono ?_
        rintro e x1 ⟨rfl, hb⟩
        replace B := chain B hb
        replace c0 := (hb.cell (World.block_lt_of_cell? _ _ c0)).trans c0
        replace c1 := (hb.cell (World.block_lt_of_cell? _ _ c1)).trans c1
        clear hb
        go_wp2
        go_ret
        exact ⟨rfl, B⟩
  · have ha : ¬ vat F R a := fun h => hv h.1
    go_enter Tryd.func4, Tryd.ntmps4
    go_wp2_with fail
    refine (at_no F R f r hv _).mono ?_
    rintro e x0 ⟨rfl, hb⟩
    replace B := chain B hb
    replace c0 := (hb.cell (World.block_lt_of_cell? _ _ c0)).trans c0
    replace c1 := (hb.cell (World.block_lt_of_cell? _ _ c1)).trans c1
    clear hb
    go_wp2_with fail
    refine (placeX_no F R a ha _).mono ?_
    rintro e x1 ⟨rfl, hb⟩
    replace B := chain B hb
    replace c0 := (hb.cell (World.block_lt_of_cell? _ _ c0)).trans c0
    replace c1 := (hb.cell (World.block_lt_of_cell? _ _ c1)).trans c1
    clear hb
    go_wp2_with fail
    refine (light_no F R a ha _).mono ?_
    rintro e x2 ⟨rfl, hb⟩
    replace B := chain B hb
    replace c0 := (hb.cell (World.block_lt_of_cell? _ _ c0)).trans c0
    replace c1 := (hb.cell (World.block_lt_of_cell? _ _ c1)).trans c1
    clear hb
    go_wp2_with fail
    refine (name_no F R a ha _).mono ?_
    rintro e x3 ⟨rfl, hb⟩
    replace B := chain B hb
    replace c0 := (hb.cell (World.block_lt_of_cell? _ _ c0)).trans c0
    replace c1 := (hb.cell (World.block_lt_of_cell? _ _ c1)).trans c1
    clear hb
    go_wp2_with fail
    refine (refSize_no F R hv _).mono ?_
    rintro e x0 ⟨rfl, hb⟩
    replace B := chain B hb
    replace c0 := (hb.cell (World.block_lt_of_cell? _ _ c0)).trans c0
    replace c1 := (hb.cell (World.block_lt_of_cell? _ _ c1)).trans c1
    clear hb
    go_wp2_with fail
    refine (refValid_no F R a ha _).mono ?_
    rintro e x0 ⟨rfl, hb⟩
    replace B := chain B hb
    replace c0 := (hb.cell (World.block_lt_of_cell? _ _ c0)).trans c0
    replace c1 := (hb.cell (World.block_lt_of_cell? _ _ c1)).trans c1
    clear hb
    go_wp2_with fail
    refine (known_any _ (hT.below B hT.1)).mono ?_
    rintro e x1 ⟨rfl, hb⟩
    replace B := chain B hb
    replace c0 := (hb.cell (World.block_lt_of_cell? _ _ c0)).trans c0
    replace c1 := (hb.cell (World.block_lt_of_cell? _ _ c1)).trans c1
    clear hb
    go_wp2
    go_ret
    exact ⟨rfl, B⟩

end Go.Proofs.YtidfefaakkpoaaaDoor
