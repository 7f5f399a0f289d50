/- The law of sizes: it answers true whatever comes in, and changes nothing that lay before; under the table of package math/bits as its text lays it. -/
import Derived.Test.YtnafnjchlomopaaDoorSqZ
import Derived.Test.YtnafnjchlomopaaDoorSqY
import Derived.Lib.QuietBelow
namespace Go.Proofs.YtnafnjchlomopaaDoor
open Go.RowKit Go.Sort Go.BigFrame

set_option maxRecDepth 100000 in
set_option maxHeartbeats 4000000 in
theorem law_sizes (F R a : Int) (w : World) (hT : Tab w) :
    Calls Tryd.prog 3 #[.agg #[.int .i64 F, .int .i64 R], .int .i64 a] w fun e w' => e = .returned (.bool true) ∧ Below w.heap.size w w' := by
  have B : Below w.heap.size w (w.alloc (.cells #[.int .i64 F, .int .i64 R] 23)) := box1 _ _
  have c0 : (w.alloc (.cells #[.int .i64 F, .int .i64 R] 23)).cell? ⟨w.heap.size, 0, none⟩ = some (.int .i64 F) := by simp [go_sem]
  have c1 : (w.alloc (.cells #[.int .i64 F, .int .i64 R] 23)).cell? ⟨w.heap.size, 1, none⟩ = some (.int .i64 R) := by simp [go_sem]
  by_cases hv : vsz F R
  · by_cases ha : vat F R a
    · go_enter Tryd.func3, Tryd.ntmps3
      go_wp2_with fail
      refine (count_yes F R hv _).mono ?_
      rintro e x0 ⟨rfl, hb⟩
      replace B := chain B hb
      replace c0 := (hb.cell (World.block_lt_of_cell? _ _ c0)).trans c0
      replace c1 := (hb.cell (World.block_lt_of_cell? _ _ c1)).trans c1
      clear hb
      go_wp2_with fail
      refine (all_yes F R hv _).mono ?_
      rintro e x1 ⟨rfl, hb⟩
      replace B := chain B hb
      replace c0 := (hb.cell (World.block_lt_of_cell? _ _ c0)).trans c0
      replace c1 := (hb.cell (World.block_lt_of_cell? _ _ c1)).trans c1
      clear hb
      go_wp2_with fail
      have k0 := cell_regrown c0
      have k1 := cell_regrown c1
      refine wp_region_quiet_below (by kernel_rfl) (by kernel_rfl) ?_
      repeat (go_big_quiet_step (first | (go_at_call 12; exact Calls.regrown_of (validSize_yes F R hv _)) | (go_at_call 13; exact Calls.regrown_of (refSize_yes F R hv _)) | (go_at_call 14; exact Calls.regrown_of (valid_yes F R a ha _)) | (go_at_call 15; exact Calls.regrown_of (refValid_yes F R a ha _))))
      refine wpQuiet_nil ?_
      intro _ hw'
      obtain ⟨⟨dq, osq⟩, hw''⟩ := hw'
      have hb := below_regrown x1 dq osq
      rw [← hw''] at hb
      clear k0 k1
      replace B := chain B hb
      replace c0 := (hb.cell (World.block_lt_of_cell? _ _ c0)).trans c0
      replace c1 := (hb.cell (World.block_lt_of_cell? _ _ c1)).trans c1
      clear hb hw''
      go_wp2_with fail
      refine (refSize_yes F R hv _).mono ?_
      rintro e x0 ⟨rfl, hb⟩
      replace B := chain B hb
      replace c0 := (hb.cell (World.block_lt_of_cell? _ _ c0)).trans c0
      replace c1 := (hb.cell (World.block_lt_of_cell? _ _ c1)).trans c1
      clear hb
      go_wp2_with fail
      refine (refPoints_any F R hv _).mono ?_
      rintro e x9 ⟨⟨A, n, c, rfl, hn⟩, hb⟩
      replace B := chain B hb
      replace c0 := (hb.cell (World.block_lt_of_cell? _ _ c0)).trans c0
      replace c1 := (hb.cell (World.block_lt_of_cell? _ _ c1)).trans c1
      clear hb
      go_wp2_with fail
      refine (refAll_any F R hv _).mono ?_
      rintro e x0 ⟨rfl, hb⟩
      replace B := chain B hb
      replace c0 := (hb.cell (World.block_lt_of_cell? _ _ c0)).trans c0
      replace c1 := (hb.cell (World.block_lt_of_cell? _ _ c1)).trans c1
      clear hb
      go_wp2_with fail
      refine (known_any _ (hT.below B hT.1)).mono ?_
      rintro e x1 ⟨rfl, hb⟩
      replace B := chain B hb
      replace c0 := (hb.cell (World.block_lt_of_cell? _ _ c0)).trans c0
      replace c1 := (hb.cell (World.block_lt_of_cell? _ _ c1)).trans c1
      clear hb
      go_wp2
      go_ret
      exact ⟨rfl, B⟩
    · go_enter Tryd.func3, Tryd.ntmps3
      go_wp2_with fail
      refine (count_yes F R hv _).mono ?_
      rintro e x0 ⟨rfl, hb⟩
      replace B := chain B hb
      replace c0 := (hb.cell (World.block_lt_of_cell? _ _ c0)).trans c0
      replace c1 := (hb.cell (World.block_lt_of_cell? _ _ c1)).trans c1
      clear hb
      go_wp2_with fail
      refine (all_yes F R hv _).mono ?_
      rintro e x1 ⟨rfl, hb⟩
      replace B := chain B hb
      replace c0 := (hb.cell (World.block_lt_of_cell? _ _ c0)).trans c0
      replace c1 := (hb.cell (World.block_lt_of_cell? _ _ c1)).trans c1
      clear hb
      go_wp2_with fail
      have k0 := cell_regrown c0
      have k1 := cell_regrown c1
      refine wp_region_quiet_below (by kernel_rfl) (by kernel_rfl) ?_
      repeat (go_big_quiet_step (first | (go_at_call 12; exact Calls.regrown_of (validSize_yes F R hv _)) | (go_at_call 13; exact Calls.regrown_of (refSize_yes F R hv _)) | (go_at_call 14; exact Calls.regrown_of (valid_no F R a ha _)) | (go_at_call 15; exact Calls.regrown_of (refValid_no F R a ha _))))
      refine wpQuiet_nil ?_
      intro _ hw'
      obtain ⟨⟨dq, osq⟩, hw''⟩ := hw'
      have hb := below_regrown x1 dq osq
      rw [← hw''] at hb
      clear k0 k1
      replace B := chain B hb
      replace c0 := (hb.cell (World.block_lt_of_cell? _ _ c0)).trans c0
      replace c1 := (hb.cell (World.block_lt_of_cell? _ _ c1)).trans c1
      clear hb hw''
      go_wp2_with fail
      refine (refSize_yes F R hv _).mono ?_
      rintro e x0 ⟨rfl, hb⟩
      replace B := chain B hb
      replace c0 := (hb.cell (World.block_lt_of_cell? _ _ c0)).trans c0
      replace c1 := (hb.cell (World.block_lt_of_cell? _ _ c1)).trans c1
      clear hb
      go_wp2_with fail
      refine (refPoints_any F R hv _).mono ?_
      rintro e x9 ⟨⟨A, n, c, rfl, hn⟩, hb⟩
      replace B := chain B hb
      replace c0 := (hb.cell (World.block_lt_of_cell? _ _ c0)).trans c0
      replace c1 := (hb.cell (World.block_lt_of_cell? _ _ c1)).trans c1
      clear hb
      go_wp2_with fail
      refine (refAll_any F R hv _).mono ?_
      rintro e x0 ⟨rfl, hb⟩
      replace B := chain B hb
      replace c0 := (hb.cell (World.block_lt_of_cell? _ _ c0)).trans c0
      replace c1 := (hb.cell (World.block_lt_of_cell? _ _ c1)).trans c1
      clear hb
      go_wp2_with fail
      refine (known_any _ (hT.below B hT.1)).mono ?_
      rintro e x1 ⟨rfl, hb⟩
      replace B := chain B hb
      replace c0 := (hb.cell (World.block_lt_of_cell? _ _ c0)).trans c0
      replace c1 := (hb.cell (World.block_lt_of_cell? _ _ c1)).trans c1
      clear hb
      go_wp2
      go_ret
      exact ⟨rfl, B⟩
  · have ha : ¬ vat F R a := fun h => hv h.1
    go_enter Tryd.func3, Tryd.ntmps3
    go_wp2_with fail
    refine (count_no F R hv _).mono ?_
    rintro e x0 ⟨rfl, hb⟩
    replace B := chain B hb
    replace c0 := (hb.cell (World.block_lt_of_cell? _ _ c0)).trans c0
    replace c1 := (hb.cell (World.block_lt_of_cell? _ _ c1)).trans c1
    clear hb
    go_wp2_with fail
    refine (all_no F R hv _).mono ?_
    rintro e x1 ⟨rfl, hb⟩
    replace B := chain B hb
    replace c0 := (hb.cell (World.block_lt_of_cell? _ _ c0)).trans c0
    replace c1 := (hb.cell (World.block_lt_of_cell? _ _ c1)).trans c1
    clear hb
    go_wp2_with fail
    have k0 := cell_regrown c0
    have k1 := cell_regrown c1
    refine wp_region_quiet_below (by kernel_rfl) (by kernel_rfl) ?_
    repeat (go_big_quiet_step (first | (go_at_call 12; exact Calls.regrown_of (validSize_no F R hv _)) | (go_at_call 13; exact Calls.regrown_of (refSize_no F R hv _)) | (go_at_call 14; exact Calls.regrown_of (valid_no F R a ha _)) | (go_at_call 15; exact Calls.regrown_of (refValid_no F R a ha _))))
    refine wpQuiet_nil ?_
    intro _ hw'
    obtain ⟨⟨dq, osq⟩, hw''⟩ := hw'
    have hb := below_regrown x1 dq osq
    rw [← hw''] at hb
    clear k0 k1
    replace B := chain B hb
    replace c0 := (hb.cell (World.block_lt_of_cell? _ _ c0)).trans c0
    replace c1 := (hb.cell (World.block_lt_of_cell? _ _ c1)).trans c1
    clear hb hw''
    go_wp2_with fail
    refine (refSize_no F R hv _).mono ?_
    rintro e x0 ⟨rfl, hb⟩
    replace B := chain B hb
    replace c0 := (hb.cell (World.block_lt_of_cell? _ _ c0)).trans c0
    replace c1 := (hb.cell (World.block_lt_of_cell? _ _ c1)).trans c1
    clear hb
    go_wp2_with fail
    refine (known_any _ (hT.below B hT.1)).mono ?_
    rintro e x1 ⟨rfl, hb⟩
    replace B := chain B hb
    replace c0 := (hb.cell (World.block_lt_of_cell? _ _ c0)).trans c0
    replace c1 := (hb.cell (World.block_lt_of_cell? _ _ c1)).trans c1
    clear hb
    go_wp2
    go_ret
    exact ⟨rfl, B⟩

end Go.Proofs.YtnafnjchlomopaaDoor
