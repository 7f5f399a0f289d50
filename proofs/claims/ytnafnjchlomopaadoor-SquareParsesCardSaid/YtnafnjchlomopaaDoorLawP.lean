/- The law of names that are read: it answers true whatever comes in, and changes nothing that lay before; under the table of package math/bits as its text lays it. -/
import Derived.Test.YtnafnjchlomopaaDoorSqZ
import Derived.Test.YtnafnjchlomopaaDoorSqY
namespace Go.Proofs.YtnafnjchlomopaaDoor
open Go.RowKit

theorem parse_nameS (F R a : Int) (s : ByteArray) (ha : vat F R a) (hs : nameB F a = s) (w : World) :
    Calls Tryd.prog 26 #[.agg #[.int .i64 F, .int .i64 R], .string s] w fun e w' => e = .returned (.tuple #[.int .i64 a, .int .i64 0]) ∧ Below w.heap.size w w' := by
  subst hs
  exact parse_name F R a ha w

set_option maxRecDepth 100000 in
set_option maxHeartbeats 4000000 in
theorem law_parses (F R : Int) (s : ByteArray) (w : World) (hT : Tab w) :
    Calls Tryd.prog 5 #[.agg #[.int .i64 F, .int .i64 R], .string s] w fun e w' => e = .returned (.bool true) ∧ Below w.heap.size w w' := by
  have B : Below w.heap.size w (w.alloc (.cells #[.int .i64 F, .int .i64 R] 23)) := box1 _ _
  have c0 : (w.alloc (.cells #[.int .i64 F, .int .i64 R] 23)).cell? ⟨w.heap.size, 0, none⟩ = some (.int .i64 F) := by simp [go_sem]
  have c1 : (w.alloc (.cells #[.int .i64 F, .int .i64 R] 23)).cell? ⟨w.heap.size, 1, none⟩ = some (.int .i64 R) := by simp [go_sem]
  by_cases hlen : 20 < s.size
  · have hl : (20 : Int) < (s.size : Int) := by omega
    go_enter Tryd.func5, Tryd.ntmps5
    go_wp2_with fail
    refine (known_any _ (hT.below B hT.1)).mono ?_
    rintro e x0 ⟨rfl, hb⟩
    replace B := chain B hb
    replace c0 := (hb.cell (World.block_lt_of_cell? _ _ c0)).trans c0
    replace c1 := (hb.cell (World.block_lt_of_cell? _ _ c1)).trans c1
    clear hb
    go_wp2
    go_ret
    exact ⟨rfl, B⟩
  · have hl : (s.size : Int) ≤ 20 := by omega
    clear hlen
    by_cases hv : vsz F R
    · by_cases hs : ∃ a, vat F R a ∧ nameB F a = s
      · obtain ⟨a, ha, hs⟩ := hs
        have HS := Lib.hid hs
        clear hs
        have a0 := ha.2.1
        go_enter Tryd.func5, Tryd.ntmps5
        go_wp2_with fail
        refine (parse_nameS F R a s ha HS.out _).mono ?_
        rintro e x0 ⟨rfl, hb⟩
        replace B := chain B hb
        replace c0 := (hb.cell (World.block_lt_of_cell? _ _ c0)).trans c0
        replace c1 := (hb.cell (World.block_lt_of_cell? _ _ c1)).trans c1
        clear hb
        go_wp2_with fail
        refine (refSize_yes F R hv _).mono ?_
        rintro e x1 ⟨rfl, hb⟩
        replace B := chain B hb
        replace c0 := (hb.cell (World.block_lt_of_cell? _ _ c0)).trans c0
        replace c1 := (hb.cell (World.block_lt_of_cell? _ _ c1)).trans c1
        clear hb
        go_wp2_with fail
        refine (refParse_yes F R a s ha HS.out _).mono ?_
        rintro e x2 ⟨rfl, hb⟩
        replace B := chain B hb
        replace c0 := (hb.cell (World.block_lt_of_cell? _ _ c0)).trans c0
        replace c1 := (hb.cell (World.block_lt_of_cell? _ _ c1)).trans c1
        clear hb
        go_wp2_with fail
        refine (known_any _ (hT.below B hT.1)).mono ?_
        rintro e x3 ⟨rfl, hb⟩
        replace B := chain B hb
        replace c0 := (hb.cell (World.block_lt_of_cell? _ _ c0)).trans c0
        replace c1 := (hb.cell (World.block_lt_of_cell? _ _ c1)).trans c1
        clear hb
        go_wp2
        go_ret
        exact ⟨rfl, B⟩
      · have hno : ∀ a, vat F R a → nameB F a ≠ s := fun a ha h => hs ⟨a, ha, h⟩
        have HN := Lib.hid hno
        clear hno hs
        go_enter Tryd.func5, Tryd.ntmps5
        go_wp2_with fail
        refine (parse_none F R s hv HN.out _).mono ?_
        rintro e x0 ⟨rfl, hb⟩
        replace B := chain B hb
        replace c0 := (hb.cell (World.block_lt_of_cell? _ _ c0)).trans c0
        replace c1 := (hb.cell (World.block_lt_of_cell? _ _ c1)).trans c1
        clear hb
        go_wp2_with fail
        refine (refSize_yes F R hv _).mono ?_
        rintro e x1 ⟨rfl, hb⟩
        replace B := chain B hb
        replace c0 := (hb.cell (World.block_lt_of_cell? _ _ c0)).trans c0
        replace c1 := (hb.cell (World.block_lt_of_cell? _ _ c1)).trans c1
        clear hb
        go_wp2_with fail
        refine (refParse_no F R s hv HN.out _).mono ?_
        rintro e x2 ⟨rfl, hb⟩
        replace B := chain B hb
        replace c0 := (hb.cell (World.block_lt_of_cell? _ _ c0)).trans c0
        replace c1 := (hb.cell (World.block_lt_of_cell? _ _ c1)).trans c1
        clear hb
        go_wp2_with fail
        refine (known_any _ (hT.below B hT.1)).mono ?_
        rintro e x3 ⟨rfl, hb⟩
        replace B := chain B hb
        replace c0 := (hb.cell (World.block_lt_of_cell? _ _ c0)).trans c0
        replace c1 := (hb.cell (World.block_lt_of_cell? _ _ c1)).trans c1
        clear hb
        go_wp2
        go_ret
        exact ⟨rfl, B⟩
    · go_enter Tryd.func5, Tryd.ntmps5
      go_wp2_with fail
      refine (parse_no F R s hv _).mono ?_
      rintro e x0 ⟨rfl, hb⟩
      replace B := chain B hb
      replace c0 := (hb.cell (World.block_lt_of_cell? _ _ c0)).trans c0
      replace c1 := (hb.cell (World.block_lt_of_cell? _ _ c1)).trans c1
      clear hb
      go_wp2_with fail
      refine (refSize_no F R hv _).mono ?_
      rintro e x1 ⟨rfl, hb⟩
      replace B := chain B hb
      replace c0 := (hb.cell (World.block_lt_of_cell? _ _ c0)).trans c0
      replace c1 := (hb.cell (World.block_lt_of_cell? _ _ c1)).trans c1
      clear hb
      go_wp2_with fail
      refine (known_any _ (hT.below B hT.1)).mono ?_
      rintro e x2 ⟨rfl, hb⟩
      replace B := chain B hb
      replace c0 := (hb.cell (World.block_lt_of_cell? _ _ c0)).trans c0
      replace c1 := (hb.cell (World.block_lt_of_cell? _ _ c1)).trans c1
      clear hb
      go_wp2
      go_ret
      exact ⟨rfl, B⟩

end Go.Proofs.YtnafnjchlomopaaDoor
