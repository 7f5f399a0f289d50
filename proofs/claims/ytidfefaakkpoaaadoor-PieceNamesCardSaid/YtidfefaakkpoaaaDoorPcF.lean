/- The examples of the chapter of pieces: known answers true, and changes nothing. -/
import Derived.Test.YtidfefaakkpoaaaDoorPcD
import Derived.Lib.QuietBelow
namespace Go.Proofs.YtidfefaakkpoaaaDoor
open Go.RowKit Go.Sort Go.BigFrame

theorem q_kind (w : World) : Calls Tryd.prog 44 #[.int .i8 (-5)] w fun e w' => e = .returned (.tuple #[.int .i8 5, .int .i64 0]) ∧ w = w' := kind_neg 5 (by decide) w
theorem q_side (w : World) : Calls Tryd.prog 45 #[.int .i8 (-5)] w fun e w' => e = .returned (.tuple #[.int .i64 (-1), .int .i64 0]) ∧ w = w' := side_neg 5 (by decide) (by decide) w
theorem q_make (w : World) : Calls Tryd.prog 55 #[.int .i8 5, .bool true] w fun e w' => e = .returned (.tuple #[.int .i8 (-5), .int .i64 0]) ∧ w = w' := make_b 5 (by decide) (by decide) w
theorem q_valid1 (w : World) : Calls Tryd.prog 47 #[.int .i8 16] w fun e w' => e = .returned (.bool false) ∧ w = w' := pValid_no 16 (fun h => absurd h.2 (by omega)) w
theorem q_valid2 (w : World) : Calls Tryd.prog 47 #[.int .i8 (-15)] w fun e w' => e = .returned (.bool true) ∧ w = w' := pValid_yes (-15) ⟨by omega, by omega⟩ w
theorem q_orth (w : World) : Calls Tryd.prog 49 #[.int .i8 7] w fun e w' => e = .returned (.bool false) ∧ w = w' := orth_any 7 ⟨by omega, by omega⟩ w
theorem q_letter1 (w : World) (hK : Kinds w) : Calls Tryd.prog 58 #[.int .i8 (-2)] w fun e w' => e = .returned (.tuple #[.int .u8 110, .int .i64 0]) ∧ w = w' := letter_neg 2 (by decide) (by decide) w hK
theorem q_letter2 (w : World) (hK : Kinds w) : Calls Tryd.prog 58 #[.int .i8 7] w fun e w' => e = .returned (.tuple #[.int .u8 65, .int .i64 0]) ∧ w = w' := letter_pos 7 (by decide) (by decide) w hK
theorem q_letter3 (w : World) : Calls Tryd.prog 58 #[.int .i8 0] w fun e w' => e = .returned (.tuple #[.int .u8 0, .int .i64 2]) ∧ w = w' := letter_no 0 (.inl rfl) w
theorem p107 : piP 107 = -6 := by decide +kernel
theorem p76 : piP 76 = 0 := by decide +kernel
theorem q_parse1 (w : World) (hK : Kinds w) : Calls Tryd.prog 60 #[.int .u8 107] w fun e w' => e = .returned (.tuple #[.int .i8 (-6), .int .i64 0]) ∧ w = w' :=
  (parse_any 107 w hK).mono fun e w' h => ⟨by rw [h.1, p107]; rfl, h.2⟩
theorem q_parse2 (w : World) (hK : Kinds w) : Calls Tryd.prog 60 #[.int .u8 76] w fun e w' => e = .returned (.tuple #[.int .i8 0, .int .i64 6]) ∧ w = w' :=
  (parse_any 76 w hK).mono fun e w' h => ⟨by rw [h.1, p76]; rfl, h.2⟩
theorem q_value (w : World) (hK : Kinds w) : Calls Tryd.prog 46 #[.int .i8 (-4)] w fun e w' => e = .returned (.tuple #[.int .i64 5, .int .i64 0]) ∧ w = w' := value_neg 4 (by decide) (by decide) w hK
theorem q_name (w : World) (hK : Kinds w) : Calls Tryd.prog 56 #[.int .i8 3] w fun e w' => e = .returned (.tuple #[.string ⟨#[98, 105, 115, 104, 111, 112]⟩, .int .i64 0]) ∧ w = w' := pname_yes 3 (by decide) (by decide) w hK
theorem fj : fdP ⟨#[102, 97, 105, 114, 121, 45, 106]⟩ = 15 := by decide +kernel
theorem fR : fdP ⟨#[82, 111, 111, 107]⟩ = 0 := by decide +kernel
theorem q_find1 (w : World) (hK : Kinds w) : Calls Tryd.prog 62 #[.string ⟨#[102, 97, 105, 114, 121, 45, 106]⟩] w fun e w' => e = .returned (.tuple #[.int .i8 15, .int .i64 0]) ∧ w = w' :=
  (find_any _ w hK).mono fun e w' h => ⟨by rw [h.1, fj]; rfl, h.2⟩
theorem q_find2 (w : World) (hK : Kinds w) : Calls Tryd.prog 62 #[.string ⟨#[82, 111, 111, 107]⟩] w fun e w' => e = .returned (.tuple #[.int .i8 0, .int .i64 6]) ∧ w = w' :=
  (find_any _ w hK).mono fun e w' h => ⟨by rw [h.1, fR]; rfl, h.2⟩

set_option maxRecDepth 100000 in
set_option maxHeartbeats 4000000 in
theorem knownP_any (w : World) (hK : Kinds w) : Calls Tryd.prog 51 #[] w fun e w' => e = .returned (.bool true) ∧ w = w' := by
  have HK := Lib.hid hK
  clear hK
  go_enter Tryd.func51, Tryd.ntmps51
  go_wp2_with fail
  refine (q_kind _).mono ?_
  rintro e w1 ⟨rfl, rfl⟩
  go_wp2_with fail
  refine (q_side _).mono ?_
  rintro e w1 ⟨rfl, rfl⟩
  go_wp2_with fail
  refine (q_make _).mono ?_
  rintro e w1 ⟨rfl, rfl⟩
  go_wp2_with fail
  refine (q_valid1 _).mono ?_
  rintro e w1 ⟨rfl, rfl⟩
  go_wp2_with fail
  refine (q_valid2 _).mono ?_
  rintro e w1 ⟨rfl, rfl⟩
  go_wp2_with fail
  refine (q_orth _).mono ?_
  rintro e w1 ⟨rfl, rfl⟩
  go_wp2_with fail
  refine (q_letter1 _ HK.out).mono ?_
  rintro e w1 ⟨rfl, rfl⟩
  go_wp2_with fail
  refine (q_letter2 _ HK.out).mono ?_
  rintro e w1 ⟨rfl, rfl⟩
  go_wp2_with fail
  refine (q_letter3 _).mono ?_
  rintro e w1 ⟨rfl, rfl⟩
  go_wp2_with fail
  refine (q_parse1 _ HK.out).mono ?_
  rintro e w1 ⟨rfl, rfl⟩
  go_wp2_with fail
  refine (q_parse2 _ HK.out).mono ?_
  rintro e w1 ⟨rfl, rfl⟩
  go_wp2_with fail
  refine (q_value _ HK.out).mono ?_
  rintro e w1 ⟨rfl, rfl⟩
  go_wp2_with fail
  refine (q_name _ HK.out).mono ?_
  rintro e w1 ⟨rfl, rfl⟩
  go_wp2_with fail
  refine (q_find1 _ HK.out).mono ?_
  rintro e w1 ⟨rfl, rfl⟩
  go_wp2_with fail
  refine (q_find2 _ HK.out).mono ?_
  rintro e w1 ⟨rfl, rfl⟩
  go_wp2
  go_ret
  exact ⟨rfl, rfl⟩

end Go.Proofs.YtidfefaakkpoaaaDoor
