/- The laws of pieces that make no memory: they answer true whatever comes in, and change nothing; under the table of kinds as the program's text lays it. -/
import Derived.Test.YtidfefaakkpoaaaDoorPcF
namespace Go.Proofs.YtidfefaakkpoaaaDoor
open Go.RowKit

theorem kind_zero (w : World) : Calls Tryd.prog 44 #[.int .i8 0] w fun e w' => e = .returned (.tuple #[.int .i8 0, .int .i64 0]) ∧ w = w' := kind_pos 0 (by decide) w
theorem rKind_zero (w : World) : Calls Tryd.prog 52 #[.int .i8 0] w fun e w' => e = .returned (.int .i8 0) ∧ w = w' := rKind_pos 0 (by decide) w
theorem okP_0 : okP 0 := ⟨by omega, by omega⟩
theorem piece_cases (p : Int) : ¬ okP p ∨ p = 0 ∨ (∃ i : Nat, 1 ≤ i ∧ i ≤ 15 ∧ p = (i : Int)) ∨ (∃ i : Nat, 1 ≤ i ∧ i ≤ 15 ∧ p = -(i : Int)) := by
  by_cases h : okP p
  · obtain ⟨h0, h1⟩ := h
    by_cases hz : p = 0
    · exact .inr (.inl hz)
    · by_cases hp : 0 < p
      · exact .inr (.inr (.inl ⟨p.toNat, by omega, by omega, by omega⟩))
      · exact .inr (.inr (.inr ⟨(-p).toNat, by omega, by omega, by omega⟩))
  · exact .inl h

set_option maxRecDepth 100000 in
set_option maxHeartbeats 4000000 in
theorem law_valid (p : Int) (hp : -128 ≤ p ∧ p ≤ 127) (w : World) (hK : Kinds w) :
    Calls Tryd.prog 10 #[.int .i8 p] w fun e w' => e = .returned (.bool true) ∧ w = w' := by
  have HK := Lib.hid hK
  clear hK
  have hb : (orthB p != orthB p) = false := by simp
  rcases piece_cases p with h | rfl | ⟨i, h0, h1, rfl⟩ | ⟨i, h0, h1, rfl⟩
  · have H := Lib.hid h
    clear h
    go_enter Tryd.func10, Tryd.ntmps10
    go_wp2_with fail
    refine (kind_no p H.out _).mono ?_
    rintro e w1 ⟨rfl, rfl⟩
    go_wp2_with fail
    refine (side_no p H.out _).mono ?_
    rintro e w1 ⟨rfl, rfl⟩
    go_wp2_with fail
    refine (value_no p H.out _).mono ?_
    rintro e w1 ⟨rfl, rfl⟩
    go_wp2_with fail
    refine (pValid_no p H.out _).mono ?_
    rintro e w1 ⟨rfl, rfl⟩
    go_wp2_with fail
    refine (rpValid_no p H.out _).mono ?_
    rintro e w1 ⟨rfl, rfl⟩
    go_wp2_with fail
    refine (orth_any p hp _).mono ?_
    rintro e w1 ⟨rfl, rfl⟩
    go_wp2_with fail
    refine (rorth_any p hp _).mono ?_
    rintro e w1 ⟨rfl, rfl⟩
    go_wp2_with fail
    refine (rpValid_no p H.out _).mono ?_
    rintro e w1 ⟨rfl, rfl⟩
    go_wp2_with fail
    refine (knownP_any _ HK.out).mono ?_
    rintro e w1 ⟨rfl, rfl⟩
    go_wp2
    go_ret
    exact ⟨rfl, rfl⟩
  · go_enter Tryd.func10, Tryd.ntmps10
    go_wp2_with fail
    refine (kind_zero _).mono ?_
    rintro e w1 ⟨rfl, rfl⟩
    go_wp2_with fail
    refine (side_zero _).mono ?_
    rintro e w1 ⟨rfl, rfl⟩
    go_wp2_with fail
    refine (value_zero _).mono ?_
    rintro e w1 ⟨rfl, rfl⟩
    go_wp2_with fail
    refine (pValid_yes 0 okP_0 _).mono ?_
    rintro e w1 ⟨rfl, rfl⟩
    go_wp2_with fail
    refine (rpValid_yes 0 okP_0 _).mono ?_
    rintro e w1 ⟨rfl, rfl⟩
    go_wp2_with fail
    refine (orth_any 0 hp _).mono ?_
    rintro e w1 ⟨rfl, rfl⟩
    go_wp2_with fail
    refine (rorth_any 0 hp _).mono ?_
    rintro e w1 ⟨rfl, rfl⟩
    go_wp2_with fail
    refine (rpValid_yes 0 okP_0 _).mono ?_
    rintro e w1 ⟨rfl, rfl⟩
    go_wp2_with fail
    refine (rKind_zero _).mono ?_
    rintro e w1 ⟨rfl, rfl⟩
    go_wp2_with fail
    refine (rSide_zero _).mono ?_
    rintro e w1 ⟨rfl, rfl⟩
    go_wp2_with fail
    refine (rValue_zero _).mono ?_
    rintro e w1 ⟨rfl, rfl⟩
    go_wp2_with fail
    refine (knownP_any _ HK.out).mono ?_
    rintro e w1 ⟨rfl, rfl⟩
    go_wp2
    go_ret
    exact ⟨rfl, rfl⟩
  · go_enter Tryd.func10, Tryd.ntmps10
    go_wp2_with fail
    refine (kind_pos i h1 _).mono ?_
    rintro e w1 ⟨rfl, rfl⟩
    go_wp2_with fail
    refine (side_pos i h0 h1 _).mono ?_
    rintro e w1 ⟨rfl, rfl⟩
    go_wp2_with fail
    refine (value_pos i h0 h1 _ HK.out).mono ?_
    rintro e w1 ⟨rfl, rfl⟩
    go_wp2_with fail
    refine (pValid_yes (i : Int) (okP_pos h1) _).mono ?_
    rintro e w1 ⟨rfl, rfl⟩
    go_wp2_with fail
    refine (rpValid_yes (i : Int) (okP_pos h1) _).mono ?_
    rintro e w1 ⟨rfl, rfl⟩
    go_wp2_with fail
    refine (orth_any (i : Int) hp _).mono ?_
    rintro e w1 ⟨rfl, rfl⟩
    go_wp2_with fail
    refine (rorth_any (i : Int) hp _).mono ?_
    rintro e w1 ⟨rfl, rfl⟩
    go_wp2_with fail
    refine (rpValid_yes (i : Int) (okP_pos h1) _).mono ?_
    rintro e w1 ⟨rfl, rfl⟩
    go_wp2_with fail
    refine (rKind_pos i h1 _).mono ?_
    rintro e w1 ⟨rfl, rfl⟩
    go_wp2_with fail
    refine (rSide_pos i h0 h1 _).mono ?_
    rintro e w1 ⟨rfl, rfl⟩
    go_wp2_with fail
    refine (rValue_pos i h0 h1 _).mono ?_
    rintro e w1 ⟨rfl, rfl⟩
    go_wp2_with fail
    refine (knownP_any _ HK.out).mono ?_
    rintro e w1 ⟨rfl, rfl⟩
    go_wp2
    go_ret
    exact ⟨rfl, rfl⟩
  · go_enter Tryd.func10, Tryd.ntmps10
    go_wp2_with fail
    refine (kind_neg i h1 _).mono ?_
    rintro e w1 ⟨rfl, rfl⟩
    go_wp2_with fail
    refine (side_neg i h0 h1 _).mono ?_
    rintro e w1 ⟨rfl, rfl⟩
    go_wp2_with fail
    refine (value_neg i h0 h1 _ HK.out).mono ?_
    rintro e w1 ⟨rfl, rfl⟩
    go_wp2_with fail
    refine (pValid_yes (-(i : Int)) (okP_neg h1) _).mono ?_
    rintro e w1 ⟨rfl, rfl⟩
    go_wp2_with fail
    refine (rpValid_yes (-(i : Int)) (okP_neg h1) _).mono ?_
    rintro e w1 ⟨rfl, rfl⟩
    go_wp2_with fail
    refine (orth_any (-(i : Int)) hp _).mono ?_
    rintro e w1 ⟨rfl, rfl⟩
    go_wp2_with fail
    refine (rorth_any (-(i : Int)) hp _).mono ?_
    rintro e w1 ⟨rfl, rfl⟩
    go_wp2_with fail
    refine (rpValid_yes (-(i : Int)) (okP_neg h1) _).mono ?_
    rintro e w1 ⟨rfl, rfl⟩
    go_wp2_with fail
    refine (rKind_neg i h0 h1 _).mono ?_
    rintro e w1 ⟨rfl, rfl⟩
    go_wp2_with fail
    refine (rSide_neg i h0 h1 _).mono ?_
    rintro e w1 ⟨rfl, rfl⟩
    go_wp2_with fail
    refine (rValue_neg i h0 h1 _).mono ?_
    rintro e w1 ⟨rfl, rfl⟩
    go_wp2_with fail
    refine (knownP_any _ HK.out).mono ?_
    rintro e w1 ⟨rfl, rfl⟩
    go_wp2
    go_ret
    exact ⟨rfl, rfl⟩

end Go.Proofs.YtidfefaakkpoaaaDoor
