/- The laws of names of pieces, and of what follows from all promises of the chapter: they answer true whatever comes in, and change nothing that lay before; under the table of kinds as the program's text lays it. -/
import Derived.Test.YtidfefaakkpoaaaDoorLawM
import Derived.Test.YtidfefaakkpoaaaDoorPcI
namespace Go.Proofs.YtidfefaakkpoaaaDoor
open Go.RowKit

theorem find_as (s : ByteArray) (q : Int) (hq : fdP s = q) (h : q ≠ 0) (w : World) (hK : Kinds w) : Calls Tryd.prog 62 #[.string s] w fun e w' => e = .returned (.tuple #[.int .i8 q, .int .i64 0]) ∧ w = w' :=
  (find_any s w hK).mono fun e w' h' => ⟨by rw [h'.1, hq, ← perr_yes h], h'.2⟩
theorem find_no (s : ByteArray) (hq : fdP s = 0) (w : World) (hK : Kinds w) : Calls Tryd.prog 62 #[.string s] w fun e w' => e = .returned (.tuple #[.int .i8 0, .int .i64 6]) ∧ w = w' :=
  (find_any s w hK).mono fun e w' h' => ⟨by rw [h'.1, hq]; rfl, h'.2⟩
theorem rFind_as (s : ByteArray) (q : Int) (hq : fdP s = q) (w : World) : Calls Tryd.prog 65 #[.string s] w fun e w' => e = .returned (.int .i8 q) ∧ Below w.heap.size w w' :=
  (rFind_any s w).mono fun e w' h' => ⟨by rw [h'.1, hq], h'.2⟩
theorem giv_b (s : ByteArray) : ∃ b : Bool, b = true ↔ givP s := by
  by_cases h : givP s
  · exact ⟨true, by simp [h]⟩
  · exact ⟨false, by simp [h]⟩
theorem knm_size : ∀ k : Nat, k < 15 → (knm k).size ≤ 32 ∧ 0 < (knm k).size := by decide +kernel
theorem knm_ok : ∀ k : Fin 15, ∀ j : Fin (knm k.1).size, (letN ((knm k.1)[j.1]'j.2).toNat || othN ((knm k.1)[j.1]'j.2).toNat) = true := by decide +kernel
theorem knm_first : ∀ k : Fin 15, ∃ h : 0 < (knm k.1).size, letN ((knm k.1)[0]'h).toNat = true := by decide +kernel
theorem knm_giv {k : Nat} (hk : k < 15) : givP (knm k) := ⟨(knm_size k hk).1, knm_first ⟨k, hk⟩, fun j hj => knm_ok ⟨k, hk⟩ ⟨j, hj⟩⟩
theorem validName_knm (k : Nat) (hk : k < 15) (w : World) : Calls Tryd.prog 63 #[.string (knm k)] w fun e w' => e = .returned (.bool true) ∧ w = w' :=
  validName_any _ true (by simp [knm_giv hk]) (by have := knm_size k hk; omega) w
theorem find_knm (i : Nat) (h0 : 1 ≤ i) (h1 : i ≤ 15) (w : World) (hK : Kinds w) : Calls Tryd.prog 62 #[.string (knm (i - 1))] w fun e w' => e = .returned (.tuple #[.int .i8 (i : Int), .int .i64 0]) ∧ w = w' :=
  find_as _ (i : Int) (by rw [fdP_nm (by omega)]; omega) (by omega) w hK
theorem parse_up (i : Nat) (h0 : 1 ≤ i) (h1 : i ≤ 15) (w : World) (hK : Kinds w) : Calls Tryd.prog 60 #[.int .u8 (ltr (i - 1) : Int)] w fun e w' => e = .returned (.tuple #[.int .i8 (i : Int), .int .i64 0]) ∧ w = w' :=
  parse_as _ (i : Int) (by rw [piP_up (by omega)]; omega) (by omega) w hK
theorem parse_lo (i : Nat) (h0 : 1 ≤ i) (h1 : i ≤ 15) (w : World) (hK : Kinds w) : Calls Tryd.prog 60 #[.int .u8 ((ltr (i - 1) : Int) + 32)] w fun e w' => e = .returned (.tuple #[.int .i8 (-(i : Int)), .int .i64 0]) ∧ w = w' :=
  parse_as (ltr (i - 1) + 32) (-(i : Int)) (by rw [piP_lo (by omega)]; omega) (by omega) w hK

set_option maxRecDepth 100000 in
set_option maxHeartbeats 4000000 in
theorem law_names (s : ByteArray) (w : World) (hK : Kinds w) :
    Calls Tryd.prog 13 #[.string s] w fun e w' => e = .returned (.bool true) ∧ Below w.heap.size w w' := by
  have HK := Lib.hid hK
  clear hK
  by_cases hs : s.size ≤ 100
  · have hl : decide (100 < (s.size : Int)) = false := decide_eq_false (by omega)
    obtain ⟨b, hb⟩ := giv_b s
    have HB := Lib.hid hb
    have hbb : (b != b) = false := by simp
    obtain ⟨q, hq⟩ : ∃ q, fdP s = q := ⟨_, rfl⟩
    have HQ := Lib.hid hq
    clear hq hb
    by_cases hz : q = 0
    · subst hz
      go_enter Tryd.func13, Tryd.ntmps13
      go_wp2_with fail
      refine (find_no s HQ.out _ HK.out).mono ?_
      rintro e w1 ⟨rfl, rfl⟩
      go_wp2_with fail
      refine (validName_any s b HB.out hs _).mono ?_
      rintro e w1 ⟨rfl, rfl⟩
      go_wp2_with fail
      refine (given_any s b HB.out hs _).mono ?_
      rintro e w1 ⟨rfl, rfl⟩
      go_wp2_with fail
      refine (rFind_as s 0 HQ.out _).mono ?_
      rintro e w2 ⟨rfl, hb⟩
      go_wp2_with fail
      refine (knownP_any _ (HK.out.below hb HK.out.1)).mono ?_
      rintro e w3 ⟨rfl, rfl⟩
      go_wp2
      go_ret
      exact ⟨rfl, hb⟩
    · have hnz : (q != 0) = true := bne_iff_ne.2 hz
      have HZ := Lib.hid hz
      clear hz
      go_enter Tryd.func13, Tryd.ntmps13
      go_wp2_with fail
      refine (find_as s q HQ.out HZ.out _ HK.out).mono ?_
      rintro e w1 ⟨rfl, rfl⟩
      go_wp2_with fail
      refine (validName_any s b HB.out hs _).mono ?_
      rintro e w1 ⟨rfl, rfl⟩
      go_wp2_with fail
      refine (given_any s b HB.out hs _).mono ?_
      rintro e w1 ⟨rfl, rfl⟩
      go_wp2_with fail
      refine (rFind_as s q HQ.out _).mono ?_
      rintro e w2 ⟨rfl, hb⟩
      go_wp2_with fail
      refine (knownP_any _ (HK.out.below hb HK.out.1)).mono ?_
      rintro e w3 ⟨rfl, rfl⟩
      go_wp2
      go_ret
      exact ⟨rfl, hb⟩
  · have hl : 100 < (s.size : Int) := by omega
    go_enter Tryd.func13, Tryd.ntmps13
    go_wp2_with fail
    refine (knownP_any _ HK.out).mono ?_
    rintro e w1 ⟨rfl, rfl⟩
    go_wp2
    go_ret
    exact ⟨rfl, Below.refl _ _⟩

set_option maxRecDepth 100000 in
set_option maxHeartbeats 4000000 in
theorem law_holdsP (p : Int) (w : World) (hK : Kinds w) :
    Calls Tryd.prog 14 #[.int .i8 p] w fun e w' => e = .returned (.bool true) ∧ w = w' := by
  have HK := Lib.hid hK
  clear hK
  rcases piece_cases p with h | rfl | ⟨i, h0, h1, rfl⟩ | ⟨i, h0, h1, rfl⟩
  · have H := Lib.hid h
    clear h
    go_enter Tryd.func14, Tryd.ntmps14
    go_wp2_with fail
    refine (pValid_no p H.out _).mono ?_
    rintro e w1 ⟨rfl, rfl⟩
    go_wp2_with fail
    refine (knownP_any _ HK.out).mono ?_
    rintro e w1 ⟨rfl, rfl⟩
    go_wp2
    go_ret
    exact ⟨rfl, rfl⟩
  · go_enter Tryd.func14, Tryd.ntmps14
    go_wp2_with fail
    refine (pValid_yes 0 okP_0 _).mono ?_
    rintro e w1 ⟨rfl, rfl⟩
    go_wp2_with fail
    refine (knownP_any _ HK.out).mono ?_
    rintro e w1 ⟨rfl, rfl⟩
    go_wp2
    go_ret
    exact ⟨rfl, rfl⟩
  · have hz : ((i : Int) == 0) = false := beq_eq_false_iff_ne.2 (by omega)
    go_enter Tryd.func14, Tryd.ntmps14
    go_wp2_with fail
    refine (pValid_yes ((i : Int)) (okP_pos h1) _).mono ?_
    rintro e w1 ⟨rfl, rfl⟩
    go_wp2_with fail
    refine (kind_pos i h1 _).mono ?_
    rintro e w1 ⟨rfl, rfl⟩
    go_wp2_with fail
    refine (side_pos i h0 h1 _).mono ?_
    rintro e w1 ⟨rfl, rfl⟩
    go_wp2_with fail
    refine (make_w i h0 h1 _).mono ?_
    rintro e w1 ⟨rfl, rfl⟩
    go_wp2_with fail
    refine (letter_pos i h0 h1 _ HK.out).mono ?_
    rintro e w1 ⟨rfl, rfl⟩
    go_wp2_with fail
    refine (parse_up i h0 h1 _ HK.out).mono ?_
    rintro e w1 ⟨rfl, rfl⟩
    go_wp2_with fail
    refine (kind_neg i h1 _).mono ?_
    rintro e w1 ⟨rfl, rfl⟩
    go_wp2_with fail
    refine (side_neg i h0 h1 _).mono ?_
    rintro e w1 ⟨rfl, rfl⟩
    go_wp2_with fail
    refine (value_pos i h0 h1 _ HK.out).mono ?_
    rintro e w1 ⟨rfl, rfl⟩
    go_wp2_with fail
    refine (value_neg i h0 h1 _ HK.out).mono ?_
    rintro e w1 ⟨rfl, rfl⟩
    go_wp2_with fail
    refine (pname_yes i h0 h1 _ HK.out).mono ?_
    rintro e w1 ⟨rfl, rfl⟩
    go_wp2_with fail
    refine (find_knm i h0 h1 _ HK.out).mono ?_
    rintro e w1 ⟨rfl, rfl⟩
    go_wp2_with fail
    refine (validName_knm (i - 1) (by omega) _).mono ?_
    rintro e w1 ⟨rfl, rfl⟩
    go_wp2_with fail
    refine (knownP_any _ HK.out).mono ?_
    rintro e w1 ⟨rfl, rfl⟩
    go_wp2
    go_ret
    exact ⟨rfl, rfl⟩
  · have hz : (-(i : Int) == 0) = false := beq_eq_false_iff_ne.2 (by omega)
    go_enter Tryd.func14, Tryd.ntmps14
    go_wp2_with fail
    refine (pValid_yes (-(i : Int)) (okP_neg h1) _).mono ?_
    rintro e w1 ⟨rfl, rfl⟩
    go_wp2_with fail
    refine (kind_neg i h1 _).mono ?_
    rintro e w1 ⟨rfl, rfl⟩
    go_wp2_with fail
    refine (side_neg i h0 h1 _).mono ?_
    rintro e w1 ⟨rfl, rfl⟩
    go_wp2_with fail
    refine (make_b i h0 h1 _).mono ?_
    rintro e w1 ⟨rfl, rfl⟩
    go_wp2_with fail
    refine (letter_neg i h0 h1 _ HK.out).mono ?_
    rintro e w1 ⟨rfl, rfl⟩
    go_wp2_with fail
    refine (parse_lo i h0 h1 _ HK.out).mono ?_
    rintro e w1 ⟨rfl, rfl⟩
    go_wp2_with fail
    refine (kind_pos i h1 _).mono ?_
    rintro e w1 ⟨rfl, rfl⟩
    go_wp2_with fail
    refine (side_pos i h0 h1 _).mono ?_
    rintro e w1 ⟨rfl, rfl⟩
    go_wp2_with fail
    refine (value_neg i h0 h1 _ HK.out).mono ?_
    rintro e w1 ⟨rfl, rfl⟩
    go_wp2_with fail
    refine (value_pos i h0 h1 _ HK.out).mono ?_
    rintro e w1 ⟨rfl, rfl⟩
    go_wp2_with fail
    refine (pname_yes i h0 h1 _ HK.out).mono ?_
    rintro e w1 ⟨rfl, rfl⟩
    go_wp2_with fail
    refine (find_knm i h0 h1 _ HK.out).mono ?_
    rintro e w1 ⟨rfl, rfl⟩
    go_wp2_with fail
    refine (validName_knm (i - 1) (by omega) _).mono ?_
    rintro e w1 ⟨rfl, rfl⟩
    go_wp2_with fail
    refine (knownP_any _ HK.out).mono ?_
    rintro e w1 ⟨rfl, rfl⟩
    go_wp2
    go_ret
    exact ⟨rfl, rfl⟩

end Go.Proofs.YtidfefaakkpoaaaDoor
