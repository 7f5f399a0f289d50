/- The laws of making pieces and of their letters: they answer true whatever comes in, and change nothing that lay before; under the table of kinds as the program's text lays it. -/
import Derived.Test.YtidfefaakkpoaaaDoorLawV
namespace Go.Proofs.YtidfefaakkpoaaaDoor
open Go.RowKit

theorem same_below {f : FuncId} {args : Array Value} {w : World} {r : Ending} (h : Calls Tryd.prog f args w fun e w' => e = r ∧ w = w') : Calls Tryd.prog f args w fun e w' => e = r ∧ Below w.heap.size w w' :=
  h.mono fun e w' h => ⟨h.1, by rw [← h.2]; exact Below.refl _ _⟩
theorem parse_as (c : Nat) (q : Int) (hq : piP c = q) (h : q ≠ 0) (w : World) (hK : Kinds w) : Calls Tryd.prog 60 #[.int .u8 (c : Int)] w fun e w' => e = .returned (.tuple #[.int .i8 q, .int .i64 0]) ∧ w = w' :=
  (parse_any c w hK).mono fun e w' h' => ⟨by rw [h'.1, hq, ← perr_yes h], h'.2⟩
theorem parse_no (c : Nat) (hq : piP c = 0) (w : World) (hK : Kinds w) : Calls Tryd.prog 60 #[.int .u8 (c : Int)] w fun e w' => e = .returned (.tuple #[.int .i8 0, .int .i64 6]) ∧ w = w' :=
  (parse_any c w hK).mono fun e w' h' => ⟨by rw [h'.1, hq]; rfl, h'.2⟩
theorem rParse_as (c : Nat) (q : Int) (hq : piP c = q) (w : World) : Calls Tryd.prog 61 #[.int .u8 (c : Int)] w fun e w' => e = .returned (.int .i8 q) ∧ w = w' :=
  (rParse_any c w).mono fun e w' h' => ⟨by rw [h'.1, hq], h'.2⟩

set_option maxRecDepth 100000 in
set_option maxHeartbeats 4000000 in
theorem law_makes (p : Int) (b : Bool) (w : World) (hK : Kinds w) :
    Calls Tryd.prog 11 #[.int .i8 p, .bool b] w fun e w' => e = .returned (.bool true) ∧ Below w.heap.size w w' := by
  have HK := Lib.hid hK
  clear hK
  by_cases h : 1 ≤ p ∧ p ≤ 15
  · obtain ⟨i, h0, h1, rfl⟩ : ∃ i : Nat, 1 ≤ i ∧ i ≤ 15 ∧ p = (i : Int) := ⟨p.toNat, by omega, by omega, by omega⟩
    clear h
    have hl : decide ((i : Int) < 1) = false := decide_eq_false (by omega)
    have hg : decide (15 < (i : Int)) = false := decide_eq_false (by omega)
    cases b
    · have hn : decide ((i : Int) < 0) = false := decide_eq_false (by omega)
      go_enter Tryd.func11, Tryd.ntmps11
      go_wp2_with fail
      refine (make_w i h0 h1 _).mono ?_
      rintro e w1 ⟨rfl, rfl⟩
      go_wp2_with fail
      refine (pname_yes i h0 h1 _ HK.out).mono ?_
      rintro e w1 ⟨rfl, rfl⟩
      go_wp2_with fail
      refine (rKind_pos i h1 _).mono ?_
      rintro e w1 ⟨rfl, rfl⟩
      go_wp2_with fail
      refine (rName_any i h0 h1 _).mono ?_
      rintro e w2 ⟨rfl, hb⟩
      go_wp2_with fail
      refine (knownP_any _ (HK.out.below hb HK.out.1)).mono ?_
      rintro e w3 ⟨rfl, rfl⟩
      go_wp2
      go_ret
      exact ⟨rfl, hb⟩
    · have hn : -(i : Int) < 0 := by omega
      go_enter Tryd.func11, Tryd.ntmps11
      go_wp2_with fail
      refine (make_b i h0 h1 _).mono ?_
      rintro e w1 ⟨rfl, rfl⟩
      go_wp2_with fail
      refine (pname_yes i h0 h1 _ HK.out).mono ?_
      rintro e w1 ⟨rfl, rfl⟩
      go_wp2_with fail
      refine (rKind_neg i h0 h1 _).mono ?_
      rintro e w1 ⟨rfl, rfl⟩
      go_wp2_with fail
      refine (rName_any i h0 h1 _).mono ?_
      rintro e w2 ⟨rfl, hb⟩
      go_wp2_with fail
      refine (knownP_any _ (HK.out.below hb HK.out.1)).mono ?_
      rintro e w3 ⟨rfl, rfl⟩
      go_wp2
      go_ret
      exact ⟨rfl, hb⟩
  · have H := Lib.hid h
    by_cases hl : p < 1
    · clear h
      go_enter Tryd.func11, Tryd.ntmps11
      go_wp2_with fail
      refine (make_no p b H.out _).mono ?_
      rintro e w1 ⟨rfl, rfl⟩
      go_wp2_with fail
      refine (pname_no p H.out _).mono ?_
      rintro e w1 ⟨rfl, rfl⟩
      go_wp2_with fail
      refine (knownP_any _ HK.out).mono ?_
      rintro e w1 ⟨rfl, rfl⟩
      go_wp2
      go_ret
      exact ⟨rfl, Below.refl _ _⟩
    · have hg : 15 < p := by omega
      have hl' : decide (p < 1) = false := decide_eq_false hl
      clear h hl
      go_enter Tryd.func11, Tryd.ntmps11
      go_wp2_with fail
      refine (make_no p b H.out _).mono ?_
      rintro e w1 ⟨rfl, rfl⟩
      go_wp2_with fail
      refine (pname_no p H.out _).mono ?_
      rintro e w1 ⟨rfl, rfl⟩
      go_wp2_with fail
      refine (knownP_any _ HK.out).mono ?_
      rintro e w1 ⟨rfl, rfl⟩
      go_wp2
      go_ret
      exact ⟨rfl, Below.refl _ _⟩

set_option maxRecDepth 100000 in
set_option maxHeartbeats 4000000 in
theorem letters_zero (c : Nat) (w : World) (hK : Kinds w) :
    Calls Tryd.prog 12 #[.int .i8 0, .int .u8 (c : Int)] w fun e w' => e = .returned (.bool true) ∧ w = w' := by
  have HK := Lib.hid hK
  clear hK
  obtain ⟨q, hq⟩ : ∃ q, piP c = q := ⟨_, rfl⟩
  have HQ := Lib.hid hq
  clear hq
  by_cases hz : q = 0
  · subst hz
    go_enter Tryd.func12, Tryd.ntmps12
    go_wp2_with fail
    refine (letter_no 0 (.inl rfl) _).mono ?_
    rintro e w1 ⟨rfl, rfl⟩
    go_wp2_with fail
    refine (parse_no c HQ.out _ HK.out).mono ?_
    rintro e w1 ⟨rfl, rfl⟩
    go_wp2_with fail
    refine (rParse_as c 0 HQ.out _).mono ?_
    rintro e w1 ⟨rfl, rfl⟩
    go_wp2_with fail
    refine (knownP_any _ HK.out).mono ?_
    rintro e w1 ⟨rfl, rfl⟩
    go_wp2
    go_ret
    exact ⟨rfl, rfl⟩
  · have hnz : (q != 0) = true := bne_iff_ne.2 hz
    have HZ := Lib.hid hz
    clear hz
    go_enter Tryd.func12, Tryd.ntmps12
    go_wp2_with fail
    refine (letter_no 0 (.inl rfl) _).mono ?_
    rintro e w1 ⟨rfl, rfl⟩
    go_wp2_with fail
    refine (parse_as c q HQ.out HZ.out _ HK.out).mono ?_
    rintro e w1 ⟨rfl, rfl⟩
    go_wp2_with fail
    refine (rParse_as c q HQ.out _).mono ?_
    rintro e w1 ⟨rfl, rfl⟩
    go_wp2_with fail
    refine (knownP_any _ HK.out).mono ?_
    rintro e w1 ⟨rfl, rfl⟩
    go_wp2
    go_ret
    exact ⟨rfl, rfl⟩

set_option maxRecDepth 100000 in
set_option maxHeartbeats 4000000 in
theorem letters_no (p : Int) (h : ¬ okP p) (h0 : p ≠ 0) (c : Nat) (w : World) (hK : Kinds w) :
    Calls Tryd.prog 12 #[.int .i8 p, .int .u8 (c : Int)] w fun e w' => e = .returned (.bool true) ∧ w = w' := by
  have HK := Lib.hid hK
  clear hK
  have hp0 : (p == 0) = false := beq_eq_false_iff_ne.2 h0
  have H := Lib.hid h
  clear h h0
  obtain ⟨q, hq⟩ : ∃ q, piP c = q := ⟨_, rfl⟩
  have HQ := Lib.hid hq
  clear hq
  by_cases hz : q = 0
  · subst hz
    go_enter Tryd.func12, Tryd.ntmps12
    go_wp2_with fail
    refine (letter_no p (.inr H.out) _).mono ?_
    rintro e w1 ⟨rfl, rfl⟩
    go_wp2_with fail
    refine (rpValid_no p H.out _).mono ?_
    rintro e w1 ⟨rfl, rfl⟩
    go_wp2_with fail
    refine (parse_no c HQ.out _ HK.out).mono ?_
    rintro e w1 ⟨rfl, rfl⟩
    go_wp2_with fail
    refine (rParse_as c 0 HQ.out _).mono ?_
    rintro e w1 ⟨rfl, rfl⟩
    go_wp2_with fail
    refine (knownP_any _ HK.out).mono ?_
    rintro e w1 ⟨rfl, rfl⟩
    go_wp2
    go_ret
    exact ⟨rfl, rfl⟩
  · have hnz : (q != 0) = true := bne_iff_ne.2 hz
    have HZ := Lib.hid hz
    clear hz
    go_enter Tryd.func12, Tryd.ntmps12
    go_wp2_with fail
    refine (letter_no p (.inr H.out) _).mono ?_
    rintro e w1 ⟨rfl, rfl⟩
    go_wp2_with fail
    refine (rpValid_no p H.out _).mono ?_
    rintro e w1 ⟨rfl, rfl⟩
    go_wp2_with fail
    refine (parse_as c q HQ.out HZ.out _ HK.out).mono ?_
    rintro e w1 ⟨rfl, rfl⟩
    go_wp2_with fail
    refine (rParse_as c q HQ.out _).mono ?_
    rintro e w1 ⟨rfl, rfl⟩
    go_wp2_with fail
    refine (knownP_any _ HK.out).mono ?_
    rintro e w1 ⟨rfl, rfl⟩
    go_wp2
    go_ret
    exact ⟨rfl, rfl⟩

set_option maxRecDepth 100000 in
set_option maxHeartbeats 4000000 in
theorem letters_pos (i : Nat) (h0 : 1 ≤ i) (h1 : i ≤ 15) (c : Nat) (w : World) (hK : Kinds w) :
    Calls Tryd.prog 12 #[.int .i8 (i : Int), .int .u8 (c : Int)] w fun e w' => e = .returned (.bool true) ∧ w = w' := by
  have HK := Lib.hid hK
  clear hK
  have hp0 : ((i : Int) == 0) = false := beq_eq_false_iff_ne.2 (by omega)
  obtain ⟨q, hq⟩ : ∃ q, piP c = q := ⟨_, rfl⟩
  have HQ := Lib.hid hq
  clear hq
  by_cases hz : q = 0
  · subst hz
    go_enter Tryd.func12, Tryd.ntmps12
    go_wp2_with fail
    refine (letter_pos i h0 h1 _ HK.out).mono ?_
    rintro e w1 ⟨rfl, rfl⟩
    go_wp2_with fail
    refine (rpValid_yes (i : Int) (okP_pos h1) _).mono ?_
    rintro e w1 ⟨rfl, rfl⟩
    go_wp2_with fail
    refine (rLetter_pos i h0 h1 _).mono ?_
    rintro e w1 ⟨rfl, rfl⟩
    go_wp2_with fail
    refine (parse_no c HQ.out _ HK.out).mono ?_
    rintro e w1 ⟨rfl, rfl⟩
    go_wp2_with fail
    refine (rParse_as c 0 HQ.out _).mono ?_
    rintro e w1 ⟨rfl, rfl⟩
    go_wp2_with fail
    refine (knownP_any _ HK.out).mono ?_
    rintro e w1 ⟨rfl, rfl⟩
    go_wp2
    go_ret
    exact ⟨rfl, rfl⟩
  · have hnz : (q != 0) = true := bne_iff_ne.2 hz
    have HZ := Lib.hid hz
    clear hz
    go_enter Tryd.func12, Tryd.ntmps12
    go_wp2_with fail
    refine (letter_pos i h0 h1 _ HK.out).mono ?_
    rintro e w1 ⟨rfl, rfl⟩
    go_wp2_with fail
    refine (rpValid_yes (i : Int) (okP_pos h1) _).mono ?_
    rintro e w1 ⟨rfl, rfl⟩
    go_wp2_with fail
    refine (rLetter_pos i h0 h1 _).mono ?_
    rintro e w1 ⟨rfl, rfl⟩
    go_wp2_with fail
    refine (parse_as c q HQ.out HZ.out _ HK.out).mono ?_
    rintro e w1 ⟨rfl, rfl⟩
    go_wp2_with fail
    refine (rParse_as c q HQ.out _).mono ?_
    rintro e w1 ⟨rfl, rfl⟩
    go_wp2_with fail
    refine (knownP_any _ HK.out).mono ?_
    rintro e w1 ⟨rfl, rfl⟩
    go_wp2
    go_ret
    exact ⟨rfl, rfl⟩

set_option maxRecDepth 100000 in
set_option maxHeartbeats 4000000 in
theorem letters_neg (i : Nat) (h0 : 1 ≤ i) (h1 : i ≤ 15) (c : Nat) (w : World) (hK : Kinds w) :
    Calls Tryd.prog 12 #[.int .i8 (-(i : Int)), .int .u8 (c : Int)] w fun e w' => e = .returned (.bool true) ∧ w = w' := by
  have HK := Lib.hid hK
  clear hK
  have hp0 : (-(i : Int) == 0) = false := beq_eq_false_iff_ne.2 (by omega)
  obtain ⟨q, hq⟩ : ∃ q, piP c = q := ⟨_, rfl⟩
  have HQ := Lib.hid hq
  clear hq
  by_cases hz : q = 0
  · subst hz
    go_enter Tryd.func12, Tryd.ntmps12
    go_wp2_with fail
    refine (letter_neg i h0 h1 _ HK.out).mono ?_
    rintro e w1 ⟨rfl, rfl⟩
    go_wp2_with fail
    refine (rpValid_yes (-(i : Int)) (okP_neg h1) _).mono ?_
    rintro e w1 ⟨rfl, rfl⟩
    go_wp2_with fail
    refine (rLetter_neg i h0 h1 _).mono ?_
    rintro e w1 ⟨rfl, rfl⟩
    go_wp2_with fail
    refine (parse_no c HQ.out _ HK.out).mono ?_
    rintro e w1 ⟨rfl, rfl⟩
    go_wp2_with fail
    refine (rParse_as c 0 HQ.out _).mono ?_
    rintro e w1 ⟨rfl, rfl⟩
    go_wp2_with fail
    refine (knownP_any _ HK.out).mono ?_
    rintro e w1 ⟨rfl, rfl⟩
    go_wp2
    go_ret
    exact ⟨rfl, rfl⟩
  · have hnz : (q != 0) = true := bne_iff_ne.2 hz
    have HZ := Lib.hid hz
    clear hz
    go_enter Tryd.func12, Tryd.ntmps12
    go_wp2_with fail
    refine (letter_neg i h0 h1 _ HK.out).mono ?_
    rintro e w1 ⟨rfl, rfl⟩
    go_wp2_with fail
    refine (rpValid_yes (-(i : Int)) (okP_neg h1) _).mono ?_
    rintro e w1 ⟨rfl, rfl⟩
    go_wp2_with fail
    refine (rLetter_neg i h0 h1 _).mono ?_
    rintro e w1 ⟨rfl, rfl⟩
    go_wp2_with fail
    refine (parse_as c q HQ.out HZ.out _ HK.out).mono ?_
    rintro e w1 ⟨rfl, rfl⟩
    go_wp2_with fail
    refine (rParse_as c q HQ.out _).mono ?_
    rintro e w1 ⟨rfl, rfl⟩
    go_wp2_with fail
    refine (knownP_any _ HK.out).mono ?_
    rintro e w1 ⟨rfl, rfl⟩
    go_wp2
    go_ret
    exact ⟨rfl, rfl⟩

theorem law_letters (p : Int) (c : Nat) (w : World) (hK : Kinds w) :
    Calls Tryd.prog 12 #[.int .i8 p, .int .u8 (c : Int)] w fun e w' => e = .returned (.bool true) ∧ w = w' := by
  by_cases hz : p = 0
  · subst hz
    exact letters_zero c w hK
  rcases piece_cases p with h | rfl | ⟨i, h0, h1, rfl⟩ | ⟨i, h0, h1, rfl⟩
  · exact letters_no p h hz c w hK
  · exact absurd rfl hz
  · exact letters_pos i h0 h1 c w hK
  · exact letters_neg i h0 h1 c w hK

end Go.Proofs.YtidfefaakkpoaaaDoor
