/- Pieces: contracts of the reference's functions that make no memory, and of Orthodox. -/
import Derived.Test.YtelkmdklpcfobaaGreatDoorPcA

namespace Go.Proofs.YtelkmdklpcfobaaGreatDoor
open Go.RowKit

theorem okP_pos {i : Nat} (h : i ≤ 15) : okP (i : Int) := ⟨by omega, by omega⟩
theorem okP_neg {i : Nat} (h : i ≤ 15) : okP (-(i : Int)) := ⟨by omega, by omega⟩

/-- is it a piece of one of the six usual kinds? -/
def orthB (p : Int) : Bool := p != 0 && decide (-6 ≤ p) && decide (p ≤ 6)
theorem orth_0 : orthB 0 = false := rfl
theorem orth_lo {p : Int} (h : p < -6) : orthB p = false := by unfold orthB; rw [decide_eq_false (by omega : ¬ -6 ≤ p)]; simp
theorem orth_hi {p : Int} (h : 6 < p) : orthB p = false := by unfold orthB; rw [decide_eq_false (by omega : ¬ p ≤ 6)]; simp
theorem orth_in {p : Int} (h : p ≠ 0) (h0 : -6 ≤ p) (h1 : p ≤ 6) : orthB p = true := by unfold orthB; simp [h, h0, h1]

set_option maxRecDepth 100000 in
set_option maxHeartbeats 400000 in
theorem rpValid_yes (p : Int) (h : okP p) (w : World) :
    Calls Tryz.prog 110 #[.int .i8 p] w fun e w' => e = .returned (.bool true) ∧ w = w' := by
  obtain ⟨h0, h1⟩ := h
  go_enter Tryz.func110, Tryz.ntmps110
  go_wp2
  go_ret
  exact ⟨rfl, rfl⟩

set_option maxRecDepth 100000 in
set_option maxHeartbeats 400000 in
theorem rpValid_no (p : Int) (h : ¬ okP p) (w : World) :
    Calls Tryz.prog 110 #[.int .i8 p] w fun e w' => e = .returned (.bool false) ∧ w = w' := by
  by_cases h0 : -15 ≤ p
  · have hd : decide (p ≤ 15) = false := decide_eq_false fun h1 => h ⟨h0, h1⟩
    clear h
    go_enter Tryz.func110, Tryz.ntmps110
    go_wp2
    go_ret
    exact ⟨rfl, rfl⟩
  · have hd : decide (-15 ≤ p) = false := decide_eq_false h0
    clear h
    go_enter Tryz.func110, Tryz.ntmps110
    go_wp2
    go_ret
    exact ⟨rfl, rfl⟩

set_option maxRecDepth 100000 in
set_option maxHeartbeats 400000 in
theorem orth_any (p : Int) (hp : -128 ≤ p ∧ p ≤ 127) (w : World) :
    Calls Tryz.prog 138 #[.int .i8 p] w fun e w' => e = .returned (.bool (orthB p)) ∧ w = w' := by
  by_cases h0 : p = 0
  · subst h0
    go_enter Tryz.func138, Tryz.ntmps138
    go_wp2
    go_ret
    exact ⟨rfl, rfl⟩
  · have hz : (p != 0) = true := bne_iff_ne.2 h0
    by_cases h1 : p < -6
    · rw [orth_lo h1]
      have hd : decide (-6 ≤ p) = false := decide_eq_false (by omega)
      go_enter Tryz.func138, Tryz.ntmps138
      go_wp2
      go_ret
      exact ⟨rfl, rfl⟩
    · by_cases h2 : 6 < p
      · rw [orth_hi h2]
        have h3 : -6 ≤ p := by omega
        have hd : decide (p ≤ 6) = false := decide_eq_false (by omega)
        go_enter Tryz.func138, Tryz.ntmps138
        go_wp2
        go_ret
        exact ⟨rfl, rfl⟩
      · have h3 : -6 ≤ p := by omega
        have h4 : p ≤ 6 := by omega
        rw [orth_in h0 h3 h4]
        go_enter Tryz.func138, Tryz.ntmps138
        go_wp2
        go_ret
        exact ⟨rfl, rfl⟩

set_option maxRecDepth 100000 in
set_option maxHeartbeats 400000 in
theorem rorth_any (p : Int) (hp : -128 ≤ p ∧ p ≤ 127) (w : World) :
    Calls Tryz.prog 77 #[.int .i8 p] w fun e w' => e = .returned (.bool (orthB p)) ∧ w = w' := by
  by_cases h0 : p = 0
  · subst h0
    go_enter Tryz.func77, Tryz.ntmps77
    go_wp2
    go_ret
    exact ⟨rfl, rfl⟩
  · have hz : (p != 0) = true := bne_iff_ne.2 h0
    by_cases h1 : p < -6
    · rw [orth_lo h1]
      have hd : decide (-6 ≤ p) = false := decide_eq_false (by omega)
      go_enter Tryz.func77, Tryz.ntmps77
      go_wp2
      go_ret
      exact ⟨rfl, rfl⟩
    · by_cases h2 : 6 < p
      · rw [orth_hi h2]
        have h3 : -6 ≤ p := by omega
        have hd : decide (p ≤ 6) = false := decide_eq_false (by omega)
        go_enter Tryz.func77, Tryz.ntmps77
        go_wp2
        go_ret
        exact ⟨rfl, rfl⟩
      · have h3 : -6 ≤ p := by omega
        have h4 : p ≤ 6 := by omega
        rw [orth_in h0 h3 h4]
        go_enter Tryz.func77, Tryz.ntmps77
        go_wp2
        go_ret
        exact ⟨rfl, rfl⟩

set_option maxRecDepth 100000 in
set_option maxHeartbeats 400000 in
theorem rKind_pos (i : Nat) (h1 : i ≤ 15) (w : World) :
    Calls Tryz.prog 44 #[.int .i8 (i : Int)] w fun e w' => e = .returned (.int .i8 (i : Int)) ∧ w = w' := by
  have hn : decide ((i : Int) < 0) = false := decide_eq_false (by omega)
  go_enter Tryz.func44, Tryz.ntmps44
  go_wp2
  go_ret
  exact ⟨rfl, rfl⟩

set_option maxRecDepth 100000 in
set_option maxHeartbeats 400000 in
theorem rKind_neg (i : Nat) (h0 : 1 ≤ i) (h1 : i ≤ 15) (w : World) :
    Calls Tryz.prog 44 #[.int .i8 (-(i : Int))] w fun e w' => e = .returned (.int .i8 (i : Int)) ∧ w = w' := by
  have hn : -(i : Int) < 0 := by omega
  go_enter Tryz.func44, Tryz.ntmps44
  go_wp2
  go_ret
  exact ⟨ret_int (by omega), rfl⟩

set_option maxRecDepth 100000 in
set_option maxHeartbeats 400000 in
theorem rSide_pos (i : Nat) (h0 : 1 ≤ i) (h1 : i ≤ 15) (w : World) :
    Calls Tryz.prog 145 #[.int .i8 (i : Int)] w fun e w' => e = .returned (.int .i64 1) ∧ w = w' := by
  have hn : decide ((i : Int) < 0) = false := decide_eq_false (by omega)
  have hp : (0 : Int) < (i : Int) := by omega
  go_enter Tryz.func145, Tryz.ntmps145
  go_wp2
  go_ret
  exact ⟨rfl, rfl⟩

set_option maxRecDepth 100000 in
set_option maxHeartbeats 400000 in
theorem rSide_neg (i : Nat) (h0 : 1 ≤ i) (h1 : i ≤ 15) (w : World) :
    Calls Tryz.prog 145 #[.int .i8 (-(i : Int))] w fun e w' => e = .returned (.int .i64 (-1)) ∧ w = w' := by
  have hn : -(i : Int) < 0 := by omega
  go_enter Tryz.func145, Tryz.ntmps145
  go_wp2
  go_ret
  exact ⟨rfl, rfl⟩

set_option maxRecDepth 100000 in
set_option maxHeartbeats 400000 in
theorem rSide_zero (w : World) :
    Calls Tryz.prog 145 #[.int .i8 0] w fun e w' => e = .returned (.int .i64 0) ∧ w = w' := by
  go_enter Tryz.func145, Tryz.ntmps145
  go_wp2
  go_ret
  exact ⟨rfl, rfl⟩

theorem vlu_hi : ∀ i, i < 15 → 5 ≤ i → vlu i = 0 := by decide +kernel

end Go.Proofs.YtelkmdklpcfobaaGreatDoor

/- Pieces: the reference's letters and its Parse, and the program's Parse: which piece has a letter. -/
namespace Go.Proofs.YtelkmdklpcfobaaGreatDoor
open Go.RowKit

/-- the letter of a piece. -/
def lt (p : Int) : Nat := if p < 0 then ltr (-p - 1).toNat + 32 else ltr (p - 1).toNat
def okL (p : Int) : Prop := -15 ≤ p ∧ p ≤ 15 ∧ p ≠ 0
/-- the piece with a letter, or 0. -/
def piP (c : Nat) : Int := (((List.range 31).map fun i : Nat => (i : Int) - 15).find? fun p => decide (p ≠ 0) && decide (lt p = c)).getD 0
theorem piP_no {c : Nat} (h : ∀ p, okL p → lt p ≠ c) : piP c = 0 := by
  unfold piP
  rw [List.find?_eq_none.2]
  · rfl
  · intro p hp hc
    obtain ⟨i, hi, rfl⟩ := List.mem_map.1 hp
    have hi := List.mem_range.1 hi
    rw [Bool.and_eq_true, decide_eq_true_iff, decide_eq_true_iff] at hc
    exact h _ ⟨by omega, by omega, hc.1⟩ hc.2
theorem piP_lt {p : Int} (h : okL p) : piP (lt p) = p := by
  have key : ∀ i : Nat, i < 31 → (i : Int) - 15 ≠ 0 → piP (lt ((i : Int) - 15)) = (i : Int) - 15 := by decide +kernel
  obtain ⟨h0, h1, h2⟩ := h
  have := key (p + 15).toNat (by omega) (by omega)
  rwa [show (((p + 15).toNat : Nat) : Int) - 15 = p by omega] at this
theorem lt_pos {i : Nat} (h0 : 1 ≤ i) : lt (i : Int) = ltr (i - 1) := by
  unfold lt
  rw [if_neg (by omega)]
  congr 1
  omega
theorem lt_neg {i : Nat} (h0 : 1 ≤ i) : lt (-(i : Int)) = ltr (i - 1) + 32 := by
  unfold lt
  rw [if_pos (by omega)]
  congr 2
  omega
/-- the error of Parse. -/
def perr (p : Int) : Int := if p = 0 then 6 else 0

theorem let_up : ∀ j : Fin 15, ((ByteArray.mk #[80, 78, 66, 82, 81, 75, 65, 67, 68, 69, 70, 71, 72, 73, 74])[j.1]'j.2).toNat = ltr j.1 := by decide +kernel
theorem let_lo : ∀ j : Fin 15, ((ByteArray.mk #[112, 110, 98, 114, 113, 107, 97, 99, 100, 101, 102, 103, 104, 105, 106])[j.1]'j.2).toNat = ltr j.1 + 32 := by decide +kernel

set_option maxRecDepth 100000 in
set_option maxHeartbeats 400000 in
theorem rLetter_pos (i : Nat) (h0 : 1 ≤ i) (h1 : i ≤ 15) (w : World) :
    Calls Tryz.prog 94 #[.int .i8 (i : Int)] w fun e w' => e = .returned (.int .u8 (ltr (i - 1) : Int)) ∧ w = w' := by
  have hn : decide ((i : Int) < 0) = false := decide_eq_false (by omega)
  go_enter Tryz.func94, Tryz.ntmps94
  go_wp2
  go_ret
  exact ⟨ret_int (congrArg (fun n : Nat => (n : Int)) (let_up ⟨i - 1, by omega⟩)), rfl⟩

set_option maxRecDepth 100000 in
set_option maxHeartbeats 400000 in
theorem rLetter_neg (i : Nat) (h0 : 1 ≤ i) (h1 : i ≤ 15) (w : World) :
    Calls Tryz.prog 94 #[.int .i8 (-(i : Int))] w fun e w' => e = .returned (.int .u8 ((ltr (i - 1) + 32 : Nat) : Int)) ∧ w = w' := by
  have hn : -(i : Int) < 0 := by omega
  go_enter Tryz.func94, Tryz.ntmps94
  go_wp2
  go_ret
  exact ⟨ret_int (congrArg (fun n : Nat => (n : Int)) (let_lo ⟨i - 1, by omega⟩)), rfl⟩

def notTo (c k : Nat) : Prop := ∀ j, j < k → c ≠ ltr j ∧ c ≠ ltr j + 32
theorem notTo_all {c : Nat} (h : notTo c 15) : piP c = 0 := piP_no fun p hp he => by
  obtain ⟨h0, h1, h2⟩ := hp
  by_cases hn : p < 0
  · obtain ⟨i, rfl⟩ : ∃ i : Nat, p = -(i : Int) := ⟨(-p).toNat, by omega⟩
    rw [lt_neg (by omega)] at he
    exact (h (i - 1) (by omega)).2 he.symm
  · obtain ⟨i, rfl⟩ := Int.eq_ofNat_of_zero_le (by omega : 0 ≤ p)
    rw [lt_pos (by omega)] at he
    exact (h (i - 1) (by omega)).1 he.symm
theorem piP_up {k : Nat} (hk : k < 15) : piP (ltr k) = (k : Int) + 1 := by
  have := piP_lt (p := ((k + 1 : Nat) : Int)) ⟨by omega, by omega, by omega⟩
  rw [lt_pos (by omega), Nat.add_sub_cancel] at this
  rw [this]; omega
theorem piP_lo {k : Nat} (hk : k < 15) : piP (ltr k + 32) = -((k : Int) + 1) := by
  have := piP_lt (p := -((k + 1 : Nat) : Int)) ⟨by omega, by omega, by omega⟩
  rw [lt_neg (by omega), Nat.add_sub_cancel] at this
  rw [this]; omega
theorem perr_no {p : Int} (h : p = 0) : (6 : Int) = perr p := by rw [h]; rfl
theorem perr_yes {p : Int} (h : p ≠ 0) : (0 : Int) = perr p := by unfold perr; rw [if_neg h]

set_option maxRecDepth 100000 in
set_option maxHeartbeats 1000000 in
theorem parse_any (c : Nat) (w : World) (hK : Kinds w) :
    Calls Tryz.prog 128 #[.int .u8 (c : Int)] w fun e w' => e = .returned (.tuple #[.int .i8 (piP c), .int .i64 (perr (piP c))]) ∧ w = w' := by
  have HK := Lib.hid hK
  clear hK
  go_enter Tryz.func128, Tryz.ntmps128
  go_wp2
  go_loop [5] (fun i => ∃ k : Nat, k ≤ 15 ∧ i = .int .i8 k ∧ Hid (notTo c k)) (fun i => 15 - (intOf i).toNat)
  case atStart => exact ⟨0, by omega, rfl, Lib.hid fun j hj => absurd hj (by omega)⟩
  case round =>
    obtain ⟨k, hk, rfl, HN⟩ := hrel
    by_cases hlt : k < 15
    · have hc := (HK.out.2 k hlt).1
      by_cases h1 : c = ltr k
      · have E := Lib.hid (piP_up hlt)
        have HC := Lib.hid h1
        have hq : ((c : Int) == (ltr k : Int)) = true := by rw [h1]; simp
        clear h1
        go_wp2
        go_ret2
        exact ⟨ret2 (vint (by rw [HC.out, E.out])) (vint (perr_yes (by rw [HC.out, E.out]; omega))), rfl⟩
      · have hq : ((c : Int) == (ltr k : Int)) = false := by rw [beq_eq_false_iff_ne]; omega
        obtain ⟨b0, b1⟩ := ltr_bd k hlt
        by_cases h2 : c = ltr k + 32
        · have E := Lib.hid (piP_lo hlt)
          have HC := Lib.hid h2
          have hr : ((c : Int) == ((ltr k + 32 : Nat) : Int)) = true := by rw [h2]; simp
          clear h1 h2
          go_wp2_with fail
          refine (small_any (ltr k) b0 b1 _).mono ?_
          rintro e w1 ⟨rfl, rfl⟩
          go_wp2
          go_ret2
          exact ⟨ret2 (vint (by rw [HC.out, E.out])) (vint (perr_yes (by rw [HC.out, E.out]; omega))), rfl⟩
        · have hr : ((c : Int) == ((ltr k + 32 : Nat) : Int)) = false := by rw [beq_eq_false_iff_ne]; omega
          have HN' : Hid (notTo c (k + 1)) := Lib.hid fun j hj => if e : j = k then by rw [e]; exact ⟨h1, h2⟩ else HN.out j (by omega)
          clear h1 h2
          go_wp2_with fail
          refine (small_any (ltr k) b0 b1 _).mono ?_
          rintro e w1 ⟨rfl, rfl⟩
          go_wp2
          go_round
          case rel => exact ⟨k + 1, by omega, by go_num, HN'⟩
          case measure => simp [intOf]; omega
    · have hkl : k = 15 := by omega
      subst hkl
      have E := Lib.hid (notTo_all HN.out)
      go_wp2
      go_ret2
      exact ⟨ret2 (vint E.out.symm) (vint (perr_no E.out)), rfl⟩

def noneTo (c : Nat) (q : Int) : Prop := ∀ p, okL p → p < q → lt p ≠ c

set_option maxRecDepth 100000 in
set_option maxHeartbeats 1000000 in
theorem rParse_any (c : Nat) (w : World) :
    Calls Tryz.prog 102 #[.int .u8 (c : Int)] w fun e w' => e = .returned (.int .i8 (piP c)) ∧ w = w' := by
  go_enter Tryz.func102, Tryz.ntmps102
  go_wp2
  go_loop [3] (fun i => ∃ q : Int, -15 ≤ q ∧ q ≤ 16 ∧ i = .int .i8 q ∧ Hid (noneTo c q)) (fun i => (16 - intOf i).toNat)
  case atStart => exact ⟨-15, by omega, by omega, rfl, Lib.hid fun p hp hq => absurd hq (by have := hp.1; omega)⟩
  case round =>
    obtain ⟨q, hq0, hq1, rfl, HN⟩ := hrel
    by_cases hle : q ≤ 15
    · by_cases hz : q = 0
      · subst hz
        have HN' : Hid (noneTo c 1) := Lib.hid fun p hp hq => HN.out p hp (by have := hp.2.2; omega)
        go_wp2
        go_round
        case rel => exact ⟨1, by omega, by omega, by go_num, HN'⟩
        case measure => simp [intOf]
      · have hnz : (q != 0) = true := bne_iff_ne.2 hz
        have hok : okL q := ⟨hq0, hle, hz⟩
        by_cases hn : q < 0
        · obtain ⟨i, rfl⟩ : ∃ i : Nat, q = -(i : Int) := ⟨(-q).toNat, by omega⟩
          have hL := lt_neg (i := i) (by omega)
          by_cases he : lt (-(i : Int)) = c
          · have hb : (((ltr (i - 1) + 32 : Nat) : Int) == (c : Int)) = true := by rw [← he, hL]; simp
            have E : Hid (piP c = -(i : Int)) := Lib.hid (by rw [← he]; exact piP_lt hok)
            clear he hL hok hz
            go_wp2_with fail
            refine (rLetter_neg i (by omega) (by omega) _).mono ?_
            rintro e w1 ⟨rfl, rfl⟩
            go_wp2
            go_ret
            exact ⟨ret_int E.out.symm, rfl⟩
          · have hb : (((ltr (i - 1) + 32 : Nat) : Int) == (c : Int)) = false := by rw [beq_eq_false_iff_ne]; omega
            have HN' : Hid (noneTo c (-(i : Int) + 1)) := Lib.hid fun p hp hq => if e : p = -(i : Int) then by rw [e]; exact he else HN.out p hp (by omega)
            clear he hL hok hz
            go_wp2_with fail
            refine (rLetter_neg i (by omega) (by omega) _).mono ?_
            rintro e w1 ⟨rfl, rfl⟩
            go_wp2
            go_round
            case rel => exact ⟨-(i : Int) + 1, by omega, by omega, by go_num, HN'⟩
            case measure => simp [intOf]; omega
        · obtain ⟨i, rfl⟩ := Int.eq_ofNat_of_zero_le (by omega : 0 ≤ q)
          have hi1 : 1 ≤ i := by omega
          have hi2 : i ≤ 15 := by omega
          have hL := lt_pos (i := i) (by omega)
          by_cases he : lt (i : Int) = c
          · have hb : ((ltr (i - 1) : Int) == (c : Int)) = true := by rw [← he, hL]; simp
            have E : Hid (piP c = (i : Int)) := Lib.hid (by rw [← he]; exact piP_lt hok)
            clear he hL hok hz
            go_wp2_with fail
            refine (rLetter_pos i hi1 hi2 _).mono ?_
            rintro e w1 ⟨rfl, rfl⟩
            go_wp2
            go_ret
            exact ⟨ret_int E.out.symm, rfl⟩
          · have hb : ((ltr (i - 1) : Int) == (c : Int)) = false := by rw [beq_eq_false_iff_ne]; omega
            have HN' : Hid (noneTo c ((i : Int) + 1)) := Lib.hid fun p hp hq => if e : p = (i : Int) then by rw [e]; exact he else HN.out p hp (by omega)
            clear he hL hok hz
            go_wp2_with fail
            refine (rLetter_pos i hi1 hi2 _).mono ?_
            rintro e w1 ⟨rfl, rfl⟩
            go_wp2
            go_round
            case rel => exact ⟨(i : Int) + 1, by omega, by omega, by go_num, HN'⟩
            case measure => simp [intOf]; omega
    · have hkl : q = 16 := by omega
      subst hkl
      have E : Hid (piP c = 0) := Lib.hid (piP_no fun p hp => HN.out p hp (by have := hp.2.1; omega))
      go_wp2
      go_ret
      exact ⟨ret_int E.out.symm, rfl⟩

end Go.Proofs.YtelkmdklpcfobaaGreatDoor

/- Boards: what the text of a board is, as a list of bytes. -/
namespace Go.Proofs.YtelkmdklpcfobaaGreatDoor
open Go.RowKit

def bsL (L : List UInt8) : ByteArray := ⟨L.toArray⟩
theorem bsL_append (a b : List UInt8) : bsL a ++ bsL b = bsL (a ++ b) := by
  apply ByteArray.ext
  simp [bsL]
theorem bsL_size (a : List UInt8) : (bsL a).size = a.length := by simp [bsL, ByteArray.size]
theorem bsL_toList (a : List UInt8) : (bsL a).data.toList = a := by simp [bsL]
theorem bsL_of (s : ByteArray) : bsL s.data.toList = s := by
  apply ByteArray.ext; simp [bsL]

/-- the digit of a group of empty squares, if there is one. -/
def flu (e : Nat) : List UInt8 := if 0 < e then [UInt8.ofNat (48 + e)] else []
theorem flu_zero : flu 0 = [] := rfl
theorem flu_pos {e : Nat} (h : 0 < e) : flu e = [UInt8.ofNat (48 + e)] := by unfold flu; rw [if_pos h]
theorem flu_le (e : Nat) : (flu e).length ≤ 1 := by unfold flu; split <;> simp
def stp (st : List UInt8 × Nat) (p : Int) : List UInt8 × Nat := if p = 0 then (st.1, st.2 + 1) else (st.1 ++ flu st.2 ++ [UInt8.ofNat (lt p)], 0)
def rowS (row : List Int) (k : Nat) : List UInt8 × Nat := (row.take k).foldl stp ([], 0)
def rowT (row : List Int) : List UInt8 := (rowS row row.length).1 ++ flu (rowS row row.length).2
theorem rowS_zero (row : List Int) : rowS row 0 = ([], 0) := rfl
theorem rowS_succ (row : List Int) (k : Nat) (h : k < row.length) : rowS row (k + 1) = stp (rowS row k) (row[k]?.getD 0) := by
  unfold rowS
  rw [List.take_succ_eq_append_getElem h, List.foldl_append, List.getElem?_eq_getElem h]
  rfl
theorem rowS_emp {row : List Int} {k : Nat} (h : k < row.length) (hz : row[k]?.getD 0 = 0) : rowS row (k + 1) = ((rowS row k).1, (rowS row k).2 + 1) := by
  rw [rowS_succ row k h, hz]; unfold stp; rw [if_pos rfl]
theorem rowS_pc {row : List Int} {k : Nat} (h : k < row.length) (hz : row[k]?.getD 0 ≠ 0) : rowS row (k + 1) = ((rowS row k).1 ++ flu (rowS row k).2 ++ [UInt8.ofNat (lt (row[k]?.getD 0))], 0) := by
  rw [rowS_succ row k h]; unfold stp; rw [if_neg hz]
theorem rowS_bd (row : List Int) (k : Nat) (h : k ≤ row.length) : (rowS row k).1.length ≤ 2 * k ∧ (rowS row k).2 ≤ k := by
  induction k with
  | zero => simp [rowS_zero]
  | succ k ih =>
    have := ih (by omega)
    by_cases hz : row[k]?.getD 0 = 0
    · rw [rowS_emp (by omega) hz]; simp; omega
    · rw [rowS_pc (by omega) hz]
      have := flu_le (rowS row k).2
      simp; omega
theorem rowT_bd (row : List Int) : (rowT row).length ≤ 2 * row.length + 1 := by
  have := rowS_bd row row.length (Nat.le_refl _)
  have := flu_le (rowS row row.length).2
  unfold rowT; simp; omega
/-- a row's text is not empty. -/
theorem rowT_ne (row : List Int) (h : 0 < row.length) : rowT row ≠ [] := by
  obtain ⟨k, hk⟩ : ∃ k, row.length = k + 1 := ⟨row.length - 1, by omega⟩
  unfold rowT
  rw [hk]
  by_cases hz : row[k]?.getD 0 = 0
  · rw [rowS_emp (by omega) hz, flu_pos (by simp)]; simp
  · rw [rowS_pc (by omega) hz]; simp

/-- the inner loop's state: before square j, and behind the last one. -/
def rowX (row : List Int) (j : Nat) : List UInt8 × Nat := if j ≤ row.length then rowS row j else (rowT row, 0)
theorem rowX_le {row : List Int} {j : Nat} (h : j ≤ row.length) : rowX row j = rowS row j := by unfold rowX; rw [if_pos h]
theorem rowX_end (row : List Int) : rowX row (row.length + 1) = ((rowS row row.length).1 ++ flu (rowS row row.length).2, 0) := by unfold rowX rowT; rw [if_neg (by omega)]

/-- rank r of a board. -/
def rk (F : Nat) (l : List Int) (r : Nat) : List Int := (l.drop (r * F)).take F
theorem rk_len {F R r : Nat} {l : List Int} (hl : l.length = R * F) (hr : r < R) : (rk F l r).length = F := by
  unfold rk
  have : (r + 1) * F ≤ R * F := Nat.mul_le_mul_right F hr
  rw [Nat.add_mul] at this
  rw [List.length_take, List.length_drop]
  omega
theorem rk_at {F R r j : Nat} {l : List Int} (_hl : l.length = R * F) (_hr : r < R) (hj : j < F) : (rk F l r)[j]?.getD 0 = l[r * F + j]?.getD 0 := by
  unfold rk
  rw [List.getElem?_take, if_pos hj, List.getElem?_drop]
theorem rk_in {F R r j : Nat} {l : List Int} (hl : l.length = R * F) (hr : r < R) (hj : j < F) : r * F + j < l.length := by
  have : (r + 1) * F ≤ R * F := Nat.mul_le_mul_right F hr
  rw [Nat.add_mul] at this
  omega
/-- the text of the last k ranks. -/
def accT (F R : Nat) (l : List Int) : Nat → List UInt8
  | 0 => []
  | k + 1 => accT F R l k ++ (if k = 0 then [] else [47]) ++ rowT (rk F l (R - 1 - k))
theorem accT_one (F R : Nat) (l : List Int) : accT F R l 1 = rowT (rk F l (R - 1)) := by simp [accT]
theorem accT_succ (F R : Nat) (l : List Int) (k : Nat) (h : 0 < k) : accT F R l (k + 1) = accT F R l k ++ [47] ++ rowT (rk F l (R - 1 - k)) := by
  rw [accT, if_neg (by omega)]
theorem accT_bd (F R : Nat) (l : List Int) (k : Nat) : (accT F R l k).length ≤ k * (2 * F + 2) := by
  induction k with
  | zero => simp [accT]
  | succ k ih =>
    rw [accT, Nat.add_mul]
    have h1 := rowT_bd (rk F l (R - 1 - k))
    have h2 : (rk F l (R - 1 - k)).length ≤ F := by unfold rk; rw [List.length_take]; omega
    by_cases h : k = 0
    · rw [if_pos h]; simp; omega
    · rw [if_neg h]; simp; omega
theorem accT_ne {F R : Nat} {l : List Int} (hF : 0 < F) (hl : l.length = R * F) {k : Nat} (h0 : 0 < k) (hk : k ≤ R) : accT F R l k ≠ [] := by
  obtain ⟨j, rfl⟩ : ∃ j, k = j + 1 := ⟨k - 1, by omega⟩
  have := rowT_ne (rk F l (R - 1 - j)) (by rw [rk_len hl (by omega)]; exact hF)
  rw [accT]
  intro h
  exact this (List.append_eq_nil_iff.1 h).2
def textB (F R : Nat) (l : List Int) : ByteArray := bsL (accT F R l R)

end Go.Proofs.YtelkmdklpcfobaaGreatDoor

/- Boards: how the document's function reads a text: ranks, rows, and the whole, as functions on lists of bytes. -/
namespace Go.Proofs.YtelkmdklpcfobaaGreatDoor
open Go.RowKit

/-- the ranks of a text so far, and one byte more. -/
def spS (st : List (List UInt8)) (c : UInt8) : List (List UInt8) := if c = 47 then st ++ [[]] else st.set (st.length - 1) (st[st.length - 1]?.getD [] ++ [c])
def spT (L : List UInt8) (k : Nat) : List (List UInt8) := (L.take k).foldl spS [[]]
def spl (L : List UInt8) : List (List UInt8) := spT L L.length
theorem spT_succ (L : List UInt8) (k : Nat) (h : k < L.length) : spT L (k + 1) = spS (spT L k) (L[k]) := by
  unfold spT
  rw [List.take_succ_eq_append_getElem h, List.foldl_append]
  rfl
theorem spS_len (st : List (List UInt8)) (c : UInt8) : st.length ≤ (spS st c).length ∧ (spS st c).length ≤ st.length + 1 := by
  unfold spS; split <;> simp
theorem spT_len (L : List UInt8) (k : Nat) (h : k ≤ L.length) : 1 ≤ (spT L k).length ∧ (spT L k).length ≤ k + 1 := by
  induction k with
  | zero => simp [spT]
  | succ k ih =>
    have := ih (by omega)
    rw [spT_succ L k (by omega)]
    have := spS_len (spT L k) L[k]
    omega
theorem spT_each (L : List UInt8) (k : Nat) (h : k ≤ L.length) : ∀ t ∈ spT L k, t.length ≤ k := by
  induction k with
  | zero => intro t ht; simp [spT] at ht; subst ht; simp
  | succ k ih =>
    have := ih (by omega)
    rw [spT_succ L k (by omega)]
    unfold spS
    split
    · intro t ht
      rw [List.mem_append, List.mem_singleton] at ht
      rcases ht with ht | rfl
      · have := this t ht; omega
      · simp
    · intro t ht
      rcases List.mem_or_eq_of_mem_set ht with ht | rfl
      · have := this t ht; omega
      · rw [List.length_append]
        have h1 := (spT_len L k (by omega)).1
        rw [List.getElem?_eq_getElem (show (spT L k).length - 1 < (spT L k).length by omega)]
        have := this _ (List.getElem_mem (show (spT L k).length - 1 < (spT L k).length by omega))
        simp; omega

/-- the pieces of a rank so far and whether the last byte was a digit, and one byte more. -/
def prS (st : Option (List Int × Bool)) (c : UInt8) : Option (List Int × Bool) :=
  match st with
  | none => none
  | some (row, d) => if 49 ≤ c.toNat ∧ c.toNat ≤ 56 then (if d then none else some (row ++ List.replicate (c.toNat - 48) 0, true)) else if piP c.toNat = 0 then none else some (row ++ [piP c.toNat], false)
def prT (t : List UInt8) (k : Nat) : Option (List Int × Bool) := (t.take k).foldl prS (some ([], false))
def prow (t : List UInt8) : Option (List Int) := (prT t t.length).map (·.1)
theorem prT_succ (t : List UInt8) (k : Nat) (h : k < t.length) : prT t (k + 1) = prS (prT t k) t[k] := by
  unfold prT
  rw [List.take_succ_eq_append_getElem h, List.foldl_append]
  rfl
theorem prS_none : ∀ t : List UInt8, t.foldl prS none = none
  | [] => rfl
  | _ :: t => prS_none t
theorem prT_dead (t : List UInt8) (k : Nat) (h : prT t k = none) : prow t = none := by
  unfold prow prT at *
  rw [List.take_length, ← List.take_append_drop k t, List.foldl_append, h, prS_none]
  rfl
theorem prT_bd (t : List UInt8) (k : Nat) (hk : k ≤ t.length) {row : List Int} {d : Bool} (h : prT t k = some (row, d)) : row.length ≤ 8 * k := by
  induction k generalizing row d with
  | zero => simp [prT] at h; rw [h.1]; simp
  | succ k ih =>
    rw [prT_succ t k (by omega)] at h
    cases hp : prT t k with
    | none => rw [hp] at h; simp [prS] at h
    | some st =>
      obtain ⟨r, d'⟩ := st
      rw [hp] at h
      have := ih (by omega) hp
      simp only [prS] at h
      split at h
      · split at h
        · simp at h
        · simp at h; rw [← h.1]; simp; omega
      · split at h
        · simp at h
        · simp at h; rw [← h.1]; simp; omega

/-- the board so far, from the last rank on, and one rank more. -/
def brS (st : Option (Nat × List Int)) (t : List UInt8) : Option (Nat × List Int) :=
  match st with
  | none => none
  | some (f, ps) => match prow t with
    | none => none
    | some row => if row.length < 3 ∨ 8 < row.length ∨ (0 < ps.length ∧ row.length ≠ f) then none else some (row.length, ps ++ row)
def brT (ts : List (List UInt8)) (m : Nat) : Option (Nat × List Int) := (ts.reverse.take m).foldl brS (some (0, []))
theorem brT_succ (ts : List (List UInt8)) (m : Nat) (h : m < ts.length) : brT ts (m + 1) = brS (brT ts m) (ts[ts.length - 1 - m]?.getD []) := by
  unfold brT
  have h' : m < ts.reverse.length := by simpa using h
  rw [List.take_succ_eq_append_getElem h', List.foldl_append, List.getElem_reverse, List.getElem?_eq_getElem (by omega)]
  rfl
theorem brS_none : ∀ t : List (List UInt8), t.foldl brS none = none
  | [] => rfl
  | _ :: t => brS_none t
theorem brT_dead (ts : List (List UInt8)) (m : Nat) (h : brT ts m = none) : brT ts ts.length = none := by
  unfold brT at *
  have e : ts.reverse.take ts.length = ts.reverse.take m ++ ts.reverse.drop m := by
    rw [List.take_append_drop, List.take_of_length_le (by simp)]
  rw [e, List.foldl_append, h, brS_none]
theorem brT_bd (ts : List (List UInt8)) (m : Nat) (hm : m ≤ ts.length) {f : Nat} {ps : List Int} (h : brT ts m = some (f, ps)) : f ≤ 8 ∧ ps.length ≤ 8 * m := by
  induction m generalizing f ps with
  | zero => simp [brT] at h; rw [← h.1, h.2]; simp
  | succ m ih =>
    rw [brT_succ ts m (by omega)] at h
    cases hp : brT ts m with
    | none => rw [hp] at h; simp [brS] at h
    | some st =>
      obtain ⟨f', ps'⟩ := st
      rw [hp] at h
      have := ih (by omega) hp
      simp only [brS] at h
      split at h
      · simp at h
      · split at h
        · simp at h
        · rename_i hc
          simp at h hc
          rw [← h.1, ← h.2]
          simp; omega
def parseB (L : List UInt8) : Option (Nat × Nat × List Int) :=
  if (spl L).length < 3 ∨ 8 < (spl L).length then none else (brT (spl L) (spl L).length).map fun st => (st.1, (spl L).length, st.2)

end Go.Proofs.YtelkmdklpcfobaaGreatDoor
