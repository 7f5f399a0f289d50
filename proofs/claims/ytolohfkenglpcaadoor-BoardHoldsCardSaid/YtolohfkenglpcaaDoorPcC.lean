/- Pieces: the reference's letters and its Parse, and the program's Parse: which piece has a letter. -/
import Derived.Test.YtolohfkenglpcaaDoorPcB
namespace Go.Proofs.YtolohfkenglpcaaDoor
open Go.RowKit

/-- the letter of a piece. -/
def lt (p : Int) : Nat := if p < 0 then ltr (-p - 1).toNat + 32 else ltr (p - 1).toNat
def okL (p : Int) : Prop := -15 ≤ p ∧ p ≤ 15 ∧ p ≠ 0
/-- the piece with a letter, or 0. -/
def piP (c : Nat) : Int := (((List.range 31).map fun i : Nat => (i : Int) - 15).find? fun p => decide (p ≠ 0) && decide (lt p = c)).getD 0
theorem piP_no {c : Nat} (h : ∀ p, okL p → lt p ≠ c) : piP c = 0 := by
  unfold piP
  rw [List.find?_eq_none.2]
  · rfl
  · intro p hp hc
    obtain ⟨i, hi, rfl⟩ := List.mem_map.1 hp
    have hi := List.mem_range.1 hi
    rw [Bool.and_eq_true, decide_eq_true_iff, decide_eq_true_iff] at hc
    exact h _ ⟨by omega, by omega, hc.1⟩ hc.2
theorem piP_lt {p : Int} (h : okL p) : piP (lt p) = p := by
  have key : ∀ i : Nat, i < 31 → (i : Int) - 15 ≠ 0 → piP (lt ((i : Int) - 15)) = (i : Int) - 15 := by decide +kernel
  obtain ⟨h0, h1, h2⟩ := h
  have := key (p + 15).toNat (by omega) (by omega)
  rwa [show (((p + 15).toNat : Nat) : Int) - 15 = p by omega] at this
theorem lt_pos {i : Nat} (h0 : 1 ≤ i) : lt (i : Int) = ltr (i - 1) := by
  unfold lt
  rw [if_neg (by omega)]
  congr 1
  omega
theorem lt_neg {i : Nat} (h0 : 1 ≤ i) : lt (-(i : Int)) = ltr (i - 1) + 32 := by
  unfold lt
  rw [if_pos (by omega)]
  congr 2
  omega
/-- the error of Parse. -/
def perr (p : Int) : Int := if p = 0 then 6 else 0

theorem let_up : ∀ j : Fin 15, ((ByteArray.mk #[80, 78, 66, 82, 81, 75, 65, 67, 68, 69, 70, 71, 72, 73, 74])[j.1]'j.2).toNat = ltr j.1 := by decide +kernel
theorem let_lo : ∀ j : Fin 15, ((ByteArray.mk #[112, 110, 98, 114, 113, 107, 97, 99, 100, 101, 102, 103, 104, 105, 106])[j.1]'j.2).toNat = ltr j.1 + 32 := by decide +kernel

set_option maxRecDepth 100000 in
set_option maxHeartbeats 400000 in
theorem rLetter_pos (i : Nat) (h0 : 1 ≤ i) (h1 : i ≤ 15) (w : World) :
    Calls Tryd.prog 53 #[.int .i8 (i : Int)] w fun e w' => e = .returned (.int .u8 (ltr (i - 1) : Int)) ∧ w = w' := by
  have hn : decide ((i : Int) < 0) = false := decide_eq_false (by omega)
  go_enter Tryd.func53, Tryd.ntmps53
  go_wp2
  go_ret
  exact ⟨ret_int (congrArg (fun n : Nat => (n : Int)) (let_up ⟨i - 1, by omega⟩)), rfl⟩

set_option maxRecDepth 100000 in
set_option maxHeartbeats 400000 in
theorem rLetter_neg (i : Nat) (h0 : 1 ≤ i) (h1 : i ≤ 15) (w : World) :
    Calls Tryd.prog 53 #[.int .i8 (-(i : Int))] w fun e w' => e = .returned (.int .u8 ((ltr (i - 1) + 32 : Nat) : Int)) ∧ w = w' := by
  have hn : -(i : Int) < 0 := by omega
  go_enter Tryd.func53, Tryd.ntmps53
  go_wp2
  go_ret
  exact ⟨ret_int (congrArg (fun n : Nat => (n : Int)) (let_lo ⟨i - 1, by omega⟩)), rfl⟩

def notTo (c k : Nat) : Prop := ∀ j, j < k → c ≠ ltr j ∧ c ≠ ltr j + 32
theorem notTo_all {c : Nat} (h : notTo c 15) : piP c = 0 := piP_no fun p hp he => by
  obtain ⟨h0, h1, h2⟩ := hp
  by_cases hn : p < 0
  · obtain ⟨i, rfl⟩ : ∃ i : Nat, p = -(i : Int) := ⟨(-p).toNat, by omega⟩
    rw [lt_neg (by omega)] at he
    exact (h (i - 1) (by omega)).2 he.symm
  · obtain ⟨i, rfl⟩ := Int.eq_ofNat_of_zero_le (by omega : 0 ≤ p)
    rw [lt_pos (by omega)] at he
    exact (h (i - 1) (by omega)).1 he.symm
theorem piP_up {k : Nat} (hk : k < 15) : piP (ltr k) = (k : Int) + 1 := by
  have := piP_lt (p := ((k + 1 : Nat) : Int)) ⟨by omega, by omega, by omega⟩
  rw [lt_pos (by omega), Nat.add_sub_cancel] at this
  rw [this]; omega
theorem piP_lo {k : Nat} (hk : k < 15) : piP (ltr k + 32) = -((k : Int) + 1) := by
  have := piP_lt (p := -((k + 1 : Nat) : Int)) ⟨by omega, by omega, by omega⟩
  rw [lt_neg (by omega), Nat.add_sub_cancel] at this
  rw [this]; omega
theorem perr_no {p : Int} (h : p = 0) : (6 : Int) = perr p := by rw [h]; rfl
theorem perr_yes {p : Int} (h : p ≠ 0) : (0 : Int) = perr p := by unfold perr; rw [if_neg h]

set_option maxRecDepth 100000 in
set_option maxHeartbeats 1000000 in
theorem parse_any (c : Nat) (w : World) (hK : Kinds w) :
    Calls Tryd.prog 68 #[.int .u8 (c : Int)] w fun e w' => e = .returned (.tuple #[.int .i8 (piP c), .int .i64 (perr (piP c))]) ∧ w = w' := by
  have HK := Lib.hid hK
  clear hK
  go_enter Tryd.func68, Tryd.ntmps68
  go_wp2
  go_loop [5] (fun i => ∃ k : Nat, k ≤ 15 ∧ i = .int .i8 k ∧ Hid (notTo c k)) (fun i => 15 - (intOf i).toNat)
  case atStart => exact ⟨0, by omega, rfl, Lib.hid fun j hj => absurd hj (by omega)⟩
  case round =>
    obtain ⟨k, hk, rfl, HN⟩ := hrel
    by_cases hlt : k < 15
    · have hc := (HK.out.2 k hlt).1
      by_cases h1 : c = ltr k
      · have E := Lib.hid (piP_up hlt)
        have HC := Lib.hid h1
        have hq : ((c : Int) == (ltr k : Int)) = true := by rw [h1]; simp
        clear h1
        go_wp2
        go_ret2
        exact ⟨ret2 (vint (by rw [HC.out, E.out])) (vint (perr_yes (by rw [HC.out, E.out]; omega))), rfl⟩
      · have hq : ((c : Int) == (ltr k : Int)) = false := by rw [beq_eq_false_iff_ne]; omega
        obtain ⟨b0, b1⟩ := ltr_bd k hlt
        by_cases h2 : c = ltr k + 32
        · have E := Lib.hid (piP_lo hlt)
          have HC := Lib.hid h2
          have hr : ((c : Int) == ((ltr k + 32 : Nat) : Int)) = true := by rw [h2]; simp
          clear h1 h2
          go_wp2_with fail
          refine (small_any (ltr k) b0 b1 _).mono ?_
          rintro e w1 ⟨rfl, rfl⟩
          go_wp2
          go_ret2
          exact ⟨ret2 (vint (by rw [HC.out, E.out])) (vint (perr_yes (by rw [HC.out, E.out]; omega))), rfl⟩
        · have hr : ((c : Int) == ((ltr k + 32 : Nat) : Int)) = false := by rw [beq_eq_false_iff_ne]; omega
          have HN' : Hid (notTo c (k + 1)) := Lib.hid fun j hj => if e : j = k then by rw [e]; exact ⟨h1, h2⟩ else HN.out j (by omega)
          clear h1 h2
          go_wp2_with fail
          refine (small_any (ltr k) b0 b1 _).mono ?_
          rintro e w1 ⟨rfl, rfl⟩
          go_wp2
          go_round
          case rel => exact ⟨k + 1, by omega, by go_num, HN'⟩
          case measure => simp [intOf]; omega
    · have hkl : k = 15 := by omega
      subst hkl
      have E := Lib.hid (notTo_all HN.out)
      go_wp2
      go_ret2
      exact ⟨ret2 (vint E.out.symm) (vint (perr_no E.out)), rfl⟩

def noneTo (c : Nat) (q : Int) : Prop := ∀ p, okL p → p < q → lt p ≠ c

set_option maxRecDepth 100000 in
set_option maxHeartbeats 1000000 in
theorem rParse_any (c : Nat) (w : World) :
    Calls Tryd.prog 57 #[.int .u8 (c : Int)] w fun e w' => e = .returned (.int .i8 (piP c)) ∧ w = w' := by
  go_enter Tryd.func57, Tryd.ntmps57
  go_wp2
  go_loop [3] (fun i => ∃ q : Int, -15 ≤ q ∧ q ≤ 16 ∧ i = .int .i8 q ∧ Hid (noneTo c q)) (fun i => (16 - intOf i).toNat)
  case atStart => exact ⟨-15, by omega, by omega, rfl, Lib.hid fun p hp hq => absurd hq (by have := hp.1; omega)⟩
  case round =>
    obtain ⟨q, hq0, hq1, rfl, HN⟩ := hrel
    by_cases hle : q ≤ 15
    · by_cases hz : q = 0
      · subst hz
        have HN' : Hid (noneTo c 1) := Lib.hid fun p hp hq => HN.out p hp (by have := hp.2.2; omega)
        go_wp2
        go_round
        case rel => exact ⟨1, by omega, by omega, by go_num, HN'⟩
        case measure => simp [intOf]
      · have hnz : (q != 0) = true := bne_iff_ne.2 hz
        have hok : okL q := ⟨hq0, hle, hz⟩
        by_cases hn : q < 0
        · obtain ⟨i, rfl⟩ : ∃ i : Nat, q = -(i : Int) := ⟨(-q).toNat, by omega⟩
          have hL := lt_neg (i := i) (by omega)
          by_cases he : lt (-(i : Int)) = c
          · have hb : (((ltr (i - 1) + 32 : Nat) : Int) == (c : Int)) = true := by rw [← he, hL]; simp
            have E : Hid (piP c = -(i : Int)) := Lib.hid (by rw [← he]; exact piP_lt hok)
            clear he hL hok hz
            go_wp2_with fail
            refine (rLetter_neg i (by omega) (by omega) _).mono ?_
            rintro e w1 ⟨rfl, rfl⟩
            go_wp2
            go_ret
            exact ⟨ret_int E.out.symm, rfl⟩
          · have hb : (((ltr (i - 1) + 32 : Nat) : Int) == (c : Int)) = false := by rw [beq_eq_false_iff_ne]; omega
            have HN' : Hid (noneTo c (-(i : Int) + 1)) := Lib.hid fun p hp hq => if e : p = -(i : Int) then by rw [e]; exact he else HN.out p hp (by omega)
            clear he hL hok hz
            go_wp2_with fail
            refine (rLetter_neg i (by omega) (by omega) _).mono ?_
            rintro e w1 ⟨rfl, rfl⟩
            go_wp2
            go_round
            case rel => exact ⟨-(i : Int) + 1, by omega, by omega, by go_num, HN'⟩
            case measure => simp [intOf]; omega
        · obtain ⟨i, rfl⟩ := Int.eq_ofNat_of_zero_le (by omega : 0 ≤ q)
          have hi1 : 1 ≤ i := by omega
          have hi2 : i ≤ 15 := by omega
          have hL := lt_pos (i := i) (by omega)
          by_cases he : lt (i : Int) = c
          · have hb : ((ltr (i - 1) : Int) == (c : Int)) = true := by rw [← he, hL]; simp
            have E : Hid (piP c = (i : Int)) := Lib.hid (by rw [← he]; exact piP_lt hok)
            clear he hL hok hz
            go_wp2_with fail
            refine (rLetter_pos i hi1 hi2 _).mono ?_
            rintro e w1 ⟨rfl, rfl⟩
            go_wp2
            go_ret
            exact ⟨ret_int E.out.symm, rfl⟩
          · have hb : ((ltr (i - 1) : Int) == (c : Int)) = false := by rw [beq_eq_false_iff_ne]; omega
            have HN' : Hid (noneTo c ((i : Int) + 1)) := Lib.hid fun p hp hq => if e : p = (i : Int) then by rw [e]; exact he else HN.out p hp (by omega)
            clear he hL hok hz
            go_wp2_with fail
            refine (rLetter_pos i hi1 hi2 _).mono ?_
            rintro e w1 ⟨rfl, rfl⟩
            go_wp2
            go_round
            case rel => exact ⟨(i : Int) + 1, by omega, by omega, by go_num, HN'⟩
            case measure => simp [intOf]; omega
    · have hkl : q = 16 := by omega
      subst hkl
      have E : Hid (piP c = 0) := Lib.hid (piP_no fun p hp => HN.out p hp (by have := hp.2.1; omega))
      go_wp2
      go_ret
      exact ⟨ret_int E.out.symm, rfl⟩

end Go.Proofs.YtolohfkenglpcaaDoor
