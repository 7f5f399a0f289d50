/- Pieces: the reference's letters and its Parse, and the program's Parse: which piece has a letter. -/
import Derived.Test.YtpcfgeggjfbfjaaDoorPcB
namespace Go.Proofs.YtpcfgeggjfbfjaaDoor
open Go.RowKit

/-- the letter of a piece. -/
def lt (p : Int) : Nat := if p < 0 then ltr (-p - 1).toNat + 32 else ltr (p - 1).toNat
def okL (p : Int) : Prop := -15 ≤ p ∧ p ≤ 15 ∧ p ≠ 0
/-- the piece with a letter, or 0. -/
def piP (c : Nat) : Int := (((List.range 31).map fun i : Nat => (i : Int) - 15).find? fun p => decide (p ≠ 0) && decide (lt p = c)).getD 0
theorem piP_no {c : Nat} (h : ∀ p, okL p → lt p ≠ c) : piP c = 0 := by
  unfold piP
  rw [List.find?_eq_none.2]
  · rfl
  · intro p hp hc
    obtain ⟨i, hi, rfl⟩ := List.mem_map.1 hp
    have hi := List.mem_range.1 hi
    rw [Bool.and_eq_true, decide_eq_true_iff, decide_eq_true_iff] at hc
    exact h _ ⟨by omega, by omega, hc.1⟩ hc.2
theorem piP_lt {p : Int} (h : okL p) : piP (lt p) = p := by
  have key : ∀ i : Nat, i < 31 → (i : Int) - 15 ≠ 0 → piP (lt ((i : Int) - 15)) = (i : Int) - 15 := by decide +kernel
  obtain ⟨h0, h1, h2⟩ := h
  have := key (p + 15).toNat (by omega) (by omega)
  rwa [show (((p + 15).toNat : Nat) : Int) - 15 = p by omega] at this
theorem lt_pos {i : Nat} (h0 : 1 ≤ i) : lt (i : Int) = ltr (i - 1) := by
  unfold lt
  rw [if_neg (by omega)]
  congr 1
  omega
theorem lt_neg {i : Nat} (h0 : 1 ≤ i) : lt (-(i : Int)) = ltr (i - 1) + 32 := by
  unfold lt
  rw [if_pos (by omega)]
  congr 2
  omega
/-- the error of Parse. -/
def perr (p : Int) : Int := if p = 0 then 6 else 0

theorem let_up : ∀ j : Fin 15, ((ByteArray.mk #[80, 78, 66, 82, 81, 75, 65, 67, 68, 69, 70, 71, 72, 73, 74])[j.1]'j.2).toNat = ltr j.1 := by decide +kernel
theorem let_lo : ∀ j : Fin 15, ((ByteArray.mk #[112, 110, 98, 114, 113, 107, 97, 99, 100, 101, 102, 103, 104, 105, 106])[j.1]'j.2).toNat = ltr j.1 + 32 := by decide +kernel

def notTo (c k : Nat) : Prop := ∀ j, j < k → c ≠ ltr j ∧ c ≠ ltr j + 32
theorem notTo_all {c : Nat} (h : notTo c 15) : piP c = 0 := piP_no fun p hp he => by
  obtain ⟨h0, h1, h2⟩ := hp
  by_cases hn : p < 0
  · obtain ⟨i, rfl⟩ : ∃ i : Nat, p = -(i : Int) := ⟨(-p).toNat, by omega⟩
    rw [lt_neg (by omega)] at he
    exact (h (i - 1) (by omega)).2 he.symm
  · obtain ⟨i, rfl⟩ := Int.eq_ofNat_of_zero_le (by omega : 0 ≤ p)
    rw [lt_pos (by omega)] at he
    exact (h (i - 1) (by omega)).1 he.symm
theorem piP_up {k : Nat} (hk : k < 15) : piP (ltr k) = (k : Int) + 1 := by
  have := piP_lt (p := ((k + 1 : Nat) : Int)) ⟨by omega, by omega, by omega⟩
  rw [lt_pos (by omega), Nat.add_sub_cancel] at this
  rw [this]; omega
theorem piP_lo {k : Nat} (hk : k < 15) : piP (ltr k + 32) = -((k : Int) + 1) := by
  have := piP_lt (p := -((k + 1 : Nat) : Int)) ⟨by omega, by omega, by omega⟩
  rw [lt_neg (by omega), Nat.add_sub_cancel] at this
  rw [this]; omega
theorem perr_no {p : Int} (h : p = 0) : (6 : Int) = perr p := by rw [h]; rfl
theorem perr_yes {p : Int} (h : p ≠ 0) : (0 : Int) = perr p := by unfold perr; rw [if_neg h]

set_option maxRecDepth 100000 in
set_option maxHeartbeats 1000000 in
theorem parse_any (c : Nat) (w : World) (hK : Kinds w) :
    Calls Tryd.prog 48 #[.int .u8 (c : Int)] w fun e w' => e = .returned (.tuple #[.int .i8 (piP c), .int .i64 (perr (piP c))]) ∧ w = w' := by
  have HK := Lib.hid hK
  clear hK
  go_enter Tryd.func48, Tryd.ntmps48
  go_wp2
  go_loop [5] (fun i => ∃ k : Nat, k ≤ 15 ∧ i = .int .i8 k ∧ Hid (notTo c k)) (fun i => 15 - (intOf i).toNat)
  case atStart => exact ⟨0, by omega, rfl, Lib.hid fun j hj => absurd hj (by omega)⟩
  case round =>
    obtain ⟨k, hk, rfl, HN⟩ := hrel
    by_cases hlt : k < 15
    · have hc := (HK.out.2 k hlt).1
      by_cases h1 : c = ltr k
      · have E := Lib.hid (piP_up hlt)
        have HC := Lib.hid h1
        have hq : ((c : Int) == (ltr k : Int)) = true := by rw [h1]; simp
        clear h1
        go_wp2
        go_ret2
        exact ⟨ret2 (vint (by rw [HC.out, E.out])) (vint (perr_yes (by rw [HC.out, E.out]; omega))), rfl⟩
      · have hq : ((c : Int) == (ltr k : Int)) = false := by rw [beq_eq_false_iff_ne]; omega
        obtain ⟨b0, b1⟩ := ltr_bd k hlt
        by_cases h2 : c = ltr k + 32
        · have E := Lib.hid (piP_lo hlt)
          have HC := Lib.hid h2
          have hr : ((c : Int) == ((ltr k + 32 : Nat) : Int)) = true := by rw [h2]; simp
          clear h1 h2
          go_wp2_with fail
          refine (small_any (ltr k) b0 b1 _).mono ?_
          rintro e w1 ⟨rfl, rfl⟩
          go_wp2
          go_ret2
          exact ⟨ret2 (vint (by rw [HC.out, E.out])) (vint (perr_yes (by rw [HC.out, E.out]; omega))), rfl⟩
        · have hr : ((c : Int) == ((ltr k + 32 : Nat) : Int)) = false := by rw [beq_eq_false_iff_ne]; omega
          have HN' : Hid (notTo c (k + 1)) := Lib.hid fun j hj => if e : j = k then by rw [e]; exact ⟨h1, h2⟩ else HN.out j (by omega)
          clear h1 h2
          go_wp2_with fail
          refine (small_any (ltr k) b0 b1 _).mono ?_
          rintro e w1 ⟨rfl, rfl⟩
          go_wp2
          go_round
          case rel => exact ⟨k + 1, by omega, by go_num, HN'⟩
          case measure => simp [intOf]; omega
    · have hkl : k = 15 := by omega
      subst hkl
      have E := Lib.hid (notTo_all HN.out)
      go_wp2
      go_ret2
      exact ⟨ret2 (vint E.out.symm) (vint (perr_no E.out)), rfl⟩

def noneTo (c : Nat) (q : Int) : Prop := ∀ p, okL p → p < q → lt p ≠ c

end Go.Proofs.YtpcfgeggjfbfjaaDoor
