/- Names that somebody may give: the program's ValidName and the reference's Given give one answer. -/
import Derived.Test.YtidfefaakkpoaaaDoorPcD
namespace Go.Proofs.YtidfefaakkpoaaaDoor
open Go.RowKit

def letN (c : Nat) : Bool := (decide (97 ≤ c) && decide (c ≤ 122)) || (decide (65 ≤ c) && decide (c ≤ 90))
def digN (c : Nat) : Bool := decide (48 ≤ c) && decide (c ≤ 57)
def othN (c : Nat) : Bool := digN c || decide (c = 45) || decide (c = 95)
/-- a name that somebody may give. -/
def givP (s : ByteArray) : Prop := s.size ≤ 32 ∧ (∃ h : 0 < s.size, letN (s[0]'h).toNat = true) ∧ ∀ j (h : j < s.size), (letN (s[j]'h).toNat || othN (s[j]'h).toNat) = true

def BF (c : Nat) (a1 a2 a3 a4 a5 a6 a7 a8 : Bool) : Prop := decide ((97 : Int) ≤ (c : Int)) = a1 ∧ decide ((c : Int) ≤ 122) = a2 ∧ decide ((65 : Int) ≤ (c : Int)) = a3 ∧ decide ((c : Int) ≤ 90) = a4 ∧
  decide ((48 : Int) ≤ (c : Int)) = a5 ∧ decide ((c : Int) ≤ 57) = a6 ∧ ((c : Int) == 45) = a7 ∧ ((c : Int) == 95) = a8
theorem bf {c : Nat} {a1 a2 a3 a4 a5 a6 a7 a8 : Bool} (h1 : a1 = true ↔ 97 ≤ c) (h2 : a2 = true ↔ c ≤ 122) (h3 : a3 = true ↔ 65 ≤ c) (h4 : a4 = true ↔ c ≤ 90) (h5 : a5 = true ↔ 48 ≤ c) (h6 : a6 = true ↔ c ≤ 57) (h7 : a7 = true ↔ c = 45) (h8 : a8 = true ↔ c = 95) :
    BF c a1 a2 a3 a4 a5 a6 a7 a8 := by
  refine ⟨?_, ?_, ?_, ?_, ?_, ?_, ?_, ?_⟩
  · rw [Bool.eq_iff_iff, h1, decide_eq_true_iff]; omega
  · rw [Bool.eq_iff_iff, h2, decide_eq_true_iff]; omega
  · rw [Bool.eq_iff_iff, h3, decide_eq_true_iff]; omega
  · rw [Bool.eq_iff_iff, h4, decide_eq_true_iff]; omega
  · rw [Bool.eq_iff_iff, h5, decide_eq_true_iff]; omega
  · rw [Bool.eq_iff_iff, h6, decide_eq_true_iff]; omega
  · rw [Bool.eq_iff_iff, h7, beq_iff_eq]; omega
  · rw [Bool.eq_iff_iff, h8, beq_iff_eq]; omega
theorem letN_iff {c : Nat} : letN c = true ↔ (97 ≤ c ∧ c ≤ 122) ∨ (65 ≤ c ∧ c ≤ 90) := by simp [letN]
theorem othN_iff {c : Nat} : othN c = true ↔ (48 ≤ c ∧ c ≤ 57) ∨ c = 45 ∨ c = 95 := by simp [othN, digN, or_assoc]
theorem bf_letter {c : Nat} (h : letN c = true) : BF c false true true true true false false false ∨ BF c true true true false true false false false := by
  rw [letN_iff] at h
  by_cases k : 97 ≤ c
  · exact .inr (bf (by simp; omega) (by simp; omega) (by simp; omega) (by simp; omega) (by simp; omega) (by simp; omega) (by simp; omega) (by simp; omega))
  · exact .inl (bf (by simp; omega) (by simp; omega) (by simp; omega) (by simp; omega) (by simp; omega) (by simp; omega) (by simp; omega) (by simp; omega))
theorem bf_other {c : Nat} (h : othN c = true) : BF c false true false true true true false false ∨ BF c false true false true false true true false ∨ BF c false true true false true false false true := by
  rw [othN_iff] at h
  rcases h with h | h | h
  · exact .inl (bf (by simp; omega) (by simp; omega) (by simp; omega) (by simp; omega) (by simp; omega) (by simp; omega) (by simp; omega) (by simp; omega))
  · exact .inr (.inl (bf (by simp; omega) (by simp; omega) (by simp; omega) (by simp; omega) (by simp; omega) (by simp; omega) (by simp; omega) (by simp; omega)))
  · exact .inr (.inr (bf (by simp; omega) (by simp; omega) (by simp; omega) (by simp; omega) (by simp; omega) (by simp; omega) (by simp; omega) (by simp; omega)))
theorem bf_none {c : Nat} (h : ¬ letN c = true) (k : ¬ othN c = true) : BF c false true false true false true false false ∨ BF c false true false true true false false false ∨ BF c false true true false true false false false ∨ BF c true false true false true false false false := by
  rw [letN_iff] at h
  rw [othN_iff] at k
  by_cases k1 : c < 48
  · exact .inl (bf (by simp; omega) (by simp; omega) (by simp; omega) (by simp; omega) (by simp; omega) (by simp; omega) (by simp; omega) (by simp; omega))
  by_cases k2 : c < 65
  · exact .inr (.inl (bf (by simp; omega) (by simp; omega) (by simp; omega) (by simp; omega) (by simp; omega) (by simp; omega) (by simp; omega) (by simp; omega)))
  by_cases k3 : c < 97
  · exact .inr (.inr (.inl (bf (by simp; omega) (by simp; omega) (by simp; omega) (by simp; omega) (by simp; omega) (by simp; omega) (by simp; omega) (by simp; omega))))
  · exact .inr (.inr (.inr (bf (by simp; omega) (by simp; omega) (by simp; omega) (by simp; omega) (by simp; omega) (by simp; omega) (by simp; omega) (by simp; omega))))
theorem bf_any (c : Nat) : (letN c = true ∧ (BF c false true true true true false false false ∨ BF c true true true false true false false false)) ∨
    (letN c = false ∧ (BF c false true false true true true false false ∨ BF c false true false true false true true false ∨ BF c false true true false true false false true ∨ BF c false true false true false true false false ∨ BF c false true false true true false false false ∨ BF c false true true false true false false false ∨ BF c true false true false true false false false)) := by
  by_cases h : letN c = true
  · exact .inl ⟨h, bf_letter h⟩
  · right
    refine ⟨by simpa using h, ?_⟩
    by_cases k : othN c = true
    · have oth := bf_other k
      rcases oth with h | h | h
      · exact .inl h
      · exact .inr (.inl h)
      · exact .inr (.inr (.inl h))
    · exact .inr (.inr (.inr (bf_none h k)))

set_option maxRecDepth 100000 in
set_option maxHeartbeats 1000000 in
theorem isLetter_any (c : Nat) (w : World) :
    Calls Tryd.prog 80 #[.int .u8 (c : Int)] w fun e w' => e = .returned (.bool (letN c)) ∧ w = w' := by
  rcases bf_any c with ⟨hl, h | h⟩ | ⟨hl, h | h | h | h | h | h | h⟩
  all_goals
    rw [hl]
    obtain ⟨d1, d2, d3, d4, _, _, _, _⟩ := h
    clear hl
    go_enter Tryd.func80, Tryd.ntmps80
    go_wp2
    go_ret
    exact ⟨rfl, rfl⟩

set_option maxRecDepth 100000 in
set_option maxHeartbeats 1000000 in
theorem isDigit_any (c : Nat) (w : World) :
    Calls Tryd.prog 81 #[.int .u8 (c : Int)] w fun e w' => e = .returned (.bool (digN c)) ∧ w = w' := by
  by_cases h : 48 ≤ c
  · by_cases k : c ≤ 57
    · have E : digN c = true := by simp [digN, h, k]
      rw [E]
      have d1 : decide ((48 : Int) ≤ (c : Int)) = true := decide_eq_true (by omega)
      have d2 : decide ((c : Int) ≤ 57) = true := decide_eq_true (by omega)
      clear h k E
      go_enter Tryd.func81, Tryd.ntmps81
      go_wp2
      go_ret
      exact ⟨rfl, rfl⟩
    · have E : digN c = false := by simp [digN]; omega
      rw [E]
      have d1 : decide ((48 : Int) ≤ (c : Int)) = true := decide_eq_true (by omega)
      have d2 : decide ((c : Int) ≤ 57) = false := decide_eq_false (by omega)
      clear h k E
      go_enter Tryd.func81, Tryd.ntmps81
      go_wp2
      go_ret
      exact ⟨rfl, rfl⟩
  · have E : digN c = false := by simp [digN]; omega
    rw [E]
    have d1 : decide ((48 : Int) ≤ (c : Int)) = false := decide_eq_false (by omega)
    clear h E
    go_enter Tryd.func81, Tryd.ntmps81
    go_wp2
    go_ret
    exact ⟨rfl, rfl⟩
theorem isLetter_as (c : Nat) (b : Bool) (h : letN c = b) (w : World) : Calls Tryd.prog 80 #[.int .u8 (c : Int)] w fun e w' => e = .returned (.bool b) ∧ w = w' := by rw [← h]; exact isLetter_any c w
theorem isDigit_as (c : Nat) (b : Bool) (h : digN c = b) (w : World) : Calls Tryd.prog 81 #[.int .u8 (c : Int)] w fun e w' => e = .returned (.bool b) ∧ w = w' := by rw [← h]; exact isDigit_any c w

end Go.Proofs.YtidfefaakkpoaaaDoor
