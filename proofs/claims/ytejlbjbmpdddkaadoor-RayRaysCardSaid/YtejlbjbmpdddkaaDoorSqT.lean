/- Plain mathematics of shifted sets; the program's number, with the world that it leaves. -/
import Derived.Test.YtejlbjbmpdddkaaDoorSqK
namespace Go.Proofs.YtejlbjbmpdddkaaDoor
open Go.RowKit

open Classical in
/-- where a square goes. -/
noncomputable def tgt (F R df dr : Int) (i : Nat) : Option Nat := if onb F R ((i : Int) % F + df) ((i : Int) / F + dr) then some (((i : Int) % F + df) + ((i : Int) / F + dr) * F).toNat else none
noncomputable def shl (F R df dr : Int) (l : List Nat) : List Nat := l.filterMap (tgt F R df dr)
theorem shl_yes {F R df dr : Int} {l : List Nat} {i : Nat} (h : onb F R ((i : Int) % F + df) ((i : Int) / F + dr)) : shl F R df dr (l ++ [i]) = shl F R df dr l ++ [(((i : Int) % F + df) + ((i : Int) / F + dr) * F).toNat] := by
  unfold shl
  rw [List.filterMap_append]
  congr 1
  simp [tgt, h]
theorem shl_no {F R df dr : Int} {l : List Nat} {i : Nat} (h : ¬ onb F R ((i : Int) % F + df) ((i : Int) / F + dr)) : shl F R df dr (l ++ [i]) = shl F R df dr l := by
  unfold shl
  rw [List.filterMap_append]
  have : List.filterMap (tgt F R df dr) [i] = [] := by simp [tgt, h]
  rw [this, List.append_nil]
theorem shl_lt {F R df dr : Int} (hv : vsz F R) {l : List Nat} {j : Nat} (h : j ∈ shl F R df dr l) : (j : Int) < F * R := by
  unfold shl at h
  rw [List.mem_filterMap] at h
  obtain ⟨i, _, ht⟩ := h
  unfold tgt at ht
  split at ht
  · rename_i hb
    obtain ⟨a, b, c, d⟩ := hb
    obtain ⟨n0, n1, n2, _, _⟩ := number_bd hv a b c d
    simp at ht
    omega
  · cases ht
theorem shl_64 {F R df dr : Int} (hv : vsz F R) {l : List Nat} : ofL (shl F R df dr l) < 18446744073709551616 := by
  have := ofL_lt (l := shl F R df dr l) (n := 64) (fun i hi => by have := shl_lt hv hi; have := (vsz_mul hv).2; omega)
  simpa using this

/-- a set has squares of the board alone. -/
theorem in_board {X m : Nat} (hX : X < 2 ^ m) {i : Nat} (h : i ∈ listOf X) : i < m := by
  rw [mem_listOf] at h
  rcases Nat.lt_or_ge i m with hl | hl
  · exact hl
  · rw [bit_high hX hl] at h
    exact absurd h.2 (by decide)

theorem andNot_full (X m : Nat) (hX : X < 18446744073709551616) (hm : m ≤ 64) : (bits .andNot .u64 (X : Int) (fullN m : Int) != 0) = !decide (X < 2 ^ m) := by
  have hf : fullN m < 18446744073709551616 := by
    unfold fullN
    have : 2 ^ m ≤ 2 ^ 64 := Nat.pow_le_pow_right (by decide) hm
    simp at this
    omega
  rw [u64_andNot_nat X (fullN m) hX hf]
  have e : 18446744073709551615 - fullN m = 2 ^ 64 - (fullN m + 1) := by omega
  have hb : ∀ j, (X &&& (18446744073709551615 - fullN m)).testBit j = (X.testBit j && (decide (j < 64) && decide (m ≤ j))) := by
    intro j
    rw [e, Nat.testBit_and, Nat.testBit_two_pow_sub_succ (by simpa using hf)]
    unfold fullN
    rw [Nat.testBit_two_pow_sub_one]
    by_cases h : j < m
    · have h' : ¬ m ≤ j := by omega
      simp [h, h']
    · have h' : m ≤ j := by omega
      simp [h, h']
  by_cases h : X < 2 ^ m
  · have : X &&& (18446744073709551615 - fullN m) = 0 := by
      apply Nat.eq_of_testBit_eq
      intro j
      rw [hb]
      by_cases hj : m ≤ j
      · rw [bit_high h hj]; simp
      · simp [hj]
    simp [this, h]
  · have : X &&& (18446744073709551615 - fullN m) ≠ 0 := by
      intro h0
      apply h
      apply lt_of_bits
      intro j hj
      have := hb j
      rw [h0] at this
      simp at this
      by_cases h64 : j < 64
      · cases hx : X.testBit j
        · rfl
        · exact absurd (this hx h64) (by omega)
      · exact bit_high (n := 64) (by simpa using hX) (by omega)
    simp [h]
    omega

set_option maxRecDepth 100000 in
set_option maxHeartbeats 400000 in
theorem number_ex (F R f r : Int) (hv : vsz F R) (h : onb F R f r) (w : World) :
    Calls Tryd.prog 51 #[.agg #[.int .i64 F, .int .i64 R], .int .i64 f, .int .i64 r] w fun e w' => e = .returned (.int .i64 (f + r * F)) ∧ w.alloc (.cells #[.int .i64 F, .int .i64 R] 23) = w' := by
  obtain ⟨m0, m1⟩ := vsz_mul hv
  obtain ⟨a, b, c, d⟩ := h
  obtain ⟨n0, n1, n2, n3, n4⟩ := number_bd hv a b c d
  clear n3 n4
  go_enter Tryd.func51, Tryd.ntmps51
  go_wp2
  go_ret
  exact ⟨rfl, rfl⟩

end Go.Proofs.YtejlbjbmpdddkaaDoor
