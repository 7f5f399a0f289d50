/- Plain mathematics of distances and of sets that are shifted and shifted back; Shift in one contract. -/
import Derived.Test.YtidfefaakkpoaaaDoorLawS
namespace Go.Proofs.YtidfefaakkpoaaaDoor
open Go.RowKit

theorem dist_symm (F a b : Int) : dist F b a = dist F a b := by unfold dist; omega
theorem dist_tri (F a b c : Int) : dist F a c ≤ dist F a b + dist F b c := by
  unfold dist
  generalize a % F = x
  generalize b % F = y
  generalize c % F = z
  generalize a / F = x'
  generalize b / F = y'
  generalize c / F = z'
  omega
theorem dist_bd {F R a b : Int} (ha : vat F R a) (hb : vat F R b) : 0 ≤ dist F a b ∧ dist F a b ≤ 7 := by
  obtain ⟨p0, p1, p2, p3⟩ := place_bd ha.1 ha.2.1 ha.2.2
  obtain ⟨q0, q1, q2, q3⟩ := place_bd hb.1 hb.2.1 hb.2.2
  have f2 := ha.1.2.1
  have r2 := ha.1.2.2.2
  unfold dist
  omega
theorem dist_zero {F R a b : Int} (ha : vat F R a) (hb : vat F R b) : (dist F a b == 0) = (a == b) := by
  rw [Bool.eq_iff_iff, beq_iff_eq, beq_iff_eq]
  constructor
  · intro h
    unfold dist at h
    rw [← place_eq (a := a) ha.1, ← place_eq (a := b) hb.1, show a % F = b % F from by omega, show a / F = b / F from by omega]
  · rintro rfl
    unfold dist
    omega

theorem tgt_some {F R df dr : Int} (hv : vsz F R) {i j : Nat} (h : tgt F R df dr i = some j) :
    onb F R ((i : Int) % F + df) ((i : Int) / F + dr) ∧ (j : Int) % F = (i : Int) % F + df ∧ (j : Int) / F = (i : Int) / F + dr := by
  unfold tgt at h
  split at h
  · rename_i hb
    obtain ⟨a, b, c, d⟩ := id hb
    obtain ⟨n0, n1, n2, n3, n4⟩ := number_bd hv a b c d
    have hj : (j : Int) = ((i : Int) % F + df) + ((i : Int) / F + dr) * F := by
      simp at h
      rw [← h, Int.toNat_of_nonneg (by omega)]
    rw [hj, n3, n4]
    exact ⟨hb, rfl, rfl⟩
  · cases h
theorem tgt_is {F R df dr : Int} (hv : vsz F R) {i j : Nat} (hj : vat F R (j : Int)) (h0 : (j : Int) % F = (i : Int) % F + df) (h1 : (j : Int) / F = (i : Int) / F + dr) : tgt F R df dr i = some j := by
  obtain ⟨p0, p1, p2, p3⟩ := place_bd hv hj.2.1 hj.2.2
  unfold tgt
  rw [if_pos ⟨by omega, by omega, by omega, by omega⟩, ← h0, ← h1, place_eq hv, Int.toNat_natCast]

theorem shl_mem {F R df dr : Int} {l : List Nat} {j : Nat} : j ∈ shl F R df dr l ↔ ∃ i ∈ l, tgt F R df dr i = some j := by unfold shl; rw [List.mem_filterMap]

theorem shl_board {F R df dr : Int} (hv : vsz F R) (l : List Nat) : ofL (shl F R df dr l) < 2 ^ (F * R).toNat := ofL_lt fun i hi => by have := shl_lt hv hi; omega

/-- There and back: a square that comes back was there. -/
theorem back_in {F R df dr : Int} (hv : vsz F R) {X j : Nat} (_hX : X < 2 ^ (F * R).toNat) (h : (ofL (shl F R (-df) (-dr) (listOf (ofL (shl F R df dr (listOf X)))))).testBit j = true) : X.testBit j = true := by
  rw [ofL_bit, decide_eq_true_eq, shl_mem] at h
  obtain ⟨i, hi, hij⟩ := h
  rw [mem_listOf, ofL_bit, decide_eq_true_eq, shl_mem] at hi
  obtain ⟨_, k, hk, hki⟩ := hi
  obtain ⟨_, a1, a2⟩ := tgt_some hv hij
  obtain ⟨_, b1, b2⟩ := tgt_some hv hki
  have e : (j : Int) = k := by
    rw [← place_eq (a := (j : Int)) hv, ← place_eq (a := (k : Int)) hv, show (j : Int) % F = (k : Int) % F from by omega, show (j : Int) / F = (k : Int) / F from by omega]
  have : j = k := by omega
  rw [this]
  exact (mem_listOf.1 hk).2
/-- A square that stays on the board comes back. -/
theorem back_on {F R df dr : Int} (hv : vsz F R) {X k : Nat} (hX : X < 2 ^ (F * R).toNat) (hk : k ∈ listOf X) (h : onb F R ((k : Int) % F + df) ((k : Int) / F + dr)) : (ofL (shl F R (-df) (-dr) (listOf (ofL (shl F R df dr (listOf X)))))).testBit k = true := by
  have hkb := in_board hX hk
  have hkv : vat F R (k : Int) := ⟨hv, by omega, by omega⟩
  obtain ⟨a, b, c, d⟩ := id h
  obtain ⟨n0, n1, n2, n3, n4⟩ := number_bd hv a b c d
  have m1 := (vsz_mul hv).2
  have hi : tgt F R df dr k = some (((k : Int) % F + df) + ((k : Int) / F + dr) * F).toNat := by unfold tgt; rw [if_pos h]
  have hcast : (((((k : Int) % F + df) + ((k : Int) / F + dr) * F).toNat : Nat) : Int) = ((k : Int) % F + df) + ((k : Int) / F + dr) * F := Int.toNat_of_nonneg (by omega)
  rw [ofL_bit, decide_eq_true_eq, shl_mem]
  refine ⟨_, mem_listOf.2 ⟨?_, ?_⟩, tgt_is (i := (((k : Int) % F + df) + ((k : Int) / F + dr) * F).toNat) hv hkv ?_ ?_⟩
  · omega
  · rw [ofL_bit, decide_eq_true_eq, shl_mem]
    exact ⟨k, hk, hi⟩
  · rw [hcast, n3]; omega
  · rw [hcast, n4]; omega

theorem andNot_bit (X Z j : Nat) (hX : X < 18446744073709551616) (hZ : Z < 18446744073709551616) : (X &&& (18446744073709551615 - Z)).testBit j = (X.testBit j && !Z.testBit j) := by
  have e : 18446744073709551615 - Z = 2 ^ 64 - (Z + 1) := by omega
  rw [e, Nat.testBit_and, Nat.testBit_two_pow_sub_succ (by simpa using hZ)]
  by_cases h : j < 64
  · simp [h]
  · have := bit_high (X := X) (n := 64) (j := j) (by simpa using hX) (by omega)
    simp [this]
theorem back_none {F R df dr : Int} (hv : vsz F R) {X : Nat} (hX : X < 2 ^ (F * R).toNat) :
    (bits .andNot .u64 (ofL (shl F R (-df) (-dr) (listOf (ofL (shl F R df dr (listOf X))))) : Int) (X : Int) != 0) = false := by
  have hX64 := x64 hv hX
  have hZ := shl_64 (F := F) (R := R) (df := -df) (dr := -dr) hv (l := listOf (ofL (shl F R df dr (listOf X))))
  rw [u64_andNot_nat _ _ hZ hX64]
  have : (ofL (shl F R (-df) (-dr) (listOf (ofL (shl F R df dr (listOf X)))))) &&& (18446744073709551615 - X) = 0 := by
    apply Nat.eq_of_testBit_eq
    intro j
    rw [andNot_bit _ _ _ hZ hX64]
    simp
    intro h
    exact back_in hv hX h
  rw [this]
  rfl

theorem shift_all (F R df dr : Int) (X : Nat) (hv : vsz F R) (hX : X < 2 ^ (F * R).toNat) (w : World) (hT : Tab w) :
    Calls Tryd.prog 41 #[.agg #[.int .i64 F, .int .i64 R], .int .u64 X, .int .i64 df, .int .i64 dr] w fun e w' => e = .returned (.tuple #[.int .u64 (ofL (shl F R df dr (listOf X)) : Int), .int .i64 0]) ∧ Below w.heap.size w w' := by
  by_cases fd : -F < df ∧ df < F ∧ -R < dr ∧ dr < R
  · exact shift_yes F R df dr X hv hX fd w hT
  · have hz : ofL (shl F R df dr (listOf X)) = 0 := by rw [shl_far hv fd (fun i hi => ⟨hv, by omega, by have := in_board hX hi; omega⟩)]; rfl
    rw [hz]
    exact shift_far F R df dr X hv hX fd w
theorem at_place (F R a : Int) (ha : vat F R a) (w : World) :
    Calls Tryd.prog 24 #[.agg #[.int .i64 F, .int .i64 R], .int .i64 (a % F), .int .i64 (a / F)] w fun e w' => e = .returned (.tuple #[.int .i64 a, .int .i64 0]) ∧ Below w.heap.size w w' := by
  have := at_yes F R (a % F) (a / F) ha.1 (place_bd ha.1 ha.2.1 ha.2.2) w
  rw [place_eq ha.1] at this
  exact this

end Go.Proofs.YtidfefaakkpoaaaDoor
