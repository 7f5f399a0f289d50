/- Plain mathematics for the theorem of rays: reaches are the same in both directions, a queen's reach is a rook's and a bishop's, more occupied squares make no reach greater; bits of sets. -/
import Derived.Test.YtejlbjbmpdddkaaDoorRkE
namespace Go.Proofs.YtejlbjbmpdddkaaDoor
open Go.RowKit Go.Shelf Go.Sort

theorem lineB_symm (F a b : Int) : lineB F b a = lineB F a b := by
  unfold lineB
  rw [Bool.eq_iff_iff]
  simp
  omega
theorem cheb_symm (a b c d : Int) : cheb (a - b) (c - d) = cheb (b - a) (d - c) := by unfold cheb; omega
theorem sg_symm (a b : Int) : sg (a - b) = - sg (b - a) := by unfold sg; split <;> split <;> (try split) <;> (try split) <;> omega
theorem sg_val (n : Int) : sg n = -1 ∨ sg n = 0 ∨ sg n = 1 := by unfold sg; split <;> (try split) <;> omega
theorem dist_symm' (F a b : Int) : dist F b a = dist F a b := by unfold dist; omega

theorem bet_sub {F R a b : Int} {i : Nat} (ha : vat F R a) (hb : vat F R b) (hl : lineB F a b = true) (hi : i ∈ betL F R a b) : i ∈ betL F R b a := by
  obtain ⟨m, m8, hm, hP, hN, hbet⟩ := line_ray ha hb hl
  obtain ⟨m', m8', hm', hP', hN', hbet'⟩ := line_ray hb ha (by rw [lineB_symm]; exact hl)
  rw [cheb_symm (a % F) (b % F) (a / F) (b / F), ← hm] at hm'
  obtain rfl : m' = m := by omega
  rw [hbet] at hi
  rw [hbet']
  obtain ⟨j, hj, rfl⟩ := List.mem_map.1 hi
  have hj2 : j < m' := List.mem_range.1 hj
  rw [List.mem_map]
  refine ⟨m' - 1 - j, List.mem_range.2 (by omega), ?_⟩
  obtain ⟨e1, e2, _⟩ := ray_place ha.1 (hP m' (by omega))
  rw [hN] at e1 e2
  have hc : ((m' - 1 - j : Nat) : Int) = (m' : Int) - 1 - (j : Int) := by omega
  have s1 := sg_symm (a % F) (b % F)
  have s2 := sg_symm (a / F) (b / F)
  unfold rayNum
  rw [s1, s2, hc]
  generalize a % F = x at *
  generalize b % F = u at *
  generalize a / F = y at *
  generalize b / F = v at *
  have v1 := sg_val (u - x)
  have v2 := sg_val (v - y)
  have k1 : v + ((m' : Int) - 1 - (j : Int) + 1) * -sg (v - y) = y + ((j : Int) + 1) * sg (v - y) := by
    generalize sg (v - y) = r at *
    rcases v2 with rfl | rfl | rfl <;> omega
  have k2 : u + ((m' : Int) - 1 - (j : Int) + 1) * -sg (u - x) = x + ((j : Int) + 1) * sg (u - x) := by
    generalize sg (u - x) = f at *
    rcases v1 with rfl | rfl | rfl <;> omega
  rw [k1, k2]
theorem free_symm {F R a b : Int} (ha : vat F R a) (hb : vat F R b) (hl : lineB F a b = true) (X : Nat) : freeB ((betL F R b a).map fun i : Nat => (i : Int)) X = freeB ((betL F R a b).map fun i : Nat => (i : Int)) X := by
  rw [Bool.eq_iff_iff, freeB_iff, freeB_iff]
  exact ⟨fun h i hi => h i (bet_sub ha hb hl hi), fun h i hi => h i (bet_sub hb ha (by rw [lineB_symm]; exact hl) hi)⟩
theorem reachB_symm {F R k a b : Int} (ha : vat F R a) (hb : vat F R b) (X : Nat) : reachB F R k b a X = reachB F R k a b X := by
  unfold reachB
  have e1 : (a % F - b % F) * (a % F - b % F) = (b % F - a % F) * (b % F - a % F) := by rw [← Int.neg_mul_neg, Int.neg_sub]
  have e2 : (a / F - b / F) * (a / F - b / F) = (b / F - a / F) * (b / F - a / F) := by rw [← Int.neg_mul_neg, Int.neg_sub]
  have e3 : ((a % F - b % F == 0) || (a / F - b / F == 0)) = ((b % F - a % F == 0) || (b / F - a / F == 0)) := by rw [Bool.eq_iff_iff]; simp; omega
  rw [e1, e2, e3, dist_symm', lineB_symm]
  cases hl : lineB F a b
  · simp
  · rw [free_symm ha hb hl]

theorem vat_bit {F R a : Int} (ha : vat F R a) : a.toNat < (F * R).toNat ∧ ((a.toNat : Nat) : Int) = a ∧ a.toNat < 64 := by
  have h0 := ha.2.1
  have h1 := ha.2.2
  have h2 := (vsz_mul ha.1).2
  omega
theorem reach_bit {F R k a b : Int} (hb : vat F R b) (X : Nat) : (ofL (reachL F R k a X)).testBit b.toNat = reachB F R k a b X := by
  obtain ⟨h1, h2, h3⟩ := vat_bit hb
  rw [ofL_bit, Bool.eq_iff_iff]
  unfold reachL
  simp only [decide_eq_true_eq, mem_pick, h2, h1, true_and]
theorem pick_lt64 {P : Nat → Bool} {F R : Int} (hv : vsz F R) : ofL (pickTo P (F * R).toNat) < 18446744073709551616 := by
  have := ofL_lt (l := pickTo P (F * R).toNat) (n := 64) (pick_64 hv)
  simpa using this
theorem reach_lt64 {F R k a : Int} {X : Nat} (hv : vsz F R) : ofL (reachL F R k a X) < 18446744073709551616 := pick_lt64 hv
theorem pawn_lt64 {F R a : Int} {bl : Bool} (hv : vsz F R) : ofL (pawnL F R a bl) < 18446744073709551616 := pick_lt64 hv
theorem bit_at (p : Nat) (hp : p < 18446744073709551616) (n : Int) : bits .and .u64 ((p : Int) / 2 ^ n.toNat) 1 = ((p.testBit n.toNat).toNat : Int) := by
  have e : (p : Int) / 2 ^ n.toNat = ((p >>> n.toNat : Nat) : Int) := by
    rw [Nat.shiftRight_eq_div_pow]
    simp
  have hl : p >>> n.toNat < 18446744073709551616 := by
    rw [Nat.shiftRight_eq_div_pow]
    exact Nat.lt_of_le_of_lt (Nat.div_le_self _ _) hp
  rw [e]
  have := u64_and_nat (p >>> n.toNat) 1 hl (by decide)
  rw [show ((1 : Nat) : Int) = 1 from rfl] at this
  rw [this, Nat.testBit, Nat.and_comm, Nat.one_and_eq_mod_two]
  rcases Nat.mod_two_eq_zero_or_one (p >>> n.toNat) with h | h <;> simp [h]
theorem andNot_bitX (X Z j : Nat) (hX : X < 18446744073709551616) (hZ : Z < 18446744073709551616) : (X &&& (18446744073709551615 - Z)).testBit j = (X.testBit j && !Z.testBit j) := by
  have e : 18446744073709551615 - Z = 2 ^ 64 - (Z + 1) := by omega
  rw [e, Nat.testBit_and, Nat.testBit_two_pow_sub_succ (by simpa using hZ)]
  by_cases h : j < 64
  · simp [h]
  · have := bit_high (X := X) (n := 64) (j := j) (by simpa using hX) (by omega)
    simp [this]
theorem andNot_sub (p q : Nat) (hp : p < 18446744073709551616) (hq : q < 18446744073709551616) (h : ∀ j, p.testBit j = true → q.testBit j = true) : (bits .andNot .u64 (p : Int) (q : Int) != 0) = false := by
  rw [u64_andNot_nat p q hp hq]
  have : p &&& (18446744073709551615 - q) = 0 := by
    apply Nat.eq_of_testBit_eq
    intro j
    rw [andNot_bitX p q j hp hq, Nat.zero_testBit]
    cases hj : p.testBit j
    · rfl
    · simp [h j hj]
  rw [this]
  rfl

/-! ### the four facts of the theorem -/
theorem rh_symm {F R k a b : Int} (ha : vat F R a) (hb : vat F R b) (X : Nat) : (bits .and .u64 ((ofL (reachL F R k a X) : Int) / 2 ^ b.toNat) 1 != bits .and .u64 ((ofL (reachL F R k b X) : Int) / 2 ^ a.toNat) 1) = false := by
  rw [bit_at _ (reach_lt64 ha.1), bit_at _ (reach_lt64 hb.1), reach_bit hb, reach_bit ha, reachB_symm ha hb]
  simp
theorem rh_mono {F R k a : Int} (ha : vat F R a) (X Y : Nat) : (bits .andNot .u64 (ofL (reachL F R k a (X ||| Y)) : Int) (ofL (reachL F R k a X) : Int) != 0) = false := by
  apply andNot_sub _ _ (reach_lt64 ha.1) (reach_lt64 ha.1)
  intro j
  rw [ofL_bit, ofL_bit]
  simp only [decide_eq_true_eq]
  show j ∈ pickTo _ _ → j ∈ pickTo _ _
  simp only [mem_pick]
  rintro ⟨h1, h2⟩
  refine ⟨h1, ?_⟩
  revert h2
  unfold reachB
  split
  · exact id
  · split
    · exact id
    · simp only [Bool.and_eq_true, freeB_iff]
      rintro ⟨h2, h3⟩
      refine ⟨h2, fun i hi => ?_⟩
      have := h3 i hi
      rw [Nat.testBit_or] at this
      simp at this
      exact this.1
theorem ofL_or (l m n : List Nat) (h : ∀ i, i ∈ n ↔ i ∈ l ∨ i ∈ m) : ofL n = ofL l ||| ofL m := by
  apply Nat.eq_of_testBit_eq
  intro j
  rw [Nat.testBit_or, ofL_bit, ofL_bit, ofL_bit]
  simp [h j]
theorem rh_queen {F R a : Int} (ha : vat F R a) (X : Nat) : ((ofL (reachL F R 5 a X) : Int) != bits .or .u64 (ofL (reachL F R 4 a X) : Int) (ofL (reachL F R 3 a X) : Int)) = false := by
  rw [u64_or_nat _ _ (reach_lt64 ha.1) (reach_lt64 ha.1)]
  rw [ofL_or (reachL F R 4 a X) (reachL F R 3 a X) (reachL F R 5 a X)]
  · simp
  · intro i
    unfold reachL
    simp only [mem_pick, reachB]
    simp
    constructor
    · rintro ⟨h1, h2, h3⟩
      by_cases hs : (i : Int) % F - a % F = 0 ∨ (i : Int) / F - a / F = 0
      · exact .inl ⟨h1, ⟨h2, hs⟩, h3⟩
      · exact .inr ⟨h1, ⟨h2, by omega⟩, h3⟩
    · rintro (⟨h1, ⟨h2, _⟩, h3⟩ | ⟨h1, ⟨h2, _⟩, h3⟩) <;> exact ⟨h1, h2, h3⟩
theorem rh_apart {F R a : Int} (ha : vat F R a) (X : Nat) : (bits .and .u64 (ofL (reachL F R 4 a X) : Int) (ofL (reachL F R 3 a X) : Int) != 0) = false := by
  rw [u64_and_nat _ _ (reach_lt64 ha.1) (reach_lt64 ha.1)]
  have : ofL (reachL F R 4 a X) &&& ofL (reachL F R 3 a X) = 0 := by
    apply Nat.eq_of_testBit_eq
    intro j
    rw [Nat.testBit_and, ofL_bit, ofL_bit, Nat.zero_testBit]
    rw [Bool.eq_false_iff]
    unfold reachL
    simp only [mem_pick, reachB, ne_eq, Bool.and_eq_true, decide_eq_true_eq]
    simp
    intro h1 h2 h3 h4 _ h5
    omega
  rw [this]
  rfl
theorem rh_pawn {F R a b : Int} (ha : vat F R a) (hb : vat F R b) : (bits .and .u64 ((ofL (pawnL F R a false) : Int) / 2 ^ b.toNat) 1 == bits .and .u64 ((ofL (pawnL F R b true) : Int) / 2 ^ a.toNat) 1) = true := by
  rw [bit_at _ (pawn_lt64 ha.1), bit_at _ (pawn_lt64 hb.1), ofL_bit, ofL_bit]
  obtain ⟨h1, h2, h3⟩ := vat_bit hb
  obtain ⟨k1, k2, k3⟩ := vat_bit ha
  have e : decide (b.toNat ∈ pawnL F R a false) = decide (a.toNat ∈ pawnL F R b true) := by
    rw [Bool.eq_iff_iff]
    simp only [decide_eq_true_eq]
    unfold pawnL
    simp only [mem_pick, h1, k1, true_and, pawnB, h2, k2, fwd]
    simp
    omega
  rw [e]
  simp

end Go.Proofs.YtejlbjbmpdddkaaDoor
