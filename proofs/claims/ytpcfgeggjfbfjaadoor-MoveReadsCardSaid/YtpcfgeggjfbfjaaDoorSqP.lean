/- Plain mathematics of sets of squares as numbers: which bits a number has, and lists of squares. No program. -/
import Derived.Lib.TrailingZeros
import Derived.Laws.BitsAllLaws
import Derived.Laws.Bits64
namespace Go.Proofs.YtpcfgeggjfbfjaaDoor
open Go

def bitN (i : Nat) : Nat := 2 ^ i
def fullN (n : Nat) : Nat := 2 ^ n - 1
def ofL (l : List Nat) : Nat := l.foldl (fun X i => X ||| bitN i) 0
def listOf (X : Nat) : List Nat := (List.range 64).filter (fun i => X.testBit i)


theorem foldl_or (l : List Nat) (A : Nat) (j : Nat) : (l.foldl (fun X i => X ||| 2 ^ i) A).testBit j = (A.testBit j || decide (j ∈ l)) := by
  induction l generalizing A with
  | nil => simp
  | cons a l ih =>
    rw [List.foldl_cons, ih]
    rw [Nat.testBit_or, Nat.testBit_two_pow]
    by_cases h : a = j
    · subst h; simp
    · have h' : ¬ j = a := fun e => h e.symm
      simp [h, h']

theorem ofL_bit (l : List Nat) (j : Nat) : (ofL l).testBit j = decide (j ∈ l) := by
  unfold ofL bitN; rw [foldl_or]; simp

theorem ofL_snoc (l : List Nat) (i : Nat) : ofL (l ++ [i]) = ofL l ||| bitN i := by
  simp [ofL, List.foldl_append]

theorem lt_of_bits {X n : Nat} (h : ∀ j, n ≤ j → X.testBit j = false) : X < 2 ^ n := Nat.lt_pow_two_of_testBit X h

theorem bit_high {X n j : Nat} (h : X < 2 ^ n) (hj : n ≤ j) : X.testBit j = false := by
  apply Nat.testBit_lt_two_pow
  exact Nat.lt_of_lt_of_le h (Nat.pow_le_pow_right (by decide) hj)

theorem ofL_lt {l : List Nat} {n : Nat} (h : ∀ i ∈ l, i < n) : ofL l < 2 ^ n := by
  apply lt_of_bits
  intro j hj
  rw [ofL_bit]
  simp
  intro hm
  have := h j hm
  omega

/-- adding 2^i where the bit is clear is 'or'. -/
theorem add_bit {X i : Nat} (h : X.testBit i = false) : X + 2 ^ i = X ||| 2 ^ i := by
  have hd : X &&& 2 ^ i = 0 := by
    apply Nat.eq_of_testBit_eq
    intro j
    rw [Nat.testBit_and, Nat.testBit_two_pow]
    by_cases e : i = j
    · subst e; simp [h]
    · simp [e]
  have := Nat.two_pow_add_eq_or_of_lt (i := 0) (b := 0) (by decide) 0
  have key : X + 2 ^ i = (X ||| 2 ^ i) + (X &&& 2 ^ i) := by
    apply Nat.eq_of_testBit_eq
    intro j
    rw [hd, Nat.add_zero]
    -- split X at bit i
    have e1 : X = 2 ^ (i + 1) * (X / 2 ^ (i + 1)) + X % 2 ^ (i + 1) := (Nat.div_add_mod _ _).symm
    have hlow : X % 2 ^ (i + 1) < 2 ^ i := by
      apply lt_of_bits
      intro k hk
      rw [Nat.testBit_mod_two_pow]
      by_cases hki : k = i
      · subst hki; simp [h]
      · have : ¬ k < i + 1 := by omega
        simp [this]
    have e2 : X + 2 ^ i = 2 ^ (i + 1) * (X / 2 ^ (i + 1)) + (2 ^ i * 1 + X % 2 ^ (i + 1)) := by omega
    have hb : 2 ^ i * 1 + X % 2 ^ (i + 1) < 2 ^ (i + 1) := by rw [Nat.pow_succ] at hlow ⊢; omega
    rw [e2, Nat.testBit_two_pow_mul_add _ hb, Nat.testBit_or, Nat.testBit_two_pow]
    split
    · rename_i hj
      rw [Nat.testBit_two_pow_mul_add _ hlow]
      split
      · rename_i hji
        rw [Nat.testBit_mod_two_pow]
        have : ¬ i = j := by omega
        simp [hj, this]
      · have : i = j := by omega
        subst this
        simp
    · rename_i hj
      rw [Nat.testBit_div_two_pow]
      have e3 : j - (i + 1) + (i + 1) = j := by omega
      have e4 : ¬ i = j := by omega
      simp [e3, e4]
  rw [key, hd, Nat.add_zero]

theorem or_bit {X i : Nat} (h : X.testBit i = true) : X ||| 2 ^ i = X := by
  apply Nat.eq_of_testBit_eq
  intro j
  rw [Nat.testBit_or, Nat.testBit_two_pow]
  by_cases e : i = j
  · subst e; simp [h]
  · simp [e]

theorem ofL_range (n : Nat) : ofL (List.range n) = fullN n := by
  unfold fullN
  apply Nat.eq_of_testBit_eq
  intro j
  rw [ofL_bit, Nat.testBit_two_pow_sub_one]
  simp

theorem mem_listOf {X i : Nat} : i ∈ listOf X ↔ i < 64 ∧ X.testBit i = true := by simp [listOf]

theorem ofL_listOf {X : Nat} (h : X < 2 ^ 64) : ofL (listOf X) = X := by
  apply Nat.eq_of_testBit_eq
  intro j
  rw [ofL_bit]
  by_cases hj : j < 64
  · cases hb : X.testBit j
    · have : ¬ j ∈ listOf X := by rw [mem_listOf, hb]; simp
      simp [this]
    · have : j ∈ listOf X := by rw [mem_listOf]; exact ⟨hj, hb⟩
      simp [this]
  · have : ¬ j ∈ listOf X := by rw [mem_listOf]; omega
    rw [bit_high h (by omega)]; simp [this]

theorem listOf_zero : listOf 0 = [] := by simp [listOf]

theorem range_split (k : Nat) (h : k < 64) : List.range 64 = List.range k ++ k :: List.range' (k + 1) (63 - k) := by
  rw [List.range_eq_range', List.range_eq_range']
  have e : (64 : Nat) = k + (64 - k) := by omega
  conv => lhs; rw [e]
  rw [← List.range'_append_1]
  congr 1
  have e2 : 64 - k = (63 - k) + 1 := by omega
  rw [e2, List.range'_succ]
  simp

/-- the lowest bit, and what is left without it. -/
theorem ctz_bits {x : Nat} (h0 : x ≠ 0) (h : x < 2 ^ 64) : Go.Lib.ctz 64 x < 64 ∧ x.testBit (Go.Lib.ctz 64 x) = true ∧ (∀ j, j < Go.Lib.ctz 64 x → x.testBit j = false) ∧
    ∀ j, (x &&& (x - 1)).testBit j = (x.testBit j && decide (j ≠ Go.Lib.ctz 64 x)) := by
  obtain ⟨m, hm, hk⟩ := Go.Lib.ctzFrom_spec 64 x (by omega) h
  have e : Go.Lib.ctz 64 x = Go.Lib.ctzFrom 64 x := by simp [Go.Lib.ctz, h0]
  rw [e]
  generalize Go.Lib.ctzFrom 64 x = k at *
  have hx : ∀ j, x.testBit j = (decide (k ≤ j) && (2 * m + 1).testBit (j - k)) := by
    intro j; rw [hm, Nat.mul_comm, Nat.testBit_mul_two_pow]
  have hp : 0 < 2 ^ k := Nat.two_pow_pos k
  have hx1 : x - 1 = 2 ^ k * (2 * m) + (2 ^ k - 1) := by rw [hm, Nat.mul_add]; omega
  have hy : ∀ j, (x - 1).testBit j = if j < k then true else (2 * m).testBit (j - k) := by
    intro j
    rw [hx1, Nat.testBit_two_pow_mul_add _ (by omega), Nat.testBit_two_pow_sub_one]
    split <;> simp_all
  refine ⟨hk, ?_, ?_, ?_⟩
  · rw [hx]; simp
  · intro j hj
    rw [hx]
    have : ¬ k ≤ j := by omega
    simp [this]
  · intro j
    rw [Nat.testBit_and, hx, hy]
    by_cases h1 : j < k
    · have : ¬ k ≤ j := by omega
      simp [this]
    · by_cases h2 : j = k
      · subst h2; simp
      · obtain ⟨d, rfl⟩ : ∃ d, j = k + (d + 1) := ⟨j - k - 1, by omega⟩
        have e3 : k + (d + 1) - k = d + 1 := by omega
        have e4 : ¬ k + (d + 1) < k := by omega
        have e5 : k ≤ k + (d + 1) := by omega
        have d1 : (2 * m + 1) / 2 = m := by omega
        have d2 : (2 * m) / 2 = m := by omega
        simp [e3, Nat.testBit_succ, d1, d2]
        exact fun hh => Or.inr hh

theorem listOf_step {x : Nat} (h0 : x ≠ 0) (h : x < 2 ^ 64) : listOf x = Go.Lib.ctz 64 x :: listOf (x &&& (x - 1)) := by
  obtain ⟨hk, hb, hlow, hnext⟩ := ctz_bits h0 h
  generalize Go.Lib.ctz 64 x = k at *
  unfold listOf
  rw [range_split k hk, List.filter_append, List.filter_append, List.filter_cons, List.filter_cons]
  have n1 : (List.range k).filter (fun i => x.testBit i) = [] := by
    rw [List.filter_eq_nil_iff]; intro a ha; rw [List.mem_range] at ha; simp [hlow a ha]
  have n2 : (List.range k).filter (fun i => (x &&& (x - 1)).testBit i) = [] := by
    rw [List.filter_eq_nil_iff]; intro a ha; rw [List.mem_range] at ha; rw [hnext]; simp [hlow a ha]
  have n3 : (List.range' (k + 1) (63 - k)).filter (fun i => (x &&& (x - 1)).testBit i) = (List.range' (k + 1) (63 - k)).filter (fun i => x.testBit i) := by
    apply List.filter_congr
    intro a ha
    rw [List.mem_range'_1] at ha
    have : a ≠ k := by omega
    rw [hnext]; simp [this]
  rw [n1, n2, n3, hb, hnext]
  simp

theorem and_pred_lt {x : Nat} (h0 : x ≠ 0) : x &&& (x - 1) < x := by
  have := @Nat.and_le_right x (x - 1)
  omega

theorem listOf_len (x : Nat) : (listOf x).length ≤ 64 := by
  unfold listOf
  have := List.length_filter_le (fun i => x.testBit i) (List.range 64)
  simpa using this

theorem bitN_lt {i : Nat} (h : i < 64) : bitN i < 18446744073709551616 := by
  have : bitN i < 2 ^ 64 := Nat.pow_lt_pow_of_lt (by decide) h
  simpa using this

theorem pow_wrap (n : Int) (h1 : n < 64) : IntKind.u64.wrap ((2 : Int) ^ n.toNat) = ((bitN n.toNat : Nat) : Int) := by
  have h := bitN_lt (i := n.toNat) (by omega)
  have e : ((2 : Int) ^ n.toNat) = ((bitN n.toNat : Nat) : Int) := by simp [bitN]
  rw [e, IntKind.wrap_u64]
  omega

theorem full_wrap (n : Int) (h0 : 0 < n) (h1 : n ≤ 64) : IntKind.u64.wrap (IntKind.u64.wrap ((2 : Int) ^ n.toNat) - 1) = ((fullN n.toNat : Nat) : Int) := by
  have e : ((2 : Int) ^ n.toNat) = ((2 ^ n.toNat : Nat) : Int) := by simp
  have hp : 0 < 2 ^ n.toNat := Nat.two_pow_pos _
  have hle : 2 ^ n.toNat ≤ 2 ^ 64 := Nat.pow_le_pow_right (by decide) (by omega)
  rw [e, IntKind.wrap_u64, IntKind.wrap_u64]
  unfold fullN
  simp at hle
  omega

theorem shr_bit (X k : Nat) : (((X : Int) / 2 ^ k).tmod 2 == 1) = X.testBit k := by
  have e : ((X : Int) / 2 ^ k) = ((X / 2 ^ k : Nat) : Int) := by simp
  rw [e, Int.tmod_eq_emod_of_nonneg (Int.natCast_nonneg _), Nat.testBit_eq_decide_div_mod_eq]
  rw [Bool.eq_iff_iff]
  simp
  omega

theorem and_bit (X k : Nat) (hX : X < 18446744073709551616) (hk : k < 64) : (bits .and .u64 (X : Int) (bitN k : Int) != 0) = X.testBit k := by
  rw [u64_and_nat X (bitN k) hX (bitN_lt hk)]
  unfold bitN
  rw [nat_bit]
  have hp : 0 < 2 ^ k := Nat.two_pow_pos k
  rw [Nat.testBit_eq_decide_div_mod_eq, Bool.eq_iff_iff, bne_iff_ne]
  have h2 : X / 2 ^ k % 2 = 0 ∨ X / 2 ^ k % 2 = 1 := by omega
  generalize 2 ^ k = p at *
  rcases h2 with h2 | h2
  · rw [h2]; simp
  · rw [h2]; simp; omega

theorem or_bitN (X k : Nat) (hX : X < 18446744073709551616) (hk : k < 64) : bits .or .u64 (X : Int) (bitN k : Int) = ((X ||| bitN k : Nat) : Int) :=
  u64_or_nat X (bitN k) hX (bitN_lt hk)

theorem or_lt (X k : Nat) (hX : X < 18446744073709551616) (hk : k < 64) : X ||| bitN k < 18446744073709551616 := by
  have := Nat.or_lt_two_pow (n := 64) (x := X) (y := bitN k) (by simpa using hX) (by simpa using bitN_lt hk)
  simpa using this

end Go.Proofs.YtpcfgeggjfbfjaaDoor
