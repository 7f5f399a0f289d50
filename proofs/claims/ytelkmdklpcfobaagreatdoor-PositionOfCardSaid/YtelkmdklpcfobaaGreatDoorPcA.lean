/- Plain mathematics of sets of squares as numbers: which bits a number has, and lists of squares. No program. -/
import Derived.Lib.TrailingZeros
import Derived.Laws.BitsAllLaws
import Derived.Laws.Bits64
import Derived.Test.YtelkmdklpcfobaaGreatDoorSqC
import Derived.Laws.ShiftsVar
import Derived.Lib.Hide

namespace Go.Proofs.YtelkmdklpcfobaaGreatDoor
open Go

def bitN (i : Nat) : Nat := 2 ^ i
def fullN (n : Nat) : Nat := 2 ^ n - 1
def ofL (l : List Nat) : Nat := l.foldl (fun X i => X ||| bitN i) 0
def listOf (X : Nat) : List Nat := (List.range 64).filter (fun i => X.testBit i)


theorem foldl_or (l : List Nat) (A : Nat) (j : Nat) : (l.foldl (fun X i => X ||| 2 ^ i) A).testBit j = (A.testBit j || decide (j ∈ l)) := by
  induction l generalizing A with
  | nil => simp
  | cons a l ih =>
    rw [List.foldl_cons, ih]
    rw [Nat.testBit_or, Nat.testBit_two_pow]
    by_cases h : a = j
    · subst h; simp
    · have h' : ¬ j = a := fun e => h e.symm
      simp [h, h']

theorem ofL_bit (l : List Nat) (j : Nat) : (ofL l).testBit j = decide (j ∈ l) := by
  unfold ofL bitN; rw [foldl_or]; simp

theorem ofL_snoc (l : List Nat) (i : Nat) : ofL (l ++ [i]) = ofL l ||| bitN i := by
  simp [ofL, List.foldl_append]

theorem lt_of_bits {X n : Nat} (h : ∀ j, n ≤ j → X.testBit j = false) : X < 2 ^ n := Nat.lt_pow_two_of_testBit X h

theorem bit_high {X n j : Nat} (h : X < 2 ^ n) (hj : n ≤ j) : X.testBit j = false := by
  apply Nat.testBit_lt_two_pow
  exact Nat.lt_of_lt_of_le h (Nat.pow_le_pow_right (by decide) hj)

theorem ofL_lt {l : List Nat} {n : Nat} (h : ∀ i ∈ l, i < n) : ofL l < 2 ^ n := by
  apply lt_of_bits
  intro j hj
  rw [ofL_bit]
  simp
  intro hm
  have := h j hm
  omega

/-- adding 2^i where the bit is clear is 'or'. -/
theorem add_bit {X i : Nat} (h : X.testBit i = false) : X + 2 ^ i = X ||| 2 ^ i := by
  have hd : X &&& 2 ^ i = 0 := by
    apply Nat.eq_of_testBit_eq
    intro j
    rw [Nat.testBit_and, Nat.testBit_two_pow]
    by_cases e : i = j
    · subst e; simp [h]
    · simp [e]
  have := Nat.two_pow_add_eq_or_of_lt (i := 0) (b := 0) (by decide) 0
  have key : X + 2 ^ i = (X ||| 2 ^ i) + (X &&& 2 ^ i) := by
    apply Nat.eq_of_testBit_eq
    intro j
    rw [hd, Nat.add_zero]
    -- split X at bit i
    have e1 : X = 2 ^ (i + 1) * (X / 2 ^ (i + 1)) + X % 2 ^ (i + 1) := (Nat.div_add_mod _ _).symm
    have hlow : X % 2 ^ (i + 1) < 2 ^ i := by
      apply lt_of_bits
      intro k hk
      rw [Nat.testBit_mod_two_pow]
      by_cases hki : k = i
      · subst hki; simp [h]
      · have : ¬ k < i + 1 := by omega
        simp [this]
    have e2 : X + 2 ^ i = 2 ^ (i + 1) * (X / 2 ^ (i + 1)) + (2 ^ i * 1 + X % 2 ^ (i + 1)) := by omega
    have hb : 2 ^ i * 1 + X % 2 ^ (i + 1) < 2 ^ (i + 1) := by rw [Nat.pow_succ] at hlow ⊢; omega
    rw [e2, Nat.testBit_two_pow_mul_add _ hb, Nat.testBit_or, Nat.testBit_two_pow]
    split
    · rename_i hj
      rw [Nat.testBit_two_pow_mul_add _ hlow]
      split
      · rename_i hji
        rw [Nat.testBit_mod_two_pow]
        have : ¬ i = j := by omega
        simp [hj, this]
      · have : i = j := by omega
        subst this
        simp
    · rename_i hj
      rw [Nat.testBit_div_two_pow]
      have e3 : j - (i + 1) + (i + 1) = j := by omega
      have e4 : ¬ i = j := by omega
      simp [e3, e4]
  rw [key, hd, Nat.add_zero]

theorem or_bit {X i : Nat} (h : X.testBit i = true) : X ||| 2 ^ i = X := by
  apply Nat.eq_of_testBit_eq
  intro j
  rw [Nat.testBit_or, Nat.testBit_two_pow]
  by_cases e : i = j
  · subst e; simp [h]
  · simp [e]

theorem ofL_range (n : Nat) : ofL (List.range n) = fullN n := by
  unfold fullN
  apply Nat.eq_of_testBit_eq
  intro j
  rw [ofL_bit, Nat.testBit_two_pow_sub_one]
  simp

theorem mem_listOf {X i : Nat} : i ∈ listOf X ↔ i < 64 ∧ X.testBit i = true := by simp [listOf]

theorem ofL_listOf {X : Nat} (h : X < 2 ^ 64) : ofL (listOf X) = X := by
  apply Nat.eq_of_testBit_eq
  intro j
  rw [ofL_bit]
  by_cases hj : j < 64
  · cases hb : X.testBit j
    · have : ¬ j ∈ listOf X := by rw [mem_listOf, hb]; simp
      simp [this]
    · have : j ∈ listOf X := by rw [mem_listOf]; exact ⟨hj, hb⟩
      simp [this]
  · have : ¬ j ∈ listOf X := by rw [mem_listOf]; omega
    rw [bit_high h (by omega)]; simp [this]

theorem listOf_zero : listOf 0 = [] := by simp [listOf]

theorem range_split (k : Nat) (h : k < 64) : List.range 64 = List.range k ++ k :: List.range' (k + 1) (63 - k) := by
  rw [List.range_eq_range', List.range_eq_range']
  have e : (64 : Nat) = k + (64 - k) := by omega
  conv => lhs; rw [e]
  rw [← List.range'_append_1]
  congr 1
  have e2 : 64 - k = (63 - k) + 1 := by omega
  rw [e2, List.range'_succ]
  simp

/-- the lowest bit, and what is left without it. -/
theorem ctz_bits {x : Nat} (h0 : x ≠ 0) (h : x < 2 ^ 64) : Go.Lib.ctz 64 x < 64 ∧ x.testBit (Go.Lib.ctz 64 x) = true ∧ (∀ j, j < Go.Lib.ctz 64 x → x.testBit j = false) ∧
    ∀ j, (x &&& (x - 1)).testBit j = (x.testBit j && decide (j ≠ Go.Lib.ctz 64 x)) := by
  obtain ⟨m, hm, hk⟩ := Go.Lib.ctzFrom_spec 64 x (by omega) h
  have e : Go.Lib.ctz 64 x = Go.Lib.ctzFrom 64 x := by simp [Go.Lib.ctz, h0]
  rw [e]
  generalize Go.Lib.ctzFrom 64 x = k at *
  have hx : ∀ j, x.testBit j = (decide (k ≤ j) && (2 * m + 1).testBit (j - k)) := by
    intro j; rw [hm, Nat.mul_comm, Nat.testBit_mul_two_pow]
  have hp : 0 < 2 ^ k := Nat.two_pow_pos k
  have hx1 : x - 1 = 2 ^ k * (2 * m) + (2 ^ k - 1) := by rw [hm, Nat.mul_add]; omega
  have hy : ∀ j, (x - 1).testBit j = if j < k then true else (2 * m).testBit (j - k) := by
    intro j
    rw [hx1, Nat.testBit_two_pow_mul_add _ (by omega), Nat.testBit_two_pow_sub_one]
    split <;> simp_all
  refine ⟨hk, ?_, ?_, ?_⟩
  · rw [hx]; simp
  · intro j hj
    rw [hx]
    have : ¬ k ≤ j := by omega
    simp [this]
  · intro j
    rw [Nat.testBit_and, hx, hy]
    by_cases h1 : j < k
    · have : ¬ k ≤ j := by omega
      simp [this]
    · by_cases h2 : j = k
      · subst h2; simp
      · obtain ⟨d, rfl⟩ : ∃ d, j = k + (d + 1) := ⟨j - k - 1, by omega⟩
        have e3 : k + (d + 1) - k = d + 1 := by omega
        have e4 : ¬ k + (d + 1) < k := by omega
        have e5 : k ≤ k + (d + 1) := by omega
        have d1 : (2 * m + 1) / 2 = m := by omega
        have d2 : (2 * m) / 2 = m := by omega
        simp [e3, Nat.testBit_succ, d1, d2]
        exact fun hh => Or.inr hh

theorem listOf_step {x : Nat} (h0 : x ≠ 0) (h : x < 2 ^ 64) : listOf x = Go.Lib.ctz 64 x :: listOf (x &&& (x - 1)) := by
  obtain ⟨hk, hb, hlow, hnext⟩ := ctz_bits h0 h
  generalize Go.Lib.ctz 64 x = k at *
  unfold listOf
  rw [range_split k hk, List.filter_append, List.filter_append, List.filter_cons, List.filter_cons]
  have n1 : (List.range k).filter (fun i => x.testBit i) = [] := by
    rw [List.filter_eq_nil_iff]; intro a ha; rw [List.mem_range] at ha; simp [hlow a ha]
  have n2 : (List.range k).filter (fun i => (x &&& (x - 1)).testBit i) = [] := by
    rw [List.filter_eq_nil_iff]; intro a ha; rw [List.mem_range] at ha; rw [hnext]; simp [hlow a ha]
  have n3 : (List.range' (k + 1) (63 - k)).filter (fun i => (x &&& (x - 1)).testBit i) = (List.range' (k + 1) (63 - k)).filter (fun i => x.testBit i) := by
    apply List.filter_congr
    intro a ha
    rw [List.mem_range'_1] at ha
    have : a ≠ k := by omega
    rw [hnext]; simp [this]
  rw [n1, n2, n3, hb, hnext]
  simp

theorem and_pred_lt {x : Nat} (h0 : x ≠ 0) : x &&& (x - 1) < x := by
  have := @Nat.and_le_right x (x - 1)
  omega

theorem listOf_len (x : Nat) : (listOf x).length ≤ 64 := by
  unfold listOf
  have := List.length_filter_le (fun i => x.testBit i) (List.range 64)
  simpa using this

theorem bitN_lt {i : Nat} (h : i < 64) : bitN i < 18446744073709551616 := by
  have : bitN i < 2 ^ 64 := Nat.pow_lt_pow_of_lt (by decide) h
  simpa using this

theorem pow_wrap (n : Int) (h1 : n < 64) : IntKind.u64.wrap ((2 : Int) ^ n.toNat) = ((bitN n.toNat : Nat) : Int) := by
  have h := bitN_lt (i := n.toNat) (by omega)
  have e : ((2 : Int) ^ n.toNat) = ((bitN n.toNat : Nat) : Int) := by simp [bitN]
  rw [e, IntKind.wrap_u64]
  omega

theorem full_wrap (n : Int) (h0 : 0 < n) (h1 : n ≤ 64) : IntKind.u64.wrap (IntKind.u64.wrap ((2 : Int) ^ n.toNat) - 1) = ((fullN n.toNat : Nat) : Int) := by
  have e : ((2 : Int) ^ n.toNat) = ((2 ^ n.toNat : Nat) : Int) := by simp
  have hp : 0 < 2 ^ n.toNat := Nat.two_pow_pos _
  have hle : 2 ^ n.toNat ≤ 2 ^ 64 := Nat.pow_le_pow_right (by decide) (by omega)
  rw [e, IntKind.wrap_u64, IntKind.wrap_u64]
  unfold fullN
  simp at hle
  omega

theorem shr_bit (X k : Nat) : (((X : Int) / 2 ^ k).tmod 2 == 1) = X.testBit k := by
  have e : ((X : Int) / 2 ^ k) = ((X / 2 ^ k : Nat) : Int) := by simp
  rw [e, Int.tmod_eq_emod_of_nonneg (Int.natCast_nonneg _), Nat.testBit_eq_decide_div_mod_eq]
  rw [Bool.eq_iff_iff]
  simp
  omega

theorem and_bit (X k : Nat) (hX : X < 18446744073709551616) (hk : k < 64) : (bits .and .u64 (X : Int) (bitN k : Int) != 0) = X.testBit k := by
  rw [u64_and_nat X (bitN k) hX (bitN_lt hk)]
  unfold bitN
  rw [nat_bit]
  have hp : 0 < 2 ^ k := Nat.two_pow_pos k
  rw [Nat.testBit_eq_decide_div_mod_eq, Bool.eq_iff_iff, bne_iff_ne]
  have h2 : X / 2 ^ k % 2 = 0 ∨ X / 2 ^ k % 2 = 1 := by omega
  generalize 2 ^ k = p at *
  rcases h2 with h2 | h2
  · rw [h2]; simp
  · rw [h2]; simp; omega

theorem or_bitN (X k : Nat) (hX : X < 18446744073709551616) (hk : k < 64) : bits .or .u64 (X : Int) (bitN k : Int) = ((X ||| bitN k : Nat) : Int) :=
  u64_or_nat X (bitN k) hX (bitN_lt hk)

theorem or_lt (X k : Nat) (hX : X < 18446744073709551616) (hk : k < 64) : X ||| bitN k < 18446744073709551616 := by
  have := Nat.or_lt_two_pow (n := 64) (x := X) (y := bitN k) (by simpa using hX) (by simpa using bitN_lt hk)
  simpa using this

end Go.Proofs.YtelkmdklpcfobaaGreatDoor

/- Contracts of All, Has, Distance, of their references and of what they call: which answer each gives, and that nothing that lay before is changed. -/
namespace Go.Proofs.YtelkmdklpcfobaaGreatDoor
open Go.RowKit

set_option maxRecDepth 100000 in
set_option maxHeartbeats 400000 in
theorem single_any (n : Int) (h0 : 0 ≤ n) (h1 : n < 64) (w : World) :
    Calls Tryz.prog 203 #[.int .i64 n] w fun e w' => e = .returned (.int .u64 (bitN n.toNat : Int)) ∧ w = w' := by
  have E := Lib.hid (pow_wrap n h1)
  go_enter Tryz.func203, Tryz.ntmps203
  go_wp2
  go_ret
  exact ⟨ret_int E.out, rfl⟩

set_option maxRecDepth 100000 in
set_option maxHeartbeats 400000 in
theorem refHas_in (X : Nat) (n : Int) (_hX : X < 18446744073709551616) (h0 : 0 ≤ n) (h1 : n < 64) (w : World) :
    Calls Tryz.prog 169 #[.int .u64 X, .int .i64 n] w fun e w' => e = .returned (.bool (X.testBit n.toNat)) ∧ w = w' := by
  have E := Lib.hid (shr_bit X n.toNat)
  go_enter Tryz.func169, Tryz.ntmps169
  go_wp2
  go_ret
  exact ⟨ret_bool E.out, rfl⟩

set_option maxRecDepth 100000 in
set_option maxHeartbeats 400000 in
theorem refHas_out (X : Nat) (n : Int) (h : n < 0 ∨ 64 ≤ n) (w : World) :
    Calls Tryz.prog 169 #[.int .u64 X, .int .i64 n] w fun e w' => e = .returned (.bool false) ∧ w = w' := by
  rcases h with h | h
  · go_enter Tryz.func169, Tryz.ntmps169
    go_wp2
    go_ret
    exact ⟨rfl, rfl⟩
  · have h' : 0 ≤ n := by omega
    have hd : decide (n < 64) = false := decide_eq_false (by omega)
    go_enter Tryz.func169, Tryz.ntmps169
    go_wp2
    go_ret
    exact ⟨rfl, rfl⟩

set_option maxRecDepth 100000 in
set_option maxHeartbeats 400000 in
theorem has_in (X : Nat) (n : Int) (hX : X < 18446744073709551616) (h0 : 0 ≤ n) (h1 : n < 64) (w : World) :
    Calls Tryz.prog 200 #[.int .u64 X, .int .i64 n] w fun e w' => e = .returned (.bool (X.testBit n.toNat)) ∧ w = w' := by
  have E := Lib.hid (and_bit X n.toNat hX (by omega))
  go_enter Tryz.func200, Tryz.ntmps200
  go_wp2_with fail
  refine (single_any n h0 h1 _).mono ?_
  rintro e w1 ⟨rfl, rfl⟩
  go_wp2
  go_ret
  exact ⟨ret_bool E.out, rfl⟩

set_option maxRecDepth 100000 in
set_option maxHeartbeats 400000 in
theorem has_out (X : Nat) (n : Int) (h : n < 0 ∨ 64 ≤ n) (w : World) :
    Calls Tryz.prog 200 #[.int .u64 X, .int .i64 n] w fun e w' => e = .returned (.bool false) ∧ w = w' := by
  rcases h with h | h
  · go_enter Tryz.func200, Tryz.ntmps200
    go_wp2
    go_ret
    exact ⟨rfl, rfl⟩
  · have h' : 0 ≤ n := by omega
    have hd : decide (n < 64) = false := decide_eq_false (by omega)
    go_enter Tryz.func200, Tryz.ntmps200
    go_wp2
    go_ret
    exact ⟨rfl, rfl⟩

set_option maxRecDepth 100000 in
set_option maxHeartbeats 400000 in
theorem all_yes (F R : Int) (hv : vsz F R) (w : World) :
    Calls Tryz.prog 197 #[.agg #[.int .i64 F, .int .i64 R]] w fun e w' => e = .returned (.tuple #[.int .u64 (fullN (F * R).toNat : Int), .int .i64 0]) ∧ Below w.heap.size w w' := by
  obtain ⟨m0, m1⟩ := vsz_mul hv
  have E := Lib.hid (full_wrap (F * R) (by omega) m1)
  go_enter Tryz.func197, Tryz.ntmps197
  go_wp2_with fail
  refine (validSize_yes _ _ hv _).mono ?_
  rintro e w1 ⟨rfl, hb⟩
  have hc0 := hb.cell (p := ⟨w.heap.size, 0, none⟩) (by simp)
  have hc1 := hb.cell (p := ⟨w.heap.size, 1, none⟩) (by simp)
  go_wp2
  go_ret2
  exact ⟨ret2 (vint E.out) rfl, after1 hb⟩

set_option maxRecDepth 100000 in
set_option maxHeartbeats 400000 in
theorem all_no (F R : Int) (hv : ¬ vsz F R) (w : World) :
    Calls Tryz.prog 197 #[.agg #[.int .i64 F, .int .i64 R]] w fun e w' => e = .returned (.tuple #[.int .u64 0, .int .i64 2]) ∧ Below w.heap.size w w' := by
  go_enter Tryz.func197, Tryz.ntmps197
  go_wp2_with fail
  refine (validSize_no _ _ hv _).mono ?_
  rintro e w1 ⟨rfl, hb⟩
  go_wp2
  go_ret2
  exact ⟨rfl, after1 hb⟩

set_option maxRecDepth 100000 in
set_option maxHeartbeats 400000 in
theorem refAbs_any (n : Int) (h0 : -100 ≤ n) (h1 : n ≤ 100) (w : World) :
    Calls Tryz.prog 192 #[.int .i64 n] w fun e w' => e = .returned (.int .i64 (max n (-n))) ∧ w' = w := by
  go_enter Tryz.func192, Tryz.ntmps192
  go_wp2
  all_goals
    go_ret
    exact ⟨ret_int (by omega), rfl⟩

/-- the distance of two squares. -/
def dist (F a b : Int) : Int := max (max (a % F - b % F) (b % F - a % F)) (max (a / F - b / F) (b / F - a / F))

end Go.Proofs.YtelkmdklpcfobaaGreatDoor

/- Pieces: the table of kinds as the program's text lays it, and contracts of the functions of package piece that make no memory. -/
namespace Go.Proofs.YtelkmdklpcfobaaGreatDoor
open Go.RowKit

def ltr (i : Nat) : Nat := [80, 78, 66, 82, 81, 75, 65, 67, 68, 69, 70, 71, 72, 73, 74].getD i 0
def vlu (i : Nat) : Nat := [1, 3, 3, 5, 9, 0, 0, 0, 0, 0, 0, 0, 0, 0, 0].getD i 0
def knmL (i : Nat) : List UInt8 := ([[112, 97, 119, 110], [107, 110, 105, 103, 104, 116], [98, 105, 115, 104, 111, 112], [114, 111, 111, 107], [113, 117, 101, 101, 110], [107, 105, 110, 103],
  [102, 97, 105, 114, 121, 45, 97], [102, 97, 105, 114, 121, 45, 99], [102, 97, 105, 114, 121, 45, 100], [102, 97, 105, 114, 121, 45, 101], [102, 97, 105, 114, 121, 45, 102], [102, 97, 105, 114, 121, 45, 103], [102, 97, 105, 114, 121, 45, 104], [102, 97, 105, 114, 121, 45, 105], [102, 97, 105, 114, 121, 45, 106]] : List (List UInt8)).getD i []
def knm (i : Nat) : ByteArray := ⟨(knmL i).toArray⟩

/-- the table of kinds. -/
def Kinds (w : World) : Prop := 1 + 1 ≤ w.heap.size ∧ ∀ i, i < 15 →
  w.cell? ⟨1, i * 3, none⟩ = some (.int .u8 (ltr i)) ∧ w.cell? ⟨1, i * 3 + 1, none⟩ = some (.int .i64 (vlu i)) ∧ w.cell? ⟨1, i * 3 + 2, none⟩ = some (.string (knm i))
theorem Kinds.below {w w' : World} {B : Nat} (h : Kinds w) (hb : Below B w w') (hB : 1 + 1 ≤ B) : Kinds w' :=
  ⟨Nat.le_trans h.1 hb.size, fun i hi => ⟨(hb.cell (by simp; omega)).trans (h.2 i hi).1, (hb.cell (by simp; omega)).trans (h.2 i hi).2.1, (hb.cell (by simp; omega)).trans (h.2 i hi).2.2⟩⟩

theorem ltr_bd : ∀ i, i < 15 → 65 ≤ ltr i ∧ ltr i ≤ 90 := by decide +kernel
def okP (p : Int) : Prop := -15 ≤ p ∧ p ≤ 15

set_option maxRecDepth 100000 in
set_option maxHeartbeats 400000 in
theorem pValid_yes (p : Int) (h : okP p) (w : World) :
    Calls Tryz.prog 116 #[.int .i8 p] w fun e w' => e = .returned (.bool true) ∧ w = w' := by
  obtain ⟨h0, h1⟩ := h
  go_enter Tryz.func116, Tryz.ntmps116
  go_wp2
  go_ret
  exact ⟨rfl, rfl⟩

set_option maxRecDepth 100000 in
set_option maxHeartbeats 400000 in
theorem pValid_no (p : Int) (h : ¬ okP p) (w : World) :
    Calls Tryz.prog 116 #[.int .i8 p] w fun e w' => e = .returned (.bool false) ∧ w = w' := by
  by_cases h0 : -15 ≤ p
  · have hd : decide (p ≤ 15) = false := decide_eq_false fun h1 => h ⟨h0, h1⟩
    clear h
    go_enter Tryz.func116, Tryz.ntmps116
    go_wp2
    go_ret
    exact ⟨rfl, rfl⟩
  · have hd : decide (-15 ≤ p) = false := decide_eq_false h0
    clear h
    go_enter Tryz.func116, Tryz.ntmps116
    go_wp2
    go_ret
    exact ⟨rfl, rfl⟩

set_option maxRecDepth 100000 in
set_option maxHeartbeats 400000 in
theorem mag_pos (i : Nat) (hi : i ≤ 15) (w : World) :
    Calls Tryz.prog 150 #[.int .i8 (i : Int)] w fun e w' => e = .returned (.int .i8 (i : Int)) ∧ w = w' := by
  go_enter Tryz.func150, Tryz.ntmps150
  go_wp2
  all_goals
    go_ret
    exact ⟨ret_int (by omega), rfl⟩

set_option maxRecDepth 100000 in
set_option maxHeartbeats 400000 in
theorem mag_neg (i : Nat) (hi : i ≤ 15) (w : World) :
    Calls Tryz.prog 150 #[.int .i8 (-(i : Int))] w fun e w' => e = .returned (.int .i8 (i : Int)) ∧ w = w' := by
  go_enter Tryz.func150, Tryz.ntmps150
  go_wp2
  all_goals
    go_ret
    exact ⟨ret_int (by omega), rfl⟩

set_option maxRecDepth 100000 in
set_option maxHeartbeats 400000 in
theorem small_any (c : Nat) (h0 : 65 ≤ c) (h1 : c ≤ 90) (w : World) :
    Calls Tryz.prog 151 #[.int .u8 (c : Int)] w fun e w' => e = .returned (.int .u8 ((c + 32 : Nat) : Int)) ∧ w = w' := by
  go_enter Tryz.func151, Tryz.ntmps151
  go_wp2
  go_ret
  exact ⟨ret_int (by omega), rfl⟩

set_option maxRecDepth 100000 in
set_option maxHeartbeats 400000 in
theorem letter_pos (i : Nat) (h0 : 1 ≤ i) (h1 : i ≤ 15) (w : World) (hK : Kinds w) :
    Calls Tryz.prog 118 #[.int .i8 (i : Int)] w fun e w' => e = .returned (.tuple #[.int .u8 (ltr (i - 1)), .int .i64 0]) ∧ w = w' := by
  have hz : (((i : Int)) == 0) = false := beq_eq_false_iff_ne.2 (by omega)
  have hn : decide ((i : Int) < 0) = false := decide_eq_false (by omega)
  have hc := (hK.2 (i - 1) (by omega)).1
  go_enter Tryz.func118, Tryz.ntmps118
  go_wp2_with fail
  refine (pValid_yes (i : Int) ⟨by omega, by omega⟩ _).mono ?_
  rintro e w1 ⟨rfl, rfl⟩
  go_wp2_with fail
  refine (mag_pos i h1 _).mono ?_
  rintro e w2 ⟨rfl, rfl⟩
  go_wp2
  go_ret2
  exact ⟨rfl, rfl⟩

set_option maxRecDepth 100000 in
set_option maxHeartbeats 400000 in
theorem letter_neg (i : Nat) (h0 : 1 ≤ i) (h1 : i ≤ 15) (w : World) (hK : Kinds w) :
    Calls Tryz.prog 118 #[.int .i8 (-(i : Int))] w fun e w' => e = .returned (.tuple #[.int .u8 ((ltr (i - 1) + 32 : Nat) : Int), .int .i64 0]) ∧ w = w' := by
  have hz : (-(i : Int) == 0) = false := beq_eq_false_iff_ne.2 (by omega)
  have hn : -(i : Int) < 0 := by omega
  have hc := (hK.2 (i - 1) (by omega)).1
  obtain ⟨b0, b1⟩ := ltr_bd (i - 1) (by omega)
  go_enter Tryz.func118, Tryz.ntmps118
  go_wp2_with fail
  refine (pValid_yes (-(i : Int)) ⟨by omega, by omega⟩ _).mono ?_
  rintro e w1 ⟨rfl, rfl⟩
  go_wp2_with fail
  refine (mag_neg i h1 _).mono ?_
  rintro e w2 ⟨rfl, rfl⟩
  go_wp2_with fail
  refine (small_any (ltr (i - 1)) b0 b1 _).mono ?_
  rintro e w3 ⟨rfl, rfl⟩
  go_wp2
  go_ret2
  exact ⟨rfl, rfl⟩

set_option maxRecDepth 100000 in
set_option maxHeartbeats 400000 in
theorem letter_no (p : Int) (h : p = 0 ∨ ¬ okP p) (w : World) :
    Calls Tryz.prog 118 #[.int .i8 p] w fun e w' => e = .returned (.tuple #[.int .u8 0, .int .i64 2]) ∧ w = w' := by
  by_cases hz : p = 0
  · subst hz
    clear h
    go_enter Tryz.func118, Tryz.ntmps118
    go_wp2
    go_ret2
    exact ⟨rfl, rfl⟩
  · have hp : ¬ okP p := h.resolve_left hz
    have hd : (p == 0) = false := beq_eq_false_iff_ne.2 hz
    clear h
    go_enter Tryz.func118, Tryz.ntmps118
    go_wp2_with fail
    refine (pValid_no p hp _).mono ?_
    rintro e w1 ⟨rfl, rfl⟩
    go_wp2
    go_ret2
    exact ⟨rfl, rfl⟩

end Go.Proofs.YtelkmdklpcfobaaGreatDoor
