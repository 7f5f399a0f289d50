/- Sets of the squares of pieces: what a piece that is put changes, and how both sides and the empty squares are all. A text that is read back, and texts that are read. -/
import Derived.Test.YtolohfkenglpcaaDoorBkD
namespace Go.Proofs.YtolohfkenglpcaaDoor
open Go.RowKit

theorem setP_bit (P : Int → Bool) (l : List Int) (j : Nat) : (setP P l).testBit j = (decide (j < l.length) && P (l[j]?.getD 0)) := by
  unfold setP
  rw [ofL_bit]
  unfold idx idxTo
  rw [Bool.eq_iff_iff]
  simp
theorem setP_lt (P : Int → Bool) {l : List Int} (h : l.length ≤ 64) : setP P l < 18446744073709551616 := by
  have : setP P l < 2 ^ 64 := lt_of_bits (fun j hj => by
    rw [setP_bit]
    have : ¬ j < l.length := by omega
    simp [this])
  simpa using this
theorem set_at (l : List Int) (n j : Nat) (p : Int) (hn : n < l.length) : (l.set n p)[j]?.getD 0 = if j = n then p else l[j]?.getD 0 := by
  by_cases h : j = n
  · subst h
    simp [hn]
  · rw [if_neg h, List.getElem?_set_ne (by omega)]
theorem andNot_bitB (X Z j : Nat) (hX : X < 18446744073709551616) (hZ : Z < 18446744073709551616) : (X &&& (18446744073709551615 - Z)).testBit j = (X.testBit j && !Z.testBit j) := by
  have e : 18446744073709551615 - Z = 2 ^ 64 - (Z + 1) := by omega
  rw [e, Nat.testBit_and, Nat.testBit_two_pow_sub_succ (by simpa using hZ)]
  by_cases h : j < 64
  · simp [h]
  · have := bit_high (X := X) (n := 64) (j := j) (by simpa using hX) (by omega)
    simp [this]
/-- all but the square is as it was. -/
theorem put_rest (q p : Int) (l : List Int) (n : Nat) (hn : n < l.length) (hl : l.length ≤ 64) :
    bits .andNot .u64 (setP (eqP q) (l.set n p) : Int) (bitN n : Int) = bits .andNot .u64 (setP (eqP q) l : Int) (bitN n : Int) := by
  have h1 := setP_lt (eqP q) (l := l.set n p) (by rw [List.length_set]; exact hl)
  have h2 := setP_lt (eqP q) hl
  have h3 : bitN n < 18446744073709551616 := bitN_lt (by omega)
  rw [u64_andNot_nat _ _ h1 h3, u64_andNot_nat _ _ h2 h3]
  congr 1
  apply Nat.eq_of_testBit_eq
  intro j
  rw [andNot_bitB _ _ _ h1 h3, andNot_bitB _ _ _ h2 h3, setP_bit, setP_bit, List.length_set, set_at l n j p hn]
  unfold bitN
  rw [Nat.testBit_two_pow]
  by_cases hj : j = n
  · subst hj; simp
  · rw [if_neg hj]
/-- the piece is found there, just if it is that one. -/
theorem put_here (q p : Int) (l : List Int) (n : Nat) (hn : n < l.length) (hl : l.length ≤ 64) (t : Bool) (ht : t = true ↔ p = q) :
    (bits .and .u64 (setP (eqP q) (l.set n p) : Int) (bitN n : Int) != 0) = t := by
  have h1 := setP_lt (eqP q) (l := l.set n p) (by rw [List.length_set]; exact hl)
  rw [and_bit _ n h1 (by omega), setP_bit, List.length_set, set_at l n n p hn, if_pos rfl]
  unfold eqP
  rw [Bool.eq_iff_iff, ht]
  simp [hn]
theorem and_none {P Q : Int → Bool} {l : List Int} (hl : l.length ≤ 64) (h : ∀ x, P x = true → Q x = true → False) : (bits .and .u64 (setP P l : Int) (setP Q l : Int) == 0) = true := by
  rw [u64_and_nat _ _ (setP_lt P hl) (setP_lt Q hl)]
  have : setP P l &&& setP Q l = 0 := by
    apply Nat.eq_of_testBit_eq
    intro j
    rw [Nat.testBit_and, setP_bit, setP_bit]
    cases hp : P (l[j]?.getD 0) <;> cases hq : Q (l[j]?.getD 0) <;> simp
    exact (h _ hp hq).elim
  rw [this]
  rfl
theorem sd_or (x : Int) : (sdP 1 x || sdP (-1) x || eqP 0 x) = true := by
  unfold sdP sgnP eqP
  by_cases h : x < 0
  · simp [h]
  · by_cases h2 : 0 < x
    · simp [h, h2]
    · have : x = 0 := by omega
      subst this
      rfl
theorem sd_wb (x : Int) (h1 : sdP 1 x = true) (h2 : sdP (-1) x = true) : False := by
  unfold sdP at h1 h2
  simp at h1 h2
  omega
theorem sd_zero (s x : Int) (hs : s ≠ 0) (h1 : sdP s x = true) (h2 : eqP 0 x = true) : False := by
  unfold sdP at h1
  unfold eqP at h2
  simp at h1 h2
  subst h2
  exact hs h1.symm
/-- all squares. -/
theorem or_all (l : List Int) (hl : l.length ≤ 64) :
    bits .or .u64 (bits .or .u64 (setP (sdP 1) l : Int) (setP (sdP (-1)) l : Int)) (setP (eqP 0) l : Int) = (fullN l.length : Int) := by
  have h1 := setP_lt (sdP 1) hl
  have h2 := setP_lt (sdP (-1)) hl
  have h3 := setP_lt (eqP 0) hl
  have h12 : setP (sdP 1) l ||| setP (sdP (-1)) l < 18446744073709551616 := by
    have := Nat.or_lt_two_pow (n := 64) (x := setP (sdP 1) l) (y := setP (sdP (-1)) l) (by simpa using h1) (by simpa using h2)
    simpa using this
  rw [u64_or_nat _ _ h1 h2, u64_or_nat _ _ h12 h3]
  congr 1
  rw [← ofL_range]
  apply Nat.eq_of_testBit_eq
  intro j
  rw [ofL_bit, Nat.testBit_or, Nat.testBit_or, setP_bit, setP_bit, setP_bit, Bool.eq_iff_iff]
  have := sd_or (l[j]?.getD 0)
  by_cases hj : j < l.length
  · simp [hj] at this ⊢
    exact this
  · simp [hj]
theorem okP_q {l : List Int} {n : Nat} {p : Int} (hok : ∀ j, j < l.length → okP (l[j]?.getD 0)) (hp : okP p) (hn : n < l.length) : ∀ j, j < (l.set n p).length → okP ((l.set n p)[j]?.getD 0) := by
  intro j hj
  rw [List.length_set] at hj
  rw [set_at l n j p hn]
  by_cases h : j = n
  · rw [if_pos h]; exact hp
  · rw [if_neg h]; exact hok j hj
theorem vbd_set {F R : Int} {l : List Int} {n : Nat} {p : Int} (h : vbd F R l) (hp : okP p) (hn : n < l.length) : vbd F R (l.set n p) :=
  ⟨h.1, by rw [List.length_set]; exact h.2.1, okP_q h.2.2 hp hn⟩

/-! texts that are read back -/
theorem bsL_back (L : List UInt8) : (bsL L).data.toList = L := by simp [bsL]
theorem okRow_at {l : List Int} : okRow l ↔ ∀ j, j < l.length → okP (l[j]?.getD 0) := by
  constructor
  · intro h j hj
    rw [List.getElem?_eq_getElem hj]
    exact h _ (List.getElem_mem hj)
  · intro h x hx
    obtain ⟨j, hj, rfl⟩ := List.mem_iff_getElem.1 hx
    have := h j hj
    rw [List.getElem?_eq_getElem hj] at this
    exact this
theorem textB_size {f r : Nat} (hf : f ≤ 8) (hr : r ≤ 8) (l : List Int) : (textB f r l).size ≤ 200 := by
  have h := accT_bd f r l r
  have h2 : r * (2 * f + 2) ≤ 8 * (2 * 8 + 2) := Nat.mul_le_mul hr (by omega)
  have : (textB f r l).size = (accT f r l r).length := by
    unfold textB
    have := congrArg List.length (bsL_back (accT f r l r))
    rw [Array.length_toList] at this
    exact this
  omega
/-- the text of a valid board is read as this board. -/
theorem parse_back (F R : Int) (l : List Int) (t : ByteArray) (ht : t = textB F.toNat R.toNat l) (hv : vbd F R l) (w : World) (hK : Kinds w) :
    Calls Tryd.prog 33 #[.string t] w fun e w' => ∃ v, e = .returned (.tuple #[.agg #[.int .i64 F, .int .i64 R, v], .int .i64 0]) ∧ w'.ownsRow w.heap.size 32 1 v l.length (vpcs l) ∧ Below w.heap.size w w' := by
  obtain ⟨f, r, rfl, rfl, f3, f8, r3, r8, hl⟩ := vbd_nat hv
  simp only [Int.toNat_natCast] at ht
  subst ht
  have hp : parseB (textB f r l).data.toList = some (f, r, l) := by
    unfold textB
    rw [bsL_back]
    exact parse_text f3 f8 r3 r8 hl (okRow_at.2 hv.2.2)
  refine (parse_any' (textB f r l) w (textB_size f8 r8 l) hK).mono fun e w' h => ?_
  rw [hp] at h
  exact h
/-- what is read is valid, and the text of its board. -/
theorem read_back {s : ByteArray} {f r : Nat} {ps : List Int} (h : parseB s.data.toList = some (f, r, ps)) : vbd f r ps ∧ textB f r ps = s := by
  obtain ⟨f3, f8, r3, r8, hl, hok, ha⟩ := text_parse h
  refine ⟨⟨⟨by omega, by omega, by omega, by omega⟩, ?_, okRow_at.1 hok⟩, ?_⟩
  · rw [hl, Nat.mul_comm]; simp
  · unfold textB
    rw [ha]
    simp [bsL]
theorem text_of_read (f r : Nat) (ps : List Int) (s : ByteArray) (hp : parseB s.data.toList = some (f, r, ps)) (A : Option Addr) (c : Nat) (w : World) (hcap : ps.length ≤ c) (hA : RdP w w.heap.size A ps c) (hK : Kinds w) :
    Calls Tryd.prog 31 #[.agg #[.int .i64 (f : Int), .int .i64 (r : Int), .slice A ps.length c]] w fun e w' => e = .returned (.tuple #[.string s, .int .i64 0]) ∧ Below w.heap.size w w' := by
  obtain ⟨hv, ht⟩ := read_back hp
  have h := text_yes f r ps A c w hv hcap hA hK
  rw [ht] at h
  exact h
theorem text_as (F R : Int) (l : List Int) (t : ByteArray) (ht : t = textB F.toNat R.toNat l) (A : Option Addr) (c : Nat) (w : World) (hv : vbd F R l) (hcap : l.length ≤ c) (hA : RdP w w.heap.size A l c) (hK : Kinds w) :
    Calls Tryd.prog 31 #[.agg #[.int .i64 F, .int .i64 R, .slice A l.length c]] w fun e w' => e = .returned (.tuple #[.string t, .int .i64 0]) ∧ Below w.heap.size w w' := by
  subst ht
  exact text_yes' F R l A c w hv hcap hA hK
theorem find_as' (F R : Int) (l : List Int) (A : Option Addr) (c : Nat) (p : Int) (X : Nat) (hX : X = setP (eqP p) l) (w : World) (hv : vbd F R l) (hp : okP p) (hA : RdP w w.heap.size A l c) :
    Calls Tryd.prog 24 #[.agg #[.int .i64 F, .int .i64 R, .slice A l.length c], .int .i8 p] w fun e w' => e = .returned (.tuple #[.int .u64 (X : Int), .int .i64 0]) ∧ Below w.heap.size w w' := by
  subst hX
  exact find_yes F R l A c p w hv hp hA
theorem sides_as (F R : Int) (l : List Int) (A : Option Addr) (c : Nat) (X Y : Nat) (hX : X = setP (sdP 1) l) (hY : Y = setP (sdP (-1)) l) (w : World) (hv : vbd F R l) (hA : RdP w w.heap.size A l c) :
    Calls Tryd.prog 25 #[.agg #[.int .i64 F, .int .i64 R, .slice A l.length c]] w fun e w' => e = .returned (.tuple #[.int .u64 (X : Int), .int .u64 (Y : Int), .int .i64 0]) ∧ Below w.heap.size w w' := by
  subst hX hY
  exact sides_yes F R l A c w hv hA

end Go.Proofs.YtolohfkenglpcaaDoor
