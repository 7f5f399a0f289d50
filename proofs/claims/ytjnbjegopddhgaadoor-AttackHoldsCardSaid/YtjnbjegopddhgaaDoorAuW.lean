/- Plain mathematics of pins: what the program says of them is what the document's own functions say. -/
import Derived.Test.YtjnbjegopddhgaaDoorAuP
import Derived.Test.YtjnbjegopddhgaaDoorAtM
import Derived.Test.YtjnbjegopddhgaaDoorAuV

namespace Go.Proofs.YtjnbjegopddhgaaDoor
open Go.RowKit

theorem bitN_bit {n j : Nat} : (bitN n).testBit j = decide (n = j) := by unfold bitN; exact Nat.testBit_two_pow
theorem lessX_bit {X Y j : Nat} (hX : X < 2 ^ 64) : (lessX X Y).testBit j = (X.testBit j && !Y.testBit j) ∨ 2 ^ 64 ≤ Y := by
  by_cases hY : 2 ^ 64 ≤ Y
  · exact .inr hY
  · left
    unfold lessX
    rw [Nat.testBit_and]
    have e : 18446744073709551615 - Y = 2 ^ 64 - (Y + 1) := by omega
    rw [e, Nat.testBit_two_pow_sub_succ (by omega)]
    by_cases hj : j < 64
    · simp [hj]
    · rw [Nat.testBit_lt_two_pow (Nat.lt_of_lt_of_le hX (Nat.pow_le_pow_right (by omega) (by omega)))]
      simp
theorem cnt_one {X : Nat} (hX : X < 2 ^ 64) (h : cntB 64 X = 1) : ∃ n, X = bitN n := by
  have h2 : (listOf X).length = 1 := h
  match hz : listOf X, h2 with
  | [n], _ =>
    refine ⟨n, ?_⟩
    rw [← ofL_listOf hX, hz]
    simp [ofL]
theorem bit_cnt {n : Nat} (hn : n < 64) : cntB 64 (bitN n) = 1 := by
  have h := many_one (X := 0) (Y := bitN n) hn (fun j => by rw [bitN_bit, Nat.zero_testBit, Bool.false_or, Bool.eq_iff_iff, decide_eq_true_eq, beq_iff_eq]; exact eq_comm) (Nat.zero_testBit _)
  rw [listOf_zero] at h
  exact h
theorem bet_in {F R a b : Int} (hv : vsz F R) {j : Nat} (h : j ∈ betL F R a b) : (j : Int) < F * R := rayL_lt hv j (befL_mem j h)

section
variable {F R k : Int} {l : List Int} {bl : Bool}
theorem only_bit {i j : Nat} : (onlyX F R l k i).testBit j = true ↔ j ∈ betL F R k i ∧ j < l.length ∧ l[j]?.getD 0 ≠ 0 := by
  unfold onlyX
  rw [Nat.testBit_and, Bool.and_eq_true, ofL_bit, decide_eq_true_eq, occ_bit]
theorem only_lt (hv : vsz F R) {i : Nat} : onlyX F R l k i < 2 ^ 64 := Nat.lt_of_le_of_lt Nat.and_le_left (ofL_lt (betL_lt hv k i))
/-- a piece that slides needs an empty way. -/
theorem slide_free {q : Nat} {X : Nat} {i t : Int} (hq : 3 ≤ q) (hq5 : q ≤ 5) (h : attP F R (sdN bl * q) X i t = true) : ∀ j ∈ betL F R i t, X.testBit j = false := by
  obtain ⟨e1, _⟩ := sdN_kd (bl := bl) (k := q) (by omega)
  unfold attP at h
  rw [e1, if_neg (by omega)] at h
  simp only [Bool.and_eq_true] at h
  have h2 := h.2
  unfold reachB at h2
  rw [if_neg (by omega), if_neg (by omega)] at h2
  simp only [Bool.and_eq_true] at h2
  exact freeN.1 h2.2
/-- only what slides heeds what stands between. -/
theorem slide_only {q : Nat} {X Y : Nat} {i t : Int} (hq : 1 ≤ q) (hq6 : q ≤ 6) (h : attP F R (sdN bl * q) X i t = true) (h2 : ¬ attP F R (sdN bl * q) Y i t = true) : 3 ≤ q ∧ q ≤ 5 := by
  obtain ⟨e1, _⟩ := sdN_kd (bl := bl) (k := q) (by omega)
  unfold attP at h h2
  rw [e1] at h h2
  by_cases h1 : (q : Int) = 1
  · rw [if_pos h1] at h h2; exact absurd h h2
  · rw [if_neg h1] at h h2
    unfold reachB at h h2
    by_cases e2 : (q : Int) = 2
    · rw [if_pos e2] at h h2; exact absurd h h2
    · rw [if_neg e2] at h h2
      by_cases e6 : (q : Int) = 6
      · rw [if_pos e6] at h h2; exact absurd h h2
      · omega
theorem own_bit {j : Nat} : (sS l bl).testBit j = true ↔ j < l.length ∧ sdP (sdN bl) (l[j]?.getD 0) = true := by
  unfold sS
  rw [ofL_bit, decide_eq_true_eq, idx_mem]
theorem own_sign {p : Int} (h : sdP (sdN bl) p = true) : decide (p < 0) = bl ∧ p ≠ 0 := by
  unfold sdP sgnP at h
  by_cases h1 : p < 0
  · rw [if_pos h1] at h
    cases bl
    · exact absurd h (by decide)
    · exact ⟨decide_eq_true h1, by omega⟩
  · by_cases h2 : 0 < p
    · rw [if_neg h1, if_pos h2] at h
      cases bl
      · exact ⟨decide_eq_false h1, by omega⟩
      · exact absurd h (by decide)
    · rw [if_neg h1, if_neg h2] at h
      cases bl <;> exact absurd h (by decide)
theorem own_of {p : Int} (h : decide (p < 0) = bl) (hp : p ≠ 0) : sdP (sdN bl) p = true := by
  unfold sdP sgnP sdN
  cases bl
  · have h1 : ¬ p < 0 := by simpa using h
    have h2 : 0 < p := by omega
    simp [h1, h2]
  · have h1 : p < 0 := by simpa using h
    simp [h1]
theorem occ_less {n : Nat} (hl : l.length ≤ 64) (hn : n < l.length) : lessX (ofL (occL l)) (bitN n) = ofL (occL (l.set n 0)) := by
  have hX : ofL (occL l) < 2 ^ 64 := by
    apply Nat.lt_pow_two_of_testBit
    intro j hj
    cases hb : (ofL (occL l)).testBit j
    · rfl
    · have := (occ_bit.1 hb).1; omega
  have hbn : bitN n < 2 ^ 64 := Nat.pow_lt_pow_of_lt (by decide) (by omega)
  apply Nat.eq_of_testBit_eq
  intro j
  rcases lessX_bit (Y := bitN n) (j := j) hX with h | h
  · rw [h, bitN_bit, Bool.eq_iff_iff, occ_set hn]
    simp only [Bool.and_eq_true, Bool.not_eq_true', decide_eq_false_iff_not]
    exact ⟨fun ⟨a, b⟩ => ⟨a, fun e => b e.symm⟩, fun ⟨a, b⟩ => ⟨a, fun e => b e.symm⟩⟩
  · omega

/-- what the program takes for a pin is a pin, and its line is the pin line. -/
theorem pin_sound (hb : vbd F R l) (hk0 : 0 ≤ kingV l bl) {q i : Nat} (hq : 3 ≤ q) (hq5 : q ≤ 5) (hi : i ∈ listOf (kS l (!bl) q)) (h : (pinA F R l (kingV l bl) bl q i).1 ≠ 0) :
    ∃ n, pinA F R l (kingV l bl) bl q i = (bitN n, ofL (linL F R l n)) ∧ n ∈ pinnedL F R l bl ∧ n < 64 := by
  have hk := kingV_at hb hk0
  have hlen := vbd_64 hb
  obtain ⟨hi1, hi2⟩ := (kS_bit (by omega)).1 (mem_listOf.1 hi).2
  have hiv : vat F R (i : Int) := ⟨hb.1, by omega, by have := hb.2.1; omega⟩
  unfold pinA at h ⊢
  split at h
  · rename_i hc
    rw [if_pos hc]
    obtain ⟨c1, c2, c3, c4⟩ := hc
    obtain ⟨n, hn⟩ := cnt_one (only_lt hb.1) c2
    have hnb : (onlyX F R l (kingV l bl) i).testBit n = true := by rw [hn, bitN_bit]; simp
    obtain ⟨n1, n2, n3⟩ := only_bit.1 hnb
    have hown : sdP (sdN bl) (l[n]?.getD 0) = true := by
      apply Classical.byContradiction
      intro hc
      apply c3
      apply Nat.eq_of_testBit_eq
      intro j
      rw [Nat.testBit_and, Nat.zero_testBit, hn, bitN_bit]
      by_cases e : n = j
      · subst e
        cases hs : (sS l bl).testBit n
        · simp
        · exact absurd (own_bit.1 hs).2 hc
      · simp [e]
    obtain ⟨hd, hp⟩ := own_sign hown
    have hin : i ≠ n := by
      rintro rfl
      rw [hi2] at hd
      rw [← hi2] at hd
      have h1 := sdP_kind (bl := !bl) (k := q) (by omega)
      rw [← hi2] at h1
      have := (own_sign h1).1
      rw [hd] at this
      cases bl <;> cases this
    have hnk : (n : Int) ≠ kingV l bl := bet_king hk hiv c1 n1
    have hFR : (((kingV l bl).toNat : Nat) : Int) < F * R := by have := hk.2; omega
    have hto : (((kingV l bl).toNat : Nat) : Int) = kingV l bl := by omega
    have hat := (att_fwd (by omega) hFR).2 c4
    rw [hto, hn, occ_less hlen n2] at hat
    have a1 : i ∈ atkL F R (l.set n 0) (kingV l bl) (!bl) := by
      rw [atk_mem, get_set_ne hin, hi2]
      exact ⟨⟨by simpa using hi1, sdP_kind (by omega)⟩, hat⟩
    have a2 : i ∉ atkL F R l (kingV l bl) (!bl) := by
      rw [atk_mem, hi2]
      rintro ⟨_, h2⟩
      have h3 := slide_free hq hq5 h2 n (bet_sub2 hk hiv c1 n1)
      rw [occ_bit.2 ⟨n2, n3⟩] at h3
      cases h3
    have hpv0 : 0 ≤ pinV F R l n := by
      apply Classical.byContradiction
      intro hc
      exact a2 (pin_no hd hp hnk hc i a1)
    have hpv : pinV F R l n = (i : Int) := by
      obtain ⟨i', e, b1, b2⟩ := pin_yes hd hp hnk hpv0
      rw [e, off_one hb hk n2 a1 a2 b1 b2]
    refine ⟨n, ?_, (pinned_iff hd hp n2).2 hpv0, by omega⟩
    rw [hn]
    congr 1
    apply Nat.eq_of_testBit_eq
    intro j
    have hbX : ofL (betL F R (kingV l bl) i) < 2 ^ 64 := ofL_lt (betL_lt hb.1 _ _)
    have hbn : bitN n < 2 ^ 64 := Nat.pow_lt_pow_of_lt (by decide) (by omega)
    rw [Nat.testBit_or, ofL_bit, Bool.eq_iff_iff, Bool.or_eq_true, decide_eq_true_eq, lin_mem hd, hpv]
    rcases lessX_bit (Y := bitN n) (j := j) hbX with e | e
    · rw [e, bitN_bit, bitN_bit, ofL_bit]
      simp only [Bool.and_eq_true, Bool.not_eq_true', decide_eq_false_iff_not, decide_eq_true_eq]
      constructor
      · rintro (⟨h1, h2⟩ | rfl)
        · refine ⟨?_, .inr ⟨⟨j, rfl, h1⟩, fun e => h2 e.symm⟩⟩
          have := bet_in hb.1 h1
          have := hb.2.1
          omega
        · exact ⟨hi1, .inl rfl⟩
      · rintro ⟨_, h1 | ⟨⟨j', e2, h1⟩, h2⟩⟩
        · exact .inr (by omega)
        · have : j' = j := by omega
          subst this
          exact .inl ⟨h1, fun e => h2 e.symm⟩
    · omega
  · exact absurd rfl h

/-- every pin comes. -/
theorem pin_full (hb : vbd F R l) (ho : orA l = true) (hk0 : 0 ≤ kingV l bl) {n : Nat} (hn : n ∈ pinnedL F R l bl) : ∃ q i, 3 ≤ q ∧ q ≤ 5 ∧ i ∈ listOf (kS l (!bl) q) ∧ (pinA F R l (kingV l bl) bl q i).1 = bitN n := by
  have hk := kingV_at hb hk0
  have hlen := vbd_64 hb
  unfold pinnedL at hn
  rw [List.mem_filter, idx_mem, decide_eq_true_eq] at hn
  obtain ⟨⟨n2, hown⟩, hpv0⟩ := hn
  obtain ⟨hd, hp⟩ := own_sign hown
  have hnk : (n : Int) ≠ kingV l bl := by
    intro e
    unfold pinV at hpv0
    rw [hd, if_pos e] at hpv0
    omega
  obtain ⟨i, e, a1, a2⟩ := pin_yes hd hp hnk hpv0
  obtain ⟨b1, b2, b3, b4, b5, b6, b7⟩ := off_new hb hk n2 a1 a2
  obtain ⟨q, q1, q6, hq⟩ := orth_kind (orA_at ho b1) b3
  have hat : attP F R (l[i]?.getD 0) (ofL (occL (l.set n 0))) i (kingV l bl) = true := by
    have := (atk_mem.1 a1).2
    rwa [get_set_ne b2] at this
  have hno : ¬ attP F R (l[i]?.getD 0) (ofL (occL l)) i (kingV l bl) = true := fun h => a2 (atk_mem.2 ⟨⟨b1, b3⟩, h⟩)
  rw [hq] at hat hno
  obtain ⟨q3, q5⟩ := slide_only q1 q6 hat hno
  refine ⟨q, i, q3, q5, mem_listOf.2 ⟨by omega, (kS_bit q1).2 ⟨b1, hq⟩⟩, ?_⟩
  have hn1 : onlyX F R l (kingV l bl) i = bitN n := by
    apply Nat.eq_of_testBit_eq
    intro j
    rw [Bool.eq_iff_iff, only_bit, bitN_bit, decide_eq_true_eq]
    constructor
    · rintro ⟨h1, h2, h3⟩
      apply Classical.byContradiction
      intro hc
      have h4 := b7 j h1
      rw [(occ_set n2).2 ⟨occ_bit.2 ⟨h2, h3⟩, fun e => hc e.symm⟩] at h4
      cases h4
    · rintro rfl
      exact ⟨b6, n2, hp⟩
  have hto : (((kingV l bl).toNat : Nat) : Int) = kingV l bl := by omega
  have hS : onlyX F R l (kingV l bl) i &&& sS l bl ≠ 0 := by
    intro hz
    have h1 : (onlyX F R l (kingV l bl) i &&& sS l bl).testBit n = true := by
      rw [Nat.testBit_and, hn1, bitN_bit, own_bit.2 ⟨n2, hown⟩]
      simp
    rw [hz] at h1
    simp at h1
  have hA : (kingV l bl).toNat ∈ attL F R q (!bl) i (lessX (ofL (occL l)) (onlyX F R l (kingV l bl) i)) := by
    rw [← att_fwd q1 (by have := hk.2; omega), hto, hn1, occ_less hlen n2]
    exact hat
  unfold pinA
  exact (congrArg Prod.fst (if_pos ⟨b5, by rw [hn1]; exact bit_cnt (by omega), hS, hA⟩)).trans hn1

/-- the pins that come. -/
theorem pinsTo_mem {p : Nat × Nat} : ∀ {m : Nat}, p ∈ pinsTo F R l k bl m ↔ ∃ q i, 3 ≤ q ∧ q < m + 3 ∧ i ∈ listOf (kS l (!bl) q) ∧ (pinA F R l k bl q i).1 ≠ 0 ∧ p = pinA F R l k bl q i
  | 0 => by
    constructor
    · intro h; exact absurd h (by simp [pinsTo])
    · rintro ⟨q, i, h1, h2, _⟩; omega
  | m + 1 => by
    unfold pinsTo
    rw [List.mem_append, pinsTo_mem (m := m)]
    unfold pinsQ
    rw [List.mem_filterMap]
    constructor
    · rintro (⟨q, i, h1, h2, h3⟩ | ⟨i, h1, h2⟩)
      · exact ⟨q, i, h1, by omega, h3⟩
      · split at h2
        · cases h2
        · rename_i h3
          cases h2
          exact ⟨m + 3, i, by omega, by omega, h1, h3, rfl⟩
    · rintro ⟨q, i, h1, h2, h3, h4, h5⟩
      by_cases e : q = m + 3
      · subst e
        exact .inr ⟨i, h3, by rw [if_neg h4, h5]⟩
      · exact .inl ⟨q, i, h1, by omega, h3, h4, h5⟩
theorem pins_sound (hb : vbd F R l) (hk0 : 0 ≤ kingV l bl) {p : Nat × Nat} (h : p ∈ pinsTo F R l (kingV l bl) bl 3) : ∃ n, p = (bitN n, ofL (linL F R l n)) ∧ n ∈ pinnedL F R l bl ∧ n < 64 := by
  obtain ⟨q, i, h1, h2, h3, h4, rfl⟩ := pinsTo_mem.1 h
  exact pin_sound hb hk0 h1 (by omega) h3 h4
theorem pins_full (hb : vbd F R l) (ho : orA l = true) (hk0 : 0 ≤ kingV l bl) {n : Nat} (hn : n ∈ pinnedL F R l bl) : (bitN n, ofL (linL F R l n)) ∈ pinsTo F R l (kingV l bl) bl 3 := by
  obtain ⟨q, i, h1, h2, h3, h4⟩ := pin_full hb ho hk0 hn
  have hne : (pinA F R l (kingV l bl) bl q i).1 ≠ 0 := by rw [h4]; unfold bitN; exact Nat.ne_of_gt (Nat.two_pow_pos _)
  obtain ⟨n', e, _⟩ := pin_sound hb hk0 h1 h2 h3 hne
  have e2 : n' = n := by
    rw [e] at h4
    have h5 := bitN_bit (n := n') (j := n)
    rw [show bitN n' = bitN n from h4, bitN_bit] at h5
    simpa using h5
  rw [← e2, ← e]
  exact pinsTo_mem.2 ⟨q, i, h1, by omega, h3, hne, rfl⟩
/-- all pinned pieces. -/
def orP (ps : List (Nat × Nat)) : Nat := ps.foldl (fun a p => a ||| p.1) 0
theorem orP_snoc (ps : List (Nat × Nat)) (p : Nat × Nat) : orP (ps ++ [p]) = orP ps ||| p.1 := by simp [orP]
theorem orP_bit {j : Nat} (ps : List (Nat × Nat)) : (orP ps).testBit j = true ↔ ∃ p ∈ ps, p.1.testBit j = true := by
  have h : ∀ (ps : List (Nat × Nat)) (a : Nat), (ps.foldl (fun a p => a ||| p.1) a).testBit j = true ↔ a.testBit j = true ∨ ∃ p ∈ ps, p.1.testBit j = true := by
    intro ps
    induction ps with
    | nil => intro a; simp
    | cons p ps ih =>
      intro a
      rw [List.foldl_cons, ih, Nat.testBit_or, Bool.or_eq_true]
      simp only [List.mem_cons, exists_eq_or_imp]
      rw [or_assoc]
  unfold orP
  rw [h]
  simp
theorem orP_all (hb : vbd F R l) (ho : orA l = true) (hk0 : 0 ≤ kingV l bl) : orP (pinsTo F R l (kingV l bl) bl 3) = ofL (pinnedL F R l bl) := by
  apply Nat.eq_of_testBit_eq
  intro j
  rw [Bool.eq_iff_iff, orP_bit, ofL_bit, decide_eq_true_eq]
  constructor
  · rintro ⟨p, hp, hj⟩
    obtain ⟨n, rfl, h1, _⟩ := pins_sound hb hk0 hp
    rw [bitN_bit, decide_eq_true_eq] at hj
    exact hj ▸ h1
  · intro h
    exact ⟨_, pins_full hb ho hk0 h, by rw [bitN_bit]; simp⟩
end

end Go.Proofs.YtjnbjegopddhgaaDoor

/- Attacks, by the program: Pinned. -/
namespace Go.Proofs.YtjnbjegopddhgaaDoor
open Go.RowKit Go.Shelf Go.Sort Go.BigFrame
attribute [local go_sem] Oper.semAt_some
theorem orP_lt {ps : List (Nat × Nat)} (h : ∀ p ∈ ps, p.1 < 18446744073709551616) : orP ps < 18446744073709551616 := by
  apply Nat.lt_pow_two_of_testBit (n := 64)
  intro j hj
  cases hb : (orP ps).testBit j
  · rfl
  · obtain ⟨p, hp, hpj⟩ := (orP_bit ps).1 hb
    rw [Nat.testBit_lt_two_pow (Nat.lt_of_lt_of_le (h p hp) (by have := Nat.pow_le_pow_right (n := 2) (by omega) hj; simpa using this))] at hpj
    cases hpj
/-- the iterator itself: three boxes. -/
theorem pins_any (B : Nat) (k : Int) (bl : Bool) (w : World) : Calls Tryd.prog 48 #[.pointer (some ⟨B, 0, none⟩), .int .i64 k, .bool bl] w fun e w' =>
    e = .returned (.func (.func 70) #[] #[.pointer (some ⟨w.heap.size, 0, none⟩), .pointer (some ⟨w.heap.size + 1 + 1, 0, none⟩), .pointer (some ⟨w.heap.size + 1, 0, none⟩)]) ∧ Below w.heap.size w w' ∧ w'.heap.size = w.heap.size + 3 ∧
      w'.cell? ⟨w.heap.size, 0, none⟩ = some (.pointer (some ⟨B, 0, none⟩)) ∧ w'.cell? ⟨w.heap.size + 1, 0, none⟩ = some (.int .i64 k) ∧ w'.cell? ⟨w.heap.size + 1 + 1, 0, none⟩ = some (.bool bl) := by
  go_enter Tryd.func48, Tryd.ntmps48
  go_wp2
  go_ret
  refine ⟨rfl, ?_, by simp, ?_, ?_, ?_⟩
  · exact (((Below.refl _ _).alloc (by simp) _).alloc (by simp <;> omega) _).alloc (by simp <;> omega) _
  · exact alive _ (alive _ (by simp [go_sem]))
  · exact alive _ (by simp [go_sem])
  · simp [go_sem]

set_option maxRecDepth 100000 in
set_option maxHeartbeats 8000000 in
theorem gPin (F R : Int) (l : List Int) (A : Option Addr) (c : Nat) (bl : Bool) (w : World) (hb : vbd F R l) (ho : orA l = true) (hA : RdP w w.heap.size A l c) (hT : T5 w) (hk : 0 ≤ kingV l bl) :
    Calls Tryd.prog 20 #[.agg #[.int .i64 F, .int .i64 R, .slice A l.length c], .bool bl] w fun e w' => e = .returned (.tuple #[.int .u64 (ofL (pinnedL F R l bl) : Int), .int .i64 0]) ∧ Below w.heap.size w w' := by
  refine (callsIn_wide (n := 6)).1 ?_
  have hlen := vbd_64 hb
  have hL := len18 (F := F) (R := R) (S := sS l) (K := kS l) rfl
  obtain ⟨L, hLL⟩ : ∃ L, fieldC F R (sS l) (kS l) = L := ⟨_, rfl⟩
  rw [hLL] at hL
  have HSV := Lib.hid (fun w hA => surv_yes F R l A c hb ho L hLL w hA)
  have HLY := Lib.hid (fun w => lay18 w hLL)
  have HKG := Lib.hid (fun B w hT hc => aKing_any B (kS l bl 6) bl (idx_64 _ l hlen) w hT hc)
  rw [king_ok hlen hk] at HKG
  have HALL := Lib.hid (orP_all hb ho hk)
  have HLT : Hid (∀ x : PE F R l (kingV l bl) bl, x.1.1 < 18446744073709551616) := Lib.hid (fun x => by
    obtain ⟨n, e, _, h64⟩ := pins_sound hb hk x.2
    rw [e]
    exact bitN_lt h64)
  have HKV := Lib.hid (kingV_at hb hk)
  have HVB := Lib.hid hb
  have HOR := Lib.hid ho
  have HA0 := Lib.hid (rdBo (box1 w (.cells #[.int .i64 F, .int .i64 R, .slice A l.length c] 26)) hA)
  have HT := Lib.hid hT
  clear hA hT hLL hb ho hk
  refine callsIn_of_wp_marks Tryd.func20 rfl trivial ?_ rfl
  simp only [Tryd.ntmps20, List.size_toArray, List.length_cons, List.length_nil, Nat.reduceAdd, Nat.reduceSub, Array.replicate_succ, Array.replicate_zero, List.push_toArray, List.append_toArray, List.nil_append, List.cons_append]
  gi_wp2_with fail
  refine ⟨trivial, callsIn_wide.2 ((HSV.out _ HA0.out).mono ?_)⟩
  rintro e w1 ⟨rfl, hb1⟩
  obtain ⟨V, hst, hFl, hVb, hVs⟩ := HLY.out w1
  have hs1 := hb1.size
  simp only [World.size_alloc] at hs1
  have hB1 := after1 hb1
  have hBv := chain hB1 hVb
  have HFL := Lib.hid hFl
  have HBV := Lib.hid hBv
  clear hb1 hVb hB1 HLY hFl hBv HA0
  gi_wp2_with fail
  refine ⟨trivial, callsIn_wide.2 ((HKG.out _ _ (HT.out.below HBV.out).1 (HFL.out.2.2 bl 6 (by omega))).mono ?_)⟩
  rintro e w2 ⟨rfl, rfl⟩
  generalize kingV l bl = kv at *
  gi_wp2_with fail
  obtain ⟨V1, hV1⟩ : ∃ V1, w2.alloc (.cells #[.int .u64 0] 30) = V1 := ⟨_, rfl⟩
  have g1 : V1.cell? ⟨w1.heap.size + 1, 0, none⟩ = some (.int .u64 0) := by rw [← hV1, ← hVs]; simp [go_sem]
  have g2 : V1.frozen? ⟨w1.heap.size + 1, 0, none⟩ = false := by rw [← hV1, ← hVs]; simp [go_sem]
  have hsV : V1.heap.size = w1.heap.size + 2 := by rw [← hV1]; simp; omega
  have b21 : Below w2.heap.size w2 V1 := by rw [← hV1]; exact box1 _ _
  have HF1 := Lib.hid (HFL.out.below b21)
  have HB1 := Lib.hid (chain HBV.out b21)
  rw [hV1]
  clear hV1 hst HFL HBV HSV HKG b21 hL
  refine ⟨trivial, callsIn_wide.2 ((pins_any w1.heap.size kv bl V1).mono ?_)⟩
  rintro e w3 ⟨rfl, hb3, hs3, f3, k3, b3⟩
  rw [hsV] at f3 k3 b3 hs3
  have HB3 := Lib.hid (chain HB1.out hb3)
  have HF3 := Lib.hid (HF1.out.below hb3)
  have g3 := cBo hb3 g1
  have g4 := (hb3.frozen (p := ⟨w1.heap.size + 1, 0, none⟩) (by simp; omega)).trans g2
  clear g1 g2 hb3 HF1 HB1
  gi_wp2_with fail
  apply range_O (α := PE F R l kv bl) (n := 6) (by omega) (gf := 70) (lb := #[.pointer (some ⟨w1.heap.size + 2, 0, none⟩), .pointer (some ⟨w1.heap.size + 2 + 1 + 1, 0, none⟩), .pointer (some ⟨w1.heap.size + 2 + 1, 0, none⟩)]) rfl (enters_of Tryd.func70 (by kernel_rfl) rfl) (encs := fun x => #[.int .u64 (x.1.1 : Nat), .int .u64 (x.1.2 : Nat)]) (S := w1.heap.size + 1) (by omega)
    (pins_O F R kv l bl (w1.heap.size + 2) w1.heap.size (w1.heap.size + 1) HVB.out HOR.out HKV.out w w3 HT.out (by omega) HB3.out (by omega) (by omega) (by omega) f3 k3 b3 HF3.out) (Below.refl _ _) (fun _ => rfl)
    (fun pre W' => (W'.cell? ⟨w1.heap.size + 1, 0, none⟩ = some (.int .u64 ((orP (pre.map (·.1)) : Nat) : Int)) ∧ W'.frozen? ⟨w1.heap.size + 1, 0, none⟩ = false) ∧ ButS (w1.heap.size + 1) w3 W') (fun _ _ _ => False)
    (OwnFrom.and (ownFrom_box _ _) (ownFrom_but (Nat.le_refl _))) (fun c s X Y row hs _ _ => hs) ⟨⟨g3, g4⟩, ButS.refl _ _⟩
  case hassign =>
    intro lp x W1 K hK
    gi_wp2
    exact hK
  case hbody =>
    rintro lp pre x W1 ⟨⟨hSc, hSf⟩, hBW⟩ _
    have hor := u64_or_nat (orP (pre.map (·.1))) x.1.1 (orP_lt (fun p hp => by obtain ⟨y, _, rfl⟩ := List.mem_map.1 hp; exact HLT.out y)) (HLT.out x)
    rw [← orP_snoc, show pre.map (·.1) ++ [x.1] = (pre ++ [x]).map (·.1) by simp] at hor
    have HO2 := Lib.hid hor
    clear hor
    gi_wp2_with fail
    rw [HO2.out]
    exact ⟨ButS.set _ _ _, ⟨World.cell?_setCell_same _ ⟨w1.heap.size + 1, 0, none⟩ _ hSc, (World.frozen?_setCell ..).trans hSf⟩, hBW.trans (ButS.set _ _ _)⟩
  case hdone =>
    rintro D xs W1 hD hxs ⟨⟨hSc, hSf⟩, hBW⟩ hK
    rw [hxs, HALL.out] at hSc
    gi_wp2_with fail
    refine leaves_marks (n₀ := w3.heap.size) [D] _ ((MarksAt.nil _ _).put hD (by simp) hK) (fun w' hw => ?_)
    refine ⟨_, results_tmp2 rfl _ _ _, rfl, ?_⟩
    have := HB3.out.size
    exact (HB3.out.trans (hBW.below (B := w.heap.size) (by omega) (by omega))).trans (hw.mono (by omega))
  case hstop =>
    intro D c pre W1 _ _ h _
    exact h.elim
set_option maxRecDepth 100000 in
set_option maxHeartbeats 4000000 in
theorem gPinN (F R : Int) (l : List Int) (A : Option Addr) (c : Nat) (bl : Bool) (w : World) (hb : vbd F R l) (ho : orA l = true) (hA : RdP w w.heap.size A l c) (hT : T5 w) (hk : kingV l bl < 0) :
    Calls Tryd.prog 20 #[.agg #[.int .i64 F, .int .i64 R, .slice A l.length c], .bool bl] w fun e w' => e = .returned (.tuple #[.int .u64 0, .int .i64 9]) ∧ Below w.heap.size w w' := by
  have hL := len18 (F := F) (R := R) (S := sS l) (K := kS l) rfl
  obtain ⟨L, hLL⟩ : ∃ L, fieldC F R (sS l) (kS l) = L := ⟨_, rfl⟩
  rw [hLL] at hL
  have HSV := Lib.hid (fun w hA => surv_yes F R l A c hb ho L hLL w hA)
  have HLY := Lib.hid (fun w => lay18 w hLL)
  have HKG := Lib.hid (fun B w hT hc => aKing_any B (kS l bl 6) bl (idx_64 _ l (vbd_64 hb)) w hT hc)
  rw [king_not (vbd_64 hb) hk] at HKG
  clear hk
  have HA0 := Lib.hid (rdBo (box1 w (.cells #[.int .i64 F, .int .i64 R, .slice A l.length c] 26)) hA)
  have HT := Lib.hid hT
  clear hA hT hb ho hLL
  go_enter Tryd.func20, Tryd.ntmps20
  go_wp2_with fail
  refine (HSV.out _ HA0.out).mono ?_
  rintro e w1 ⟨rfl, hb1⟩
  obtain ⟨V, hst, hFl, hVb, hVs⟩ := HLY.out w1
  have hs1 := hb1.size
  simp only [World.size_alloc] at hs1
  have c0 := hb1.cell (p := ⟨w.heap.size, 0, none⟩) (by simp)
  have c1 := hb1.cell (p := ⟨w.heap.size, 1, none⟩) (by simp)
  simp [go_sem] at c0 c1
  have hB1 := after1 hb1
  have hBv := chain hB1 hVb
  have d0 := (hVb.cell (World.block_lt_of_cell? _ _ c0)).trans c0
  have d1 := (hVb.cell (World.block_lt_of_cell? _ _ c1)).trans c1
  have HFL := Lib.hid hFl
  have hBV := Lib.hid hBv
  clear hb1 HA0 c0 c1 hVb hB1 HLY hVs hFl hBv
  go_wp2_with fail
  refine (HKG.out _ _ (HT.out.below hBV.out).1 (HFL.out.2.2 bl 6 (by omega))).mono ?_
  rintro e w2 ⟨rfl, rfl⟩
  go_wp2
  go_ret2
  exact ⟨rfl, hBV.out⟩
set_option maxRecDepth 100000 in
set_option maxHeartbeats 4000000 in
theorem gPinE (F R : Int) (l : List Int) (A : Option Addr) (c : Nat) (bl : Bool) (w : World) (hlen : l.length ≤ 64) (hA : RdP w w.heap.size A l c) (hg : ¬ (vbd F R l ∧ orA l = true)) :
    Calls Tryd.prog 20 #[.agg #[.int .i64 F, .int .i64 R, .slice A l.length c], .bool bl] w fun e w' => e = .returned (.tuple #[.int .u64 0, .int .i64 2]) ∧ Below w.heap.size w w' := by
  have hL := len18 (F := 0) (R := 0) (S := zS) (K := zK) rfl
  obtain ⟨L, hLL⟩ : ∃ L, fieldC 0 0 zS zK = L := ⟨_, rfl⟩
  rw [hLL] at hL
  have HSV := Lib.hid (fun w hA => surv_no F R l A c hg L hLL w hlen hA)
  have HLY := Lib.hid (fun w => lay18 w hLL)
  have HA0 := Lib.hid (rdBo (box1 w (.cells #[.int .i64 F, .int .i64 R, .slice A l.length c] 26)) hA)
  clear hA hg hLL hlen
  go_enter Tryd.func20, Tryd.ntmps20
  go_wp2_with fail
  refine (HSV.out _ HA0.out).mono ?_
  rintro e w1 ⟨rfl, hb1⟩
  obtain ⟨V, hst, _, hVb, _⟩ := HLY.out w1
  have hBV := Lib.hid (chain (after1 hb1) hVb)
  clear hb1 HA0 HLY hVb
  go_wp2
  go_ret2
  exact ⟨rfl, hBV.out⟩

end Go.Proofs.YtjnbjegopddhgaaDoor
