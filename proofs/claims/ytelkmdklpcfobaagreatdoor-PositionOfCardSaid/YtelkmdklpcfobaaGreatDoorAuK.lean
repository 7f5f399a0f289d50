/- Plain mathematics of pins: a piece that is taken off lets at most one piece more attack its king, along the line on which it stood; on that line it shuts it again. -/
import Derived.Test.YtelkmdklpcfobaaGreatDoorAtJ
import Derived.Test.YtelkmdklpcfobaaGreatDoorAuG
import Derived.Test.YtelkmdklpcfobaaGreatDoorAuI

namespace Go.Proofs.YtelkmdklpcfobaaGreatDoor
open Go.RowKit Go.Sort

theorem get_set_ne {l : List Int} {n j : Nat} {v : Int} (h : j ≠ n) : (l.set n v)[j]?.getD 0 = l[j]?.getD 0 := by rw [List.getElem?_set, if_neg (by omega)]
theorem get_set_eq {l : List Int} {n : Nat} {v : Int} (h : n < l.length) : (l.set n v)[n]?.getD 0 = v := by rw [List.getElem?_set]; simp [h]
theorem occ_set {l : List Int} {n j : Nat} (hn : n < l.length) : (ofL (occL (l.set n 0))).testBit j = true ↔ (ofL (occL l)).testBit j = true ∧ j ≠ n := by
  rw [occ_bit, occ_bit]
  by_cases h : j = n
  · subst h
    rw [get_set_eq hn]
    simp
  · rw [get_set_ne h]
    simp [h]
theorem sd_zero {bl : Bool} : sdP (sdN bl) 0 = false := by cases bl <;> decide
/-- a piece of the other side. -/
theorem sd_other {bl : Bool} {p : Int} (h : decide (p < 0) = bl) (hp : p ≠ 0) : sdP (sdN (!bl)) p = false := by
  unfold sdP sgnP
  cases bl
  · have h1 : ¬ p < 0 := by simpa using h
    rw [if_neg h1, if_pos (by omega)]
    rfl
  · have h1 : p < 0 := by simpa using h
    rw [if_pos h1]
    rfl
theorem set_or {l : List Int} {n : Nat} {v : Int} (h : orA l = true) (hv : orB v = true) : orA (l.set n v) = true := by
  unfold orA at *
  rw [List.all_eq_true] at *
  intro x hx
  rcases List.mem_or_eq_of_mem_set hx with h1 | rfl
  · exact h x h1
  · exact hv
theorem set_vbd {F R : Int} {l : List Int} {n : Nat} {v : Int} (h : vbd F R l) (hv : okP v) : vbd F R (l.set n v) := by
  obtain ⟨h1, h2, h3⟩ := h
  refine ⟨h1, by simpa using h2, fun j hj => ?_⟩
  simp at hj
  by_cases e : j = n
  · subst e; rw [get_set_eq hj]; exact hv
  · rw [get_set_ne e]; exact h3 j hj

section
variable {F R k : Int} {l : List Int} {n : Nat} {bl : Bool}
/-- who attacks, attacks when a piece of the other side is off. -/
theorem off_sub (hn : n < l.length) (hs : sdP (sdN bl) (l[n]?.getD 0) = false) {i : Nat} (h : i ∈ atkL F R l k bl) : i ∈ atkL F R (l.set n 0) k bl := by
  rw [atk_mem] at *
  obtain ⟨⟨h1, h2⟩, h3⟩ := h
  have hne : i ≠ n := by rintro rfl; rw [hs] at h2; cases h2
  rw [get_set_ne hne]
  exact ⟨⟨by simpa using h1, h2⟩, att_mono h3 fun j hj => ((occ_set hn).1 hj).1⟩
/-- a new attacker. -/
theorem off_new (hb : vbd F R l) (hk : vat F R k) (hn : n < l.length) {i : Nat} (h : i ∈ atkL F R (l.set n 0) k bl) (hno : i ∉ atkL F R l k bl) :
    i < l.length ∧ i ≠ n ∧ sdP (sdN bl) (l[i]?.getD 0) = true ∧ vat F R (i : Int) ∧ lineB F k (i : Int) = true ∧ n ∈ betL F R k (i : Int) ∧ ∀ j ∈ betL F R k (i : Int), (ofL (occL (l.set n 0))).testBit j = false := by
  rw [atk_mem] at h
  obtain ⟨⟨h1, h2⟩, h3⟩ := h
  simp at h1
  have hne : i ≠ n := by rintro rfl; rw [get_set_eq h1, sd_zero] at h2; cases h2
  rw [get_set_ne hne] at h2 h3
  have hi : vat F R (i : Int) := ⟨hb.1, by omega, by have := hb.2.1; omega⟩
  have hX : attP F R (l[i]?.getD 0) (ofL (occL l)) i k = false := by
    rw [← Bool.not_eq_true]
    exact fun e => hno (atk_mem.2 ⟨⟨h1, h2⟩, e⟩)
  rcases att_cases h3 with h4 | ⟨h4, h5, h6⟩
  · rw [h4] at hX; cases hX
  · have hl : lineB F k (i : Int) = true := by rw [lineB_symm2]; exact h4
    refine ⟨h1, hne, h2, hi, hl, ?_, fun j hj => h5 j (bet_sub2 hk hi hl hj)⟩
    apply bet_sub2 hi hk h4
    apply Classical.byContradiction
    intro hc
    have := h6 (ofL (occL l)) fun j hj => by
      have e := h5 j hj
      cases hx : (ofL (occL l)).testBit j
      · rfl
      · have := (occ_set hn).2 ⟨hx, fun e2 => hc (e2 ▸ hj)⟩
        rw [e] at this; cases this
    rw [this] at hX; cases hX
theorem occ_piece {l : List Int} {i : Nat} (h1 : i < l.length) (h2 : sdP (sdN bl) (l[i]?.getD 0) = true) : (ofL (occL l)).testBit i = true := by
  refine occ_bit.2 ⟨h1, fun e => ?_⟩
  rw [e, sd_zero] at h2
  cases h2
/-- there is at most one new attacker. -/
theorem off_one (hb : vbd F R l) (hk : vat F R k) (hn : n < l.length) {i i' : Nat} (h : i ∈ atkL F R (l.set n 0) k bl) (hno : i ∉ atkL F R l k bl) (h' : i' ∈ atkL F R (l.set n 0) k bl) (hno' : i' ∉ atkL F R l k bl) : i = i' := by
  obtain ⟨a1, a2, a3, a4, a5, a6, a7⟩ := off_new hb hk hn h hno
  obtain ⟨b1, b2, b3, b4, b5, b6, b7⟩ := off_new hb hk hn h' hno'
  obtain ⟨d1, d2⟩ := bet_dir hk a4 a5 a6
  obtain ⟨e1, e2⟩ := bet_dir hk b4 b5 b6
  have o1 : (ofL (occL (l.set n 0))).testBit i = true := (occ_set hn).2 ⟨occ_piece a1 a3, a2⟩
  have o2 : (ofL (occL (l.set n 0))).testBit i' = true := (occ_set hn).2 ⟨occ_piece b1 b3, b2⟩
  rcases ends hk a4 b4 a5 b5 (d1.symm.trans e1) (d2.symm.trans e2) with h | h | h
  · exact h
  · rw [b7 i h] at o1; cases o1
  · rw [a7 i' h] at o2; cases o2
/-- a piece put between shuts the line. -/
theorem off_shut (hb : vbd F R l) (hk : vat F R k) (hn : n < l.length) {i t : Nat} {p : Int} (hp : p ≠ 0) (h : i ∈ atkL F R (l.set n 0) k bl) (hno : i ∉ atkL F R l k bl) (ht : t ∈ betL F R k (i : Int)) (htl : t < l.length) : i ∉ atkL F R ((l.set n 0).set t p) k bl ∨ i = t := by
  obtain ⟨a1, a2, a3, a4, a5, a6, a7⟩ := off_new hb hk hn h hno
  by_cases hit : i = t
  · exact .inr hit
  · left
    intro h2
    rw [atk_mem] at h2
    obtain ⟨_, h3⟩ := h2
    rw [get_set_ne hit, get_set_ne a2] at h3
    rcases att_cases h3 with h4 | ⟨_, h5, _⟩
    · exact hno (atk_mem.2 ⟨⟨a1, a3⟩, h4 _⟩)
    · have h6 := h5 t (bet_sub2 hk a4 a5 ht)
      have h7 : (ofL (occL ((l.set n 0).set t p))).testBit t = true := occ_bit.2 ⟨by simpa using htl, by rw [get_set_eq (by simpa using htl)]; exact hp⟩
      rw [h6] at h7; cases h7
/-- the king's square is not between. -/
theorem bet_king {i : Int} {j : Nat} (hk : vat F R k) (hi : vat F R i) (hl : lineB F k i = true) (hj : j ∈ betL F R k i) : (j : Int) ≠ k := by
  intro e
  obtain ⟨d1, d2⟩ := bet_dir hk hi hl hj
  rw [e] at d1 d2
  simp only [Int.sub_self] at d1 d2
  have z : sg 0 = 0 := rfl
  rw [z] at d1 d2
  have hne : k ≠ i := by
    intro e2
    unfold lineB at hl
    rw [e2] at hl
    have e3 : (i == i) = true := by simp
    rw [e3] at hl
    cases hl
  obtain ⟨p0, p1, p2, p3⟩ := place_bd hk.1 hk.2.1 hk.2.2
  have q : ∀ x : Int, 0 = sg x → x = 0 := fun x h => by unfold sg at h; split at h <;> (try split at h) <;> omega
  have e1 := q _ d1
  have e3 := q _ d2
  exact hne (place_inj hk hi (by omega) (by omega))
end

/-! ### kings that stay -/
theorem king_set {l : List Int} {n : Nat} {v : Int} {bl : Bool} (h1 : l[n]?.getD 0 ≠ kgN bl) (h2 : v ≠ kgN bl) : kingL (l.set n v) bl = kingL l bl := by
  unfold kingL idx idxTo
  rw [List.length_set]
  apply List.filter_congr
  intro j hj
  have hj2 := List.mem_range.1 hj
  by_cases e : j = n
  · subst e
    show eqP (kgN bl) ((l.set j v)[j]?.getD 0) = eqP (kgN bl) (l[j]?.getD 0)
    rw [get_set_eq hj2]
    exact (beq_eq_false_iff_ne.2 h2 : eqP (kgN bl) v = false).trans (beq_eq_false_iff_ne.2 h1 : eqP (kgN bl) (l[j]?.getD 0) = false).symm
  · rw [get_set_ne e]
theorem kingV_set {l : List Int} {n : Nat} {v : Int} {bl : Bool} (h1 : l[n]?.getD 0 ≠ kgN bl) (h2 : v ≠ kgN bl) : kingV (l.set n v) bl = kingV l bl := by
  unfold kingV
  rw [king_set h1 h2]
/-- only the king's square holds the king. -/
theorem king_only {l : List Int} {n : Nat} {bl : Bool} (h0 : 0 ≤ kingV l bl) (hn : n < l.length) (hne : (n : Int) ≠ kingV l bl) : l[n]?.getD 0 ≠ kgN bl := by
  intro e
  unfold kingV at h0 hne
  split at h0
  · rename_i h1
    rw [if_pos h1] at hne
    have hm : n ∈ kingL l bl := idx_mem.2 ⟨hn, by rw [e]; unfold eqP; simp⟩
    match hz : kingL l bl, h1 with
    | [y], _ =>
      rw [hz] at hm hne
      simp at hm hne
      exact hne (by exact_mod_cast hm)
  · omega

/-! ### how many -/
theorem filt_one {P Q : Nat → Bool} {i : Nat} (hq : ∀ j, Q j = (P j || j == i)) (hp : P i = false) : ∀ n, i < n → ((List.range n).filter Q).length = ((List.range n).filter P).length + 1 := by
  intro n
  induction n with
  | zero => intro h; omega
  | succ n ih =>
    intro h
    rw [List.range_succ, List.filter_append, List.filter_append, List.length_append, List.length_append]
    by_cases e : i = n
    · subst e
      have : ∀ m, m ≤ i → (List.range m).filter Q = (List.range m).filter P := fun m hm => List.filter_congr fun j hj => by
        have := List.mem_range.1 hj
        rw [hq]
        have : (j == i) = false := beq_eq_false_iff_ne.2 (by omega)
        simp [this]
      rw [this i (Nat.le_refl _)]
      simp [hq, hp]
    · have := ih (by omega)
      have e2 : Q n = P n := by
        rw [hq]
        have : (n == i) = false := beq_eq_false_iff_ne.2 (by omega)
        simp [this]
      simp only [List.filter_cons, List.filter_nil, e2]
      omega
/-- one square more. -/
theorem many_one {X Y : Nat} {i : Nat} (hi : i < 64) (h : ∀ j, Y.testBit j = (X.testBit j || j == i)) (hx : X.testBit i = false) : (listOf Y).length = (listOf X).length + 1 := by
  unfold listOf
  exact filt_one h hx 64 hi

end Go.Proofs.YtelkmdklpcfobaaGreatDoor

/- Plain mathematics of pins, as the theorem of attacks asks for it. -/
namespace Go.Proofs.YtelkmdklpcfobaaGreatDoor
open Go.RowKit Go.Sort

theorem hasL_nat {z : List Nat} {i : Nat} : hasL (z.map fun i : Nat => (i : Int)) (i : Int) = true ↔ i ∈ z := by
  unfold hasL
  rw [List.contains_iff_mem, List.mem_map]
  constructor
  · rintro ⟨x, hx, e⟩
    have : x = i := by omega
    exact this ▸ hx
  · exact fun h => ⟨i, h, rfl⟩
theorem firstNo_neg {b a : List Nat} (h : ¬ 0 ≤ firstNo b a) : ∀ i ∈ a, i ∈ b := by
  intro i hi
  apply Classical.byContradiction
  intro hc
  apply h
  unfold firstNo
  cases hf : a.find? (fun i : Nat => !hasL (b.map fun i : Nat => (i : Int)) (i : Int)) with
  | none =>
    rw [List.find?_eq_none] at hf
    have := hf i hi
    simp at this
    exact absurd (hasL_nat.1 this) hc
  | some x => simp
theorem not_of {p : Int} (hp : p ≠ 0) : decide (0 < p) = !decide (p < 0) := by
  by_cases h : p < 0
  · have : ¬ 0 < p := by omega
    simp [h, this]
  · have : 0 < p := by omega
    simp [h, this]
theorem ofL_ext' {l m : List Nat} (h : ∀ i, i ∈ l ↔ i ∈ m) : ofL l = ofL m := by
  apply Nat.eq_of_testBit_eq
  intro i
  rw [ofL_bit, ofL_bit]
  simp [h i]
theorem ofL_zero {l : List Nat} : ofL l = 0 ↔ l = [] := by
  constructor
  · intro h
    cases l with
    | nil => rfl
    | cons a l =>
      have := ofL_bit (a :: l) a
      rw [h] at this
      simp at this
  · rintro rfl; rfl
theorem atk_lt {F R t : Int} {l : List Int} {bl : Bool} {i : Nat} (h : i ∈ atkL F R l t bl) : i < l.length := (atk_mem.1 h).1.1
/-- a square is attacked just if it has an attacker. -/
theorem attacked_iff {F R : Int} {l : List Int} {bl : Bool} {n : Nat} (hn : n < l.length) : n ∈ attackedL F R l bl ↔ ofL (atkL F R l (n : Int) bl) ≠ 0 := by
  unfold attackedL
  rw [List.mem_filter, List.mem_range, decide_eq_true_eq, ne_eq, ofL_zero, ← List.length_eq_zero_iff]
  constructor
  · rintro ⟨_, h⟩; omega
  · intro h; exact ⟨hn, by omega⟩

section
variable {F R : Int} {l : List Int} {n : Nat} {own : Bool}
theorem lin_mem {i : Nat} (hd : decide (l[n]?.getD 0 < 0) = own) : i ∈ linL F R l n ↔ i < l.length ∧ ((i : Int) = pinV F R l n ∨ ((∃ j : Nat, (j : Int) = i ∧ j ∈ betL F R (kingV l own) (pinV F R l n)) ∧ i ≠ n)) := by
  unfold linL
  rw [List.mem_filter, hd]
  simp only [List.mem_range, Bool.or_eq_true, beq_iff_eq, Bool.and_eq_true, Bool.not_eq_true', hasL_nat, beq_eq_false_iff_ne, ne_eq]
  constructor
  · rintro ⟨h1, h2 | ⟨h2, h3⟩⟩
    · exact ⟨h1, .inl h2⟩
    · exact ⟨h1, .inr ⟨⟨i, rfl, h2⟩, h3⟩⟩
  · rintro ⟨h1, h2 | ⟨⟨j, e, h2⟩, h3⟩⟩
    · exact ⟨h1, .inl h2⟩
    · have : j = i := by omega
      exact ⟨h1, .inr ⟨this ▸ h2, h3⟩⟩
theorem pin_no (hd : decide (l[n]?.getD 0 < 0) = own) (hp : l[n]?.getD 0 ≠ 0) (hnk : (n : Int) ≠ kingV l own) (h : ¬ 0 ≤ pinV F R l n) : ∀ i ∈ atkL F R (l.set n 0) (kingV l own) (!own), i ∈ atkL F R l (kingV l own) (!own) := by
  unfold pinV at h
  rw [hd, if_neg hnk, not_of hp, hd] at h
  exact firstNo_neg h
theorem pin_yes (hd : decide (l[n]?.getD 0 < 0) = own) (hp : l[n]?.getD 0 ≠ 0) (hnk : (n : Int) ≠ kingV l own) (h : 0 ≤ pinV F R l n) : ∃ i : Nat, pinV F R l n = (i : Int) ∧ i ∈ atkL F R (l.set n 0) (kingV l own) (!own) ∧ i ∉ atkL F R l (kingV l own) (!own) := by
  unfold pinV at h ⊢
  rw [hd, if_neg hnk, not_of hp, hd] at h ⊢
  obtain ⟨i, h1, h2, h3⟩ := firstNo_some h
  exact ⟨i, h3, h1, h2⟩
theorem pin_sub (hd : decide (l[n]?.getD 0 < 0) = own) (hp : l[n]?.getD 0 ≠ 0) (hn : n < l.length) {i : Nat} (h : i ∈ atkL F R l (kingV l own) (!own)) : i ∈ atkL F R (l.set n 0) (kingV l own) (!own) := off_sub hn (sd_other hd hp) h
theorem pin_all (hb : vbd F R l) (hd : decide (l[n]?.getD 0 < 0) = own) (hp : l[n]?.getD 0 ≠ 0) (hn : n < l.length) (hk0 : 0 ≤ kingV l own) {i : Nat} (h1 : i ∈ atkL F R (l.set n 0) (kingV l own) (!own)) (h2 : i ∉ atkL F R l (kingV l own) (!own)) (j : Nat) :
    j ∈ atkL F R (l.set n 0) (kingV l own) (!own) ↔ j ∈ atkL F R l (kingV l own) (!own) ∨ j = i := by
  constructor
  · intro h
    by_cases h3 : j ∈ atkL F R l (kingV l own) (!own)
    · exact .inl h3
    · exact .inr (off_one hb (kingV_at hb hk0) hn h h3 h1 h2)
  · rintro (h | rfl)
    · exact pin_sub hd hp hn h
    · exact h1
/-- one attacker more. -/
theorem pin_many (hb : vbd F R l) (hd : decide (l[n]?.getD 0 < 0) = own) (hp : l[n]?.getD 0 ≠ 0) (hn : n < l.length) (hk0 : 0 ≤ kingV l own) (hnk : (n : Int) ≠ kingV l own) (h : 0 ≤ pinV F R l n) :
    (listOf (ofL (atkL F R (l.set n 0) (kingV l own) (!own)))).length = (listOf (ofL (atkL F R l (kingV l own) (!own)))).length + 1 := by
  obtain ⟨i, _, h1, h2⟩ := pin_yes hd hp hnk h
  have hi : i < 64 := by
    have := atk_lt h1
    have := (vsz_mul hb.1).2
    have := hb.2.1
    simp at *
    omega
  refine many_one hi (fun j => ?_) (by rw [ofL_bit]; simpa using h2)
  rw [ofL_bit, ofL_bit, Bool.eq_iff_iff]
  simp [pin_all hb hd hp hn hk0 h1 h2 j]
/-- the new attacker stands on the pin line. -/
theorem pin_on (hb : vbd F R l) (hd : decide (l[n]?.getD 0 < 0) = own) (hp : l[n]?.getD 0 ≠ 0) (hn : n < l.length) (hk0 : 0 ≤ kingV l own) (hnk : (n : Int) ≠ kingV l own) (h : 0 ≤ pinV F R l n) {j : Nat} (h1 : j ∈ atkL F R (l.set n 0) (kingV l own) (!own)) (h2 : j ∉ atkL F R l (kingV l own) (!own)) : j ∈ linL F R l n := by
  obtain ⟨i, e, a1, a2⟩ := pin_yes hd hp hnk h
  have hji : j = i := off_one hb (kingV_at hb hk0) hn h1 h2 a1 a2
  rw [lin_mem hd]
  refine ⟨by have := atk_lt h1; simpa using this, .inl ?_⟩
  rw [e, hji]
/-- along the pin line the piece shuts the line again. -/
theorem pin_shut (hb : vbd F R l) (hd : decide (l[n]?.getD 0 < 0) = own) (hp : l[n]?.getD 0 ≠ 0) (hn : n < l.length) (hk0 : 0 ≤ kingV l own) (hnk : (n : Int) ≠ kingV l own) (h : 0 ≤ pinV F R l n) {t : Nat} (ht : t ∈ linL F R l n) :
    t < l.length ∧ (t : Int) ≠ kingV l own ∧ (t ∈ atkL F R (l.set n 0) (kingV l own) (!own) ∨ ∀ j, j ∈ atkL F R (l.set n 0) (kingV l own) (!own) → j ∉ atkL F R l (kingV l own) (!own) → j ∉ atkL F R ((l.set n 0).set t (l[n]?.getD 0)) (kingV l own) (!own)) := by
  obtain ⟨i, e, a1, a2⟩ := pin_yes hd hp hnk h
  obtain ⟨b1, b2, b3, b4, b5, b6, b7⟩ := off_new hb (kingV_at hb hk0) hn a1 a2
  obtain ⟨h1, h2⟩ := (lin_mem hd).1 ht
  rw [e] at h2
  rcases h2 with h2 | ⟨⟨t', e2, h2⟩, h3⟩
  · have : t = i := by omega
    subst this
    refine ⟨h1, ?_, .inl a1⟩
    intro e3
    unfold lineB at b5
    rw [← e3] at b5
    have e4 : ((t : Int) == (t : Int)) = true := by simp
    rw [e4] at b5
    cases b5
  · obtain rfl : t' = t := by omega
    refine ⟨h1, bet_king (kingV_at hb hk0) b4 b5 h2, .inr fun j h4 h5 => ?_⟩
    obtain rfl : j = i := off_one hb (kingV_at hb hk0) hn h4 h5 a1 a2
    rcases off_shut hb (kingV_at hb hk0) hn hp a1 a2 h2 h1 with h6 | h6
    · exact h6
    · subst h6
      intro h7
      have h8 := (atk_mem.1 h7).1.2
      rw [get_set_eq (by simpa using h1), sd_other hd hp] at h8
      cases h8
/-- the king's square is the same on all these boards. -/
theorem pin_kings (hn : n < l.length) (hk0 : 0 ≤ kingV l own) (hnk : (n : Int) ≠ kingV l own) : kingV (l.set n 0) own = kingV l own ∧ ∀ t, t < l.length → (t : Int) ≠ kingV l own → kingV ((l.set n 0).set t (l[n]?.getD 0)) own = kingV l own := by
  have h0 : (0 : Int) ≠ kgN own := by cases own <;> decide
  have h1 := king_only hk0 hn hnk
  have h2 := kingV_set (v := 0) h1 h0
  refine ⟨h2, fun t ht htk => ?_⟩
  rw [← h2]
  refine kingV_set ?_ h1
  by_cases e : t = n
  · subst e; rw [get_set_eq hn]; exact h0
  · rw [get_set_ne e]; exact king_only hk0 ht htk
/-- a piece is among the pinned ones just if there is one that pins it. -/
theorem pinned_iff (hd : decide (l[n]?.getD 0 < 0) = own) (hp : l[n]?.getD 0 ≠ 0) (hn : n < l.length) : n ∈ pinnedL F R l own ↔ 0 ≤ pinV F R l n := by
  unfold pinnedL
  rw [List.mem_filter, idx_mem]
  have : sdP (sdN own) (l[n]?.getD 0) = true := by
    unfold sdP sgnP
    cases own
    · have h1 : ¬ l[n]?.getD 0 < 0 := by simpa using hd
      rw [if_neg h1, if_pos (by omega)]
      rfl
    · have h1 : l[n]?.getD 0 < 0 := by simpa using hd
      rw [if_pos h1]
      rfl
  exact ⟨fun h => by simpa using h.2, fun h => ⟨⟨hn, this⟩, by simpa using h⟩⟩
end

end Go.Proofs.YtelkmdklpcfobaaGreatDoor

/- The examples of chapter 5: the boards, what the document's own functions say of them, sets of their squares by names. -/
namespace Go.Proofs.YtelkmdklpcfobaaGreatDoor
open Go.RowKit Go.Sort

def bd_a : List Int := [6, 0, 0, 0, 4, 0, -6, 0, 0]
theorem bd_a_v : vbd 3 3 bd_a := ⟨vsz_of _ _ rfl, by decide, fun j hj => by
  have h : ∀ j : Fin 9, -15 ≤ bd_a[j.1]?.getD 0 ∧ bd_a[j.1]?.getD 0 ≤ 15 := by decide +kernel
  have := h ⟨j, by simpa [bd_a] using hj⟩
  unfold okP
  simpa using this⟩
theorem bd_a_o : orA bd_a = true := by decide +kernel
def bd_c : List Int := [0, 0, 0, 0, 6, 0, 0, 0, 0, 3, 0, 0, 0, 0, -4, 0, 0, 0, 0, 0, 0, 0, 0, 0, -6]
theorem bd_c_v : vbd 5 5 bd_c := ⟨vsz_of _ _ rfl, by decide, fun j hj => by
  have h : ∀ j : Fin 25, -15 ≤ bd_c[j.1]?.getD 0 ∧ bd_c[j.1]?.getD 0 ≤ 15 := by decide +kernel
  have := h ⟨j, by simpa [bd_c] using hj⟩
  unfold okP
  simpa using this⟩
theorem bd_c_o : orA bd_c = true := by decide +kernel
def bd_d : List Int := [0, 0, 0, 0, 6, 0, 0, 0, 0, 2, 0, 0, 0, 0, 0, 0, 0, 0, 0, -5, 0, 0, 0, 0, -6]
theorem bd_d_v : vbd 5 5 bd_d := ⟨vsz_of _ _ rfl, by decide, fun j hj => by
  have h : ∀ j : Fin 25, -15 ≤ bd_d[j.1]?.getD 0 ∧ bd_d[j.1]?.getD 0 ≤ 15 := by decide +kernel
  have := h ⟨j, by simpa [bd_d] using hj⟩
  unfold okP
  simpa using this⟩
theorem bd_d_o : orA bd_d = true := by decide +kernel
def bd_h : List Int := [6, 0, 0, 0, 0, 0, 0, 0, 0, 0, 1, 0, 0, 0, 0, -6]
theorem bd_h_v : vbd 4 4 bd_h := ⟨vsz_of _ _ rfl, by decide, fun j hj => by
  have h : ∀ j : Fin 16, -15 ≤ bd_h[j.1]?.getD 0 ∧ bd_h[j.1]?.getD 0 ≤ 15 := by decide +kernel
  have := h ⟨j, by simpa [bd_h] using hj⟩
  unfold okP
  simpa using this⟩
theorem bd_h_o : orA bd_h = true := by decide +kernel
def bd_m : List Int := [6, 0, 0, 6, 0, 0, 0, 0, 0, 0, 0, 0, 0, 0, 0, 0]
theorem bd_m_v : vbd 4 4 bd_m := ⟨vsz_of _ _ rfl, by decide, fun j hj => by
  have h : ∀ j : Fin 16, -15 ≤ bd_m[j.1]?.getD 0 ∧ bd_m[j.1]?.getD 0 ≤ 15 := by decide +kernel
  have := h ⟨j, by simpa [bd_m] using hj⟩
  unfold okP
  simpa using this⟩
theorem bd_m_o : orA bd_m = true := by decide +kernel
theorem v_atk_a : ofL (atkL 3 3 bd_a 6 false) = 0 := by decide +kernel
theorem v_all_a : ofL (attackedL 3 3 bd_a false) = 186 := by decide +kernel
theorem v_chk_a : ofL (atkL 3 3 bd_a 6 false) = 0 := by decide +kernel
theorem v_pin_c : ofL (pinnedL 5 5 bd_c false) = 512 := by decide +kernel
theorem v_lin_c : ofL (linL 5 5 bd_c 9) = 16384 := by decide +kernel
theorem v_chk_c : ofL (atkL 5 5 bd_c 4 true) = 0 := by decide +kernel
theorem v_pin_d : ofL (pinnedL 5 5 bd_d false) = 512 := by decide +kernel
theorem v_lin_d : ofL (linL 5 5 bd_d 9) = 540672 := by decide +kernel
theorem v_atk_h : ofL (atkL 4 4 bd_h 15 false) = 1024 := by decide +kernel
theorem v_king_a_b : kingV bd_a true = 6 := by decide +kernel
theorem v_king_c_w : kingV bd_c false = 4 := by decide +kernel
theorem v_king_d_w : kingV bd_d false = 4 := by decide +kernel
theorem v_king_h_b : kingV bd_h true = 15 := by decide +kernel
theorem v_king_h_w : kingV bd_h false = 0 := by decide +kernel
theorem v_king_m_w : kingV bd_m false = -1 := by decide +kernel
theorem v_king_m_b : kingV bd_m true = -1 := by decide +kernel
theorem v_pinv_c : pinV 5 5 bd_c 9 = 14 := by decide +kernel
theorem v_pinv_d : pinV 5 5 bd_d 9 = 19 := by decide +kernel

end Go.Proofs.YtelkmdklpcfobaaGreatDoor

/- The law's known answers of chapter 5: true, given what the program's functions of attacks answer on orthodox boards. -/
namespace Go.Proofs.YtelkmdklpcfobaaGreatDoor
open Go.RowKit Go.Sort

theorem cB5 {W W' : World} (hb : Below W.heap.size W W') {a : Addr} {v : Value} (h : W.cell? a = some v) : W'.cell? a = some v :=
  (hb.cell (World.block_lt_of_cell? W a h)).trans h
theorem rB5 {W W' : World} (hb : Below W.heap.size W W') {A : Option Addr} {l : List Int} {c : Nat} (h : RdP W W.heap.size A l c) : RdP W' W'.heap.size A l c := (h.below hb).grow hb.size
end Go.Proofs.YtelkmdklpcfobaaGreatDoor

/- Attacks, by the program: attackers. -/
namespace Go.Proofs.YtelkmdklpcfobaaGreatDoor
open Go.RowKit

/-- the tables of both libraries lie in their variables. -/
def T5 (w : World) : Prop := Tab w ∧ Tb w
theorem T5.below {w w' : World} (h : T5 w) (hb : Below w.heap.size w w') : T5 w' := ⟨h.1.below hb h.1.1, h.2.below hb⟩
theorem vbd_64 {F R : Int} {l : List Int} (h : vbd F R l) : l.length ≤ 64 := by have := (vsz_mul h.1).2; have := h.2.1; omega

/-- the survey of an orthodox board. -/
theorem surv_yes (F R : Int) (l : List Int) (A : Option Addr) (c : Nat) (h : vbd F R l) (ho : orA l = true) (L : List Value) (hL : fieldC F R (sS l) (kS l) = L) (w : World) (hA : RdP w w.heap.size A l c) :
    Calls Tryz.prog 103 #[.agg #[.int .i64 F, .int .i64 R, .slice A l.length c]] w fun e w' => e = .returned (.tuple #[.agg L.toArray, .int .i64 0]) ∧ Below w.heap.size w w' := by
  subst hL
  exact aSurvey_yes F R l A c h ho w hA
/-- the survey of another board. -/
theorem surv_no (F R : Int) (l : List Int) (A : Option Addr) (c : Nat) (h : ¬ (vbd F R l ∧ orA l = true)) (L : List Value) (hL : fieldC 0 0 zS zK = L) (w : World) (hlen : l.length ≤ 100000) (hA : RdP w w.heap.size A l c) :
    Calls Tryz.prog 103 #[.agg #[.int .i64 F, .int .i64 R, .slice A l.length c]] w fun e w' => e = .returned (.tuple #[.agg L.toArray, .int .i64 2]) ∧ Below w.heap.size w w' := by
  subst hL
  by_cases hv : vbd F R l
  · have ho : orA l = false := by
      cases e : orA l
      · rfl
      · exact absurd ⟨hv, e⟩ h
    exact aSurvey_or F R l A c hv ho w hA
  · exact aSurvey_no F R l A c hv w (by omega) hA
theorem putL_size (B : Nat) : ∀ (vs : List Value) (W : World) (o : Nat), (putL B W o vs).heap.size = W.heap.size
  | [], _, _ => rfl
  | v :: vs, W, o => (putL_size B vs _ _).trans (by simp)
/-- a field is laid into a new block. -/
theorem lay18 (w : World) {F R : Int} {S : Bool → Nat} {K : Bool → Nat → Nat} {L : List Value} (hL : fieldC F R S K = L) : ∃ V, (storeCells ⟨w.heap.size, 0, none⟩ L 0).run Tryz.prog (w.alloc (.cells #[.int .i64 0, .int .i64 0, .int .u64 0, .int .u64 0, .int .u64 0, .int .u64 0, .int .u64 0, .int .u64 0, .int .u64 0, .int .u64 0, .int .u64 0, .int .u64 0, .int .u64 0, .int .u64 0, .int .u64 0, .int .u64 0, .int .u64 0, .int .u64 0] 127)) = .ok () V ∧ Fld V w.heap.size F R S K ∧ Below w.heap.size w V ∧ V.heap.size = w.heap.size + 1 := by
  subst hL
  have hz := zero_cells w
  have hst := store18 (W := w.alloc (.cells #[.int .i64 0, .int .i64 0, .int .u64 0, .int .u64 0, .int .u64 0, .int .u64 0, .int .u64 0, .int .u64 0, .int .u64 0, .int .u64 0, .int .u64 0, .int .u64 0, .int .u64 0, .int .u64 0, .int .u64 0, .int .u64 0, .int .u64 0, .int .u64 0] 127)) (T := w.heap.size) (F := F) (R := R) (S := S) (K := K) (fun o ho => (hz o ho).1) (fun o => by simp [go_sem])
  rw [setCells_putL] at hst
  refine ⟨_, hst, fld_put (fun j hj => ⟨_, (hz j hj).1⟩), ?_, ?_⟩
  · have hb := putL_but w.heap.size (fieldC F R S K) (w.alloc (.cells #[.int .i64 0, .int .i64 0, .int .u64 0, .int .u64 0, .int .u64 0, .int .u64 0, .int .u64 0, .int .u64 0, .int .u64 0, .int .u64 0, .int .u64 0, .int .u64 0, .int .u64 0, .int .u64 0, .int .u64 0, .int .u64 0, .int .u64 0, .int .u64 0] 127)) 0
    have h0 : Below w.heap.size w (w.alloc (.cells #[.int .i64 0, .int .i64 0, .int .u64 0, .int .u64 0, .int .u64 0, .int .u64 0, .int .u64 0, .int .u64 0, .int .u64 0, .int .u64 0, .int .u64 0, .int .u64 0, .int .u64 0, .int .u64 0, .int .u64 0, .int .u64 0, .int .u64 0, .int .u64 0] 127)) := box1 _ _
    exact h0.trans (hb.below (Nat.le_refl _) (by simp))
  · rw [putL_size]
    simp
theorem len18 {F R : Int} {S : Bool → Nat} {K : Bool → Nat → Nat} {L : List Value} (hL : fieldC F R S K = L) : L.length = 18 := by subst hL; rfl

end Go.Proofs.YtelkmdklpcfobaaGreatDoor
