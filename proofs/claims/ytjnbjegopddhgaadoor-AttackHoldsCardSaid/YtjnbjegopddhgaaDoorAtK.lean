/- Plain mathematics of lines: the squares between two squares are the same from both ends. -/
import Derived.Test.YtjnbjegopddhgaaDoorRpM
import Derived.Test.YtjnbjegopddhgaaDoorAtI

namespace Go.Proofs.YtjnbjegopddhgaaDoor
open Go.RowKit

theorem lineB_symm2 (F a b : Int) : lineB F b a = lineB F a b := by
  unfold lineB
  rw [Bool.eq_iff_iff]
  simp
  omega
theorem cheb_symm2 (a b c d : Int) : cheb (a - b) (c - d) = cheb (b - a) (d - c) := by unfold cheb; omega
theorem sg_symm2 (a b : Int) : sg (a - b) = - sg (b - a) := by unfold sg; split <;> split <;> (try split) <;> (try split) <;> omega
theorem sg_val2 (n : Int) : sg n = -1 ∨ sg n = 0 ∨ sg n = 1 := by unfold sg; split <;> (try split) <;> omega

theorem bet_sub2 {F R a b : Int} {i : Nat} (ha : vat F R a) (hb : vat F R b) (hl : lineB F a b = true) (hi : i ∈ betL F R a b) : i ∈ betL F R b a := by
  obtain ⟨m, m8, hm, hP, hN, hbet⟩ := line_ray ha hb hl
  obtain ⟨m', m8', hm', hP', hN', hbet'⟩ := line_ray hb ha (by rw [lineB_symm2]; exact hl)
  rw [cheb_symm2 (a % F) (b % F) (a / F) (b / F), ← hm] at hm'
  obtain rfl : m' = m := by omega
  rw [hbet] at hi
  rw [hbet']
  obtain ⟨j, hj, rfl⟩ := List.mem_map.1 hi
  have hj2 : j < m' := List.mem_range.1 hj
  rw [List.mem_map]
  refine ⟨m' - 1 - j, List.mem_range.2 (by omega), ?_⟩
  obtain ⟨e1, e2, _⟩ := ray_place ha.1 (hP m' (by omega))
  rw [hN] at e1 e2
  have hc : ((m' - 1 - j : Nat) : Int) = (m' : Int) - 1 - (j : Int) := by omega
  have s1 := sg_symm2 (a % F) (b % F)
  have s2 := sg_symm2 (a / F) (b / F)
  unfold rayNum
  rw [s1, s2, hc]
  generalize a % F = x at *
  generalize b % F = u at *
  generalize a / F = y at *
  generalize b / F = v at *
  have v1 := sg_val2 (u - x)
  have v2 := sg_val2 (v - y)
  have k1 : v + ((m' : Int) - 1 - (j : Int) + 1) * -sg (v - y) = y + ((j : Int) + 1) * sg (v - y) := by
    generalize sg (v - y) = r at *
    rcases v2 with rfl | rfl | rfl <;> omega
  have k2 : u + ((m' : Int) - 1 - (j : Int) + 1) * -sg (u - x) = x + ((j : Int) + 1) * sg (u - x) := by
    generalize sg (u - x) = f at *
    rcases v1 with rfl | rfl | rfl <;> omega
  rw [k1, k2]

end Go.Proofs.YtjnbjegopddhgaaDoor

/- Plain mathematics of attacks: what becomes of the attackers of a king's square when a piece of its own side is taken off, or put elsewhere. -/
namespace Go.Proofs.YtjnbjegopddhgaaDoor
open Go.RowKit Go.Sort

theorem mem_pickP {P : Nat → Bool} {l : List Nat} {n : Nat} : n ∈ l.filter P ↔ n ∈ l ∧ P n = true := List.mem_filter
/-- which squares are occupied. -/
theorem occ_bit {l : List Int} {j : Nat} : (ofL (occL l)).testBit j = true ↔ j < l.length ∧ l[j]?.getD 0 ≠ 0 := by
  rw [ofL_bit, decide_eq_true_eq]
  unfold occL
  rw [List.mem_append, idx_mem, idx_mem]
  unfold sdP sgnP
  generalize l[j]?.getD 0 = x
  constructor
  · rintro (⟨h1, h2⟩ | ⟨h1, h2⟩)
    · refine ⟨h1, fun e => ?_⟩
      subst e
      simp at h2
    · refine ⟨h1, fun e => ?_⟩
      subst e
      simp at h2
  · rintro ⟨h1, h2⟩
    by_cases h3 : x < 0
    · right; exact ⟨h1, by rw [if_pos h3]; rfl⟩
    · left; exact ⟨h1, by rw [if_neg h3, if_pos (by omega)]; rfl⟩
theorem atk_mem {F R : Int} {l : List Int} {t : Int} {bl : Bool} {i : Nat} : i ∈ atkL F R l t bl ↔ (i < l.length ∧ sdP (sdN bl) (l[i]?.getD 0) = true) ∧ attP F R (l[i]?.getD 0) (ofL (occL l)) i t = true := by
  unfold atkL
  rw [List.mem_filter, idx_mem]
  rfl
theorem freeN {l : List Nat} {X : Nat} : freeB (l.map fun i : Nat => (i : Int)) X = true ↔ ∀ i ∈ l, X.testBit i = false := by
  unfold freeB
  rw [List.all_eq_true]
  simp
/-- an attack is one by a step or a leap, whatever is occupied, or one along a line that is free. -/
theorem att_cases {F R p : Int} {X : Nat} {i t : Int} (h : attP F R p X i t = true) : (∀ Y, attP F R p Y i t = true) ∨ (lineB F i t = true ∧ (∀ j ∈ betL F R i t, X.testBit j = false) ∧ ∀ Y, (∀ j ∈ betL F R i t, Y.testBit j = false) → attP F R p Y i t = true) := by
  unfold attP at *
  by_cases hk : kdP p = 1
  · left; intro Y; rw [if_pos hk] at h ⊢; exact h
  · rw [if_neg hk] at h
    simp only [Bool.and_eq_true] at h
    obtain ⟨h0, h1⟩ := h
    unfold reachB at h1
    by_cases e2 : kdP p = 2
    · left; intro Y; rw [if_neg hk, h0]; unfold reachB; rw [if_pos e2] at h1 ⊢; simpa using h1
    · rw [if_neg e2] at h1
      by_cases e6 : kdP p = 6
      · left; intro Y; rw [if_neg hk, h0]; unfold reachB; rw [if_neg e2]; rw [if_pos e6] at h1 ⊢; simpa using h1
      · rw [if_neg e6] at h1
        simp only [Bool.and_eq_true] at h1
        refine .inr ⟨h1.1.1, freeN.1 h1.2, fun Y hY => ?_⟩
        rw [if_neg hk, h0]
        unfold reachB
        rw [if_neg e2, if_neg e6, h1.1.1, h1.1.2, freeN.2 hY]
        rfl
/-- fewer occupied squares: what attacked attacks. -/
theorem att_mono {F R p : Int} {X Y : Nat} {i t : Int} (h : attP F R p X i t = true) (hs : ∀ j, Y.testBit j = true → X.testBit j = true) : attP F R p Y i t = true := by
  rcases att_cases h with h1 | ⟨_, h2, h3⟩
  · exact h1 Y
  · refine h3 Y fun j hj => ?_
    have := h2 j hj
    cases hy : Y.testBit j
    · rfl
    · rw [hs j hy] at this; cases this

/-! ### lines from a king -/
theorem sg_mul {j : Nat} {f : Int} (h : f = -1 ∨ f = 0 ∨ f = 1) : sg (((j : Int) + 1) * f) = f := by
  unfold sg
  rcases h with rfl | rfl | rfl
  · rw [if_pos (by omega)]
  · simp
  · rw [if_neg (by omega), if_pos (by omega)]
theorem sg_val' (n : Int) : sg n = -1 ∨ sg n = 0 ∨ sg n = 1 := by unfold sg; split <;> (try split) <;> omega
/-- a square between has the direction of the line's end. -/
theorem bet_dir {F R k i : Int} {n : Nat} (hk : vat F R k) (hi : vat F R i) (hl : lineB F k i = true) (hn : n ∈ betL F R k i) : sg ((n : Int) % F - k % F) = sg (i % F - k % F) ∧ sg ((n : Int) / F - k / F) = sg (i / F - k / F) := by
  obtain ⟨m, m8, hm, hP, hN, hbet⟩ := line_ray hk hi hl
  rw [hbet] at hn
  obtain ⟨j, hj, rfl⟩ := List.mem_map.1 hn
  have hj2 : j < m := List.mem_range.1 hj
  obtain ⟨e1, e2, _⟩ := ray_place hk.1 (hP j (by omega))
  rw [e1, e2, show k % F + ((j : Int) + 1) * sg (i % F - k % F) - k % F = ((j : Int) + 1) * sg (i % F - k % F) by omega, show k / F + ((j : Int) + 1) * sg (i / F - k / F) - k / F = ((j : Int) + 1) * sg (i / F - k / F) by omega]
  exact ⟨sg_mul (sg_val' _), sg_mul (sg_val' _)⟩
/-- of two ends of lines in one direction one is between, or they are one. -/
theorem ends {F R k : Int} {a b : Nat} (hk : vat F R k) (ha : vat F R (a : Int)) (hb : vat F R (b : Int)) (la : lineB F k a = true) (lb : lineB F k b = true) (hf : sg ((a : Int) % F - k % F) = sg ((b : Int) % F - k % F)) (hr : sg ((a : Int) / F - k / F) = sg ((b : Int) / F - k / F)) : a = b ∨ a ∈ betL F R k b ∨ b ∈ betL F R k a := by
  obtain ⟨m, m8, hm, hP, hN, hbet⟩ := line_ray hk ha la
  obtain ⟨m', m8', hm', hP', hN', hbet'⟩ := line_ray hk hb lb
  rw [hf, hr] at hN hbet
  rw [hbet, hbet']
  rcases Nat.lt_trichotomy m m' with h | h | h
  · right; left
    rw [List.mem_map]
    exact ⟨m, List.mem_range.2 h, by omega⟩
  · left; subst h; omega
  · right; right
    rw [List.mem_map]
    exact ⟨m', List.mem_range.2 h, by omega⟩

end Go.Proofs.YtjnbjegopddhgaaDoor

/- Plain mathematics of pins: a piece that is taken off lets at most one piece more attack its king, along the line on which it stood; on that line it shuts it again. -/
namespace Go.Proofs.YtjnbjegopddhgaaDoor
open Go.RowKit Go.Sort

theorem get_set_ne {l : List Int} {n j : Nat} {v : Int} (h : j ≠ n) : (l.set n v)[j]?.getD 0 = l[j]?.getD 0 := by rw [List.getElem?_set, if_neg (by omega)]
theorem get_set_eq {l : List Int} {n : Nat} {v : Int} (h : n < l.length) : (l.set n v)[n]?.getD 0 = v := by rw [List.getElem?_set]; simp [h]
theorem occ_set {l : List Int} {n j : Nat} (hn : n < l.length) : (ofL (occL (l.set n 0))).testBit j = true ↔ (ofL (occL l)).testBit j = true ∧ j ≠ n := by
  rw [occ_bit, occ_bit]
  by_cases h : j = n
  · subst h
    rw [get_set_eq hn]
    simp
  · rw [get_set_ne h]
    simp [h]
theorem sd_zero {bl : Bool} : sdP (sdN bl) 0 = false := by cases bl <;> decide
/-- a piece of the other side. -/
theorem sd_other {bl : Bool} {p : Int} (h : decide (p < 0) = bl) (hp : p ≠ 0) : sdP (sdN (!bl)) p = false := by
  unfold sdP sgnP
  cases bl
  · have h1 : ¬ p < 0 := by simpa using h
    rw [if_neg h1, if_pos (by omega)]
    rfl
  · have h1 : p < 0 := by simpa using h
    rw [if_pos h1]
    rfl
theorem set_or {l : List Int} {n : Nat} {v : Int} (h : orA l = true) (hv : orB v = true) : orA (l.set n v) = true := by
  unfold orA at *
  rw [List.all_eq_true] at *
  intro x hx
  rcases List.mem_or_eq_of_mem_set hx with h1 | rfl
  · exact h x h1
  · exact hv
theorem set_vbd {F R : Int} {l : List Int} {n : Nat} {v : Int} (h : vbd F R l) (hv : okP v) : vbd F R (l.set n v) := by
  obtain ⟨h1, h2, h3⟩ := h
  refine ⟨h1, by simpa using h2, fun j hj => ?_⟩
  simp at hj
  by_cases e : j = n
  · subst e; rw [get_set_eq hj]; exact hv
  · rw [get_set_ne e]; exact h3 j hj

section
variable {F R k : Int} {l : List Int} {n : Nat} {bl : Bool}
/-- who attacks, attacks when a piece of the other side is off. -/
theorem off_sub (hn : n < l.length) (hs : sdP (sdN bl) (l[n]?.getD 0) = false) {i : Nat} (h : i ∈ atkL F R l k bl) : i ∈ atkL F R (l.set n 0) k bl := by
  rw [atk_mem] at *
  obtain ⟨⟨h1, h2⟩, h3⟩ := h
  have hne : i ≠ n := by rintro rfl; rw [hs] at h2; cases h2
  rw [get_set_ne hne]
  exact ⟨⟨by simpa using h1, h2⟩, att_mono h3 fun j hj => ((occ_set hn).1 hj).1⟩
/-- a new attacker. -/
theorem off_new (hb : vbd F R l) (hk : vat F R k) (hn : n < l.length) {i : Nat} (h : i ∈ atkL F R (l.set n 0) k bl) (hno : i ∉ atkL F R l k bl) :
    i < l.length ∧ i ≠ n ∧ sdP (sdN bl) (l[i]?.getD 0) = true ∧ vat F R (i : Int) ∧ lineB F k (i : Int) = true ∧ n ∈ betL F R k (i : Int) ∧ ∀ j ∈ betL F R k (i : Int), (ofL (occL (l.set n 0))).testBit j = false := by
  rw [atk_mem] at h
  obtain ⟨⟨h1, h2⟩, h3⟩ := h
  simp at h1
  have hne : i ≠ n := by rintro rfl; rw [get_set_eq h1, sd_zero] at h2; cases h2
  rw [get_set_ne hne] at h2 h3
  have hi : vat F R (i : Int) := ⟨hb.1, by omega, by have := hb.2.1; omega⟩
  have hX : attP F R (l[i]?.getD 0) (ofL (occL l)) i k = false := by
    rw [← Bool.not_eq_true]
    exact fun e => hno (atk_mem.2 ⟨⟨h1, h2⟩, e⟩)
  rcases att_cases h3 with h4 | ⟨h4, h5, h6⟩
  · rw [h4] at hX; cases hX
  · have hl : lineB F k (i : Int) = true := by rw [lineB_symm2]; exact h4
    refine ⟨h1, hne, h2, hi, hl, ?_, fun j hj => h5 j (bet_sub2 hk hi hl hj)⟩
    apply bet_sub2 hi hk h4
    apply Classical.byContradiction
    intro hc
    have := h6 (ofL (occL l)) fun j hj => by
      have e := h5 j hj
      cases hx : (ofL (occL l)).testBit j
      · rfl
      · have := (occ_set hn).2 ⟨hx, fun e2 => hc (e2 ▸ hj)⟩
        rw [e] at this; cases this
    rw [this] at hX; cases hX
theorem occ_piece {l : List Int} {i : Nat} (h1 : i < l.length) (h2 : sdP (sdN bl) (l[i]?.getD 0) = true) : (ofL (occL l)).testBit i = true := by
  refine occ_bit.2 ⟨h1, fun e => ?_⟩
  rw [e, sd_zero] at h2
  cases h2
/-- there is at most one new attacker. -/
theorem off_one (hb : vbd F R l) (hk : vat F R k) (hn : n < l.length) {i i' : Nat} (h : i ∈ atkL F R (l.set n 0) k bl) (hno : i ∉ atkL F R l k bl) (h' : i' ∈ atkL F R (l.set n 0) k bl) (hno' : i' ∉ atkL F R l k bl) : i = i' := by
  obtain ⟨a1, a2, a3, a4, a5, a6, a7⟩ := off_new hb hk hn h hno
  obtain ⟨b1, b2, b3, b4, b5, b6, b7⟩ := off_new hb hk hn h' hno'
  obtain ⟨d1, d2⟩ := bet_dir hk a4 a5 a6
  obtain ⟨e1, e2⟩ := bet_dir hk b4 b5 b6
  have o1 : (ofL (occL (l.set n 0))).testBit i = true := (occ_set hn).2 ⟨occ_piece a1 a3, a2⟩
  have o2 : (ofL (occL (l.set n 0))).testBit i' = true := (occ_set hn).2 ⟨occ_piece b1 b3, b2⟩
  rcases ends hk a4 b4 a5 b5 (d1.symm.trans e1) (d2.symm.trans e2) with h | h | h
  · exact h
  · rw [b7 i h] at o1; cases o1
  · rw [a7 i' h] at o2; cases o2
/-- a piece put between shuts the line. -/
theorem off_shut (hb : vbd F R l) (hk : vat F R k) (hn : n < l.length) {i t : Nat} {p : Int} (hp : p ≠ 0) (h : i ∈ atkL F R (l.set n 0) k bl) (hno : i ∉ atkL F R l k bl) (ht : t ∈ betL F R k (i : Int)) (htl : t < l.length) : i ∉ atkL F R ((l.set n 0).set t p) k bl ∨ i = t := by
  obtain ⟨a1, a2, a3, a4, a5, a6, a7⟩ := off_new hb hk hn h hno
  by_cases hit : i = t
  · exact .inr hit
  · left
    intro h2
    rw [atk_mem] at h2
    obtain ⟨_, h3⟩ := h2
    rw [get_set_ne hit, get_set_ne a2] at h3
    rcases att_cases h3 with h4 | ⟨_, h5, _⟩
    · exact hno (atk_mem.2 ⟨⟨a1, a3⟩, h4 _⟩)
    · have h6 := h5 t (bet_sub2 hk a4 a5 ht)
      have h7 : (ofL (occL ((l.set n 0).set t p))).testBit t = true := occ_bit.2 ⟨by simpa using htl, by rw [get_set_eq (by simpa using htl)]; exact hp⟩
      rw [h6] at h7; cases h7
/-- the king's square is not between. -/
theorem bet_king {i : Int} {j : Nat} (hk : vat F R k) (hi : vat F R i) (hl : lineB F k i = true) (hj : j ∈ betL F R k i) : (j : Int) ≠ k := by
  intro e
  obtain ⟨d1, d2⟩ := bet_dir hk hi hl hj
  rw [e] at d1 d2
  simp only [Int.sub_self] at d1 d2
  have z : sg 0 = 0 := rfl
  rw [z] at d1 d2
  have hne : k ≠ i := by
    intro e2
    unfold lineB at hl
    rw [e2] at hl
    have e3 : (i == i) = true := by simp
    rw [e3] at hl
    cases hl
  obtain ⟨p0, p1, p2, p3⟩ := place_bd hk.1 hk.2.1 hk.2.2
  have q : ∀ x : Int, 0 = sg x → x = 0 := fun x h => by unfold sg at h; split at h <;> (try split at h) <;> omega
  have e1 := q _ d1
  have e3 := q _ d2
  exact hne (place_inj hk hi (by omega) (by omega))
end

/-! ### kings that stay -/
theorem king_set {l : List Int} {n : Nat} {v : Int} {bl : Bool} (h1 : l[n]?.getD 0 ≠ kgN bl) (h2 : v ≠ kgN bl) : kingL (l.set n v) bl = kingL l bl := by
  unfold kingL idx idxTo
  rw [List.length_set]
  apply List.filter_congr
  intro j hj
  have hj2 := List.mem_range.1 hj
  by_cases e : j = n
  · subst e
    show eqP (kgN bl) ((l.set j v)[j]?.getD 0) = eqP (kgN bl) (l[j]?.getD 0)
    rw [get_set_eq hj2]
    exact (beq_eq_false_iff_ne.2 h2 : eqP (kgN bl) v = false).trans (beq_eq_false_iff_ne.2 h1 : eqP (kgN bl) (l[j]?.getD 0) = false).symm
  · rw [get_set_ne e]
theorem kingV_set {l : List Int} {n : Nat} {v : Int} {bl : Bool} (h1 : l[n]?.getD 0 ≠ kgN bl) (h2 : v ≠ kgN bl) : kingV (l.set n v) bl = kingV l bl := by
  unfold kingV
  rw [king_set h1 h2]
/-- only the king's square holds the king. -/
theorem king_only {l : List Int} {n : Nat} {bl : Bool} (h0 : 0 ≤ kingV l bl) (hn : n < l.length) (hne : (n : Int) ≠ kingV l bl) : l[n]?.getD 0 ≠ kgN bl := by
  intro e
  unfold kingV at h0 hne
  split at h0
  · rename_i h1
    rw [if_pos h1] at hne
    have hm : n ∈ kingL l bl := idx_mem.2 ⟨hn, by rw [e]; unfold eqP; simp⟩
    match hz : kingL l bl, h1 with
    | [y], _ =>
      rw [hz] at hm hne
      simp at hm hne
      exact hne (by exact_mod_cast hm)
  · omega

/-! ### how many -/
theorem filt_one {P Q : Nat → Bool} {i : Nat} (hq : ∀ j, Q j = (P j || j == i)) (hp : P i = false) : ∀ n, i < n → ((List.range n).filter Q).length = ((List.range n).filter P).length + 1 := by
  intro n
  induction n with
  | zero => intro h; omega
  | succ n ih =>
    intro h
    rw [List.range_succ, List.filter_append, List.filter_append, List.length_append, List.length_append]
    by_cases e : i = n
    · subst e
      have : ∀ m, m ≤ i → (List.range m).filter Q = (List.range m).filter P := fun m hm => List.filter_congr fun j hj => by
        have := List.mem_range.1 hj
        rw [hq]
        have : (j == i) = false := beq_eq_false_iff_ne.2 (by omega)
        simp [this]
      rw [this i (Nat.le_refl _)]
      simp [hq, hp]
    · have := ih (by omega)
      have e2 : Q n = P n := by
        rw [hq]
        have : (n == i) = false := beq_eq_false_iff_ne.2 (by omega)
        simp [this]
      simp only [List.filter_cons, List.filter_nil, e2]
      omega
/-- one square more. -/
theorem many_one {X Y : Nat} {i : Nat} (hi : i < 64) (h : ∀ j, Y.testBit j = (X.testBit j || j == i)) (hx : X.testBit i = false) : (listOf Y).length = (listOf X).length + 1 := by
  unfold listOf
  exact filt_one h hx 64 hi

end Go.Proofs.YtjnbjegopddhgaaDoor
