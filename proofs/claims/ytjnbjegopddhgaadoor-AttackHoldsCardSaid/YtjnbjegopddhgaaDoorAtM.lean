/- Plain mathematics of pins, as the theorem of attacks asks for it. -/
import Derived.Test.YtjnbjegopddhgaaDoorAtK

namespace Go.Proofs.YtjnbjegopddhgaaDoor
open Go.RowKit Go.Sort

theorem hasL_nat {z : List Nat} {i : Nat} : hasL (z.map fun i : Nat => (i : Int)) (i : Int) = true ↔ i ∈ z := by
  unfold hasL
  rw [List.contains_iff_mem, List.mem_map]
  constructor
  · rintro ⟨x, hx, e⟩
    have : x = i := by omega
    exact this ▸ hx
  · exact fun h => ⟨i, h, rfl⟩
theorem firstNo_neg {b a : List Nat} (h : ¬ 0 ≤ firstNo b a) : ∀ i ∈ a, i ∈ b := by
  intro i hi
  apply Classical.byContradiction
  intro hc
  apply h
  unfold firstNo
  cases hf : a.find? (fun i : Nat => !hasL (b.map fun i : Nat => (i : Int)) (i : Int)) with
  | none =>
    rw [List.find?_eq_none] at hf
    have := hf i hi
    simp at this
    exact absurd (hasL_nat.1 this) hc
  | some x => simp
theorem not_of {p : Int} (hp : p ≠ 0) : decide (0 < p) = !decide (p < 0) := by
  by_cases h : p < 0
  · have : ¬ 0 < p := by omega
    simp [h, this]
  · have : 0 < p := by omega
    simp [h, this]
theorem ofL_ext' {l m : List Nat} (h : ∀ i, i ∈ l ↔ i ∈ m) : ofL l = ofL m := by
  apply Nat.eq_of_testBit_eq
  intro i
  rw [ofL_bit, ofL_bit]
  simp [h i]
theorem ofL_zero {l : List Nat} : ofL l = 0 ↔ l = [] := by
  constructor
  · intro h
    cases l with
    | nil => rfl
    | cons a l =>
      have := ofL_bit (a :: l) a
      rw [h] at this
      simp at this
  · rintro rfl; rfl
theorem atk_lt {F R t : Int} {l : List Int} {bl : Bool} {i : Nat} (h : i ∈ atkL F R l t bl) : i < l.length := (atk_mem.1 h).1.1
/-- a square is attacked just if it has an attacker. -/
theorem attacked_iff {F R : Int} {l : List Int} {bl : Bool} {n : Nat} (hn : n < l.length) : n ∈ attackedL F R l bl ↔ ofL (atkL F R l (n : Int) bl) ≠ 0 := by
  unfold attackedL
  rw [List.mem_filter, List.mem_range, decide_eq_true_eq, ne_eq, ofL_zero, ← List.length_eq_zero_iff]
  constructor
  · rintro ⟨_, h⟩; omega
  · intro h; exact ⟨hn, by omega⟩

section
variable {F R : Int} {l : List Int} {n : Nat} {own : Bool}
theorem lin_mem {i : Nat} (hd : decide (l[n]?.getD 0 < 0) = own) : i ∈ linL F R l n ↔ i < l.length ∧ ((i : Int) = pinV F R l n ∨ ((∃ j : Nat, (j : Int) = i ∧ j ∈ betL F R (kingV l own) (pinV F R l n)) ∧ i ≠ n)) := by
  unfold linL
  rw [List.mem_filter, hd]
  simp only [List.mem_range, Bool.or_eq_true, beq_iff_eq, Bool.and_eq_true, Bool.not_eq_true', hasL_nat, beq_eq_false_iff_ne, ne_eq]
  constructor
  · rintro ⟨h1, h2 | ⟨h2, h3⟩⟩
    · exact ⟨h1, .inl h2⟩
    · exact ⟨h1, .inr ⟨⟨i, rfl, h2⟩, h3⟩⟩
  · rintro ⟨h1, h2 | ⟨⟨j, e, h2⟩, h3⟩⟩
    · exact ⟨h1, .inl h2⟩
    · have : j = i := by omega
      exact ⟨h1, .inr ⟨this ▸ h2, h3⟩⟩
theorem pin_no (hd : decide (l[n]?.getD 0 < 0) = own) (hp : l[n]?.getD 0 ≠ 0) (hnk : (n : Int) ≠ kingV l own) (h : ¬ 0 ≤ pinV F R l n) : ∀ i ∈ atkL F R (l.set n 0) (kingV l own) (!own), i ∈ atkL F R l (kingV l own) (!own) := by
  unfold pinV at h
  rw [hd, if_neg hnk, not_of hp, hd] at h
  exact firstNo_neg h
theorem pin_yes (hd : decide (l[n]?.getD 0 < 0) = own) (hp : l[n]?.getD 0 ≠ 0) (hnk : (n : Int) ≠ kingV l own) (h : 0 ≤ pinV F R l n) : ∃ i : Nat, pinV F R l n = (i : Int) ∧ i ∈ atkL F R (l.set n 0) (kingV l own) (!own) ∧ i ∉ atkL F R l (kingV l own) (!own) := by
  unfold pinV at h ⊢
  rw [hd, if_neg hnk, not_of hp, hd] at h ⊢
  obtain ⟨i, h1, h2, h3⟩ := firstNo_some h
  exact ⟨i, h3, h1, h2⟩
theorem pin_sub (hd : decide (l[n]?.getD 0 < 0) = own) (hp : l[n]?.getD 0 ≠ 0) (hn : n < l.length) {i : Nat} (h : i ∈ atkL F R l (kingV l own) (!own)) : i ∈ atkL F R (l.set n 0) (kingV l own) (!own) := off_sub hn (sd_other hd hp) h
theorem pin_all (hb : vbd F R l) (hd : decide (l[n]?.getD 0 < 0) = own) (hp : l[n]?.getD 0 ≠ 0) (hn : n < l.length) (hk0 : 0 ≤ kingV l own) {i : Nat} (h1 : i ∈ atkL F R (l.set n 0) (kingV l own) (!own)) (h2 : i ∉ atkL F R l (kingV l own) (!own)) (j : Nat) :
    j ∈ atkL F R (l.set n 0) (kingV l own) (!own) ↔ j ∈ atkL F R l (kingV l own) (!own) ∨ j = i := by
  constructor
  · intro h
    by_cases h3 : j ∈ atkL F R l (kingV l own) (!own)
    · exact .inl h3
    · exact .inr (off_one hb (kingV_at hb hk0) hn h h3 h1 h2)
  · rintro (h | rfl)
    · exact pin_sub hd hp hn h
    · exact h1
/-- one attacker more. -/
theorem pin_many (hb : vbd F R l) (hd : decide (l[n]?.getD 0 < 0) = own) (hp : l[n]?.getD 0 ≠ 0) (hn : n < l.length) (hk0 : 0 ≤ kingV l own) (hnk : (n : Int) ≠ kingV l own) (h : 0 ≤ pinV F R l n) :
    (listOf (ofL (atkL F R (l.set n 0) (kingV l own) (!own)))).length = (listOf (ofL (atkL F R l (kingV l own) (!own)))).length + 1 := by
  obtain ⟨i, _, h1, h2⟩ := pin_yes hd hp hnk h
  have hi : i < 64 := by
    have := atk_lt h1
    have := (vsz_mul hb.1).2
    have := hb.2.1
    simp at *
    omega
  refine many_one hi (fun j => ?_) (by rw [ofL_bit]; simpa using h2)
  rw [ofL_bit, ofL_bit, Bool.eq_iff_iff]
  simp [pin_all hb hd hp hn hk0 h1 h2 j]
/-- the new attacker stands on the pin line. -/
theorem pin_on (hb : vbd F R l) (hd : decide (l[n]?.getD 0 < 0) = own) (hp : l[n]?.getD 0 ≠ 0) (hn : n < l.length) (hk0 : 0 ≤ kingV l own) (hnk : (n : Int) ≠ kingV l own) (h : 0 ≤ pinV F R l n) {j : Nat} (h1 : j ∈ atkL F R (l.set n 0) (kingV l own) (!own)) (h2 : j ∉ atkL F R l (kingV l own) (!own)) : j ∈ linL F R l n := by
  obtain ⟨i, e, a1, a2⟩ := pin_yes hd hp hnk h
  have hji : j = i := off_one hb (kingV_at hb hk0) hn h1 h2 a1 a2
  rw [lin_mem hd]
  refine ⟨by have := atk_lt h1; simpa using this, .inl ?_⟩
  rw [e, hji]
/-- along the pin line the piece shuts the line again. -/
theorem pin_shut (hb : vbd F R l) (hd : decide (l[n]?.getD 0 < 0) = own) (hp : l[n]?.getD 0 ≠ 0) (hn : n < l.length) (hk0 : 0 ≤ kingV l own) (hnk : (n : Int) ≠ kingV l own) (h : 0 ≤ pinV F R l n) {t : Nat} (ht : t ∈ linL F R l n) :
    t < l.length ∧ (t : Int) ≠ kingV l own ∧ (t ∈ atkL F R (l.set n 0) (kingV l own) (!own) ∨ ∀ j, j ∈ atkL F R (l.set n 0) (kingV l own) (!own) → j ∉ atkL F R l (kingV l own) (!own) → j ∉ atkL F R ((l.set n 0).set t (l[n]?.getD 0)) (kingV l own) (!own)) := by
  obtain ⟨i, e, a1, a2⟩ := pin_yes hd hp hnk h
  obtain ⟨b1, b2, b3, b4, b5, b6, b7⟩ := off_new hb (kingV_at hb hk0) hn a1 a2
  obtain ⟨h1, h2⟩ := (lin_mem hd).1 ht
  rw [e] at h2
  rcases h2 with h2 | ⟨⟨t', e2, h2⟩, h3⟩
  · have : t = i := by omega
    subst this
    refine ⟨h1, ?_, .inl a1⟩
    intro e3
    unfold lineB at b5
    rw [← e3] at b5
    have e4 : ((t : Int) == (t : Int)) = true := by simp
    rw [e4] at b5
    cases b5
  · obtain rfl : t' = t := by omega
    refine ⟨h1, bet_king (kingV_at hb hk0) b4 b5 h2, .inr fun j h4 h5 => ?_⟩
    obtain rfl : j = i := off_one hb (kingV_at hb hk0) hn h4 h5 a1 a2
    rcases off_shut hb (kingV_at hb hk0) hn hp a1 a2 h2 h1 with h6 | h6
    · exact h6
    · subst h6
      intro h7
      have h8 := (atk_mem.1 h7).1.2
      rw [get_set_eq (by simpa using h1), sd_other hd hp] at h8
      cases h8
/-- the king's square is the same on all these boards. -/
theorem pin_kings (hn : n < l.length) (hk0 : 0 ≤ kingV l own) (hnk : (n : Int) ≠ kingV l own) : kingV (l.set n 0) own = kingV l own ∧ ∀ t, t < l.length → (t : Int) ≠ kingV l own → kingV ((l.set n 0).set t (l[n]?.getD 0)) own = kingV l own := by
  have h0 : (0 : Int) ≠ kgN own := by cases own <;> decide
  have h1 := king_only hk0 hn hnk
  have h2 := kingV_set (v := 0) h1 h0
  refine ⟨h2, fun t ht htk => ?_⟩
  rw [← h2]
  refine kingV_set ?_ h1
  by_cases e : t = n
  · subst e; rw [get_set_eq hn]; exact h0
  · rw [get_set_ne e]; exact king_only hk0 ht htk
/-- a piece is among the pinned ones just if there is one that pins it. -/
theorem pinned_iff (hd : decide (l[n]?.getD 0 < 0) = own) (hp : l[n]?.getD 0 ≠ 0) (hn : n < l.length) : n ∈ pinnedL F R l own ↔ 0 ≤ pinV F R l n := by
  unfold pinnedL
  rw [List.mem_filter, idx_mem]
  have : sdP (sdN own) (l[n]?.getD 0) = true := by
    unfold sdP sgnP
    cases own
    · have h1 : ¬ l[n]?.getD 0 < 0 := by simpa using hd
      rw [if_neg h1, if_pos (by omega)]
      rfl
    · have h1 : l[n]?.getD 0 < 0 := by simpa using hd
      rw [if_pos h1]
      rfl
  exact ⟨fun h => by simpa using h.2, fun h => ⟨⟨hn, this⟩, by simpa using h⟩⟩
end

end Go.Proofs.YtjnbjegopddhgaaDoor

/- The examples of chapter 5: the boards, what the document's own functions say of them, sets of their squares by names. -/
namespace Go.Proofs.YtjnbjegopddhgaaDoor
open Go.RowKit Go.Sort

def bd_a : List Int := [6, 0, 0, 0, 4, 0, -6, 0, 0]
theorem bd_a_v : vbd 3 3 bd_a := ⟨vsz_of _ _ rfl, by decide, fun j hj => by
  have h : ∀ j : Fin 9, -15 ≤ bd_a[j.1]?.getD 0 ∧ bd_a[j.1]?.getD 0 ≤ 15 := by decide +kernel
  have := h ⟨j, by simpa [bd_a] using hj⟩
  unfold okP
  simpa using this⟩
theorem bd_a_o : orA bd_a = true := by decide +kernel
theorem k_board_a (w : World) : Calls Tryd.prog 28 #[.string ⟨#[107, 50, 47, 49, 82, 49, 47, 75, 50]⟩] w (BrdR w 3 3 bd_a) :=
  board5_yes _ (by decide) 3 3 bd_a (by decide +kernel) w
def bd_c : List Int := [0, 0, 0, 0, 6, 0, 0, 0, 0, 3, 0, 0, 0, 0, -4, 0, 0, 0, 0, 0, 0, 0, 0, 0, -6]
theorem bd_c_v : vbd 5 5 bd_c := ⟨vsz_of _ _ rfl, by decide, fun j hj => by
  have h : ∀ j : Fin 25, -15 ≤ bd_c[j.1]?.getD 0 ∧ bd_c[j.1]?.getD 0 ≤ 15 := by decide +kernel
  have := h ⟨j, by simpa [bd_c] using hj⟩
  unfold okP
  simpa using this⟩
theorem bd_c_o : orA bd_c = true := by decide +kernel
theorem k_board_c (w : World) : Calls Tryd.prog 28 #[.string ⟨#[52, 107, 47, 53, 47, 52, 114, 47, 52, 66, 47, 52, 75]⟩] w (BrdR w 5 5 bd_c) :=
  board5_yes _ (by decide) 5 5 bd_c (by decide +kernel) w
def bd_d : List Int := [0, 0, 0, 0, 6, 0, 0, 0, 0, 2, 0, 0, 0, 0, 0, 0, 0, 0, 0, -5, 0, 0, 0, 0, -6]
theorem bd_d_v : vbd 5 5 bd_d := ⟨vsz_of _ _ rfl, by decide, fun j hj => by
  have h : ∀ j : Fin 25, -15 ≤ bd_d[j.1]?.getD 0 ∧ bd_d[j.1]?.getD 0 ≤ 15 := by decide +kernel
  have := h ⟨j, by simpa [bd_d] using hj⟩
  unfold okP
  simpa using this⟩
theorem bd_d_o : orA bd_d = true := by decide +kernel
theorem k_board_d (w : World) : Calls Tryd.prog 28 #[.string ⟨#[52, 107, 47, 52, 113, 47, 53, 47, 52, 78, 47, 52, 75]⟩] w (BrdR w 5 5 bd_d) :=
  board5_yes _ (by decide) 5 5 bd_d (by decide +kernel) w
def bd_h : List Int := [6, 0, 0, 0, 0, 0, 0, 0, 0, 0, 1, 0, 0, 0, 0, -6]
theorem bd_h_v : vbd 4 4 bd_h := ⟨vsz_of _ _ rfl, by decide, fun j hj => by
  have h : ∀ j : Fin 16, -15 ≤ bd_h[j.1]?.getD 0 ∧ bd_h[j.1]?.getD 0 ≤ 15 := by decide +kernel
  have := h ⟨j, by simpa [bd_h] using hj⟩
  unfold okP
  simpa using this⟩
theorem bd_h_o : orA bd_h = true := by decide +kernel
theorem k_board_h (w : World) : Calls Tryd.prog 28 #[.string ⟨#[51, 107, 47, 50, 80, 49, 47, 52, 47, 75, 51]⟩] w (BrdR w 4 4 bd_h) :=
  board5_yes _ (by decide) 4 4 bd_h (by decide +kernel) w
def bd_m : List Int := [6, 0, 0, 6, 0, 0, 0, 0, 0, 0, 0, 0, 0, 0, 0, 0]
theorem bd_m_v : vbd 4 4 bd_m := ⟨vsz_of _ _ rfl, by decide, fun j hj => by
  have h : ∀ j : Fin 16, -15 ≤ bd_m[j.1]?.getD 0 ∧ bd_m[j.1]?.getD 0 ≤ 15 := by decide +kernel
  have := h ⟨j, by simpa [bd_m] using hj⟩
  unfold okP
  simpa using this⟩
theorem bd_m_o : orA bd_m = true := by decide +kernel
theorem k_board_m (w : World) : Calls Tryd.prog 28 #[.string ⟨#[52, 47, 52, 47, 52, 47, 75, 50, 75]⟩] w (BrdR w 4 4 bd_m) :=
  board5_yes _ (by decide) 4 4 bd_m (by decide +kernel) w
theorem k_set_a_a2b1b2b3c2 (A : Option Addr) (c0 c : Nat) (w : World) : Calls Tryd.prog 30 #[.agg #[.int .i64 3, .int .i64 3, .slice A c0 c], .string ⟨#[97, 50, 98, 49, 98, 50, 98, 51, 99, 50]⟩] w fun e w' => e = .returned (.int .u64 186) ∧ Below w.heap.size w w' :=
  (set5_sq 3 3 A c0 c ⟨#[97, 50, 98, 49, 98, 50, 98, 51, 99, 50]⟩ [3, 1, 4, 7, 5] (by decide) ⟨by decide +kernel, fun k hk => by
    match k, hk with
    | 0, _ => exact ⟨⟨vsz_of _ _ rfl, by decide, by decide⟩, by decide +kernel⟩
    | 1, _ => exact ⟨⟨vsz_of _ _ rfl, by decide, by decide⟩, by decide +kernel⟩
    | 2, _ => exact ⟨⟨vsz_of _ _ rfl, by decide, by decide⟩, by decide +kernel⟩
    | 3, _ => exact ⟨⟨vsz_of _ _ rfl, by decide, by decide⟩, by decide +kernel⟩
    | 4, _ => exact ⟨⟨vsz_of _ _ rfl, by decide, by decide⟩, by decide +kernel⟩⟩ w).mono fun e w' h => ⟨by rw [h.1]; rfl, h.2⟩
theorem k_set_c_e2 (A : Option Addr) (c0 c : Nat) (w : World) : Calls Tryd.prog 30 #[.agg #[.int .i64 5, .int .i64 5, .slice A c0 c], .string ⟨#[101, 50]⟩] w fun e w' => e = .returned (.int .u64 512) ∧ Below w.heap.size w w' :=
  (set5_sq 5 5 A c0 c ⟨#[101, 50]⟩ [9] (by decide) ⟨by decide +kernel, fun k hk => by
    match k, hk with
    | 0, _ => exact ⟨⟨vsz_of _ _ rfl, by decide, by decide⟩, by decide +kernel⟩⟩ w).mono fun e w' h => ⟨by rw [h.1]; rfl, h.2⟩
theorem k_set_c_e3 (A : Option Addr) (c0 c : Nat) (w : World) : Calls Tryd.prog 30 #[.agg #[.int .i64 5, .int .i64 5, .slice A c0 c], .string ⟨#[101, 51]⟩] w fun e w' => e = .returned (.int .u64 16384) ∧ Below w.heap.size w w' :=
  (set5_sq 5 5 A c0 c ⟨#[101, 51]⟩ [14] (by decide) ⟨by decide +kernel, fun k hk => by
    match k, hk with
    | 0, _ => exact ⟨⟨vsz_of _ _ rfl, by decide, by decide⟩, by decide +kernel⟩⟩ w).mono fun e w' h => ⟨by rw [h.1]; rfl, h.2⟩
theorem k_set_d_e2 (A : Option Addr) (c0 c : Nat) (w : World) : Calls Tryd.prog 30 #[.agg #[.int .i64 5, .int .i64 5, .slice A c0 c], .string ⟨#[101, 50]⟩] w fun e w' => e = .returned (.int .u64 512) ∧ Below w.heap.size w w' :=
  (set5_sq 5 5 A c0 c ⟨#[101, 50]⟩ [9] (by decide) ⟨by decide +kernel, fun k hk => by
    match k, hk with
    | 0, _ => exact ⟨⟨vsz_of _ _ rfl, by decide, by decide⟩, by decide +kernel⟩⟩ w).mono fun e w' h => ⟨by rw [h.1]; rfl, h.2⟩
theorem k_set_d_e3e4 (A : Option Addr) (c0 c : Nat) (w : World) : Calls Tryd.prog 30 #[.agg #[.int .i64 5, .int .i64 5, .slice A c0 c], .string ⟨#[101, 51, 101, 52]⟩] w fun e w' => e = .returned (.int .u64 540672) ∧ Below w.heap.size w w' :=
  (set5_sq 5 5 A c0 c ⟨#[101, 51, 101, 52]⟩ [14, 19] (by decide) ⟨by decide +kernel, fun k hk => by
    match k, hk with
    | 0, _ => exact ⟨⟨vsz_of _ _ rfl, by decide, by decide⟩, by decide +kernel⟩
    | 1, _ => exact ⟨⟨vsz_of _ _ rfl, by decide, by decide⟩, by decide +kernel⟩⟩ w).mono fun e w' h => ⟨by rw [h.1]; rfl, h.2⟩
theorem k_set_h_c3 (A : Option Addr) (c0 c : Nat) (w : World) : Calls Tryd.prog 30 #[.agg #[.int .i64 4, .int .i64 4, .slice A c0 c], .string ⟨#[99, 51]⟩] w fun e w' => e = .returned (.int .u64 1024) ∧ Below w.heap.size w w' :=
  (set5_sq 4 4 A c0 c ⟨#[99, 51]⟩ [10] (by decide) ⟨by decide +kernel, fun k hk => by
    match k, hk with
    | 0, _ => exact ⟨⟨vsz_of _ _ rfl, by decide, by decide⟩, by decide +kernel⟩⟩ w).mono fun e w' h => ⟨by rw [h.1]; rfl, h.2⟩
theorem v_atk_a : ofL (atkL 3 3 bd_a 6 false) = 0 := by decide +kernel
theorem v_all_a : ofL (attackedL 3 3 bd_a false) = 186 := by decide +kernel
theorem v_chk_a : ofL (atkL 3 3 bd_a 6 false) = 0 := by decide +kernel
theorem v_pin_c : ofL (pinnedL 5 5 bd_c false) = 512 := by decide +kernel
theorem v_lin_c : ofL (linL 5 5 bd_c 9) = 16384 := by decide +kernel
theorem v_chk_c : ofL (atkL 5 5 bd_c 4 true) = 0 := by decide +kernel
theorem v_pin_d : ofL (pinnedL 5 5 bd_d false) = 512 := by decide +kernel
theorem v_lin_d : ofL (linL 5 5 bd_d 9) = 540672 := by decide +kernel
theorem v_atk_h : ofL (atkL 4 4 bd_h 15 false) = 1024 := by decide +kernel
theorem v_king_a_b : kingV bd_a true = 6 := by decide +kernel
theorem v_king_c_w : kingV bd_c false = 4 := by decide +kernel
theorem v_king_d_w : kingV bd_d false = 4 := by decide +kernel
theorem v_king_h_b : kingV bd_h true = 15 := by decide +kernel
theorem v_king_h_w : kingV bd_h false = 0 := by decide +kernel
theorem v_king_m_w : kingV bd_m false = -1 := by decide +kernel
theorem v_king_m_b : kingV bd_m true = -1 := by decide +kernel
theorem v_pinv_c : pinV 5 5 bd_c 9 = 14 := by decide +kernel
theorem v_pinv_d : pinV 5 5 bd_d 9 = 19 := by decide +kernel

end Go.Proofs.YtjnbjegopddhgaaDoor
