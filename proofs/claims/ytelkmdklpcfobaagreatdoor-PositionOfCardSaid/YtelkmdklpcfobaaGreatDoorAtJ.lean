/- Attacks, by the document's own functions: the pinned pieces of a side. -/
import Derived.Test.YtelkmdklpcfobaaGreatDoorAtF
import Derived.Test.YtelkmdklpcfobaaGreatDoorRpN
import Derived.Test.YtelkmdklpcfobaaGreatDoorRpF
import Derived.Test.YtelkmdklpcfobaaGreatDoorPoA
import Derived.Test.YtelkmdklpcfobaaGreatDoorBdH
import Derived.Test.YtelkmdklpcfobaaGreatDoorPoW

namespace Go.Proofs.YtelkmdklpcfobaaGreatDoor
open Go.RowKit Go.Sort

theorem side_sgn {l : List Int} {n : Nat} {bl : Bool} (h : n ∈ idx (sdP (sdN bl)) l) : decide (l[n]?.getD 0 < 0) = bl ∧ l[n]?.getD 0 ≠ 0 := by
  have h2 := (idx_mem.1 h).2
  unfold sdP sgnP at h2
  generalize l[n]?.getD 0 = x at *
  by_cases h3 : x < 0
  · rw [if_pos h3] at h2
    cases bl <;> simp [sdN] at h2 ⊢ <;> omega
  · rw [if_neg h3] at h2
    by_cases h4 : 0 < x
    · rw [if_pos h4] at h2
      cases bl <;> simp [sdN] at h2 ⊢ <;> omega
    · rw [if_neg h4] at h2
      cases bl <;> simp [sdN] at h2
/-- the squares of a side's pinned pieces, in order. -/
def pinnedL (F R : Int) (l : List Int) (bl : Bool) : List Nat := (idx (sdP (sdN bl)) l).filter fun n => decide (0 ≤ pinV F R l n)

end Go.Proofs.YtelkmdklpcfobaaGreatDoor

/- Attacks, by the document's own functions: the pin line of a piece. -/
namespace Go.Proofs.YtelkmdklpcfobaaGreatDoor
open Go.RowKit Go.Sort

theorem firstNo_some {b a : List Nat} (h : 0 ≤ firstNo b a) : ∃ i, i ∈ a ∧ i ∉ b ∧ firstNo b a = (i : Int) := by
  unfold firstNo at *
  cases hf : a.find? (fun i : Nat => !hasL (b.map fun i : Nat => (i : Int)) (i : Int)) with
  | none => rw [hf] at h; simp at h
  | some i =>
    have h1 := List.find?_some hf
    have h2 := List.mem_of_find?_eq_some hf
    refine ⟨i, h2, ?_, by simp⟩
    intro hb
    unfold hasL at h1
    simp at h1
    exact h1 i hb rfl
theorem lineB_symm' (F a b : Int) : lineB F b a = lineB F a b := by
  unfold lineB
  rw [Bool.eq_iff_iff]
  simp
  omega
theorem att_line {F R p : Int} {X Y : Nat} {i t : Int} (h1 : attP F R p X i t = true) (h2 : attP F R p Y i t = false) : lineB F i t = true := by
  unfold attP at h1 h2
  by_cases hk : kdP p = 1
  · rw [if_pos hk] at h1 h2; rw [h1] at h2; cases h2
  · rw [if_neg hk] at h1 h2
    simp only [Bool.and_eq_true] at h1
    have h3 := h1.2
    have h4 : reachB F R (kdP p) i t Y = false := by simpa [h1.1] using h2
    unfold reachB at h3 h4
    by_cases e2 : kdP p = 2
    · rw [if_pos e2] at h3 h4; rw [h3] at h4; cases h4
    · rw [if_neg e2] at h3 h4
      by_cases e6 : kdP p = 6
      · rw [if_pos e6] at h3 h4; rw [h3] at h4; cases h4
      · rw [if_neg e6] at h3
        simp only [Bool.and_eq_true] at h3
        exact h3.1.1
theorem set_idx {l : List Int} {n i : Nat} {bl : Bool} (h : i ∈ idx (sdP (sdN bl)) (l.set n 0)) : i ∈ idx (sdP (sdN bl)) l ∧ i ≠ n ∧ (l.set n 0)[i]?.getD 0 = l[i]?.getD 0 := by
  obtain ⟨h1, h2⟩ := idx_mem.1 h
  simp at h1
  by_cases e : i = n
  · subst e
    rw [List.getElem?_set] at h2
    simp [h1] at h2
    cases bl <;> simp [sdP, sgnP, sdN] at h2
  · have e2 : (l.set n 0)[i]?.getD 0 = l[i]?.getD 0 := by rw [List.getElem?_set, if_neg (by omega)]
    rw [e2] at h2
    exact ⟨idx_mem.2 ⟨h1, h2⟩, e, e2⟩
/-- what a pin says: its piece is on a line with the king. -/
theorem pin_facts {F R : Int} {l : List Int} {n : Nat} (h : 0 ≤ pinV F R l n) : ∃ i : Nat, pinV F R l n = (i : Int) ∧ i < l.length ∧ i ≠ n ∧ lineB F (kingV l (decide (l[n]?.getD 0 < 0))) (i : Int) = true := by
  unfold pinV at *
  by_cases hk : (n : Int) = kingV l (decide (l[n]?.getD 0 < 0))
  · rw [if_pos hk] at h; omega
  · rw [if_neg hk] at h ⊢
    obtain ⟨i, h1, h2, h3⟩ := firstNo_some h
    unfold atkL at h1 h2
    rw [List.mem_filter] at h1 h2
    obtain ⟨h4, h5⟩ := h1
    obtain ⟨h6, h7, h8⟩ := set_idx h4
    refine ⟨i, h3, (idx_lt h6).1, h7, ?_⟩
    unfold atkP at h5 h2
    rw [h8] at h5
    have h9 : attP F R (l[i]?.getD 0) (ofL (occL l)) i (kingV l (decide (l[n]?.getD 0 < 0))) = false := by
      rw [← Bool.not_eq_true]
      exact fun e => h2 ⟨h6, e⟩
    rw [lineB_symm']
    exact att_line h5 h9

/-- the squares of a pin line, in order. -/
def linL (F R : Int) (l : List Int) (n : Nat) : List Nat := (List.range l.length).filter fun i => ((i : Int) == pinV F R l n) || (hasL ((betL F R (kingV l (decide (l[n]?.getD 0 < 0))) (pinV F R l n)).map fun i : Nat => (i : Int)) (i : Int) && !(i == n))
theorem RdI.grow' {w : World} {B B' : Nat} {A : Option Addr} {l : List Int} (h : RdI w B A l) (hB : B ≤ B') : RdI w B' A l := fun hl => by
  obtain ⟨ad, e, h1, hc⟩ := h hl
  exact ⟨ad, e, by omega, hc⟩
theorem keepL {w W W' : World} {A : Option Addr} {l : List Int} {c : Nat} {v0 v1 v2 v3 : Value} {q : Addr} (h : (W.cell? ⟨w.heap.size, 0, none⟩ = some v0 ∧ W.cell? ⟨w.heap.size, 1, none⟩ = some v1 ∧ W.cell? ⟨w.heap.size, 2, none⟩ = some v2 ∧ St w A l c W) ∧ W.cell? q = some v3) (hb : Below W.heap.size W W') :
    (W'.cell? ⟨w.heap.size, 0, none⟩ = some v0 ∧ W'.cell? ⟨w.heap.size, 1, none⟩ = some v1 ∧ W'.cell? ⟨w.heap.size, 2, none⟩ = some v2 ∧ St w A l c W') ∧ W'.cell? q = some v3 := ⟨keepS h.1 hb, cBo hb h.2⟩

end Go.Proofs.YtelkmdklpcfobaaGreatDoor

/- The examples of the chapter: known answers true, and changes nothing that lay before. Under the table of package math/bits as its text lays it. -/
namespace Go.Proofs.YtelkmdklpcfobaaGreatDoor
open Go.RowKit

theorem vsz_of (F R : Int) (h : (decide (3 ≤ F) && decide (F ≤ 8) && decide (3 ≤ R) && decide (R ≤ 8)) = true) : vsz F R := by simp at h; exact ⟨h.1.1.1, h.1.1.2, h.1.2, h.2⟩
theorem v34 : vsz 3 4 := vsz_of _ _ rfl
theorem v33 : vsz 3 3 := vsz_of _ _ rfl
theorem v54 : vsz 5 4 := vsz_of _ _ rfl
theorem v88 : vsz 8 8 := vsz_of _ _ rfl
theorem v89 : ¬ vsz 8 9 := fun h => by have := h.2.2.2; omega
theorem a17 : vat 5 4 17 := ⟨v54, by omega, by omega⟩

theorem nm_none (s : ByteArray) (h : ∀ n, n < 20 → nameB 5 ((n : Nat) : Int) ≠ s) : ∀ a, vat 5 4 a → nameB 5 a ≠ s := by
  intro a ha
  obtain ⟨n, rfl⟩ := Int.eq_ofNat_of_zero_le ha.2.1
  exact h n (by have := ha.2.2; omega)

theorem l273 : listOf 273 = [0, 4, 8] := by decide +kernel
theorem s273 : ofL (shl 3 3 1 0 (listOf 273)) = 34 := by
  rw [l273]
  have h0 : onb 3 3 (((0 : Nat) : Int) % 3 + 1) (((0 : Nat) : Int) / 3 + 0) := ⟨by decide, by decide, by decide, by decide⟩
  have h4 : onb 3 3 (((4 : Nat) : Int) % 3 + 1) (((4 : Nat) : Int) / 3 + 0) := ⟨by decide, by decide, by decide, by decide⟩
  have h8 : ¬ onb 3 3 (((8 : Nat) : Int) % 3 + 1) (((8 : Nat) : Int) / 3 + 0) := fun h => absurd h.2.1 (by decide)
  have e1 := shl_yes (l := []) h0
  have e2 := shl_yes (l := [0]) h4
  have e3 := shl_no (l := [0, 4]) h8
  have e : shl 3 3 1 0 [0, 4, 8] = [1, 5] := by
    show shl 3 3 1 0 ([0, 4] ++ [8]) = _
    rw [e3]
    show shl 3 3 1 0 ([0] ++ [4]) = _
    rw [e2]
    show shl 3 3 1 0 ([] ++ [0]) ++ _ = _
    rw [e1]
    rfl
  rw [e]
  rfl

theorem carry4 {w w' : World} {b c : Addr} {d f : Addr} {v0 v1 v2 v3 : Value} (hb : Below w.heap.size w w') (h : w.cell? b = some v0 ∧ w.cell? c = some v1 ∧ w.cell? d = some v2 ∧ w.cell? f = some v3) :
    w'.cell? b = some v0 ∧ w'.cell? c = some v1 ∧ w'.cell? d = some v2 ∧ w'.cell? f = some v3 :=
  ⟨(hb.cell (World.block_lt_of_cell? w _ h.1)).trans h.1, (hb.cell (World.block_lt_of_cell? w _ h.2.1)).trans h.2.1, (hb.cell (World.block_lt_of_cell? w _ h.2.2.1)).trans h.2.2.1, (hb.cell (World.block_lt_of_cell? w _ h.2.2.2)).trans h.2.2.2⟩

theorem k_count1 (w : World) : Calls Tryz.prog 115 #[.agg #[.int .i64 3, .int .i64 4]] w fun e w' => e = .returned (.tuple #[.int .i64 12, .int .i64 0]) ∧ Below w.heap.size w w' :=
  (count_yes 3 4 v34 w).mono fun e w' h => ⟨by rw [h.1]; try rfl, h.2⟩

theorem k_count2 (w : World) : Calls Tryz.prog 115 #[.agg #[.int .i64 8, .int .i64 9]] w fun e w' => e = .returned (.tuple #[.int .i64 0, .int .i64 2]) ∧ Below w.heap.size w w' :=
  (count_no 8 9 v89 w).mono fun e w' h => ⟨by rw [h.1]; try rfl, h.2⟩

theorem k_at1 (w : World) : Calls Tryz.prog 202 #[.agg #[.int .i64 5, .int .i64 4], .int .i64 2, .int .i64 3] w fun e w' => e = .returned (.tuple #[.int .i64 17, .int .i64 0]) ∧ Below w.heap.size w w' :=
  (at_yes 5 4 2 3 v54 ⟨by omega, by omega, by omega, by omega⟩ w).mono fun e w' h => ⟨by rw [h.1]; try rfl, h.2⟩

theorem k_at2 (w : World) : Calls Tryz.prog 202 #[.agg #[.int .i64 5, .int .i64 4], .int .i64 5, .int .i64 0] w fun e w' => e = .returned (.tuple #[.int .i64 0, .int .i64 3]) ∧ Below w.heap.size w w' :=
  (at_off 5 4 5 0 v54 (fun h => absurd h.2.1 (by omega)) w).mono fun e w' h => ⟨by rw [h.1]; try rfl, h.2⟩

theorem k_place (w : World) : Calls Tryz.prog 75 #[.agg #[.int .i64 5, .int .i64 4], .int .i64 17] w fun e w' => e = .returned (.tuple #[.int .i64 2, .int .i64 3, .int .i64 0]) ∧ Below w.heap.size w w' :=
  (placeX_yes 5 4 17 a17 w).mono fun e w' h => ⟨by rw [h.1]; try rfl, h.2⟩

theorem k_name (w : World) : Calls Tryz.prog 92 #[.agg #[.int .i64 5, .int .i64 4], .int .i64 17] w fun e w' => e = .returned (.tuple #[.string ⟨#[99, 52]⟩, .int .i64 0]) ∧ Below w.heap.size w w' :=
  (name_yes 5 4 17 a17 w).mono fun e w' h => ⟨by rw [h.1]; try rfl, h.2⟩

theorem k_parse1 (w : World) : Calls Tryz.prog 101 #[.agg #[.int .i64 5, .int .i64 4], .string ⟨#[101, 49]⟩] w fun e w' => e = .returned (.tuple #[.int .i64 4, .int .i64 0]) ∧ Below w.heap.size w w' :=
  (parse_name 5 4 4 ⟨v54, by omega, by omega⟩ w).mono fun e w' h => ⟨by rw [h.1]; try rfl, h.2⟩

theorem k_parse2 (w : World) : Calls Tryz.prog 101 #[.agg #[.int .i64 5, .int .i64 4], .string ⟨#[102, 49]⟩] w fun e w' => e = .returned (.tuple #[.int .i64 0, .int .i64 6]) ∧ Below w.heap.size w w' :=
  (parse_none 5 4 ⟨#[102, 49]⟩ v54 (nm_none _ (by decide +kernel)) w).mono fun e w' h => ⟨by rw [h.1]; try rfl, h.2⟩

theorem k_parse3 (w : World) : Calls Tryz.prog 101 #[.agg #[.int .i64 5, .int .i64 4], .string ⟨#[69, 49]⟩] w fun e w' => e = .returned (.tuple #[.int .i64 0, .int .i64 6]) ∧ Below w.heap.size w w' :=
  (parse_none 5 4 ⟨#[69, 49]⟩ v54 (nm_none _ (by decide +kernel)) w).mono fun e w' h => ⟨by rw [h.1]; try rfl, h.2⟩

theorem k_all (w : World) : Calls Tryz.prog 197 #[.agg #[.int .i64 3, .int .i64 3]] w fun e w' => e = .returned (.tuple #[.int .u64 511, .int .i64 0]) ∧ Below w.heap.size w w' :=
  (all_yes 3 3 v33 w).mono fun e w' h => ⟨by rw [h.1]; try rfl, h.2⟩

end Go.Proofs.YtelkmdklpcfobaaGreatDoor

/- Attacks: what the law's package has of its own: small boards, how many squares a set has, boards by their texts, sets of squares by their names. -/
namespace Go.Proofs.YtelkmdklpcfobaaGreatDoor
open Go.RowKit Go.Sort

theorem RdP.setc {V : World} {B g o : Nat} {A : Option Addr} {l : List Int} {c : Nat} {v : Value} (h : RdP V B A l c) (hne : ∀ ad, A = some ad → ad.block ≠ g) : RdP (V.setCell ⟨g, o, none⟩ v) B A l c := ⟨h.1, fun hl => by
  obtain ⟨ad, e, h1, hc⟩ := h.2 hl
  refine ⟨ad, e, h1, fun j u hu => (World.cell?_setCell_far _ _ _ _ ?_).trans (hc j u hu)⟩
  rw [blk_add]
  first | exact hne ad e | exact fun x => hne ad e x.symm⟩
/-- a board is returned that reads as this one. -/
def BrdR (w : World) (f r : Nat) (ps : List Int) (e : Ending) (w' : World) : Prop := ∃ A c, e = .returned (.agg #[.int .i64 (f : Int), .int .i64 (r : Int), .slice A ps.length c]) ∧ RdP w' w'.heap.size A ps c ∧ ps.length ≤ c ∧ Below w.heap.size w w'

/-- a string holds the names of these squares of a board, one behind the other. -/
def NamesB (F R : Int) (s : ByteArray) (l : List Nat) : Prop := s.size = 2 * l.length ∧ ∀ k, k < l.length → vat F R ((l[k]?.getD 0 : Nat) : Int) ∧ nameB F ((l[k]?.getD 0 : Nat) : Int) = s.extract (2 * k) (2 * k + 2)

theorem keep2 {w0 n : Nat} {V W : World} {F R : Int} (h : V.cell? ⟨w0, 0, none⟩ = some (.int .i64 F) ∧ V.cell? ⟨w0, 1, none⟩ = some (.int .i64 R)) (hb : Below n V W) (hn : w0 + 1 ≤ n) : W.cell? ⟨w0, 0, none⟩ = some (.int .i64 F) ∧ W.cell? ⟨w0, 1, none⟩ = some (.int .i64 R) :=
  ⟨(hb.cell (p := ⟨w0, 0, none⟩) (by simp; omega)).trans h.1, (hb.cell (p := ⟨w0, 1, none⟩) (by simp; omega)).trans h.2⟩
end Go.Proofs.YtelkmdklpcfobaaGreatDoor

/- Plain mathematics of lines: the squares between two squares are the same from both ends. -/
namespace Go.Proofs.YtelkmdklpcfobaaGreatDoor
open Go.RowKit

theorem lineB_symm2 (F a b : Int) : lineB F b a = lineB F a b := by
  unfold lineB
  rw [Bool.eq_iff_iff]
  simp
  omega
theorem cheb_symm2 (a b c d : Int) : cheb (a - b) (c - d) = cheb (b - a) (d - c) := by unfold cheb; omega
theorem sg_symm2 (a b : Int) : sg (a - b) = - sg (b - a) := by unfold sg; split <;> split <;> (try split) <;> (try split) <;> omega
theorem sg_val2 (n : Int) : sg n = -1 ∨ sg n = 0 ∨ sg n = 1 := by unfold sg; split <;> (try split) <;> omega

theorem bet_sub2 {F R a b : Int} {i : Nat} (ha : vat F R a) (hb : vat F R b) (hl : lineB F a b = true) (hi : i ∈ betL F R a b) : i ∈ betL F R b a := by
  obtain ⟨m, m8, hm, hP, hN, hbet⟩ := line_ray ha hb hl
  obtain ⟨m', m8', hm', hP', hN', hbet'⟩ := line_ray hb ha (by rw [lineB_symm2]; exact hl)
  rw [cheb_symm2 (a % F) (b % F) (a / F) (b / F), ← hm] at hm'
  obtain rfl : m' = m := by omega
  rw [hbet] at hi
  rw [hbet']
  obtain ⟨j, hj, rfl⟩ := List.mem_map.1 hi
  have hj2 : j < m' := List.mem_range.1 hj
  rw [List.mem_map]
  refine ⟨m' - 1 - j, List.mem_range.2 (by omega), ?_⟩
  obtain ⟨e1, e2, _⟩ := ray_place ha.1 (hP m' (by omega))
  rw [hN] at e1 e2
  have hc : ((m' - 1 - j : Nat) : Int) = (m' : Int) - 1 - (j : Int) := by omega
  have s1 := sg_symm2 (a % F) (b % F)
  have s2 := sg_symm2 (a / F) (b / F)
  unfold rayNum
  rw [s1, s2, hc]
  generalize a % F = x at *
  generalize b % F = u at *
  generalize a / F = y at *
  generalize b / F = v at *
  have v1 := sg_val2 (u - x)
  have v2 := sg_val2 (v - y)
  have k1 : v + ((m' : Int) - 1 - (j : Int) + 1) * -sg (v - y) = y + ((j : Int) + 1) * sg (v - y) := by
    generalize sg (v - y) = r at *
    rcases v2 with rfl | rfl | rfl <;> omega
  have k2 : u + ((m' : Int) - 1 - (j : Int) + 1) * -sg (u - x) = x + ((j : Int) + 1) * sg (u - x) := by
    generalize sg (u - x) = f at *
    rcases v1 with rfl | rfl | rfl <;> omega
  rw [k1, k2]

end Go.Proofs.YtelkmdklpcfobaaGreatDoor

/- Plain mathematics of attacks: what becomes of the attackers of a king's square when a piece of its own side is taken off, or put elsewhere. -/
namespace Go.Proofs.YtelkmdklpcfobaaGreatDoor
open Go.RowKit Go.Sort

theorem mem_pickP {P : Nat → Bool} {l : List Nat} {n : Nat} : n ∈ l.filter P ↔ n ∈ l ∧ P n = true := List.mem_filter
/-- which squares are occupied. -/
theorem occ_bit {l : List Int} {j : Nat} : (ofL (occL l)).testBit j = true ↔ j < l.length ∧ l[j]?.getD 0 ≠ 0 := by
  rw [ofL_bit, decide_eq_true_eq]
  unfold occL
  rw [List.mem_append, idx_mem, idx_mem]
  unfold sdP sgnP
  generalize l[j]?.getD 0 = x
  constructor
  · rintro (⟨h1, h2⟩ | ⟨h1, h2⟩)
    · refine ⟨h1, fun e => ?_⟩
      subst e
      simp at h2
    · refine ⟨h1, fun e => ?_⟩
      subst e
      simp at h2
  · rintro ⟨h1, h2⟩
    by_cases h3 : x < 0
    · right; exact ⟨h1, by rw [if_pos h3]; rfl⟩
    · left; exact ⟨h1, by rw [if_neg h3, if_pos (by omega)]; rfl⟩
theorem atk_mem {F R : Int} {l : List Int} {t : Int} {bl : Bool} {i : Nat} : i ∈ atkL F R l t bl ↔ (i < l.length ∧ sdP (sdN bl) (l[i]?.getD 0) = true) ∧ attP F R (l[i]?.getD 0) (ofL (occL l)) i t = true := by
  unfold atkL
  rw [List.mem_filter, idx_mem]
  rfl
theorem freeN {l : List Nat} {X : Nat} : freeB (l.map fun i : Nat => (i : Int)) X = true ↔ ∀ i ∈ l, X.testBit i = false := by
  unfold freeB
  rw [List.all_eq_true]
  simp
/-- an attack is one by a step or a leap, whatever is occupied, or one along a line that is free. -/
theorem att_cases {F R p : Int} {X : Nat} {i t : Int} (h : attP F R p X i t = true) : (∀ Y, attP F R p Y i t = true) ∨ (lineB F i t = true ∧ (∀ j ∈ betL F R i t, X.testBit j = false) ∧ ∀ Y, (∀ j ∈ betL F R i t, Y.testBit j = false) → attP F R p Y i t = true) := by
  unfold attP at *
  by_cases hk : kdP p = 1
  · left; intro Y; rw [if_pos hk] at h ⊢; exact h
  · rw [if_neg hk] at h
    simp only [Bool.and_eq_true] at h
    obtain ⟨h0, h1⟩ := h
    unfold reachB at h1
    by_cases e2 : kdP p = 2
    · left; intro Y; rw [if_neg hk, h0]; unfold reachB; rw [if_pos e2] at h1 ⊢; simpa using h1
    · rw [if_neg e2] at h1
      by_cases e6 : kdP p = 6
      · left; intro Y; rw [if_neg hk, h0]; unfold reachB; rw [if_neg e2]; rw [if_pos e6] at h1 ⊢; simpa using h1
      · rw [if_neg e6] at h1
        simp only [Bool.and_eq_true] at h1
        refine .inr ⟨h1.1.1, freeN.1 h1.2, fun Y hY => ?_⟩
        rw [if_neg hk, h0]
        unfold reachB
        rw [if_neg e2, if_neg e6, h1.1.1, h1.1.2, freeN.2 hY]
        rfl
/-- fewer occupied squares: what attacked attacks. -/
theorem att_mono {F R p : Int} {X Y : Nat} {i t : Int} (h : attP F R p X i t = true) (hs : ∀ j, Y.testBit j = true → X.testBit j = true) : attP F R p Y i t = true := by
  rcases att_cases h with h1 | ⟨_, h2, h3⟩
  · exact h1 Y
  · refine h3 Y fun j hj => ?_
    have := h2 j hj
    cases hy : Y.testBit j
    · rfl
    · rw [hs j hy] at this; cases this

/-! ### lines from a king -/
theorem sg_mul {j : Nat} {f : Int} (h : f = -1 ∨ f = 0 ∨ f = 1) : sg (((j : Int) + 1) * f) = f := by
  unfold sg
  rcases h with rfl | rfl | rfl
  · rw [if_pos (by omega)]
  · simp
  · rw [if_neg (by omega), if_pos (by omega)]
theorem sg_val' (n : Int) : sg n = -1 ∨ sg n = 0 ∨ sg n = 1 := by unfold sg; split <;> (try split) <;> omega
/-- a square between has the direction of the line's end. -/
theorem bet_dir {F R k i : Int} {n : Nat} (hk : vat F R k) (hi : vat F R i) (hl : lineB F k i = true) (hn : n ∈ betL F R k i) : sg ((n : Int) % F - k % F) = sg (i % F - k % F) ∧ sg ((n : Int) / F - k / F) = sg (i / F - k / F) := by
  obtain ⟨m, m8, hm, hP, hN, hbet⟩ := line_ray hk hi hl
  rw [hbet] at hn
  obtain ⟨j, hj, rfl⟩ := List.mem_map.1 hn
  have hj2 : j < m := List.mem_range.1 hj
  obtain ⟨e1, e2, _⟩ := ray_place hk.1 (hP j (by omega))
  rw [e1, e2, show k % F + ((j : Int) + 1) * sg (i % F - k % F) - k % F = ((j : Int) + 1) * sg (i % F - k % F) by omega, show k / F + ((j : Int) + 1) * sg (i / F - k / F) - k / F = ((j : Int) + 1) * sg (i / F - k / F) by omega]
  exact ⟨sg_mul (sg_val' _), sg_mul (sg_val' _)⟩
/-- of two ends of lines in one direction one is between, or they are one. -/
theorem ends {F R k : Int} {a b : Nat} (hk : vat F R k) (ha : vat F R (a : Int)) (hb : vat F R (b : Int)) (la : lineB F k a = true) (lb : lineB F k b = true) (hf : sg ((a : Int) % F - k % F) = sg ((b : Int) % F - k % F)) (hr : sg ((a : Int) / F - k / F) = sg ((b : Int) / F - k / F)) : a = b ∨ a ∈ betL F R k b ∨ b ∈ betL F R k a := by
  obtain ⟨m, m8, hm, hP, hN, hbet⟩ := line_ray hk ha la
  obtain ⟨m', m8', hm', hP', hN', hbet'⟩ := line_ray hk hb lb
  rw [hf, hr] at hN hbet
  rw [hbet, hbet']
  rcases Nat.lt_trichotomy m m' with h | h | h
  · right; left
    rw [List.mem_map]
    exact ⟨m, List.mem_range.2 h, by omega⟩
  · left; subst h; omega
  · right; right
    rw [List.mem_map]
    exact ⟨m', List.mem_range.2 h, by omega⟩

end Go.Proofs.YtelkmdklpcfobaaGreatDoor
