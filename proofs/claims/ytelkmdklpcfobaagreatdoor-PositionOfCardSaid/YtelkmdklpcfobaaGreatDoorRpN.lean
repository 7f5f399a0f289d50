/- Plain mathematics of lines: which squares a ray has, the squares between two squares, rays that stop at occupied squares. -/
import Derived.Test.YtelkmdklpcfobaaGreatDoorRpC
import Derived.RangeFuncNested
import Derived.RangeFuncBound
import Derived.RangeFuncCalls
import Derived.RangeFuncLeaves
import Derived.Shelf.Abstract
import Derived.Shelf.RegionOpen
import Derived.WalkKit
import Derived.OwnWalkIn
import Derived.TacticsInMore
import Derived.LoopNIn
import Derived.LoopIn
import Derived.Shelf.Spec.TrailingZeros
import Derived.Test.YtelkmdklpcfobaaGreatDoorPcA
import Derived.Test.YtelkmdklpcfobaaGreatDoorBdD
import Derived.RangeFuncFrom
import Derived.Test.YtelkmdklpcfobaaGreatDoorBpI

namespace Go.Proofs.YtelkmdklpcfobaaGreatDoor

/-! ### rays that stop -/
def stopL (L : List Nat) (X : Nat) : List Nat := L.takeWhile (fun i => !X.testBit i) ++ (L.dropWhile (fun i => !X.testBit i)).take 1
theorem stop_nil (X : Nat) : stopL [] X = [] := rfl
theorem stop_cons_yes {i X : Nat} {L : List Nat} (h : X.testBit i = true) : stopL (i :: L) X = [i] := by simp [stopL, h]
theorem stop_cons_no {i X : Nat} {L : List Nat} (h : X.testBit i = false) : stopL (i :: L) X = i :: stopL L X := by simp [stopL, h]
theorem stop_done {L : List Nat} {X : Nat} (h : ∀ i ∈ L, X.testBit i = false) : stopL L X = L := by
  induction L with
  | nil => rfl
  | cons a L ih => rw [stop_cons_no (h a (by simp)), ih (fun i hi => h i (by simp [hi]))]
theorem stop_hit {l1 l2 : List Nat} {i X : Nat} (h : ∀ j ∈ l1, X.testBit j = false) (hi : X.testBit i = true) : stopL (l1 ++ i :: l2) X = l1 ++ [i] := by
  induction l1 with
  | nil => exact stop_cons_yes hi
  | cons a L ih => rw [List.cons_append, stop_cons_no (h a (by simp)), ih (fun j hj => h j (by simp [hj])), List.cons_append]
theorem stop_pre {l : List Nat} {L : List Nat} {i X : Nat} (hp : l ++ [i] <+: L) (h : ∀ j ∈ l, X.testBit j = false) (hi : X.testBit i = true) : stopL L X = l ++ [i] := by
  obtain ⟨t, rfl⟩ := hp
  rw [List.append_assoc]
  exact stop_hit h hi
theorem mem_stop {L : List Nat} {X n : Nat} : n ∈ stopL L X ↔ ∃ k, ∃ h : k < L.length, L[k] = n ∧ ∀ j (hj : j < k), X.testBit (L[j]'(by omega)) = false := by
  induction L with
  | nil => simp [stop_nil]
  | cons a L ih =>
    cases ha : X.testBit a
    · rw [stop_cons_no ha, List.mem_cons, ih]
      constructor
      · rintro (rfl | ⟨k, hk, e, h⟩)
        · exact ⟨0, by simp, rfl, fun j hj => by omega⟩
        · refine ⟨k + 1, by simpa using hk, by simpa using e, fun j hj => ?_⟩
          match j, hj with
          | 0, _ => simpa using ha
          | j + 1, hj => simpa using h j (by omega)
      · rintro ⟨k, hk, e, h⟩
        match k, hk, e, h with
        | 0, _, e, _ => exact .inl (by simpa using e.symm)
        | k + 1, hk, e, h => exact .inr ⟨k, by simpa using hk, by simpa using e, fun j hj => by simpa using h (j + 1) (by omega)⟩
    · rw [stop_cons_yes ha]
      constructor
      · intro h
        exact ⟨0, by simp, by simpa using (List.mem_singleton.1 h).symm, fun j hj => by omega⟩
      · rintro ⟨k, hk, e, h⟩
        match k, hk, e, h with
        | 0, _, e, _ => simpa using e.symm
        | k + 1, hk, e, h => have := h 0 (by omega); simp at this; rw [ha] at this; cases this

/-! ### the squares of a ray by their index -/
theorem rayL_get {F R x y f r : Int} {k : Nat} (hk : k < (rayL F R x y f r).length) : (rayL F R x y f r)[k] = rayNum F x y f r k ∧ rayP F R x y f r k = true ∧ k < 8 := by
  have key : ∀ (n : Nat) (P : Nat → Bool) (j : Nat) (h : j < ((List.range n).takeWhile P).length), ((List.range n).takeWhile P)[j] = j ∧ P j = true ∧ j < n := by
    intro n P j h
    have hp := List.takeWhile_prefix (l := List.range n) P
    have hl := hp.length_le
    have e : ((List.range n).takeWhile P)[j] = j := by rw [hp.getElem h]; simp
    refine ⟨e, ?_, by simp at hl; omega⟩
    have := tw_mem P (List.range n) (List.getElem_mem h)
    rwa [e] at this
  unfold rayL at hk ⊢
  have hk' := hk
  rw [List.length_map] at hk'
  obtain ⟨e, hp, h8⟩ := key 8 _ k hk'
  refine ⟨?_, hp, h8⟩
  rw [List.getElem_map, e]
theorem rayL_has {F R x y f r : Int} {k : Nat} (hk : k < 8) (h : ∀ j, j < k + 1 → rayP F R x y f r j = true) : ∃ hl : k < (rayL F R x y f r).length, (rayL F R x y f r)[k] = rayNum F x y f r k := by
  have hp := rayL_pre (m := k + 1) (by omega) h
  have hl : k < (rayL F R x y f r).length := by have := hp.length_le; simp at this; omega
  exact ⟨hl, (rayL_get hl).1⟩
theorem rayP_iff {F R x y f r : Int} {j : Nat} : rayP F R x y f r j = true ↔ onb F R (x + ((j : Int) + 1) * f) (y + ((j : Int) + 1) * r) := by unfold rayP; exact onB_iff
/-- a square of a ray is reached by so many steps. -/
theorem ray_place {F R x y f r : Int} {j : Nat} (hv : vsz F R) (h : rayP F R x y f r j = true) : ((rayNum F x y f r j : Nat) : Int) % F = x + ((j : Int) + 1) * f ∧ ((rayNum F x y f r j : Nat) : Int) / F = y + ((j : Int) + 1) * r ∧ vat F R (rayNum F x y f r j : Nat) := by
  obtain ⟨o0, o1, o2, o3⟩ := rayP_iff.1 h
  obtain ⟨n0, n1, n2, n3, n4⟩ := number_bd hv o0 o1 o2 o3
  have e : ((rayNum F x y f r j : Nat) : Int) = (x + ((j : Int) + 1) * f) + (y + ((j : Int) + 1) * r) * F := by unfold rayNum; omega
  rw [e]
  exact ⟨n3, n4, hv, by omega, n2⟩
theorem place_inj {F R a b : Int} (ha : vat F R a) (_hb : vat F R b) (h1 : a % F = b % F) (h2 : a / F = b / F) : a = b := by
  have e1 := place_eq (a := a) ha.1
  have e2 := place_eq (a := b) ha.1
  rw [← e1, ← e2, h1, h2]

theorem sg_cases (n : Int) : (n < 0 ∧ sg n = -1) ∨ (n = 0 ∧ sg n = 0) ∨ (0 < n ∧ sg n = 1) := by
  unfold sg
  by_cases h : n < 0
  · left; exact ⟨h, by rw [if_pos h]⟩
  · by_cases h2 : 0 < n
    · right; right; exact ⟨h2, by rw [if_neg h, if_pos h2]⟩
    · right; left; exact ⟨by omega, by rw [if_neg h, if_neg h2]⟩
/-- differences on a line are so many steps in its direction. -/
theorem line_steps {d q : Int} (h : lineD d q = true) : cheb d q * sg d = d ∧ cheb d q * sg q = q := by
  unfold lineD at h
  simp at h
  rcases sg_cases d with ⟨h1, e1⟩ | ⟨h1, e1⟩ | ⟨h1, e1⟩ <;> rcases sg_cases q with ⟨h2, e2⟩ | ⟨h2, e2⟩ | ⟨h2, e2⟩ <;> rw [e1, e2] <;> unfold cheb <;> omega
theorem steps_line {d q m f r : Int} (hm : 0 < m) (f0 : -1 ≤ f) (f1 : f ≤ 1) (r0 : -1 ≤ r) (r1 : r ≤ 1) (hd : d = m * f) (hq : q = m * r) : lineD d q = true ∧ sg d = f ∧ sg q = r ∧ (f ≠ 0 ∨ r ≠ 0 → cheb d q = m) := by
  have hf : f = -1 ∨ f = 0 ∨ f = 1 := by omega
  have hr : r = -1 ∨ r = 0 ∨ r = 1 := by omega
  rcases hf with rfl | rfl | rfl <;> rcases hr with rfl | rfl | rfl <;> simp at hd hq <;> subst hd <;> subst hq <;> refine ⟨?_, ?_, ?_, ?_⟩ <;> (first | (unfold lineD; simp; done) | (unfold lineD; simp; omega) | (unfold cheb; omega) | (unfold sg; (try split) <;> (try split) <;> omega))

/-- a step on the way between two squares of the board is on the board. -/
theorem on_way {F R x y u v m f r : Int} (_hm : 0 < m) (f0 : -1 ≤ f) (f1 : f ≤ 1) (r0 : -1 ≤ r) (r1 : r ≤ 1) (hx : 0 ≤ x ∧ x < F) (hy : 0 ≤ y ∧ y < R) (hu : 0 ≤ u ∧ u < F) (hv : 0 ≤ v ∧ v < R) (e1 : u = x + m * f) (e2 : v = y + m * r) (j : Int) (j0 : 0 ≤ j) (j1 : j ≤ m) :
    onb F R (x + j * f) (y + j * r) := by
  have hf : f = -1 ∨ f = 0 ∨ f = 1 := by omega
  have hr : r = -1 ∨ r = 0 ∨ r = 1 := by omega
  unfold onb
  rcases hf with rfl | rfl | rfl <;> rcases hr with rfl | rfl | rfl <;> simp at e1 e2 ⊢ <;> omega

/-- two squares on a line: the second one is on the ray, the squares between are those before it. -/
theorem line_ray {F R a b : Int} (ha : vat F R a) (hb : vat F R b) (hl : lineB F a b = true) :
    ∃ m : Nat, m < 8 ∧ ((m : Int) + 1 = cheb (b % F - a % F) (b / F - a / F)) ∧ (∀ j, j < m + 1 → rayP F R (a % F) (a / F) (sg (b % F - a % F)) (sg (b / F - a / F)) j = true) ∧
      ((rayNum F (a % F) (a / F) (sg (b % F - a % F)) (sg (b / F - a / F)) m : Nat) : Int) = b ∧ betL F R a b = (List.range m).map (rayNum F (a % F) (a / F) (sg (b % F - a % F)) (sg (b / F - a / F))) := by
  obtain ⟨p0, p1, p2, p3⟩ := place_bd ha.1 ha.2.1 ha.2.2
  obtain ⟨q0, q1, q2, q3⟩ := place_bd hb.1 hb.2.1 hb.2.2
  have f2 := ha.1.2.1
  have r2 := ha.1.2.2.2
  have hab : a ≠ b := by
    intro e
    unfold lineB at hl
    rw [e] at hl
    simp at hl
  have hdir := dir_ne ha hb hab
  have hlD : lineD (b % F - a % F) (b / F - a / F) = true := by
    unfold lineB at hl
    simp only [Bool.and_eq_true] at hl
    exact hl.2
  obtain ⟨e1, e2⟩ := line_steps hlD
  have s0 := sg_bd (b % F - a % F)
  have s1 := sg_bd (b / F - a / F)
  have hc : 0 < cheb (b % F - a % F) (b / F - a / F) ∧ cheb (b % F - a % F) (b / F - a / F) ≤ 7 := by
    have : ¬ (b % F - a % F = 0 ∧ b / F - a / F = 0) := fun h => hab (place_inj ha hb (by omega) (by omega))
    unfold cheb; omega
  have hon := fun j j0 j1 => on_way (F := F) (R := R) (x := a % F) (y := a / F) (u := b % F) (v := b / F) hc.1 s0.1 s0.2 s1.1 s1.2 ⟨p0, p1⟩ ⟨p2, p3⟩ ⟨q0, q1⟩ ⟨q2, q3⟩ (by omega) (by omega) j j0 j1
  have hbet : betL F R a b = befL (rayL F R (a % F) (a / F) (sg (b % F - a % F)) (sg (b / F - a / F))) b := rfl
  generalize sg (b % F - a % F) = f at *
  generalize sg (b / F - a / F) = r at *
  have hP : ∀ j, j < ((cheb (b % F - a % F) (b / F - a / F)).toNat - 1) + 1 → rayP F R (a % F) (a / F) f r j = true := fun j hj => rayP_iff.2 (hon ((j : Int) + 1) (by omega) (by omega))
  have hNb : ((rayNum F (a % F) (a / F) f r ((cheb (b % F - a % F) (b / F - a / F)).toNat - 1) : Nat) : Int) = b := by
    obtain ⟨g1, g2, g3⟩ := ray_place ha.1 (hP ((cheb (b % F - a % F) (b / F - a / F)).toNat - 1) (by omega))
    have em : ((((cheb (b % F - a % F) (b / F - a / F)).toNat - 1 : Nat) : Int) + 1) = cheb (b % F - a % F) (b / F - a / F) := by omega
    rw [em] at g1 g2
    exact place_inj g3 hb (by omega) (by omega)
  refine ⟨(cheb (b % F - a % F) (b / F - a / F)).toNat - 1, by omega, by omega, hP, hNb, ?_⟩
  generalize (cheb (b % F - a % F) (b / F - a / F)).toNat - 1 = m at *
  have hm8 : m < 8 := by
    apply Nat.lt_of_not_le
    intro h8
    have hk := step_le (k := ((7 : Nat) : Int) + 1) (x := a % F) (f := f) (F := F) f2 p0 p1
    have hk2 := step_le (k := ((7 : Nat) : Int) + 1) (x := a / F) (f := r) (F := R) r2 p2 p3
    have o := rayP_iff.1 (hP 7 (by omega))
    by_cases hf : f = 0
    · have hr : r ≠ 0 := fun e => hdir ⟨hf, e⟩
      have := hk2 o.2.2.1 o.2.2.2 hr
      omega
    · have := hk o.1 o.2.1 hf
      omega
  obtain ⟨hl, hg⟩ := rayL_has hm8 hP
  have hlt : ∀ j (hj : j < m), (((rayL F R (a % F) (a / F) f r)[j]'(by omega) : Nat) : Int) ≠ b := by
    intro j hj he
    rw [(rayL_get (by omega)).1] at he
    obtain ⟨g1, g2, _⟩ := ray_place ha.1 (hP j (by omega))
    obtain ⟨k1, k2, _⟩ := ray_place ha.1 (hP m (by omega))
    rw [he] at g1 g2
    rw [hNb] at k1 k2
    have e3 : ((m : Int) + 1) * f = ((j : Int) + 1) * f := by omega
    have e4 : ((m : Int) + 1) * r = ((j : Int) + 1) * r := by omega
    apply hdir
    constructor
    · by_cases h : f = 0
      · exact h
      · have := Int.eq_of_mul_eq_mul_right h e3
        omega
    · by_cases h : r = 0
      · exact h
      · have := Int.eq_of_mul_eq_mul_right h e4
        omega
  rw [hbet, bef_hit hl hlt (by rw [hg]; exact hNb)]
  have hp := rayL_pre (F := F) (R := R) (x := a % F) (y := a / F) (f := f) (r := r) (m := m) (by omega) (fun j hj => hP j (by omega))
  have := List.prefix_iff_eq_take.1 hp
  rw [List.length_map, List.length_range] at this
  exact this.symm

theorem freeB_iff {l : List Nat} {X : Nat} : freeB (l.map fun i : Nat => (i : Int)) X = true ↔ ∀ i ∈ l, X.testBit i = false := by
  unfold freeB
  rw [List.all_eq_true]
  constructor
  · intro h i hi
    have := h (i : Int) (List.mem_map.2 ⟨i, hi, rfl⟩)
    simpa using this
  · intro h n hn
    obtain ⟨i, hi, rfl⟩ := List.mem_map.1 hn
    simpa using h i hi

/-- which squares a ray reaches that stops at occupied ones. -/
theorem slide_mem {F R a b f r : Int} {n X : Nat} (hn : (n : Int) = b) (ha : vat F R a) (hb : vat F R b) (f0 : -1 ≤ f) (f1 : f ≤ 1) (r0 : -1 ≤ r) (r1 : r ≤ 1) (hfr : ¬ (f = 0 ∧ r = 0)) :
    n ∈ stopL (rayL F R (a % F) (a / F) f r) X ↔ (lineB F a b = true ∧ sg (b % F - a % F) = f ∧ sg (b / F - a / F) = r ∧ freeB ((betL F R a b).map fun i : Nat => (i : Int)) X = true) := by
  rw [mem_stop]
  constructor
  · rintro ⟨k, hk, e, hfree⟩
    obtain ⟨g1, g2, g3⟩ := rayL_get hk
    rw [g1] at e
    obtain ⟨h1, h2, h3⟩ := ray_place ha.1 g2
    rw [e, hn] at h1 h2
    obtain ⟨l1, l2, l3, l4⟩ := steps_line (d := b % F - a % F) (q := b / F - a / F) (m := (k : Int) + 1) (by omega) f0 f1 r0 r1 (by omega) (by omega)
    have hc := l4 (by by_cases h : f = 0; exact .inr (fun h2 => hfr ⟨h, h2⟩); exact .inl h)
    have hab : a ≠ b := by
      rintro rfl
      apply hfr
      rw [← l2, ← l3]
      simp [sg]
    have hline : lineB F a b = true := by
      unfold lineB
      unfold lineD at l1
      rw [l1]
      simp [hab]
    obtain ⟨m, m8, hm, hP, hNb, hbet⟩ := line_ray ha hb hline
    refine ⟨hline, l2, l3, ?_⟩
    rw [freeB_iff, hbet, l2, l3]
    have hmk : m = k := by omega
    subst hmk
    intro i hi
    obtain ⟨j, hj, rfl⟩ := List.mem_map.1 hi
    have hj' : j < m := by simpa using hj
    have := hfree j hj'
    rwa [(rayL_get (by omega)).1] at this
  · rintro ⟨hline, l2, l3, hfree⟩
    obtain ⟨m, m8, hm, hP, hNb, hbet⟩ := line_ray ha hb hline
    rw [l2, l3] at hP hNb hbet
    obtain ⟨hl, hg⟩ := rayL_has m8 hP
    refine ⟨m, hl, by rw [hg]; omega, fun j hj => ?_⟩
    rw [freeB_iff, hbet] at hfree
    rw [(rayL_get (by omega)).1]
    exact hfree _ (List.mem_map.2 ⟨j, by simpa using hj, rfl⟩)

/-- the first square of a ray. -/
theorem leap_mem {F R a b f r : Int} {n : Nat} (hn : (n : Int) = b) (ha : vat F R a) (hb : vat F R b) :
    n ∈ (rayL F R (a % F) (a / F) f r).take 1 ↔ (b % F - a % F = f ∧ b / F - a / F = r) := by
  constructor
  · intro h
    obtain ⟨k, hk, e⟩ := List.mem_iff_getElem.1 h
    have hk1 : k = 0 := by rw [List.length_take] at hk; omega
    subst hk1
    rw [List.getElem_take, (rayL_get (by rw [List.length_take] at hk; omega)).1] at e
    obtain ⟨h1, h2, h3⟩ := ray_place ha.1 (rayL_get (F := F) (R := R) (x := a % F) (y := a / F) (f := f) (r := r) (k := 0) (by rw [List.length_take] at hk; omega)).2.1
    rw [e, hn] at h1 h2
    simp at h1 h2
    omega
  · rintro ⟨h1, h2⟩
    obtain ⟨q0, q1, q2, q3⟩ := place_bd hb.1 hb.2.1 hb.2.2
    have hP : ∀ j, j < 0 + 1 → rayP F R (a % F) (a / F) f r j = true := fun j hj => by
      have : j = 0 := by omega
      subst this
      refine rayP_iff.2 ?_
      simp
      unfold onb
      omega
    obtain ⟨hl, hg⟩ := rayL_has (by omega) hP
    have h0 := hP 0 (by omega)
    obtain ⟨k1, k2, k3⟩ := ray_place ha.1 h0
    simp at k1 k2
    have e : ((rayNum F (a % F) (a / F) f r 0 : Nat) : Int) = b := place_inj k3 hb (by omega) (by omega)
    have e' : n = rayNum F (a % F) (a / F) f r 0 := by omega
    rw [e', ← hg]
    rw [List.mem_iff_getElem]
    exact ⟨0, by rw [List.length_take]; omega, by rw [List.getElem_take]⟩

def slideL (F R a : Int) (ds : List (Int × Int)) (X : Nat) : List Nat := ds.flatMap fun d => stopL (rayL F R (a % F) (a / F) d.1 d.2) X
theorem slide_snoc (F R a : Int) (ds : List (Int × Int)) (d : Int × Int) (X : Nat) : slideL F R a (ds ++ [d]) X = slideL F R a ds X ++ stopL (rayL F R (a % F) (a / F) d.1 d.2) X := by simp [slideL]
theorem stop_sub {L : List Nat} {X n : Nat} (h : n ∈ stopL L X) : n ∈ L := by
  obtain ⟨k, hk, e, _⟩ := mem_stop.1 h
  rw [← e]; exact List.getElem_mem hk
theorem slide_lt {F R a : Int} (hv : vsz F R) {ds : List (Int × Int)} {X n : Nat} (h : n ∈ slideL F R a ds X) : (n : Int) < F * R := by
  unfold slideL at h
  obtain ⟨d, _, hd⟩ := List.mem_flatMap.1 h
  exact rayL_lt hv n (stop_sub hd)

end Go.Proofs.YtelkmdklpcfobaaGreatDoor

/- Each: the iterator over the squares of a set gives them in order, as far as the loop takes them. Under the table of package math/bits as its text lays it. -/
namespace Go.Proofs.YtelkmdklpcfobaaGreatDoor
open Go.RowKit Go.Shelf
attribute [local go_sem] Oper.semAt_some

/-- the table of math/bits lies in its variable. -/
def Tab (w : World) : Prop := 4 + 1 ≤ w.heap.size ∧ TabAt 4 Lib.deBruijn64tab w
theorem Tab.below {w w' : World} {B : Nat} (h : Tab w) (hb : Below B w w') (hB : 4 + 1 ≤ B) : Tab w' :=
  ⟨Nat.le_trans h.1 hb.size, fun j hj => (hb.cell (p := ⟨4, j, none⟩) hB).trans (h.2 j hj)⟩

set_option maxRecDepth 100000 in
set_option maxHeartbeats 1000000 in
theorem tz_core (x k idx : Nat) (w : World) (hx0 : ((x : Int) == 0) = false)
    (key : IntKind.u64.wrap (bits BinOp.and IntKind.u64 (x : Int) (IntKind.u64.wrap (-(x : Int))) * 285870213051353865) / 288230376151711744 = (idx : Int))
    (hi : idx < 64) (hk : k < 64) (hcell : w.cell? ⟨4, idx, none⟩ = some (.int .u8 k)) :
    Calls Tryz.prog 142 #[.int .u64 x] w fun e w' => e = .returned (.int .i64 k) ∧ w' = w := by
  go_enter Tryz.func142, Tryz.ntmps142
  go_wp2_with (simp only [key])
  go_ret
  exact ⟨rfl, rfl⟩

theorem tz_any (x : Nat) (hx0 : x ≠ 0) (hx : x < 18446744073709551616) (w : World) (hT : Tab w) :
    Calls Tryz.prog 142 #[.int .u64 x] w fun e w' => e = .returned (.int .i64 (Lib.ctz 64 x)) ∧ w' = w := by
  obtain ⟨hlow, hk⟩ := Lib.lowest_bit 64 x hx0 hx
  obtain ⟨hi, htab⟩ := Lib.deBruijn64_at _ hk
  have hcell := hT.2 _ hi
  rw [htab] at hcell
  exact tz_core x _ _ w (by simp; omega) (tz64_key x _ hx hx0 hlow) hi hk hcell

/-- a square of a set. -/
abbrev Sq (X : Nat) := { i : Nat // i ∈ listOf X }
def vals {X : Nat} (l : List (Sq X)) : List Nat := l.map (·.1)
theorem vals_snoc {X : Nat} (l : List (Sq X)) (x : Sq X) : vals (l ++ [x]) = vals l ++ [x.1] := by simp [vals]
theorem vals_len {X : Nat} (l : List (Sq X)) : (vals l).length = l.length := by simp [vals]

theorem and_pred (x : Nat) (h0 : x ≠ 0) (hx : x < 18446744073709551616) : bits .and .u64 (x : Int) ((x : Int) - 1) = ((x &&& (x - 1) : Nat) : Int) := by
  have e : ((x : Int) - 1) = ((x - 1 : Nat) : Int) := by omega
  rw [e, u64_and_nat x (x - 1) hx (by omega)]

end Go.Proofs.YtelkmdklpcfobaaGreatDoor

/- Shift: the set whose squares are moved, without those that leave the board. -/
namespace Go.Proofs.YtelkmdklpcfobaaGreatDoor
open Go.RowKit Go.Shelf
attribute [local go_sem] Oper.semAt_some

theorem keeps_below {W W' : World} (h : Below W.heap.size W W') : KeepsOthers W W' := ⟨h.size, fun _ _ hk _ => (h.block _ (Array.getElem?_eq_some_iff.1 hk).1).trans hk⟩

end Go.Proofs.YtelkmdklpcfobaaGreatDoor

/- Ranges over the program's ray whose body writes into one box: one law for all of them; marks of several ranges, one behind the other, among the deferred calls. -/
namespace Go.Proofs.YtelkmdklpcfobaaGreatDoor
open Go.RowKit Go.Shelf

theorem vl_lt {F R x y f r : Int} (hv : vsz F R) {pre : List (El (rayL F R x y f r))} : ∀ i ∈ vl pre, (i : Int) < F * R := by
  intro i hi
  obtain ⟨e, _, rfl⟩ := List.mem_map.1 hi
  exact rayL_lt hv _ e.2
theorem vl_64 {F R x y f r : Int} (hv : vsz F R) {pre : List (El (rayL F R x y f r))} : ofL (vl pre) < 18446744073709551616 := by
  have := ofL_lt (l := vl pre) (n := 64) (fun i hi => by have := vl_lt hv i hi; have := (vsz_mul hv).2; omega)
  simpa using this
theorem el_64 {F R : Int} (hv : vsz F R) {T : List Nat} (hT : ∀ i ∈ T, (i : Int) < F * R) : ofL T < 18446744073709551616 := by
  have := ofL_lt (l := T) (n := 64) (fun i hi => by have := hT i hi; have := (vsz_mul hv).2; omega)
  simpa using this

/-- all but block S is as it was. -/
def ButS (S : Nat) (V W : World) : Prop := W.os = V.os ∧ W.tape = V.tape ∧ W.output = V.output ∧ V.heap.size ≤ W.heap.size ∧ ∀ k, k < V.heap.size → k ≠ S → W.heap[k]? = V.heap[k]?
theorem ButS.refl (S : Nat) (V : World) : ButS S V V := ⟨rfl, rfl, rfl, Nat.le_refl _, fun _ _ _ => rfl⟩
theorem ButS.size {S : Nat} {V W : World} (h : ButS S V W) : V.heap.size ≤ W.heap.size := h.2.2.2.1
theorem ButS.trans {S : Nat} {A B C : World} (h : ButS S A B) (k : ButS S B C) : ButS S A C :=
  ⟨k.1.trans h.1, k.2.1.trans h.2.1, k.2.2.1.trans h.2.2.1, Nat.le_trans h.size k.size, fun i hi hn => (k.2.2.2.2 i (Nat.lt_of_lt_of_le hi h.size) hn).trans (h.2.2.2.2 i hi hn)⟩
theorem ButS.of {S : Nat} {A B : World} (h : Below A.heap.size A B) : ButS S A B := ⟨h.os, h.tape, h.output, h.size, fun k hk _ => h.block k hk⟩
theorem ButS.drew {S : Nat} {A B : World} (h : ButS S A B) : ButS S A B.drew := h
theorem ButS.drewN {S : Nat} {A B : World} (h : ButS S A B) (n : Nat) : ButS S A (B.drewN n) := h
theorem ButS.set {S : Nat} (A : World) (o : Nat) (v : Value) : ButS S A (A.setCell ⟨S, o, none⟩ v) := ⟨rfl, rfl, rfl, by simp, fun _ _ hn => Below.heap_setCell _ _ _ _ hn⟩
theorem ButS.below {S B : Nat} {V W : World} (h : ButS S V W) (hS : B ≤ S) (hV : B ≤ V.heap.size) : Below B V W := ⟨h.1, h.2.1, h.2.2.1, h.size, fun k hk => h.2.2.2.2 k (by omega) (by omega)⟩
theorem ButS.cell {S : Nat} {V W : World} (h : ButS S V W) {p : Addr} {v : Value} (hc : V.cell? p = some v) (hS : p.block ≠ S) : W.cell? p = some v :=
  (World.cell?_of_block (h.2.2.2.2 _ (World.block_lt_of_cell? _ _ hc) hS)).trans hc
theorem ButS.kpR {S b : Nat} {V W : World} (h : ButS S V W) (hb : b + 4 ≤ V.heap.size) (hS : S < b ∨ b + 4 ≤ S) : KpR 0 b V W :=
  ⟨h.below (Nat.zero_le _) (Nat.zero_le _), fun k h0 h1 => h.2.2.2.2 k (by omega) (by omega)⟩
theorem keeps_but {S : Nat} {V W : World} (h : ButS S V W) {v : Value} {o : Nat} (hc : V.cell? ⟨S, o, none⟩ = some v) : KeepsOthers V W := by
  refine ⟨h.size, fun k ob hk hn => ?_⟩
  by_cases e : k = S
  · subst e
    unfold World.cell? at hc
    rw [hk] at hc
    revert hc hn
    cases ob <;> simp [Obj.isCells]
  · exact (h.2.2.2.2 k (Array.getElem?_eq_some_iff.1 hk).1 e).trans hk
theorem ownFrom_but {β : Type} {S B : Nat} {V : World} (hB : V.heap.size ≤ B) : OwnFrom B (fun (_ : β) W => ButS S V W) := fun _ W W' row hs hg hr =>
  ⟨hg.os.trans hs.1, hg.tape.trans hs.2.1, hg.output.trans hs.2.2.1, Nat.le_trans hs.size hg.size, fun k hk hn =>
    (hg.block k (Nat.lt_of_lt_of_le hk hs.size) (fun e => by have := (hr k e.symm).1; omega)).trans (hs.2.2.2.2 k hk hn)⟩
theorem ownFrom_cell {β : Type} {B : Nat} (p : Addr) (g : β → Value) : OwnFrom B (fun (s : β) W => W.cell? p = some (g s)) := fun _ _ _ _ hs hg hr => cell_kept hs hg (fun r e => (hr r e).2)
theorem ownFrom_box {β : Type} {B : Nat} (p : Addr) (g : β → Value) : OwnFrom B (fun (s : β) W => W.cell? p = some (g s) ∧ W.frozen? p = false) := fun _ _ _ _ hs hg hr => ⟨cell_kept hs.1 hg (fun r e => (hr r e).2), (frozen_kept hs.1 hg (fun r e => (hr r e).2)).trans hs.2⟩

/-- how the body of a round is left that writes into box S alone. -/
def rayPost {α : Type} (S : Nat) (G : List α → Value) (p : List α → Prop) (Gx : List α → Value) (px : Code → List α → Prop) (xs : List α) (W : World) : Exit → Act → World → Prop
  | .normal, _, W' => (W'.cell? ⟨S, 0, none⟩ = some (G xs) ∧ W'.frozen? ⟨S, 0, none⟩ = false) ∧ ButS S W W' ∧ p xs
  | .ret, _, W' => (W'.cell? ⟨S, 0, none⟩ = some (Gx xs) ∧ W'.frozen? ⟨S, 0, none⟩ = false) ∧ ButS S W W' ∧ px .ret xs
  | .exit id, _, W' => (W'.cell? ⟨S, 0, none⟩ = some (Gx xs) ∧ W'.frozen? ⟨S, 0, none⟩ = false) ∧ ButS S W W' ∧ px (.exit id) xs
  | .goto _, _, _ => False
  | .panic _, _, _ => False
  | .outgrown, _, _ => False

/-- A RANGE OVER THE PROGRAM's RAY. -/
theorem range_ray {F R a f r : Int} {L : List Nat} (hL : RayIs F R a f r L) (f0 : -9223372036854775808 ≤ f) (f1 : f ≤ 9223372036854775807) (r0 : -9223372036854775808 ≤ r) (r1 : r ≤ 9223372036854775807) {n : Nat} (hn : 2 ≤ n)
    {g : Operand} {ps : Array Tmp} (hps : ps.size = 1) {assign body : Code} {Q : Exit → Act → World → Prop} {A : Act} {V : World} (b S : Nat) (hSb : S < b ∨ b + 4 ≤ S) (hb : b + 4 ≤ V.heap.size)
    (hg : A.eval g = .func (.func 201) #[] #[.pointer (some ⟨b, 0, none⟩), .pointer (some ⟨b + 1, 0, none⟩), .pointer (some ⟨b + 1 + 1, 0, none⟩), .pointer (some ⟨b + 1 + 1 + 1, 0, none⟩)])
    (c0 : V.cell? ⟨b, 0, none⟩ = some (.int .i64 F)) (c1 : V.cell? ⟨b, 1, none⟩ = some (.int .i64 R)) (ca : V.cell? ⟨b + 1, 0, none⟩ = some (.int .i64 a)) (cf : V.cell? ⟨b + 1 + 1, 0, none⟩ = some (.int .i64 f)) (cr : V.cell? ⟨b + 1 + 1 + 1, 0, none⟩ = some (.int .i64 r))
    (G : List (El L) → Value) (p : List (El L) → Prop) (Gx : List (El L) → Value) (px : Code → List (El L) → Prop)
    (v0 : V.cell? ⟨S, 0, none⟩ = some (G [])) (v1 : V.frozen? ⟨S, 0, none⟩ = false) (p0 : p []) (a₁ : El L → Act)
    (hassign : ∀ (l : Nat) (x : El L) (W : World) (K : Act → World → Prop), K (a₁ x) W →
      assign.wpIn (Fence.wide.inRound l) (n - 1 - 1) Tryz.prog (Exit.then K (fun _ _ _ => False)) { tmps := (ps.zip #[Value.int .i64 (x.1 : Int)]).foldl (fun t (p, v) => t.setIfInBounds p v) A.tmps, defers := [] } W)
    (hbody : ∀ (l : Nat) (pre : List (El L)) (x : El L) (W : World), W.cell? ⟨S, 0, none⟩ = some (G pre) → W.frozen? ⟨S, 0, none⟩ = false → ButS S V W → p pre → pre.length < L.length → body.wpIn (Fence.wide.inRound l) (n - 1 - 1) Tryz.prog (rayPost S G p Gx px (pre ++ [x]) W) (a₁ x) W)
    (hdone : ∀ (D : Nat) (xs : List (El L)) (W : World), V.heap.size ≤ D → vl xs = L → W.cell? ⟨S, 0, none⟩ = some (G xs) → W.frozen? ⟨S, 0, none⟩ = false → ButS S V W → p xs → W.heap[D]? = some (.deferred (some [])) → Q .normal { A with defers := { target := .collected D, args := #[] } :: A.defers } W)
    (hstop : ∀ (D : Nat) (c : Code) (pre : List (El L)) (W : World), V.heap.size ≤ D → vl pre <+: L → W.cell? ⟨S, 0, none⟩ = some (Gx pre) → W.frozen? ⟨S, 0, none⟩ = false → ButS S V W → px c pre → W.heap[D]? = some (.deferred (some [])) → c.wpIn Fence.wide n Tryz.prog Q { A with defers := { target := .collected D, args := #[] } :: A.defers } W) :
    (Code.rangeFunc g ps assign body).wpIn Fence.wide n Tryz.prog Q A V := by
  refine wpIn_rangeFunc_ownF rfl (by omega) (gf := 201) hg trivial (enters_of Tryz.func201 (by kernel_rfl) rfl)
    (ray_stops (n - 1) b 0 F R a f r L hL (by omega) f0 f1 r0 r1 V (Nat.zero_le _) hb c0 c1 ca cf cr) kpR_t (kpR_b (Nat.zero_le _) hb) (Below.refl _ _) (fun _ => hps.symm)
    (fun pre W => (W.cell? ⟨S, 0, none⟩ = some (G pre) ∧ W.frozen? ⟨S, 0, none⟩ = false) ∧ ButS S V W ∧ p pre)
    (fun cc pre W => (W.cell? ⟨S, 0, none⟩ = some (Gx pre) ∧ W.frozen? ⟨S, 0, none⟩ = false) ∧ ButS S V W ∧ px cc pre)
    (OwnFrom.and (ownFrom_box _ _) (OwnFrom.and (ownFrom_but (Nat.le_refl _)) (ownFrom_pure _ _)))
    (fun cc => OwnFrom.and (ownFrom_box _ _) (OwnFrom.and (ownFrom_but (Nat.le_refl _)) (ownFrom_pure _ _)))
    ⟨⟨v0, v1⟩, ButS.refl _ _, p0⟩ a₁ hassign ?_ ?_ ?_
  · rintro l pre x W ⟨⟨hS, hf⟩, hB, hp⟩ hlen
    refine wpIn_mono (hbody l pre x W hS hf hB hp hlen) ?_
    intro e a' W' h
    have hbW : b + 4 ≤ W.heap.size := Nat.le_trans hb hB.size
    cases e with
    | normal => exact ⟨keeps_but h.2.1 hS, h.2.1.kpR hbW hSb, h.1, hB.trans h.2.1, h.2.2⟩
    | ret => exact ⟨keeps_but h.2.1 hS, h.1, hB.trans h.2.1, h.2.2⟩
    | exit id => exact ⟨keeps_but h.2.1 hS, h.1, hB.trans h.2.1, h.2.2⟩
    | goto t => exact h.elim
    | panic c => exact h.elim
    | outgrown => exact h.elim
  · rintro D xs W hD hxs ⟨⟨hS, hf⟩, hB, hp⟩ hK
    exact hdone D xs W hD hxs hS hf hB hp hK
  · rintro D c pre W hD hpre ⟨⟨hS, hf⟩, hB, hp⟩ hK
    exact hstop D c pre W hD hpre hS hf hB hp hK

/-! ### marks -/
def marks (Ds : List Nat) : List Deferred := Ds.map fun D => { target := .collected D, args := #[] }
def MarksAt (n₀ : Nat) (Ds : List Nat) (w : World) : Prop := Ds.Nodup ∧ ∀ D ∈ Ds, n₀ ≤ D ∧ w.heap[D]? = some (.deferred (some []))
theorem MarksAt.nil (n₀ : Nat) (w : World) : MarksAt n₀ [] w := ⟨List.nodup_nil, fun D h => by cases h⟩
theorem MarksAt.lt {n₀ : Nat} {Ds : List Nat} {w : World} (h : MarksAt n₀ Ds w) {D : Nat} (hD : D ∈ Ds) : D < w.heap.size := (Array.getElem?_eq_some_iff.1 (h.2 D hD).2).1
theorem MarksAt.but {n₀ S : Nat} {Ds : List Nat} {w w' : World} (h : MarksAt n₀ Ds w) (hb : ButS S w w') (hS : S < n₀) : MarksAt n₀ Ds w' :=
  ⟨h.1, fun D hD => ⟨(h.2 D hD).1, (hb.2.2.2.2 D (h.lt hD) (by have := (h.2 D hD).1; omega)).trans (h.2 D hD).2⟩⟩
theorem MarksAt.cons {n₀ S : Nat} {Ds : List Nat} {w w' : World} (h : MarksAt n₀ Ds w) (hb : ButS S w w') (hS : S < n₀) {D : Nat} (hD : w.heap.size ≤ D) (hn : n₀ ≤ D) (hk : w'.heap[D]? = some (.deferred (some []))) : MarksAt n₀ (D :: Ds) w' := by
  have h2 := h.but hb hS
  refine ⟨List.nodup_cons.2 ⟨fun hm => by have := h.lt hm; omega, h.1⟩, fun E hE => ?_⟩
  rcases List.mem_cons.1 hE with rfl | hE
  · exact ⟨hn, hk⟩
  · exact h2.2 E hE
theorem marks_cons (D : Nat) (Ds : List Nat) : { target := .collected D, args := #[] } :: marks Ds = marks (D :: Ds) := rfl
theorem leaves_marks {Fe : Fence} {n : Nat} {P : Program} {fn : Func} {tmps : Array Value} {Rr : Ending → World → Prop} {n₀ : Nat} : ∀ (Ds : List Nat) (w : World), MarksAt n₀ Ds w → (∀ w', Below n₀ w w' → LeavesIn Fe n P fn tmps Rr [] .returning w') → LeavesInM Fe n P fn tmps Rr (marks Ds) .returning w
  | [], w, _, h => h w (Below.refl _ _)
  | D :: Ds, w, hM, h => by
    have hD := hM.2 D (by simp)
    have hB : Below n₀ w (w.putObj D (.deferred none)) := (Below.refl _ _).grown (grownBy_putObj' w D _) (by have := hM.lt (D := D) (by simp); omega) (fun k e => by cases e; omega)
    refine ⟨by simp, .inl ⟨D, _, rfl, run_takeDeferred hD.2, ?_⟩⟩
    refine leaves_marks Ds _ ⟨(List.nodup_cons.1 hM.1).2, fun E hE => ?_⟩ (fun w' hw => h w' (hB.trans hw))
    have hE2 := hM.2 E (by simp [hE])
    have hne : E ≠ D := by rintro rfl; exact (List.nodup_cons.1 hM.1).1 hE
    exact ⟨hE2.1, (World.putObj_heap_other (fun e => hne (by omega))).trans hE2.2⟩

end Go.Proofs.YtelkmdklpcfobaaGreatDoor
