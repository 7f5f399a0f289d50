/- The direction from a square to another one, by the program. -/
import Derived.Test.YtjnbjegopddhgaaDoorRpB
import Derived.Test.YtjnbjegopddhgaaDoorRyE

namespace Go.Proofs.YtjnbjegopddhgaaDoor
open Go.RowKit

def cheb (d q : Int) : Int := max (max (-d) d) (max (-q) q)
theorem dist_cheb (F a b : Int) : dist F a b = cheb (b % F - a % F) (b / F - a / F) := by unfold dist cheb; omega
def lineD (d q : Int) : Bool := (d == 0) || (q == 0) || (d == q) || (d + q == 0)
theorem dir_dec : ∀ i : Fin 15, ∀ j : Fin 15, cheb ((i.1 : Int) - 7) ((j.1 : Int) - 7) ≠ 0 →
    (((Int.tmod ((i.1 : Int) - 7) (cheb ((i.1 : Int) - 7) ((j.1 : Int) - 7)) != 0) || (Int.tmod ((j.1 : Int) - 7) (cheb ((i.1 : Int) - 7) ((j.1 : Int) - 7)) != 0)) = !lineD ((i.1 : Int) - 7) ((j.1 : Int) - 7)) ∧
    (lineD ((i.1 : Int) - 7) ((j.1 : Int) - 7) = true → Int.tdiv ((i.1 : Int) - 7) (cheb ((i.1 : Int) - 7) ((j.1 : Int) - 7)) = sg ((i.1 : Int) - 7) ∧ Int.tdiv ((j.1 : Int) - 7) (cheb ((i.1 : Int) - 7) ((j.1 : Int) - 7)) = sg ((j.1 : Int) - 7)) := by decide +kernel
theorem dir_any {d q : Int} (d0 : -7 ≤ d) (d1 : d ≤ 7) (q0 : -7 ≤ q) (q1 : q ≤ 7) (h : cheb d q ≠ 0) :
    (((Int.tmod d (cheb d q) != 0) || (Int.tmod q (cheb d q) != 0)) = !lineD d q) ∧ (lineD d q = true → Int.tdiv d (cheb d q) = sg d ∧ Int.tdiv q (cheb d q) = sg q) := by
  have := dir_dec ⟨(d + 7).toNat, by omega⟩ ⟨(q + 7).toNat, by omega⟩
  simp only [show (((d + 7).toNat : Nat) : Int) - 7 = d by omega, show (((q + 7).toNat : Nat) : Int) - 7 = q by omega] at this
  exact this h

set_option maxRecDepth 100000 in
set_option maxHeartbeats 2000000 in
theorem pDir_no (F R a b : Int) (h : ¬ (vat F R a ∧ vat F R b)) (w : World) :
    Calls Tryd.prog 95 #[.agg #[.int .i64 F, .int .i64 R], .int .i64 a, .int .i64 b] w fun e w' => e = .returned (.tuple #[.int .i64 0, .int .i64 0, .int .i64 2]) ∧ Below w.heap.size w w' := by
  go_enter Tryd.func95, Tryd.ntmps95
  go_wp2_with fail
  refine (distance_no F R a b h _).mono ?_
  rintro e w1 ⟨rfl, hb⟩
  go_wp2
  go_ret3
  exact ⟨rfl, after1 hb⟩

set_option maxRecDepth 100000 in
set_option maxHeartbeats 2000000 in
theorem pDir_yes (F R a b : Int) (ha : vat F R a) (hb : vat F R b) (w : World) :
    Calls Tryd.prog 95 #[.agg #[.int .i64 F, .int .i64 R], .int .i64 a, .int .i64 b] w fun e w' => e = .returned (if lineB F a b = true then .tuple #[.int .i64 (sg (b % F - a % F)), .int .i64 (sg (b / F - a / F)), .int .i64 0] else .tuple #[.int .i64 0, .int .i64 0, .int .i64 9]) ∧ Below w.heap.size w w' := by
  obtain ⟨p0, p1, p2, p3⟩ := place_bd ha.1 ha.2.1 ha.2.2
  obtain ⟨q0, q1, q2, q3⟩ := place_bd hb.1 hb.2.1 hb.2.2
  have f2 := ha.1.2.1
  have r2 := ha.1.2.2.2
  have HPA := Lib.hid (placeX_yes F R a ha)
  have HPB := Lib.hid (placeX_yes F R b hb)
  have hds := distance_yes F R a b ha hb
  rw [dist_cheb] at hds
  have HDS := Lib.hid hds
  have hab : (a == b) = decide (cheb (b % F - a % F) (b / F - a / F) = 0) := by
    by_cases e : a = b
    · subst e; simp [cheb]
    · have : cheb (b % F - a % F) (b / F - a / F) ≠ 0 := fun h => e (by
        unfold cheb at h
        have e1 : b % F = a % F := by omega
        have e2 : b / F = a / F := by omega
        have h1 := place_eq (a := a) ha.1
        have h2 := place_eq (a := b) ha.1
        rw [← h1, ← h2, e1, e2])
      simp [e, this]
  obtain ⟨V, hV⟩ : ∃ V, (if lineB F a b = true then Value.tuple #[.int .i64 (sg (b % F - a % F)), .int .i64 (sg (b / F - a / F)), .int .i64 0] else .tuple #[.int .i64 0, .int .i64 0, .int .i64 9]) = V := ⟨_, rfl⟩
  rw [hV]
  have hl : lineB F a b = (!(decide (cheb (b % F - a % F) (b / F - a / F) = 0)) && lineD (b % F - a % F) (b / F - a / F)) := by unfold lineB lineD; rw [hab]
  rw [hl] at hV
  clear hl hab hds
  obtain ⟨x, hx⟩ : ∃ x, a % F = x := ⟨_, rfl⟩
  obtain ⟨y, hy⟩ : ∃ y, a / F = y := ⟨_, rfl⟩
  obtain ⟨u, hu⟩ : ∃ u, b % F = u := ⟨_, rfl⟩
  obtain ⟨v, hv⟩ : ∃ v, b / F = v := ⟨_, rfl⟩
  rw [hx, hy, hu, hv] at hV HDS
  rw [hx, hy] at HPA
  rw [hu, hv] at HPB
  rw [hx] at p0 p1
  rw [hy] at p2 p3
  rw [hu] at q0 q1
  rw [hv] at q2 q3
  have HVV := Lib.hid hV
  clear hx hy hu hv hV ha hb
  have hda := fun h => dir_any (d := u - x) (q := v - y) (by omega) (by omega) (by omega) (by omega) h
  have hw1 : IntKind.i64.wrap (u - x) = u - x := IntWalk.i64_in _ (by omega)
  have hw2 : IntKind.i64.wrap (v - y) = v - y := IntWalk.i64_in _ (by omega)
  have hc1 : 0 ≤ cheb (u - x) (v - y) ∧ cheb (u - x) (v - y) ≤ 8 := by unfold cheb; omega
  obtain ⟨d, hd⟩ : ∃ d, u - x = d := ⟨_, rfl⟩
  obtain ⟨q, hq⟩ : ∃ q, v - y = q := ⟨_, rfl⟩
  rw [hd, hq] at hda hc1 HVV HDS
  obtain ⟨D, hD⟩ : ∃ D, cheb d q = D := ⟨_, rfl⟩
  rw [hD] at hda hc1 HVV HDS
  rw [hd] at hw1
  rw [hq] at hw2
  have d0 : -7 ≤ d ∧ d ≤ 7 := by omega
  have e0 : -7 ≤ q ∧ q ≤ 7 := by omega
  have HDA := Lib.hid hda
  have HWD := Lib.hid (And.intro hd hq)
  clear hda hD
  obtain ⟨D0, D1⟩ := hc1
  by_cases hz : D = 0
  · have HE : Hid (V = .tuple #[.int .i64 0, .int .i64 0, .int .i64 9]) := Lib.hid (by rw [← HVV.out]; simp [hz])
    go_enter Tryd.func95, Tryd.ntmps95
    go_wp2_with fail
    refine (HDS.out _).mono ?_
    rintro e w1 ⟨rfl, hb⟩
    go_wp2
    go_ret3
    exact ⟨by rw [HE.out]; rfl, after1 hb⟩
  · have hzb : (D == 0) = false := beq_eq_false_iff_ne.2 hz
    have hpos : 0 < D := by omega
    have hm := (HDA.out hz).1
    have hq2 := (HDA.out hz).2
    have HZ : Hid (decide (D = 0) = false) := Lib.hid (by simp [hz])
    rw [HZ.out] at HVV
    clear HDA HZ hz
    have H3 : (((d.tmod D != 0) = true) ∧ Hid (V = .tuple #[.int .i64 0, .int .i64 0, .int .i64 9])) ∨ (((d.tmod D != 0) = false) ∧ ((q.tmod D != 0) = true) ∧ Hid (V = .tuple #[.int .i64 0, .int .i64 0, .int .i64 9])) ∨
        (((d.tmod D != 0) = false) ∧ ((q.tmod D != 0) = false) ∧ (Hid (V = .tuple #[.int .i64 (sg d), .int .i64 (sg q), .int .i64 0])) ∧ IntKind.i64.wrap (d.tdiv D) = sg d ∧ IntKind.i64.wrap (q.tdiv D) = sg q) := by
      cases hln : lineD d q
      · have HE : Hid (V = .tuple #[.int .i64 0, .int .i64 0, .int .i64 9]) := Lib.hid (by rw [← HVV.out, hln]; simp)
        rw [hln] at hm
        cases hA : (d.tmod D != 0)
        · rw [hA] at hm
          exact .inr (.inl ⟨rfl, by simpa using hm, HE⟩)
        · exact .inl ⟨rfl, HE⟩
      · have HE : Hid (V = .tuple #[.int .i64 (sg d), .int .i64 (sg q), .int .i64 0]) := Lib.hid (by rw [← HVV.out, hln]; simp)
        rw [hln] at hm
        obtain ⟨k1, k2⟩ := hq2 hln
        have s0 : -1 ≤ sg d ∧ sg d ≤ 1 := sg_bd d
        have s1 : -1 ≤ sg q ∧ sg q ≤ 1 := sg_bd q
        cases hA : (d.tmod D != 0)
        · rw [hA] at hm
          exact .inr (.inr ⟨rfl, by simpa using hm, HE, by rw [k1]; exact IntWalk.i64_in _ (by omega), by rw [k2]; exact IntWalk.i64_in _ (by omega)⟩)
        · rw [hA] at hm; simp at hm
    clear hm hq2 HVV
    go_enter Tryd.func95, Tryd.ntmps95
    go_wp2_with fail
    refine (HDS.out _).mono ?_
    rintro e w1 ⟨rfl, hb⟩
    have s1 := hb.size
    simp at s1
    have c0 := hb.cell (p := ⟨w.heap.size, 0, none⟩) (by simp)
    have c1 := hb.cell (p := ⟨w.heap.size, 1, none⟩) (by simp)
    simp [go_sem] at c0 c1
    have hB1 := after1 hb
    clear hb
    go_wp2_with fail
    refine (HPA.out _).mono ?_
    rintro e w2 ⟨rfl, hb⟩
    have d0 := (hb.cell (p := ⟨w.heap.size, 0, none⟩) (by simp; omega)).trans c0
    have d1 := (hb.cell (p := ⟨w.heap.size, 1, none⟩) (by simp; omega)).trans c1
    have hB2 := chain hB1 hb
    clear hb c0 c1
    go_wp2_with fail
    refine (HPB.out _).mono ?_
    rintro e w3 ⟨rfl, hb⟩
    have hB3 := chain hB2 hb
    clear hb d0 d1
    rcases H3 with ⟨t1, HE⟩ | ⟨t1, t2, HE⟩ | ⟨t1, t2, HE, v1, v2⟩
    · go_wp2
      go_ret3
      exact ⟨by rw [HE.out]; rfl, hB3⟩
    · go_wp2
      go_ret3
      exact ⟨by rw [HE.out]; rfl, hB3⟩
    · go_wp2
      go_quiet (fail)
      go_wp2
      go_ret3
      exact ⟨by rw [HE.out]; rfl, drawn hB3 _⟩

end Go.Proofs.YtjnbjegopddhgaaDoor

/- Plain mathematics of lines: which squares a ray has, the squares between two squares, rays that stop at occupied squares. -/
namespace Go.Proofs.YtjnbjegopddhgaaDoor

/-! ### rays that stop -/
def stopL (L : List Nat) (X : Nat) : List Nat := L.takeWhile (fun i => !X.testBit i) ++ (L.dropWhile (fun i => !X.testBit i)).take 1
theorem stop_nil (X : Nat) : stopL [] X = [] := rfl
theorem stop_cons_yes {i X : Nat} {L : List Nat} (h : X.testBit i = true) : stopL (i :: L) X = [i] := by simp [stopL, h]
theorem stop_cons_no {i X : Nat} {L : List Nat} (h : X.testBit i = false) : stopL (i :: L) X = i :: stopL L X := by simp [stopL, h]
theorem stop_done {L : List Nat} {X : Nat} (h : ∀ i ∈ L, X.testBit i = false) : stopL L X = L := by
  induction L with
  | nil => rfl
  | cons a L ih => rw [stop_cons_no (h a (by simp)), ih (fun i hi => h i (by simp [hi]))]
theorem stop_hit {l1 l2 : List Nat} {i X : Nat} (h : ∀ j ∈ l1, X.testBit j = false) (hi : X.testBit i = true) : stopL (l1 ++ i :: l2) X = l1 ++ [i] := by
  induction l1 with
  | nil => exact stop_cons_yes hi
  | cons a L ih => rw [List.cons_append, stop_cons_no (h a (by simp)), ih (fun j hj => h j (by simp [hj])), List.cons_append]
theorem stop_pre {l : List Nat} {L : List Nat} {i X : Nat} (hp : l ++ [i] <+: L) (h : ∀ j ∈ l, X.testBit j = false) (hi : X.testBit i = true) : stopL L X = l ++ [i] := by
  obtain ⟨t, rfl⟩ := hp
  rw [List.append_assoc]
  exact stop_hit h hi
theorem mem_stop {L : List Nat} {X n : Nat} : n ∈ stopL L X ↔ ∃ k, ∃ h : k < L.length, L[k] = n ∧ ∀ j (hj : j < k), X.testBit (L[j]'(by omega)) = false := by
  induction L with
  | nil => simp [stop_nil]
  | cons a L ih =>
    cases ha : X.testBit a
    · rw [stop_cons_no ha, List.mem_cons, ih]
      constructor
      · rintro (rfl | ⟨k, hk, e, h⟩)
        · exact ⟨0, by simp, rfl, fun j hj => by omega⟩
        · refine ⟨k + 1, by simpa using hk, by simpa using e, fun j hj => ?_⟩
          match j, hj with
          | 0, _ => simpa using ha
          | j + 1, hj => simpa using h j (by omega)
      · rintro ⟨k, hk, e, h⟩
        match k, hk, e, h with
        | 0, _, e, _ => exact .inl (by simpa using e.symm)
        | k + 1, hk, e, h => exact .inr ⟨k, by simpa using hk, by simpa using e, fun j hj => by simpa using h (j + 1) (by omega)⟩
    · rw [stop_cons_yes ha]
      constructor
      · intro h
        exact ⟨0, by simp, by simpa using (List.mem_singleton.1 h).symm, fun j hj => by omega⟩
      · rintro ⟨k, hk, e, h⟩
        match k, hk, e, h with
        | 0, _, e, _ => simpa using e.symm
        | k + 1, hk, e, h => have := h 0 (by omega); simp at this; rw [ha] at this; cases this

/-! ### the squares of a ray by their index -/
theorem rayL_get {F R x y f r : Int} {k : Nat} (hk : k < (rayL F R x y f r).length) : (rayL F R x y f r)[k] = rayNum F x y f r k ∧ rayP F R x y f r k = true ∧ k < 8 := by
  have key : ∀ (n : Nat) (P : Nat → Bool) (j : Nat) (h : j < ((List.range n).takeWhile P).length), ((List.range n).takeWhile P)[j] = j ∧ P j = true ∧ j < n := by
    intro n P j h
    have hp := List.takeWhile_prefix (l := List.range n) P
    have hl := hp.length_le
    have e : ((List.range n).takeWhile P)[j] = j := by rw [hp.getElem h]; simp
    refine ⟨e, ?_, by simp at hl; omega⟩
    have := tw_mem P (List.range n) (List.getElem_mem h)
    rwa [e] at this
  unfold rayL at hk ⊢
  have hk' := hk
  rw [List.length_map] at hk'
  obtain ⟨e, hp, h8⟩ := key 8 _ k hk'
  refine ⟨?_, hp, h8⟩
  rw [List.getElem_map, e]
theorem rayL_has {F R x y f r : Int} {k : Nat} (hk : k < 8) (h : ∀ j, j < k + 1 → rayP F R x y f r j = true) : ∃ hl : k < (rayL F R x y f r).length, (rayL F R x y f r)[k] = rayNum F x y f r k := by
  have hp := rayL_pre (m := k + 1) (by omega) h
  have hl : k < (rayL F R x y f r).length := by have := hp.length_le; simp at this; omega
  exact ⟨hl, (rayL_get hl).1⟩
theorem rayP_iff {F R x y f r : Int} {j : Nat} : rayP F R x y f r j = true ↔ onb F R (x + ((j : Int) + 1) * f) (y + ((j : Int) + 1) * r) := by unfold rayP; exact onB_iff
/-- a square of a ray is reached by so many steps. -/
theorem ray_place {F R x y f r : Int} {j : Nat} (hv : vsz F R) (h : rayP F R x y f r j = true) : ((rayNum F x y f r j : Nat) : Int) % F = x + ((j : Int) + 1) * f ∧ ((rayNum F x y f r j : Nat) : Int) / F = y + ((j : Int) + 1) * r ∧ vat F R (rayNum F x y f r j : Nat) := by
  obtain ⟨o0, o1, o2, o3⟩ := rayP_iff.1 h
  obtain ⟨n0, n1, n2, n3, n4⟩ := number_bd hv o0 o1 o2 o3
  have e : ((rayNum F x y f r j : Nat) : Int) = (x + ((j : Int) + 1) * f) + (y + ((j : Int) + 1) * r) * F := by unfold rayNum; omega
  rw [e]
  exact ⟨n3, n4, hv, by omega, n2⟩
theorem place_inj {F R a b : Int} (ha : vat F R a) (_hb : vat F R b) (h1 : a % F = b % F) (h2 : a / F = b / F) : a = b := by
  have e1 := place_eq (a := a) ha.1
  have e2 := place_eq (a := b) ha.1
  rw [← e1, ← e2, h1, h2]

theorem sg_cases (n : Int) : (n < 0 ∧ sg n = -1) ∨ (n = 0 ∧ sg n = 0) ∨ (0 < n ∧ sg n = 1) := by
  unfold sg
  by_cases h : n < 0
  · left; exact ⟨h, by rw [if_pos h]⟩
  · by_cases h2 : 0 < n
    · right; right; exact ⟨h2, by rw [if_neg h, if_pos h2]⟩
    · right; left; exact ⟨by omega, by rw [if_neg h, if_neg h2]⟩
/-- differences on a line are so many steps in its direction. -/
theorem line_steps {d q : Int} (h : lineD d q = true) : cheb d q * sg d = d ∧ cheb d q * sg q = q := by
  unfold lineD at h
  simp at h
  rcases sg_cases d with ⟨h1, e1⟩ | ⟨h1, e1⟩ | ⟨h1, e1⟩ <;> rcases sg_cases q with ⟨h2, e2⟩ | ⟨h2, e2⟩ | ⟨h2, e2⟩ <;> rw [e1, e2] <;> unfold cheb <;> omega
theorem steps_line {d q m f r : Int} (hm : 0 < m) (f0 : -1 ≤ f) (f1 : f ≤ 1) (r0 : -1 ≤ r) (r1 : r ≤ 1) (hd : d = m * f) (hq : q = m * r) : lineD d q = true ∧ sg d = f ∧ sg q = r ∧ (f ≠ 0 ∨ r ≠ 0 → cheb d q = m) := by
  have hf : f = -1 ∨ f = 0 ∨ f = 1 := by omega
  have hr : r = -1 ∨ r = 0 ∨ r = 1 := by omega
  rcases hf with rfl | rfl | rfl <;> rcases hr with rfl | rfl | rfl <;> simp at hd hq <;> subst hd <;> subst hq <;> refine ⟨?_, ?_, ?_, ?_⟩ <;> (first | (unfold lineD; simp; done) | (unfold lineD; simp; omega) | (unfold cheb; omega) | (unfold sg; (try split) <;> (try split) <;> omega))

/-- a step on the way between two squares of the board is on the board. -/
theorem on_way {F R x y u v m f r : Int} (_hm : 0 < m) (f0 : -1 ≤ f) (f1 : f ≤ 1) (r0 : -1 ≤ r) (r1 : r ≤ 1) (hx : 0 ≤ x ∧ x < F) (hy : 0 ≤ y ∧ y < R) (hu : 0 ≤ u ∧ u < F) (hv : 0 ≤ v ∧ v < R) (e1 : u = x + m * f) (e2 : v = y + m * r) (j : Int) (j0 : 0 ≤ j) (j1 : j ≤ m) :
    onb F R (x + j * f) (y + j * r) := by
  have hf : f = -1 ∨ f = 0 ∨ f = 1 := by omega
  have hr : r = -1 ∨ r = 0 ∨ r = 1 := by omega
  unfold onb
  rcases hf with rfl | rfl | rfl <;> rcases hr with rfl | rfl | rfl <;> simp at e1 e2 ⊢ <;> omega

/-- two squares on a line: the second one is on the ray, the squares between are those before it. -/
theorem line_ray {F R a b : Int} (ha : vat F R a) (hb : vat F R b) (hl : lineB F a b = true) :
    ∃ m : Nat, m < 8 ∧ ((m : Int) + 1 = cheb (b % F - a % F) (b / F - a / F)) ∧ (∀ j, j < m + 1 → rayP F R (a % F) (a / F) (sg (b % F - a % F)) (sg (b / F - a / F)) j = true) ∧
      ((rayNum F (a % F) (a / F) (sg (b % F - a % F)) (sg (b / F - a / F)) m : Nat) : Int) = b ∧ betL F R a b = (List.range m).map (rayNum F (a % F) (a / F) (sg (b % F - a % F)) (sg (b / F - a / F))) := by
  obtain ⟨p0, p1, p2, p3⟩ := place_bd ha.1 ha.2.1 ha.2.2
  obtain ⟨q0, q1, q2, q3⟩ := place_bd hb.1 hb.2.1 hb.2.2
  have f2 := ha.1.2.1
  have r2 := ha.1.2.2.2
  have hab : a ≠ b := by
    intro e
    unfold lineB at hl
    rw [e] at hl
    simp at hl
  have hdir := dir_ne ha hb hab
  have hlD : lineD (b % F - a % F) (b / F - a / F) = true := by
    unfold lineB at hl
    simp only [Bool.and_eq_true] at hl
    exact hl.2
  obtain ⟨e1, e2⟩ := line_steps hlD
  have s0 := sg_bd (b % F - a % F)
  have s1 := sg_bd (b / F - a / F)
  have hc : 0 < cheb (b % F - a % F) (b / F - a / F) ∧ cheb (b % F - a % F) (b / F - a / F) ≤ 7 := by
    have : ¬ (b % F - a % F = 0 ∧ b / F - a / F = 0) := fun h => hab (place_inj ha hb (by omega) (by omega))
    unfold cheb; omega
  have hon := fun j j0 j1 => on_way (F := F) (R := R) (x := a % F) (y := a / F) (u := b % F) (v := b / F) hc.1 s0.1 s0.2 s1.1 s1.2 ⟨p0, p1⟩ ⟨p2, p3⟩ ⟨q0, q1⟩ ⟨q2, q3⟩ (by omega) (by omega) j j0 j1
  have hbet : betL F R a b = befL (rayL F R (a % F) (a / F) (sg (b % F - a % F)) (sg (b / F - a / F))) b := rfl
  generalize sg (b % F - a % F) = f at *
  generalize sg (b / F - a / F) = r at *
  have hP : ∀ j, j < ((cheb (b % F - a % F) (b / F - a / F)).toNat - 1) + 1 → rayP F R (a % F) (a / F) f r j = true := fun j hj => rayP_iff.2 (hon ((j : Int) + 1) (by omega) (by omega))
  have hNb : ((rayNum F (a % F) (a / F) f r ((cheb (b % F - a % F) (b / F - a / F)).toNat - 1) : Nat) : Int) = b := by
    obtain ⟨g1, g2, g3⟩ := ray_place ha.1 (hP ((cheb (b % F - a % F) (b / F - a / F)).toNat - 1) (by omega))
    have em : ((((cheb (b % F - a % F) (b / F - a / F)).toNat - 1 : Nat) : Int) + 1) = cheb (b % F - a % F) (b / F - a / F) := by omega
    rw [em] at g1 g2
    exact place_inj g3 hb (by omega) (by omega)
  refine ⟨(cheb (b % F - a % F) (b / F - a / F)).toNat - 1, by omega, by omega, hP, hNb, ?_⟩
  generalize (cheb (b % F - a % F) (b / F - a / F)).toNat - 1 = m at *
  have hm8 : m < 8 := by
    apply Nat.lt_of_not_le
    intro h8
    have hk := step_le (k := ((7 : Nat) : Int) + 1) (x := a % F) (f := f) (F := F) f2 p0 p1
    have hk2 := step_le (k := ((7 : Nat) : Int) + 1) (x := a / F) (f := r) (F := R) r2 p2 p3
    have o := rayP_iff.1 (hP 7 (by omega))
    by_cases hf : f = 0
    · have hr : r ≠ 0 := fun e => hdir ⟨hf, e⟩
      have := hk2 o.2.2.1 o.2.2.2 hr
      omega
    · have := hk o.1 o.2.1 hf
      omega
  obtain ⟨hl, hg⟩ := rayL_has hm8 hP
  have hlt : ∀ j (hj : j < m), (((rayL F R (a % F) (a / F) f r)[j]'(by omega) : Nat) : Int) ≠ b := by
    intro j hj he
    rw [(rayL_get (by omega)).1] at he
    obtain ⟨g1, g2, _⟩ := ray_place ha.1 (hP j (by omega))
    obtain ⟨k1, k2, _⟩ := ray_place ha.1 (hP m (by omega))
    rw [he] at g1 g2
    rw [hNb] at k1 k2
    have e3 : ((m : Int) + 1) * f = ((j : Int) + 1) * f := by omega
    have e4 : ((m : Int) + 1) * r = ((j : Int) + 1) * r := by omega
    apply hdir
    constructor
    · by_cases h : f = 0
      · exact h
      · have := Int.eq_of_mul_eq_mul_right h e3
        omega
    · by_cases h : r = 0
      · exact h
      · have := Int.eq_of_mul_eq_mul_right h e4
        omega
  rw [hbet, bef_hit hl hlt (by rw [hg]; exact hNb)]
  have hp := rayL_pre (F := F) (R := R) (x := a % F) (y := a / F) (f := f) (r := r) (m := m) (by omega) (fun j hj => hP j (by omega))
  have := List.prefix_iff_eq_take.1 hp
  rw [List.length_map, List.length_range] at this
  exact this.symm

theorem freeB_iff {l : List Nat} {X : Nat} : freeB (l.map fun i : Nat => (i : Int)) X = true ↔ ∀ i ∈ l, X.testBit i = false := by
  unfold freeB
  rw [List.all_eq_true]
  constructor
  · intro h i hi
    have := h (i : Int) (List.mem_map.2 ⟨i, hi, rfl⟩)
    simpa using this
  · intro h n hn
    obtain ⟨i, hi, rfl⟩ := List.mem_map.1 hn
    simpa using h i hi

/-- which squares a ray reaches that stops at occupied ones. -/
theorem slide_mem {F R a b f r : Int} {n X : Nat} (hn : (n : Int) = b) (ha : vat F R a) (hb : vat F R b) (f0 : -1 ≤ f) (f1 : f ≤ 1) (r0 : -1 ≤ r) (r1 : r ≤ 1) (hfr : ¬ (f = 0 ∧ r = 0)) :
    n ∈ stopL (rayL F R (a % F) (a / F) f r) X ↔ (lineB F a b = true ∧ sg (b % F - a % F) = f ∧ sg (b / F - a / F) = r ∧ freeB ((betL F R a b).map fun i : Nat => (i : Int)) X = true) := by
  rw [mem_stop]
  constructor
  · rintro ⟨k, hk, e, hfree⟩
    obtain ⟨g1, g2, g3⟩ := rayL_get hk
    rw [g1] at e
    obtain ⟨h1, h2, h3⟩ := ray_place ha.1 g2
    rw [e, hn] at h1 h2
    obtain ⟨l1, l2, l3, l4⟩ := steps_line (d := b % F - a % F) (q := b / F - a / F) (m := (k : Int) + 1) (by omega) f0 f1 r0 r1 (by omega) (by omega)
    have hc := l4 (by by_cases h : f = 0; exact .inr (fun h2 => hfr ⟨h, h2⟩); exact .inl h)
    have hab : a ≠ b := by
      rintro rfl
      apply hfr
      rw [← l2, ← l3]
      simp [sg]
    have hline : lineB F a b = true := by
      unfold lineB
      unfold lineD at l1
      rw [l1]
      simp [hab]
    obtain ⟨m, m8, hm, hP, hNb, hbet⟩ := line_ray ha hb hline
    refine ⟨hline, l2, l3, ?_⟩
    rw [freeB_iff, hbet, l2, l3]
    have hmk : m = k := by omega
    subst hmk
    intro i hi
    obtain ⟨j, hj, rfl⟩ := List.mem_map.1 hi
    have hj' : j < m := by simpa using hj
    have := hfree j hj'
    rwa [(rayL_get (by omega)).1] at this
  · rintro ⟨hline, l2, l3, hfree⟩
    obtain ⟨m, m8, hm, hP, hNb, hbet⟩ := line_ray ha hb hline
    rw [l2, l3] at hP hNb hbet
    obtain ⟨hl, hg⟩ := rayL_has m8 hP
    refine ⟨m, hl, by rw [hg]; omega, fun j hj => ?_⟩
    rw [freeB_iff, hbet] at hfree
    rw [(rayL_get (by omega)).1]
    exact hfree _ (List.mem_map.2 ⟨j, by simpa using hj, rfl⟩)

/-- the first square of a ray. -/
theorem leap_mem {F R a b f r : Int} {n : Nat} (hn : (n : Int) = b) (ha : vat F R a) (hb : vat F R b) :
    n ∈ (rayL F R (a % F) (a / F) f r).take 1 ↔ (b % F - a % F = f ∧ b / F - a / F = r) := by
  constructor
  · intro h
    obtain ⟨k, hk, e⟩ := List.mem_iff_getElem.1 h
    have hk1 : k = 0 := by rw [List.length_take] at hk; omega
    subst hk1
    rw [List.getElem_take, (rayL_get (by rw [List.length_take] at hk; omega)).1] at e
    obtain ⟨h1, h2, h3⟩ := ray_place ha.1 (rayL_get (F := F) (R := R) (x := a % F) (y := a / F) (f := f) (r := r) (k := 0) (by rw [List.length_take] at hk; omega)).2.1
    rw [e, hn] at h1 h2
    simp at h1 h2
    omega
  · rintro ⟨h1, h2⟩
    obtain ⟨q0, q1, q2, q3⟩ := place_bd hb.1 hb.2.1 hb.2.2
    have hP : ∀ j, j < 0 + 1 → rayP F R (a % F) (a / F) f r j = true := fun j hj => by
      have : j = 0 := by omega
      subst this
      refine rayP_iff.2 ?_
      simp
      unfold onb
      omega
    obtain ⟨hl, hg⟩ := rayL_has (by omega) hP
    have h0 := hP 0 (by omega)
    obtain ⟨k1, k2, k3⟩ := ray_place ha.1 h0
    simp at k1 k2
    have e : ((rayNum F (a % F) (a / F) f r 0 : Nat) : Int) = b := place_inj k3 hb (by omega) (by omega)
    have e' : n = rayNum F (a % F) (a / F) f r 0 := by omega
    rw [e', ← hg]
    rw [List.mem_iff_getElem]
    exact ⟨0, by rw [List.length_take]; omega, by rw [List.getElem_take]⟩

def slideL (F R a : Int) (ds : List (Int × Int)) (X : Nat) : List Nat := ds.flatMap fun d => stopL (rayL F R (a % F) (a / F) d.1 d.2) X
theorem slide_snoc (F R a : Int) (ds : List (Int × Int)) (d : Int × Int) (X : Nat) : slideL F R a (ds ++ [d]) X = slideL F R a ds X ++ stopL (rayL F R (a % F) (a / F) d.1 d.2) X := by simp [slideL]
theorem stop_sub {L : List Nat} {X n : Nat} (h : n ∈ stopL L X) : n ∈ L := by
  obtain ⟨k, hk, e, _⟩ := mem_stop.1 h
  rw [← e]; exact List.getElem_mem hk
theorem slide_lt {F R a : Int} (hv : vsz F R) {ds : List (Int × Int)} {X n : Nat} (h : n ∈ slideL F R a ds X) : (n : Int) < F * R := by
  unfold slideL at h
  obtain ⟨d, _, hd⟩ := List.mem_flatMap.1 h
  exact rayL_lt hv n (stop_sub hd)

end Go.Proofs.YtjnbjegopddhgaaDoor
