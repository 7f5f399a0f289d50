/- The direction from a square to another one, by the program. -/
import Derived.Test.YtejlbjbmpdddkaaDoorRpB
import Derived.Test.YtejlbjbmpdddkaaDoorRyE
namespace Go.Proofs.YtejlbjbmpdddkaaDoor
open Go.RowKit

def cheb (d q : Int) : Int := max (max (-d) d) (max (-q) q)
theorem dist_cheb (F a b : Int) : dist F a b = cheb (b % F - a % F) (b / F - a / F) := by unfold dist cheb; omega
def lineD (d q : Int) : Bool := (d == 0) || (q == 0) || (d == q) || (d + q == 0)
theorem dir_dec : ∀ i : Fin 15, ∀ j : Fin 15, cheb ((i.1 : Int) - 7) ((j.1 : Int) - 7) ≠ 0 →
    (((Int.tmod ((i.1 : Int) - 7) (cheb ((i.1 : Int) - 7) ((j.1 : Int) - 7)) != 0) || (Int.tmod ((j.1 : Int) - 7) (cheb ((i.1 : Int) - 7) ((j.1 : Int) - 7)) != 0)) = !lineD ((i.1 : Int) - 7) ((j.1 : Int) - 7)) ∧
    (lineD ((i.1 : Int) - 7) ((j.1 : Int) - 7) = true → Int.tdiv ((i.1 : Int) - 7) (cheb ((i.1 : Int) - 7) ((j.1 : Int) - 7)) = sg ((i.1 : Int) - 7) ∧ Int.tdiv ((j.1 : Int) - 7) (cheb ((i.1 : Int) - 7) ((j.1 : Int) - 7)) = sg ((j.1 : Int) - 7)) := by decide +kernel
theorem dir_any {d q : Int} (d0 : -7 ≤ d) (d1 : d ≤ 7) (q0 : -7 ≤ q) (q1 : q ≤ 7) (h : cheb d q ≠ 0) :
    (((Int.tmod d (cheb d q) != 0) || (Int.tmod q (cheb d q) != 0)) = !lineD d q) ∧ (lineD d q = true → Int.tdiv d (cheb d q) = sg d ∧ Int.tdiv q (cheb d q) = sg q) := by
  have := dir_dec ⟨(d + 7).toNat, by omega⟩ ⟨(q + 7).toNat, by omega⟩
  simp only [show (((d + 7).toNat : Nat) : Int) - 7 = d by omega, show (((q + 7).toNat : Nat) : Int) - 7 = q by omega] at this
  exact this h

set_option maxRecDepth 100000 in
set_option maxHeartbeats 2000000 in
theorem pDir_no (F R a b : Int) (h : ¬ (vat F R a ∧ vat F R b)) (w : World) :
    Calls Tryd.prog 12 #[.agg #[.int .i64 F, .int .i64 R], .int .i64 a, .int .i64 b] w fun e w' => e = .returned (.tuple #[.int .i64 0, .int .i64 0, .int .i64 2]) ∧ Below w.heap.size w w' := by
  go_enter Tryd.func12, Tryd.ntmps12
  go_wp2_with fail
  refine (distance_no F R a b h _).mono ?_
  rintro e w1 ⟨rfl, hb⟩
  go_wp2
  go_ret3
  exact ⟨rfl, after1 hb⟩

set_option maxRecDepth 100000 in
set_option maxHeartbeats 2000000 in
theorem pDir_yes (F R a b : Int) (ha : vat F R a) (hb : vat F R b) (w : World) :
    Calls Tryd.prog 12 #[.agg #[.int .i64 F, .int .i64 R], .int .i64 a, .int .i64 b] w fun e w' => e = .returned (if lineB F a b = true then .tuple #[.int .i64 (sg (b % F - a % F)), .int .i64 (sg (b / F - a / F)), .int .i64 0] else .tuple #[.int .i64 0, .int .i64 0, .int .i64 9]) ∧ Below w.heap.size w w' := by
  obtain ⟨p0, p1, p2, p3⟩ := place_bd ha.1 ha.2.1 ha.2.2
  obtain ⟨q0, q1, q2, q3⟩ := place_bd hb.1 hb.2.1 hb.2.2
  have f2 := ha.1.2.1
  have r2 := ha.1.2.2.2
  have HPA := Lib.hid (placeX_yes F R a ha)
  have HPB := Lib.hid (placeX_yes F R b hb)
  have hds := distance_yes F R a b ha hb
  rw [dist_cheb] at hds
  have HDS := Lib.hid hds
  have hab : (a == b) = decide (cheb (b % F - a % F) (b / F - a / F) = 0) := by
    by_cases e : a = b
    · subst e; simp [cheb]
    · have : cheb (b % F - a % F) (b / F - a / F) ≠ 0 := fun h => e (by
        unfold cheb at h
        have e1 : b % F = a % F := by omega
        have e2 : b / F = a / F := by omega
        have h1 := place_eq (a := a) ha.1
        have h2 := place_eq (a := b) ha.1
        rw [← h1, ← h2, e1, e2])
      simp [e, this]
  obtain ⟨V, hV⟩ : ∃ V, (if lineB F a b = true then Value.tuple #[.int .i64 (sg (b % F - a % F)), .int .i64 (sg (b / F - a / F)), .int .i64 0] else .tuple #[.int .i64 0, .int .i64 0, .int .i64 9]) = V := ⟨_, rfl⟩
  rw [hV]
  have hl : lineB F a b = (!(decide (cheb (b % F - a % F) (b / F - a / F) = 0)) && lineD (b % F - a % F) (b / F - a / F)) := by unfold lineB lineD; rw [hab]
  rw [hl] at hV
  clear hl hab hds
  obtain ⟨x, hx⟩ : ∃ x, a % F = x := ⟨_, rfl⟩
  obtain ⟨y, hy⟩ : ∃ y, a / F = y := ⟨_, rfl⟩
  obtain ⟨u, hu⟩ : ∃ u, b % F = u := ⟨_, rfl⟩
  obtain ⟨v, hv⟩ : ∃ v, b / F = v := ⟨_, rfl⟩
  rw [hx, hy, hu, hv] at hV HDS
  rw [hx, hy] at HPA
  rw [hu, hv] at HPB
  rw [hx] at p0 p1
  rw [hy] at p2 p3
  rw [hu] at q0 q1
  rw [hv] at q2 q3
  have HVV := Lib.hid hV
  clear hx hy hu hv hV ha hb
  have hda := fun h => dir_any (d := u - x) (q := v - y) (by omega) (by omega) (by omega) (by omega) h
  have hw1 : IntKind.i64.wrap (u - x) = u - x := IntWalk.i64_in _ (by omega)
  have hw2 : IntKind.i64.wrap (v - y) = v - y := IntWalk.i64_in _ (by omega)
  have hc1 : 0 ≤ cheb (u - x) (v - y) ∧ cheb (u - x) (v - y) ≤ 8 := by unfold cheb; omega
  obtain ⟨d, hd⟩ : ∃ d, u - x = d := ⟨_, rfl⟩
  obtain ⟨q, hq⟩ : ∃ q, v - y = q := ⟨_, rfl⟩
  rw [hd, hq] at hda hc1 HVV HDS
  obtain ⟨D, hD⟩ : ∃ D, cheb d q = D := ⟨_, rfl⟩
  rw [hD] at hda hc1 HVV HDS
  rw [hd] at hw1
  rw [hq] at hw2
  have d0 : -7 ≤ d ∧ d ≤ 7 := by omega
  have e0 : -7 ≤ q ∧ q ≤ 7 := by omega
  have HDA := Lib.hid hda
  have HWD := Lib.hid (And.intro hd hq)
  clear hda hD
  obtain ⟨D0, D1⟩ := hc1
  by_cases hz : D = 0
  · have HE : Hid (V = .tuple #[.int .i64 0, .int .i64 0, .int .i64 9]) := Lib.hid (by rw [← HVV.out]; simp [hz])
    go_enter Tryd.func12, Tryd.ntmps12
    go_wp2_with fail
    refine (HDS.out _).mono ?_
    rintro e w1 ⟨rfl, hb⟩
    go_wp2
    go_ret3
    exact ⟨by rw [HE.out]; rfl, after1 hb⟩
  · have hzb : (D == 0) = false := beq_eq_false_iff_ne.2 hz
    have hpos : 0 < D := by omega
    have hm := (HDA.out hz).1
    have hq2 := (HDA.out hz).2
    have HZ : Hid (decide (D = 0) = false) := Lib.hid (by simp [hz])
    rw [HZ.out] at HVV
    clear HDA HZ hz
    have H3 : (((d.tmod D != 0) = true) ∧ Hid (V = .tuple #[.int .i64 0, .int .i64 0, .int .i64 9])) ∨ (((d.tmod D != 0) = false) ∧ ((q.tmod D != 0) = true) ∧ Hid (V = .tuple #[.int .i64 0, .int .i64 0, .int .i64 9])) ∨
        (((d.tmod D != 0) = false) ∧ ((q.tmod D != 0) = false) ∧ (Hid (V = .tuple #[.int .i64 (sg d), .int .i64 (sg q), .int .i64 0])) ∧ IntKind.i64.wrap (d.tdiv D) = sg d ∧ IntKind.i64.wrap (q.tdiv D) = sg q) := by
      cases hln : lineD d q
      · have HE : Hid (V = .tuple #[.int .i64 0, .int .i64 0, .int .i64 9]) := Lib.hid (by rw [← HVV.out, hln]; simp)
        rw [hln] at hm
        cases hA : (d.tmod D != 0)
        · rw [hA] at hm
          exact .inr (.inl ⟨rfl, by simpa using hm, HE⟩)
        · exact .inl ⟨rfl, HE⟩
      · have HE : Hid (V = .tuple #[.int .i64 (sg d), .int .i64 (sg q), .int .i64 0]) := Lib.hid (by rw [← HVV.out, hln]; simp)
        rw [hln] at hm
        obtain ⟨k1, k2⟩ := hq2 hln
        have s0 : -1 ≤ sg d ∧ sg d ≤ 1 := sg_bd d
        have s1 : -1 ≤ sg q ∧ sg q ≤ 1 := sg_bd q
        cases hA : (d.tmod D != 0)
        · rw [hA] at hm
          exact .inr (.inr ⟨rfl, by simpa using hm, HE, by rw [k1]; exact IntWalk.i64_in _ (by omega), by rw [k2]; exact IntWalk.i64_in _ (by omega)⟩)
        · rw [hA] at hm; simp at hm
    clear hm hq2 HVV
    go_enter Tryd.func12, Tryd.ntmps12
    go_wp2_with fail
    refine (HDS.out _).mono ?_
    rintro e w1 ⟨rfl, hb⟩
    have s1 := hb.size
    simp at s1
    have c0 := hb.cell (p := ⟨w.heap.size, 0, none⟩) (by simp)
    have c1 := hb.cell (p := ⟨w.heap.size, 1, none⟩) (by simp)
    simp [go_sem] at c0 c1
    have hB1 := after1 hb
    clear hb
    go_wp2_with fail
    refine (HPA.out _).mono ?_
    rintro e w2 ⟨rfl, hb⟩
    have d0 := (hb.cell (p := ⟨w.heap.size, 0, none⟩) (by simp; omega)).trans c0
    have d1 := (hb.cell (p := ⟨w.heap.size, 1, none⟩) (by simp; omega)).trans c1
    have hB2 := chain hB1 hb
    clear hb c0 c1
    go_wp2_with fail
    refine (HPB.out _).mono ?_
    rintro e w3 ⟨rfl, hb⟩
    have hB3 := chain hB2 hb
    clear hb d0 d1
    rcases H3 with ⟨t1, HE⟩ | ⟨t1, t2, HE⟩ | ⟨t1, t2, HE, v1, v2⟩
    · go_wp2
      go_ret3
      exact ⟨by rw [HE.out]; rfl, hB3⟩
    · go_wp2
      go_ret3
      exact ⟨by rw [HE.out]; rfl, hB3⟩
    · go_wp2
      go_quiet (fail)
      go_wp2
      go_ret3
      exact ⟨by rw [HE.out]; rfl, drawn hB3 _⟩

end Go.Proofs.YtejlbjbmpdddkaaDoor
