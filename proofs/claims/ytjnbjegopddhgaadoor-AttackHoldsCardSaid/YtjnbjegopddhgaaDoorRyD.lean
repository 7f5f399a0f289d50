/- Lines and leaps: whether two squares are on a line, and its direction, by the document's own function. -/
import Derived.Test.YtjnbjegopddhgaaDoorRyB

namespace Go.Proofs.YtjnbjegopddhgaaDoor
open Go.RowKit

def lineB (F a b : Int) : Bool := !(a == b) && ((b % F - a % F == 0) || (b / F - a / F == 0) || (b % F - a % F == b / F - a / F) || (b % F - a % F + (b / F - a / F) == 0))
/-- what asking for a line returns. -/
def lineV (F a b : Int) : Value := if lineB F a b = true then .tuple #[.int .i64 (sg (b % F - a % F)), .int .i64 (sg (b / F - a / F)), .bool true] else .tuple #[.int .i64 0, .int .i64 0, .bool false]

set_option maxRecDepth 100000 in
set_option maxHeartbeats 8000000 in
theorem line_any (F R a b : Int) (ha : vat F R a) (hb : vat F R b) (w : World) :
    Calls Tryd.prog 73 #[.agg #[.int .i64 F, .int .i64 R], .int .i64 a, .int .i64 b] w fun e w' => e = .returned (lineV F a b) ∧ Below w.heap.size w w' := by
  obtain ⟨p0, p1, p2, p3⟩ := place_bd ha.1 ha.2.1 ha.2.2
  obtain ⟨q0, q1, q2, q3⟩ := place_bd hb.1 hb.2.1 hb.2.2
  have f2 := ha.1.2.1
  have r2 := ha.1.2.2.2
  obtain ⟨V, hV⟩ : ∃ V, lineV F a b = V := ⟨_, rfl⟩
  rw [hV]
  have HV0 := Lib.hid hV
  clear hV
  go_enter Tryd.func73, Tryd.ntmps73
  go_upto_region 1 with fail
  go_cut [9, 10] (fun s7 s8 wx => ∃ g h : Nat, s7 = .pointer (some ⟨g, 0, none⟩) ∧ s8 = .pointer (some ⟨h, 0, none⟩) ∧ wx.cell? ⟨g, 0, none⟩ = some (.int .i64 (a % F)) ∧ wx.cell? ⟨g, 1, none⟩ = some (.int .i64 (a / F)) ∧ wx.cell? ⟨h, 0, none⟩ = some (.int .i64 (b % F)) ∧ wx.cell? ⟨h, 1, none⟩ = some (.int .i64 (b / F)) ∧ Below w.heap.size w wx)
  case first =>
    go_region_held3 (fun w' => w'.cell? ⟨w.heap.size, 0, none⟩ = some (.int .i64 F) ∧ w'.cell? ⟨w.heap.size, 1, none⟩ = some (.int .i64 R)) (((try dsimp only); refine ⟨?_, ?_⟩ <;> ((try simp only [World.cell?_drew]); (repeat (first | assumption | (rw [World.cell?_alloc_new]; rfl) | (exact (by assumption : _ ∧ _).1) | (exact (by assumption : _ ∧ _).2) | (refine alive _ ?_))))))
     (first
      | (go_at_call_of 76 (Value.int .i64 a); refine (refPlace_ex _ _ _ ha _).mono ?_; rintro e w1 ⟨rfl, rfl⟩)
      | (go_at_call_of 76 (Value.int .i64 b); refine (refPlace_ex _ _ _ hb _).mono ?_; rintro e w2 ⟨rfl, rfl⟩))
    all_goals
      go_wp2_with fail
      go_meet
      refine ⟨_, _, rfl, rfl, ?_, ?_, ?_, ?_, ?_⟩
      · simp [go_sem]
      · simp [go_sem]
      · simp [go_sem]
      · simp [go_sem]
      · go_grown
  case rest =>
    obtain ⟨g, h, rfl, rfl, g0, g1, h0, h1, hB⟩ := hcut
    have hV := HV0.out
    unfold lineV lineB at hV
    obtain ⟨x, hx⟩ : ∃ x, a % F = x := ⟨_, rfl⟩
    obtain ⟨y, hy⟩ : ∃ y, a / F = y := ⟨_, rfl⟩
    obtain ⟨u, hu⟩ : ∃ u, b % F = u := ⟨_, rfl⟩
    obtain ⟨v, hv⟩ : ∃ v, b / F = v := ⟨_, rfl⟩
    rw [hx] at g0 p0 p1
    rw [hy] at g1 p2 p3
    rw [hu] at h0 q0 q1
    rw [hv] at h1 q2 q3
    rw [hx, hy, hu, hv] at hV
    have HV := Lib.hid hV
    clear hx hy hu hv hV ha hb
    have hw1 : IntKind.i64.wrap (u - x) = u - x := IntWalk.i64_in _ (by omega)
    have hw2 : IntKind.i64.wrap (v - y) = v - y := IntWalk.i64_in _ (by omega)
    go_wp2
    go_quiet (fail)
    clear hw1 hw2
    have hB2 := drawn hB
    obtain ⟨d, hd⟩ : ∃ d, u - x = d := ⟨_, rfl⟩
    obtain ⟨q, hq⟩ : ∃ q, v - y = q := ⟨_, rfl⟩
    rw [hd, hq] at HV ⊢
    have d0 : -8 ≤ d ∧ d ≤ 8 := by omega
    have e0 : -8 ≤ q ∧ q ≤ 8 := by omega
    obtain ⟨d1, d2⟩ := d0
    obtain ⟨e1, e2⟩ := e0
    clear hd hq
    by_cases hab : a = b
    · have t1 : (a == b) = true := by simp [hab]
      have E : Hid (V = .tuple #[.int .i64 0, .int .i64 0, .bool false]) := Lib.hid (by rw [← HV.out, t1]; simp)
      clear hab
      go_wp2
      go_ret3
      exact ⟨by rw [E.out]; rfl, hB2 _⟩
    · have t1 : (a == b) = false := beq_eq_false_iff_ne.2 hab
      have E : Hid (((d == 0) || (q == 0) || (d == q) || (d + q == 0)) = true → V = .tuple #[.int .i64 (sg d), .int .i64 (sg q), .bool true]) := Lib.hid (fun h => by rw [← HV.out, t1, h]; simp)
      have E0 : Hid (((d == 0) || (q == 0) || (d == q) || (d + q == 0)) = false → V = .tuple #[.int .i64 0, .int .i64 0, .bool false]) := Lib.hid (fun h => by rw [← HV.out, t1, h]; simp)
      clear hab HV HV0
      by_cases z1 : d = 0
      · have n1 : (d != 0) = false := by simp [z1]
        have E2 := Lib.hid (E.out (by simp [z1]))
        clear E
        clear z1 E0
        go_wp2_with fail
        refine (sign_any _ _).mono ?_
        rintro e w1 ⟨rfl, rfl⟩
        go_wp2_with fail
        refine (sign_any _ _).mono ?_
        rintro e w2 ⟨rfl, rfl⟩
        go_wp2
        go_ret3
        exact ⟨by rw [E2.out]; rfl, hB2 _⟩
      · have n1 : (d != 0) = true := bne_iff_ne.2 z1
        by_cases z2 : q = 0
        · have n2 : (q != 0) = false := by simp [z2]
          have E2 := Lib.hid (E.out (by simp [z2]))
          clear E
          clear z1 z2 E0
          go_wp2_with fail
          refine (sign_any _ _).mono ?_
          rintro e w1 ⟨rfl, rfl⟩
          go_wp2_with fail
          refine (sign_any _ _).mono ?_
          rintro e w2 ⟨rfl, rfl⟩
          go_wp2
          go_ret3
          exact ⟨by rw [E2.out]; rfl, hB2 _⟩
        · have n2 : (q != 0) = true := bne_iff_ne.2 z2
          by_cases z3 : d = q
          · have n3 : (d != q) = false := by simp [z3]
            have E2 := Lib.hid (E.out (by simp [z3]))
            clear E
            clear z1 z2 z3 E0
            go_wp2_with fail
            refine (sign_any _ _).mono ?_
            rintro e w1 ⟨rfl, rfl⟩
            go_wp2_with fail
            refine (sign_any _ _).mono ?_
            rintro e w2 ⟨rfl, rfl⟩
            go_wp2
            go_ret3
            exact ⟨by rw [E2.out]; rfl, hB2 _⟩
          · have n3 : (d != q) = true := bne_iff_ne.2 z3
            by_cases z4 : d + q = 0
            · have n4 : (d + q != 0) = false := by simp [z4]
              have E2 := Lib.hid (E.out (by simp [z4]))
              clear E
              clear z1 z2 z3 z4 E0
              go_wp2_with fail
              refine (sign_any _ _).mono ?_
              rintro e w1 ⟨rfl, rfl⟩
              go_wp2_with fail
              refine (sign_any _ _).mono ?_
              rintro e w2 ⟨rfl, rfl⟩
              go_wp2
              go_ret3
              exact ⟨by rw [E2.out]; rfl, hB2 _⟩
            · have n4 : (d + q != 0) = true := bne_iff_ne.2 z4
              have E3 := Lib.hid (E0.out (by simp [z1, z2, z3, z4]))
              clear E E0 z1 z2 z3 z4
              go_wp2
              go_ret3
              exact ⟨by rw [E3.out]; rfl, hB2 _⟩

end Go.Proofs.YtjnbjegopddhgaaDoor

/- Lines and leaps: the squares between two squares, by the document's own function. -/
namespace Go.Proofs.YtjnbjegopddhgaaDoor
open Go.RowKit

theorem sg_bd (n : Int) : -1 ≤ sg n ∧ sg n ≤ 1 := by unfold sg; split <;> (try split) <;> omega
theorem sg_zero {n : Int} (h : sg n = 0) : n = 0 := by unfold sg at h; split at h <;> (try split at h) <;> omega
theorem dir_ne {F R a b : Int} (ha : vat F R a) (hb : vat F R b) (h : a ≠ b) : ¬ (sg (b % F - a % F) = 0 ∧ sg (b / F - a / F) = 0) := by
  rintro ⟨h1, h2⟩
  have e1 := sg_zero h1
  have e2 := sg_zero h2
  apply h
  have p1 := place_eq (a := a) ha.1
  have p2 := place_eq (a := b) hb.1
  have : b % F = a % F := by omega
  have : b / F = a / F := by omega
  rw [← p1, ← p2, ‹b % F = a % F›, ‹b / F = a / F›]

/-- the squares before the square b in a list, or none if it isn't there. -/
def befL (l : List Nat) (b : Int) : List Nat := if b ∈ l.map (fun i : Nat => (i : Int)) then l.takeWhile (fun i => !((i : Int) == b)) else []
def betL (F R a b : Int) : List Nat := befL (rayL F R (a % F) (a / F) (sg (b % F - a % F)) (sg (b / F - a / F))) b
theorem bef_hit {l : List Nat} {b : Int} {k : Nat} (hk : k < l.length) (h : ∀ j (hj : j < k), ((l[j]'(by omega) : Nat) : Int) ≠ b) (he : ((l[k] : Nat) : Int) = b) : befL l b = l.take k := by
  unfold befL
  rw [if_pos (by rw [List.mem_map]; exact ⟨l[k], List.getElem_mem hk, he⟩)]
  have e : l = l.take k ++ l[k] :: l.drop (k + 1) := by rw [List.getElem_cons_drop, List.take_append_drop]
  conv => lhs; rw [e]
  rw [List.takeWhile_append_of_pos, List.takeWhile_cons, if_neg (by simp [he]), List.append_nil]
  intro x hx
  obtain ⟨j, hj, rfl⟩ := List.mem_iff_getElem.1 hx
  rw [List.length_take] at hj
  have := h j (by omega)
  rw [List.getElem_take]
  simpa using this
theorem bef_miss {l : List Nat} {b : Int} (h : ∀ j (hj : j < l.length), ((l[j] : Nat) : Int) ≠ b) : befL l b = [] := by
  unfold befL
  rw [if_neg]
  rw [List.mem_map]
  rintro ⟨x, hx, e⟩
  obtain ⟨j, hj, rfl⟩ := List.mem_iff_getElem.1 hx
  exact h j hj e
theorem rayL_len (F R x y f r : Int) : (rayL F R x y f r).length ≤ 8 := by
  unfold rayL
  rw [List.length_map]
  exact Nat.le_trans (List.takeWhile_prefix _).length_le (by simp)

/-- a slice that reads as these numbers is returned. -/
def ReadB (w : World) (l : List Nat) (e : Ending) (w' : World) : Prop := ∃ A c, e = .returned (.slice A l.length c) ∧ RdI w' w'.heap.size A (l.map fun i : Nat => (i : Int)) ∧ Below w.heap.size w w'

set_option maxRecDepth 100000 in
set_option maxHeartbeats 2000000 in
theorem between_any (F R a b : Int) (ha : vat F R a) (hb : vat F R b) (hl : lineB F a b = true) (w : World) :
    Calls Tryd.prog 52 #[.agg #[.int .i64 F, .int .i64 R], .int .i64 a, .int .i64 b] w (ReadB w (betL F R a b)) := by
  have hab : a ≠ b := by
    intro e
    unfold lineB at hl
    rw [e] at hl
    simp at hl
  have hdir := Lib.hid (dir_ne ha hb hab)
  have s0 := sg_bd (b % F - a % F)
  have s1 := sg_bd (b / F - a / F)
  have hlv : lineV F a b = .tuple #[.int .i64 (sg (b % F - a % F)), .int .i64 (sg (b / F - a / F)), .bool true] := by unfold lineV; rw [if_pos hl]
  have hcl := line_any F R a b ha hb
  rw [hlv] at hcl
  have HCL := Lib.hid hcl
  obtain ⟨L, hL⟩ : ∃ L, betL F R a b = L := ⟨_, rfl⟩
  rw [hL]
  unfold betL at hL
  have hcr := fun hd f0 f1 r0 r1 => refRay_any F R a (sg (b % F - a % F)) (sg (b / F - a / F)) ha hd f0 f1 r0 r1
  have hcr2 := hcr hdir.out (by omega) (by omega) (by omega) (by omega)
  have hq8 := rayL_len F R (a % F) (a / F) (sg (b % F - a % F)) (sg (b / F - a / F))
  have HCR := Lib.hid hcr2
  generalize sg (b % F - a % F) = d at *
  generalize sg (b / F - a / F) = q at *
  generalize hray : rayL F R (a % F) (a / F) d q = l at *
  have HLL := Lib.hid hL
  clear hL hcr hcr2 hcl hlv hl hab hray s0 s1
  go_enter Tryd.func52, Tryd.ntmps52
  go_wp2_with fail
  refine (HCL.out _).mono ?_
  rintro e w1 ⟨rfl, hb1⟩
  have z0 := hb1.size
  simp at z0
  have hc0 := hb1.cell (p := ⟨w.heap.size, 0, none⟩) (by simp)
  have hc1 := hb1.cell (p := ⟨w.heap.size, 1, none⟩) (by simp)
  simp [go_sem] at hc0 hc1
  have hB1 := after1 hb1
  go_wp2_with fail
  refine (HCR.out _).mono ?_
  rintro e w2 ⟨v, rfl, hown, hb2⟩
  obtain ⟨A, c, rfl, hlc, hA⟩ := RdI.own' hown
  have hB2 := chain hB1 hb2
  clear hown hb1 hb2 hc0 hc1
  have hll : ((l.map fun i : Nat => (i : Int)).length) = l.length := by simp
  go_wp2
  go_loop [11] (fun i => ∃ k : Nat, k ≤ l.length ∧ i = .int .i64 k ∧ Hid (∀ j (hj : j < k) (hk : k ≤ l.length), ((l[j]'(by omega) : Nat) : Int) ≠ b)) (fun i => l.length - (intOf i).toNat)
  case atStart => exact ⟨0, by omega, rfl, Lib.hid (fun j hj _ => by omega)⟩
  case round =>
    obtain ⟨k, hk, rfl, HF⟩ := hrel
    by_cases hlt : k < l.length
    · obtain ⟨ad, rfl, hbk, hcl⟩ := hA.at_ (k := k) (by simpa using hlt)
      have e : (l.map fun i : Nat => (i : Int))[k]?.getD 0 = ((l[k] : Nat) : Int) := by
        rw [List.getElem?_map, List.getElem?_eq_getElem hlt]; rfl
      rw [e] at hcl
      clear e
      by_cases hbq : ((l[k] : Nat) : Int) = b
      · have t1 : (((l[k] : Nat) : Int) == b) = true := by simp [hbq]
        have HE := Lib.hid (bef_hit hlt (fun j hj => HF.out j hj hk) hbq)
        have HP : Hid (ReadB w L (.returned (.slice (some ad) k c)) w2) := Lib.hid (by
          rw [← HLL.out, HE.out]
          have e2 : (l.take k).length = k := by rw [List.length_take]; omega
          refine ⟨some ad, c, by rw [e2], ?_, hB2⟩
          intro h0
          obtain ⟨ad', e3, h3, h4⟩ := hA (by simp; omega)
          refine ⟨ad', e3, h3, fun j u hu => h4 j u ?_⟩
          rw [List.getElem?_map, List.getElem?_take] at hu
          split at hu
          · rw [List.getElem?_map]; exact hu
          · simp at hu)
        clear hbq hA
        generalize hn : l[k] = n at *
        clear hn
        go_wp2
        go_ret
        exact HP.out
      · have t1 : (((l[k] : Nat) : Int) == b) = false := beq_eq_false_iff_ne.2 hbq
        have HF2 : Hid (∀ j (hj : j < k + 1) (hk : k + 1 ≤ l.length), ((l[j]'(by omega) : Nat) : Int) ≠ b) := Lib.hid (fun j hj hk' => by
          by_cases e : j = k
          · subst e; exact hbq
          · exact HF.out j (by omega) (by omega))
        clear hbq hA
        generalize hn : l[k] = n at *
        clear hn
        go_wp2
        go_round
        case rel => exact ⟨k + 1, by omega, by go_num, HF2⟩
        case measure => simp [intOf]; omega
    · have hkl : k = l.length := by omega
      subst hkl
      have HE := Lib.hid (bef_miss (fun j hj => HF.out j hj (Nat.le_refl _)))
      have HP : Hid (ReadB w L (.returned (.slice none 0 0)) w2) := Lib.hid (by
        rw [← HLL.out, HE.out]
        exact ⟨none, 0, rfl, fun h => by simp at h, hB2⟩)
      go_wp2
      go_ret
      exact HP.out

end Go.Proofs.YtjnbjegopddhgaaDoor
