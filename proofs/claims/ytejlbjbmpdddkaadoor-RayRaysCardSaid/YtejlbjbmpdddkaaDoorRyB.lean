/- Lines and leaps: the document's ray. -/
import Derived.Test.YtejlbjbmpdddkaaDoorRyA
namespace Go.Proofs.YtejlbjbmpdddkaaDoor
open Go.RowKit

theorem mul_bd {k f : Int} (h0 : 0 ≤ k) (h1 : k ≤ 9) (f0 : -8 ≤ f) (f1 : f ≤ 8) : -72 ≤ k * f ∧ k * f ≤ 72 := by
  have : k = 0 ∨ k = 1 ∨ k = 2 ∨ k = 3 ∨ k = 4 ∨ k = 5 ∨ k = 6 ∨ k = 7 ∨ k = 8 ∨ k = 9 := by omega
  rcases this with rfl | rfl | rfl | rfl | rfl | rfl | rfl | rfl | rfl | rfl <;> omega

theorem rayP_no {F R x y f r : Int} {k : Nat} (h : rayP F R x y f r k = false) : ¬ onb F R (x + ((k : Int) + 1) * f) (y + ((k : Int) + 1) * r) := fun ho => by
  have := onB_iff.2 ho
  unfold rayP at h
  rw [h] at this
  cases this
theorem refRay_none (F R a f r : Int) (h : ¬ vat F R a ∨ (vat F R a ∧ f = 0 ∧ r = 0)) (w : World) :
    Calls Tryd.prog 8 #[.agg #[.int .i64 F, .int .i64 R], .int .i64 a, .int .i64 f, .int .i64 r] w fun e w' => e = .returned (.slice none 0 0) ∧ Below w.heap.size w w' := by
  rcases h with h | ⟨h, rfl, rfl⟩
  · go_enter Tryd.func8, Tryd.ntmps8
    go_wp2_with fail
    refine (refValid_no _ _ _ h _).mono ?_
    rintro e w1 ⟨rfl, hb⟩
    go_wp2
    go_ret
    exact ⟨rfl, after1 hb⟩
  · go_enter Tryd.func8, Tryd.ntmps8
    go_wp2_with fail
    refine (refValid_yes _ _ _ h _).mono ?_
    rintro e w1 ⟨rfl, hb⟩
    go_wp2
    go_ret
    exact ⟨rfl, after1 hb⟩

set_option maxRecDepth 100000 in
set_option maxHeartbeats 2000000 in
theorem refRay_any (F R a f r : Int) (ha : vat F R a) (hd : ¬ (f = 0 ∧ r = 0)) (f0 : -8 ≤ f) (f1 : f ≤ 8) (r0 : -8 ≤ r) (r1 : r ≤ 8) (w : World) :
    Calls Tryd.prog 8 #[.agg #[.int .i64 F, .int .i64 R], .int .i64 a, .int .i64 f, .int .i64 r] w fun e w' => ∃ v, e = .returned v ∧ w'.ownsRow w.heap.size 3 1 v (rayL F R (a % F) (a / F) f r).length (vnats (rayL F R (a % F) (a / F) f r)) ∧ Below w.heap.size w w' := by
  obtain ⟨i0, hi, hz0, hz1, hz2⟩ := info_parts ints3
  obtain ⟨p0, p1, p2, p3⟩ := place_bd ha.1 ha.2.1 ha.2.2
  have hv := ha.1
  have g2 := ha.1.2.1
  have g3 := ha.1.2.2.2
  have hg : ((f == 0) = false) ∨ ((f == 0) = true ∧ (r == 0) = false) := by
    by_cases h : f = 0
    · exact .inr ⟨by simp [h], beq_eq_false_iff_ne.2 (fun e => hd ⟨h, e⟩)⟩
    · exact .inl (beq_eq_false_iff_ne.2 h)
  have HG := Lib.hid hg
  obtain ⟨x, hx⟩ : ∃ x, a % F = x := ⟨_, rfl⟩
  obtain ⟨y, hy⟩ : ∃ y, a / F = y := ⟨_, rfl⟩
  rw [hx] at p0 p1 ⊢
  rw [hy] at p2 p3 ⊢
  have hpl := refPlace_any F R a ha
  rw [hx, hy] at hpl
  have HPL := Lib.hid hpl
  have HVL := Lib.hid (refValid_yes F R a ha)
  clear hpl hx hy hg hd ha
  rcases HG.out with h1 | ⟨h1, h2⟩
  all_goals
    go_enter Tryd.func8, Tryd.ntmps8
    go_wp2_with fail
    refine (HVL.out _).mono ?_
    rintro e w1 ⟨rfl, hb⟩
    have s1 := hb.size
    simp at s1
    have hc0 := hb.cell (p := ⟨w.heap.size, 0, none⟩) (by simp)
    have hc1 := hb.cell (p := ⟨w.heap.size, 1, none⟩) (by simp)
    simp [go_sem] at hc0 hc1
    have hB1 := after1 hb
    clear hb
    go_wp2_with fail
    refine (HPL.out _).mono ?_
    rintro e w2 ⟨rfl, hb⟩
    have hd0 := (hb.cell (p := ⟨w.heap.size, 0, none⟩) (by simp; omega)).trans hc0
    have hd1 := (hb.cell (p := ⟨w.heap.size, 1, none⟩) (by simp; omega)).trans hc1
    have s2 := hb.size
    have hB2 := chain hB1 hb
    clear hb hB1 hc0 hc1
    have k0 : (w2.alloc (.cells #[.int .i64 x, .int .i64 y] 57)).cell? ⟨w.heap.size, 0, none⟩ = some (.int .i64 F) := alive _ hd0
    have k1 : (w2.alloc (.cells #[.int .i64 x, .int .i64 y] 57)).cell? ⟨w.heap.size, 1, none⟩ = some (.int .i64 R) := alive _ hd1
    have k2 : (w2.alloc (.cells #[.int .i64 x, .int .i64 y] 57)).cell? ⟨w2.heap.size, 0, none⟩ = some (.int .i64 x) := by simp [go_sem]
    have k3 : (w2.alloc (.cells #[.int .i64 x, .int .i64 y] 57)).cell? ⟨w2.heap.size, 1, none⟩ = some (.int .i64 y) := by simp [go_sem]
    have hB3 : Below w.heap.size w (w2.alloc (.cells #[.int .i64 x, .int .i64 y] 57)) := hB2.alloc hB2.size _
    go_wp2_with fail
    go_loopw [10, 11, 12] (fun v i _ wr => ∃ k : Nat, k ≤ 8 ∧ i = .int .i64 ((k : Int) + 1) ∧ Hid (∀ j, j < k → rayP F R x y f r j = true) ∧ wr.ownsRow (w2.heap.size + 1) 3 1 v ((List.range k).map (rayNum F x y f r)).length (vnats ((List.range k).map (rayNum F x y f r))) ∧ Below (w2.heap.size + 1) (w2.alloc (.cells #[.int .i64 x, .int .i64 y] 57)) wr) (fun _ i _ _ => (9 - intOf i).toNat)
    case atStart => exact ⟨0, by omega, rfl, Lib.hid (fun j hj => by omega), World.ownsRow_nil _ _ _ _, Below.refl _ _⟩
    case round =>
      obtain ⟨k, hk, rfl, HF, hown, hB⟩ := hrel
      have s3 := hB.size
      simp at s3
      have c0 := (hB.cell (p := ⟨w.heap.size, 0, none⟩) (by simp; omega)).trans k0
      have c1 := (hB.cell (p := ⟨w.heap.size, 1, none⟩) (by simp; omega)).trans k1
      have c2 := (hB.cell (p := ⟨w2.heap.size, 0, none⟩) (by simp)).trans k2
      have c3 := (hB.cell (p := ⟨w2.heap.size, 1, none⟩) (by simp)).trans k3
      clear k0 k1 k2 k3
      by_cases hlt : k < 8
      · obtain ⟨a0, a1⟩ := mul_bd (k := (k : Int) + 1) (f := f) (by omega) (by omega) f0 f1
        obtain ⟨b0, b1⟩ := mul_bd (k := (k : Int) + 1) (f := r) (by omega) (by omega) r0 r1
        have hlen : ((List.range k).map (rayNum F x y f r)).length ≤ 8 := by simp; omega
        cases hp : rayP F R x y f r k
        · have HE := Lib.hid (rayL_stop hlt HF.out hp)
          have HN := Lib.hid (rayP_no hp)
          clear hp
          go_wp2_with fail
          refine (refNumber_no F R _ _ HN.out _).mono ?_
          rintro e w3 ⟨rfl, hb3⟩
          go_wp2
          go_ret
          refine ⟨_, rfl, ?_, ?_⟩
          · rw [HE.out]; exact World.ownsRow.mono (own_below hown hb3) (by omega)
          · exact chain (hB3.trans (hB.mono (by omega))) hb3
        · have HN := Lib.hid (onB_iff.1 hp)
          have HF2 : Hid (∀ j, j < k + 1 → rayP F R x y f r j = true) := Lib.hid (fun j hj => by
            by_cases e : j = k
            · rw [e]; exact hp
            · exact HF.out j (by omega))
          have HV : Hid (vnats ((List.range (k + 1)).map (rayNum F x y f r)) = vnats ((List.range k).map (rayNum F x y f r)) ++ [.int .i64 ((y + ((k : Int) + 1) * r) * F + (x + ((k : Int) + 1) * f))]) := Lib.hid (by
            rw [List.range_succ, List.map_append, List.map_cons, List.map_nil, vnats_snoc]
            congr 2
            unfold rayNum
            obtain ⟨n0, n1, n2, n3⟩ := onB_iff.1 hp
            obtain ⟨m0, m1, m2, m3, m4⟩ := number_bd hv n0 n1 n2 n3
            exact vint (Int.toNat_of_nonneg (by omega)))
          have HL : Hid (((List.range (k + 1)).map (rayNum F x y f r)).length = ((List.range k).map (rayNum F x y f r)).length + 1) := Lib.hid (by simp)
          have hnum := (fun W => refNumber_yes F R _ _ hv (onB_iff.1 hp) W : ∀ W, _)
          have hnn : 0 ≤ (y + ((k : Int) + 1) * r) * F + (x + ((k : Int) + 1) * f) := by
            obtain ⟨n0, n1, n2, n3⟩ := onB_iff.1 hp
            obtain ⟨m0, m1, m2, m3, m4⟩ := number_bd hv n0 n1 n2 n3
            omega
          have HNUM := Lib.hid hnum
          clear hp hnum HN
          generalize (List.map (rayNum F x y f r) (List.range k)) = q at *
          go_wp2_with fail
          refine (HNUM.out _).mono ?_
          rintro e w3 ⟨rfl, hb3⟩
          clear HNUM
          generalize (y + ((k : Int) + 1) * r) * F + (x + ((k : Int) + 1) * f) = num at *
          have hown3 := own_below hown hb3
          have s4 := hb3.size
          have hB4 := hB.trans (hb3.mono s3)
          clear hown hb3 hB
          go_wp2_with (at_builtin; (refine wpList_append_own _ rfl _ _ 24 rfl (w2.heap.size + 1) 3 i0 (.int .i64 0) 1 8 Tryd.underlying24 hi hz0 hz1 hz2 rfl (by decide) _ _ _ rfl (hown3.alloc _) ⟨w3.heap.size, 0, none⟩ 1 1 [.int .i64 num] rfl rfl ?c1 ?c2 ?c3 ?c4 ?c5 ?_))
          case c1 =>
            intro j u hj
            match j, hj with
            | 0, hj => simp at hj; subst hj; simp [Addr.add]
          case c2 => intro u hu; simp at hu; subst hu; rfl
          case c3 => unfold maxLen; omega
          case c4 => omega
          case c5 => simp; omega
          intro v' w4 hown' hgrow _
          go_wp2
          go_roundw
          case rel =>
            refine ⟨k + 1, by omega, by go_num, HF2, ?_, ?_⟩
            · rw [HV.out, HL.out]; exact hown'
            · exact (hB4.alloc (by omega) _).grown hgrow (by simp; omega) (fun r e => (World.ownsRow.lt hown3 r e).1)
          case measure => simp [intOf] <;> omega
      · obtain rfl : k = 8 := by omega
        have HE := Lib.hid (rayL_all HF.out)
        go_wp2
        go_ret
        refine ⟨_, rfl, ?_, ?_⟩
        · rw [HE.out]; exact World.ownsRow.mono hown (by omega)
        · exact hB3.trans (hB.mono (by omega))

end Go.Proofs.YtejlbjbmpdddkaaDoor
