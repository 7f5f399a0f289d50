/- Lines and leaps: the squares to which a pawn may step, by the document's own function. -/
import Derived.Test.YtejlbjbmpdddkaaDoorRyG
import Derived.Lib.QuietBelow
import Derived.Sort.AtCall
namespace Go.Proofs.YtejlbjbmpdddkaaDoor
open Go.RowKit Go.Sort

def numV (F R f r : Int) : Int := if onB F R f r = true then r * F + f else -1
theorem refNumber_v (F R f r : Int) (hv : vsz F R) (w : World) : Calls Tryd.prog 25 #[.agg #[.int .i64 F, .int .i64 R], .int .i64 f, .int .i64 r] w fun e w' => e = .returned (.int .i64 (numV F R f r)) ∧ Below w.heap.size w w' := by
  unfold numV
  by_cases h : onb F R f r
  · rw [if_pos (onB_iff.2 h)]; exact refNumber_yes F R f r hv h w
  · rw [if_neg (fun e => h (onB_iff.1 e))]; exact refNumber_no F R f r h w
def hasV (X : Nat) (n : Int) : Bool := if 0 ≤ n ∧ n < 64 then X.testBit n.toNat else false
theorem refHas_v (X : Nat) (n : Int) (hX : X < 18446744073709551616) (w : World) : Calls Tryd.prog 36 #[.int .u64 X, .int .i64 n] w fun e w' => e = .returned (.bool (hasV X n)) ∧ Below w.heap.size w w' := by
  unfold hasV
  by_cases h : 0 ≤ n ∧ n < 64
  · rw [if_pos h]; exact (refHas_in X n hX h.1 h.2 w).mono fun _ _ h => ⟨h.1, by rw [← h.2]; exact Below.refl _ _⟩
  · rw [if_neg h]; exact (refHas_out X n (by omega) w).mono fun _ _ h => ⟨h.1, by rw [← h.2]; exact Below.refl _ _⟩
def stepB (R y o1 o2 : Int) (bl : Bool) (X : Nat) (b : Int) : Bool := ((b == o1) && !(hasV X o1)) || ((b == o2) && decide (6 ≤ R) && (y == scd R bl) && !(hasV X o1) && !(hasV X o2))
def stepL (F R a : Int) (bl : Bool) (X : Nat) : List Nat := pickTo (fun b => stepB R (a / F) (numV F R (a % F) (a / F + fwd bl)) (numV F R (a % F) (a / F + 2 * fwd bl)) bl X (b : Int)) (F * R).toNat

set_option maxRecDepth 100000 in
set_option maxHeartbeats 16000000 in
theorem rSteps_any (F R a : Int) (bl : Bool) (ha : vat F R a) (X : Nat) (hX : X < 18446744073709551616) (w : World) :
    Calls Tryd.prog 23 #[.agg #[.int .i64 F, .int .i64 R], .bool bl, .int .i64 a, .int .u64 X] w fun e w' => ∃ v, e = .returned v ∧ w'.ownsRow w.heap.size 3 1 v (stepL F R a bl X).length (vnats (stepL F R a bl X)) ∧ Below w.heap.size w w' := by
  obtain ⟨i0, hi, hz0, hz1, hz2⟩ := info_parts ints3
  obtain ⟨m0, m1⟩ := vsz_mul ha.1
  obtain ⟨p0, p1, p2, p3⟩ := place_bd ha.1 ha.2.1 ha.2.2
  have f2 := ha.1.2.1
  have r1 := ha.1.2.2.1
  have r2 := ha.1.2.2.2
  have hpl := refPlace_any F R a ha
  have hfw : -1 ≤ fwd bl ∧ fwd bl ≤ 1 := by unfold fwd; split <;> omega
  obtain ⟨x, hx⟩ : ∃ x, a % F = x := ⟨_, rfl⟩
  obtain ⟨y, hy⟩ : ∃ y, a / F = y := ⟨_, rfl⟩
  unfold stepL
  rw [hx, hy]
  rw [hx, hy] at hpl
  rw [hx] at p0 p1
  rw [hy] at p2 p3
  have HPL := Lib.hid hpl
  have HFW := Lib.hid (forward_any bl)
  have HN1 := Lib.hid (refNumber_v F R x (y + fwd bl) ha.1)
  have HN2 := Lib.hid (refNumber_v F R x (y + 2 * fwd bl) ha.1)
  have HSC := Lib.hid (second_any F R bl ⟨r1, r2⟩)
  generalize fwd bl = up at *
  obtain ⟨f0, f1⟩ := hfw
  generalize numV F R x (y + up) = o1 at *
  generalize numV F R x (y + 2 * up) = o2 at *
  generalize hsc : scd R bl = sc at *
  have HO1 := Lib.hid (refHas_v X o1 hX)
  have HO2 := Lib.hid (refHas_v X o2 hX)
  obtain ⟨P, hP⟩ : ∃ P : Nat → Bool, (fun b : Nat => stepB R y o1 o2 bl X (b : Int)) = P := ⟨_, rfl⟩
  have HP := Lib.hid hP
  have HSCV := Lib.hid hsc
  rw [hP]
  clear hP hpl hx hy ha hsc
  go_enter Tryd.func23, Tryd.ntmps23
  go_wp2_with fail
  refine (HPL.out _).mono ?_
  rintro e w2 ⟨rfl, hb⟩
  have s2 := hb.size
  simp at s2
  have hd0 := hb.cell (p := ⟨w.heap.size, 0, none⟩) (by simp)
  have hd1 := hb.cell (p := ⟨w.heap.size, 1, none⟩) (by simp)
  simp [go_sem] at hd0 hd1
  have hB2 := after1 hb
  clear hb
  go_wp2_with fail
  refine (HFW.out _).mono ?_
  rintro e w3 ⟨rfl, rfl⟩
  have k0 : (w2.alloc (.cells #[.int .i64 x, .int .i64 y] 57)).cell? ⟨w.heap.size, 0, none⟩ = some (.int .i64 F) := alive _ hd0
  have k1 : (w2.alloc (.cells #[.int .i64 x, .int .i64 y] 57)).cell? ⟨w.heap.size, 1, none⟩ = some (.int .i64 R) := alive _ hd1
  have k2 : (w2.alloc (.cells #[.int .i64 x, .int .i64 y] 57)).cell? ⟨w2.heap.size, 0, none⟩ = some (.int .i64 x) := by simp [go_sem]
  have k3 : (w2.alloc (.cells #[.int .i64 x, .int .i64 y] 57)).cell? ⟨w2.heap.size, 1, none⟩ = some (.int .i64 y) := by simp [go_sem]
  have hB3 : Below w.heap.size w (w2.alloc (.cells #[.int .i64 x, .int .i64 y] 57)) := hB2.alloc hB2.size _
  have s3 : (w2.alloc (.cells #[.int .i64 x, .int .i64 y] 57)).heap.size = w2.heap.size + 1 := by simp
  have S3 := Lib.hid s3
  have q0 := cell_regrown k0
  have q1 := cell_regrown k1
  have q2 := cell_regrown k2
  have q3 := cell_regrown k3
  have hw1 : IntKind.i64.wrap (y + up) = y + up := IntWalk.i64_in _ (by omega)
  have hw2 : IntKind.i64.wrap (2 * up) = 2 * up := IntWalk.i64_in _ (by omega)
  have hw3 : IntKind.i64.wrap (y + 2 * up) = y + 2 * up := IntWalk.i64_in _ (by omega)
  clear s3 hd0 hd1
  go_wp2
  refine wp_region_quiet_below (by kernel_rfl) (by kernel_rfl) ?_
  repeat (go_big_quiet_step (first | (go_at_call_has 25 (Value.int .i64 (y + up)); exact Calls.regrown_of (HN1.out _)) | (go_at_call_has 25 (Value.int .i64 (y + 2 * up)); exact Calls.regrown_of (HN2.out _))))
  refine wpQuiet_nil ?_
  intro _ hw'
  obtain ⟨⟨dq, osq⟩, hw''⟩ := hw'
  subst hw''
  have hR0 := below_regrown (w2.alloc (.cells #[.int .i64 x, .int .i64 y] 57)) dq osq
  have n0 := q0 dq osq
  have n1 := q1 dq osq
  have n3 := q3 dq osq
  have hB4 := chain hB3 hR0
  have s4 := hR0.size
  rw [S3.out] at s4
  clear q0 q1 q2 q3 k0 k1 k2 k3 hB3 hR0 hw1 hw2 hw3
  generalize grow (redrawn (w2.alloc (.cells #[.int .i64 x, .int .i64 y] 57)) dq) osq = wA at *
  go_wp2
  go_loopg [13, 14] 64 (fun gn v i wr => ∃ b : Nat, gn = 64 - b ∧ (b : Int) ≤ F * R ∧ i = .int .i64 b ∧ wr.ownsRow (w2.heap.size + 1) 3 1 v (pickTo P b).length (vnats (pickTo P b)) ∧ Below (w2.heap.size + 1) wA wr)
  case atStart => exact ⟨0, by omega, by omega, rfl, World.ownsRow_nil _ _ _ _, Below.refl _ _⟩
  case round =>
    obtain ⟨b, hgk, hb, rfl, hown, hB⟩ := hrel
    have HGK := Lib.hid hgk
    clear hgk
    have hsz := hB.size
    have s1 : w2.heap.size + 1 ≤ wr.heap.size := by omega
    have c0 := (hB.cell (p := ⟨w.heap.size, 0, none⟩) (by simp; omega)).trans n0
    have c1 := (hB.cell (p := ⟨w.heap.size, 1, none⟩) (by simp; omega)).trans n1
    have c3 := (hB.cell (p := ⟨w2.heap.size, 1, none⟩) (by simp)).trans n3
    have kk0 := cell_regrown c0
    have kk1 := cell_regrown c1
    have kk3 := cell_regrown c3
    clear n0 n1 n3
    by_cases hlt : (b : Int) < F * R
    · have hle := pickTo_le P b
      have he : stepB R y o1 o2 bl X (b : Int) = P b := congrFun HP.out b
      unfold stepB at he
      rw [HSCV.out] at he
      generalize hasV X o1 = v1 at *
      generalize hasV X o2 = v2 at *
      obtain ⟨e1, he1⟩ : ∃ e1, ((b : Int) == o1) = e1 := ⟨_, rfl⟩
      obtain ⟨e2, he2⟩ : ∃ e2, ((b : Int) == o2) = e2 := ⟨_, rfl⟩
      obtain ⟨r6, hr6⟩ : ∃ r6, decide (6 ≤ R) = r6 := ⟨_, rfl⟩
      obtain ⟨ys, hys⟩ : ∃ ys, (y == sc) = ys := ⟨_, rfl⟩
      rw [he1, he2, hr6, hys] at he
      have HE := Lib.hid he
      clear he
      go_upto_region 7 with fail
      go_cut [84] (fun t wx => t = .bool (P b) ∧ Below wr.heap.size wr wx)
      case first =>
        cases e1
        · cases v1
          · cases e2
            · refine wp_region_quiet_below (by kernel_rfl) (by kernel_rfl) ?_
              repeat (go_big_quiet_step (first | (go_at_call_of 36 (Value.int .i64 o1); exact Calls.regrown_of (HO1.out _)) | (go_at_call_of 36 (Value.int .i64 o2); exact Calls.regrown_of (HO2.out _)) | (go_at_call 47; exact Calls.regrown_of (HSC.out _))))
              refine wpQuiet_nil ?_
              intro _ hw'
              obtain ⟨⟨dq, osq⟩, hw''⟩ := hw'
              subst hw''
              have hR := below_regrown wr dq osq
              go_wp2_with fail
              go_meet
              exact ⟨by rw [← HE.out]; rfl, hR⟩
            · cases r6
              · refine wp_region_quiet_below (by kernel_rfl) (by kernel_rfl) ?_
                repeat (go_big_quiet_step (first | (go_at_call_of 36 (Value.int .i64 o1); exact Calls.regrown_of (HO1.out _)) | (go_at_call_of 36 (Value.int .i64 o2); exact Calls.regrown_of (HO2.out _)) | (go_at_call 47; exact Calls.regrown_of (HSC.out _))))
                refine wpQuiet_nil ?_
                intro _ hw'
                obtain ⟨⟨dq, osq⟩, hw''⟩ := hw'
                subst hw''
                have hR := below_regrown wr dq osq
                go_wp2_with fail
                go_meet
                exact ⟨by rw [← HE.out]; rfl, hR⟩
              · cases ys
                · refine wp_region_quiet_below (by kernel_rfl) (by kernel_rfl) ?_
                  repeat (go_big_quiet_step (first | (go_at_call_of 36 (Value.int .i64 o1); exact Calls.regrown_of (HO1.out _)) | (go_at_call_of 36 (Value.int .i64 o2); exact Calls.regrown_of (HO2.out _)) | (go_at_call 47; exact Calls.regrown_of (HSC.out _))))
                  refine wpQuiet_nil ?_
                  intro _ hw'
                  obtain ⟨⟨dq, osq⟩, hw''⟩ := hw'
                  subst hw''
                  have hR := below_regrown wr dq osq
                  go_wp2_with fail
                  go_meet
                  exact ⟨by rw [← HE.out]; rfl, hR⟩
                · cases v2
                  · refine wp_region_quiet_below (by kernel_rfl) (by kernel_rfl) ?_
                    repeat (go_big_quiet_step (first | (go_at_call_of 36 (Value.int .i64 o1); exact Calls.regrown_of (HO1.out _)) | (go_at_call_of 36 (Value.int .i64 o2); exact Calls.regrown_of (HO2.out _)) | (go_at_call 47; exact Calls.regrown_of (HSC.out _))))
                    refine wpQuiet_nil ?_
                    intro _ hw'
                    obtain ⟨⟨dq, osq⟩, hw''⟩ := hw'
                    subst hw''
                    have hR := below_regrown wr dq osq
                    go_wp2_with fail
                    go_meet
                    exact ⟨by rw [← HE.out]; rfl, hR⟩
                  · refine wp_region_quiet_below (by kernel_rfl) (by kernel_rfl) ?_
                    repeat (go_big_quiet_step (first | (go_at_call_of 36 (Value.int .i64 o1); exact Calls.regrown_of (HO1.out _)) | (go_at_call_of 36 (Value.int .i64 o2); exact Calls.regrown_of (HO2.out _)) | (go_at_call 47; exact Calls.regrown_of (HSC.out _))))
                    refine wpQuiet_nil ?_
                    intro _ hw'
                    obtain ⟨⟨dq, osq⟩, hw''⟩ := hw'
                    subst hw''
                    have hR := below_regrown wr dq osq
                    go_wp2_with fail
                    go_meet
                    exact ⟨by rw [← HE.out]; rfl, hR⟩
          · cases e2
            · refine wp_region_quiet_below (by kernel_rfl) (by kernel_rfl) ?_
              repeat (go_big_quiet_step (first | (go_at_call_of 36 (Value.int .i64 o1); exact Calls.regrown_of (HO1.out _)) | (go_at_call_of 36 (Value.int .i64 o2); exact Calls.regrown_of (HO2.out _)) | (go_at_call 47; exact Calls.regrown_of (HSC.out _))))
              refine wpQuiet_nil ?_
              intro _ hw'
              obtain ⟨⟨dq, osq⟩, hw''⟩ := hw'
              subst hw''
              have hR := below_regrown wr dq osq
              go_wp2_with fail
              go_meet
              exact ⟨by rw [← HE.out]; rfl, hR⟩
            · cases r6
              · refine wp_region_quiet_below (by kernel_rfl) (by kernel_rfl) ?_
                repeat (go_big_quiet_step (first | (go_at_call_of 36 (Value.int .i64 o1); exact Calls.regrown_of (HO1.out _)) | (go_at_call_of 36 (Value.int .i64 o2); exact Calls.regrown_of (HO2.out _)) | (go_at_call 47; exact Calls.regrown_of (HSC.out _))))
                refine wpQuiet_nil ?_
                intro _ hw'
                obtain ⟨⟨dq, osq⟩, hw''⟩ := hw'
                subst hw''
                have hR := below_regrown wr dq osq
                go_wp2_with fail
                go_meet
                exact ⟨by rw [← HE.out]; rfl, hR⟩
              · cases ys
                · refine wp_region_quiet_below (by kernel_rfl) (by kernel_rfl) ?_
                  repeat (go_big_quiet_step (first | (go_at_call_of 36 (Value.int .i64 o1); exact Calls.regrown_of (HO1.out _)) | (go_at_call_of 36 (Value.int .i64 o2); exact Calls.regrown_of (HO2.out _)) | (go_at_call 47; exact Calls.regrown_of (HSC.out _))))
                  refine wpQuiet_nil ?_
                  intro _ hw'
                  obtain ⟨⟨dq, osq⟩, hw''⟩ := hw'
                  subst hw''
                  have hR := below_regrown wr dq osq
                  go_wp2_with fail
                  go_meet
                  exact ⟨by rw [← HE.out]; rfl, hR⟩
                · refine wp_region_quiet_below (by kernel_rfl) (by kernel_rfl) ?_
                  repeat (go_big_quiet_step (first | (go_at_call_of 36 (Value.int .i64 o1); exact Calls.regrown_of (HO1.out _)) | (go_at_call_of 36 (Value.int .i64 o2); exact Calls.regrown_of (HO2.out _)) | (go_at_call 47; exact Calls.regrown_of (HSC.out _))))
                  refine wpQuiet_nil ?_
                  intro _ hw'
                  obtain ⟨⟨dq, osq⟩, hw''⟩ := hw'
                  subst hw''
                  have hR := below_regrown wr dq osq
                  go_wp2_with fail
                  go_meet
                  exact ⟨by rw [← HE.out]; rfl, hR⟩
        · cases v1
          · refine wp_region_quiet_below (by kernel_rfl) (by kernel_rfl) ?_
            repeat (go_big_quiet_step (first | (go_at_call_of 36 (Value.int .i64 o1); exact Calls.regrown_of (HO1.out _)) | (go_at_call_of 36 (Value.int .i64 o2); exact Calls.regrown_of (HO2.out _)) | (go_at_call 47; exact Calls.regrown_of (HSC.out _))))
            refine wpQuiet_nil ?_
            intro _ hw'
            obtain ⟨⟨dq, osq⟩, hw''⟩ := hw'
            subst hw''
            have hR := below_regrown wr dq osq
            go_wp2_with fail
            go_meet
            exact ⟨by rw [← HE.out]; rfl, hR⟩
          · cases e2
            · refine wp_region_quiet_below (by kernel_rfl) (by kernel_rfl) ?_
              repeat (go_big_quiet_step (first | (go_at_call_of 36 (Value.int .i64 o1); exact Calls.regrown_of (HO1.out _)) | (go_at_call_of 36 (Value.int .i64 o2); exact Calls.regrown_of (HO2.out _)) | (go_at_call 47; exact Calls.regrown_of (HSC.out _))))
              refine wpQuiet_nil ?_
              intro _ hw'
              obtain ⟨⟨dq, osq⟩, hw''⟩ := hw'
              subst hw''
              have hR := below_regrown wr dq osq
              go_wp2_with fail
              go_meet
              exact ⟨by rw [← HE.out]; rfl, hR⟩
            · cases r6
              · refine wp_region_quiet_below (by kernel_rfl) (by kernel_rfl) ?_
                repeat (go_big_quiet_step (first | (go_at_call_of 36 (Value.int .i64 o1); exact Calls.regrown_of (HO1.out _)) | (go_at_call_of 36 (Value.int .i64 o2); exact Calls.regrown_of (HO2.out _)) | (go_at_call 47; exact Calls.regrown_of (HSC.out _))))
                refine wpQuiet_nil ?_
                intro _ hw'
                obtain ⟨⟨dq, osq⟩, hw''⟩ := hw'
                subst hw''
                have hR := below_regrown wr dq osq
                go_wp2_with fail
                go_meet
                exact ⟨by rw [← HE.out]; rfl, hR⟩
              · cases ys
                · refine wp_region_quiet_below (by kernel_rfl) (by kernel_rfl) ?_
                  repeat (go_big_quiet_step (first | (go_at_call_of 36 (Value.int .i64 o1); exact Calls.regrown_of (HO1.out _)) | (go_at_call_of 36 (Value.int .i64 o2); exact Calls.regrown_of (HO2.out _)) | (go_at_call 47; exact Calls.regrown_of (HSC.out _))))
                  refine wpQuiet_nil ?_
                  intro _ hw'
                  obtain ⟨⟨dq, osq⟩, hw''⟩ := hw'
                  subst hw''
                  have hR := below_regrown wr dq osq
                  go_wp2_with fail
                  go_meet
                  exact ⟨by rw [← HE.out]; rfl, hR⟩
                · refine wp_region_quiet_below (by kernel_rfl) (by kernel_rfl) ?_
                  repeat (go_big_quiet_step (first | (go_at_call_of 36 (Value.int .i64 o1); exact Calls.regrown_of (HO1.out _)) | (go_at_call_of 36 (Value.int .i64 o2); exact Calls.regrown_of (HO2.out _)) | (go_at_call 47; exact Calls.regrown_of (HSC.out _))))
                  refine wpQuiet_nil ?_
                  intro _ hw'
                  obtain ⟨⟨dq, osq⟩, hw''⟩ := hw'
                  subst hw''
                  have hR := below_regrown wr dq osq
                  go_wp2_with fail
                  go_meet
                  exact ⟨by rw [← HE.out]; rfl, hR⟩
      case rest =>
        obtain ⟨rfl, hR⟩ := hcut
        have hown2 := own_below hown hR
        have hB2 := hB.trans (hR.mono s1)
        have s2 := hR.size
        clear hown hB hR HE kk0 kk1 kk3 c0 c1 c3
        cases hbit : P b
        · have HS := Lib.hid (pickTo_no P b hbit)
          clear hbit
          go_wp2
          go_roundg (64 - (b + 1))
          case measure => have := HGK.out; omega
          case rel => exact ⟨b + 1, rfl, by omega, by go_num, by rw [HS.out]; exact hown2, hB2⟩
        · have HS := Lib.hid (pickTo_yes P b hbit)
          have HL : Hid ((pickTo P (b + 1)).length = (pickTo P b).length + 1) := Lib.hid (by rw [HS.out]; simp)
          clear hbit
          generalize pickTo P b = q at *
          go_wp2_with (at_builtin; (refine wpList_append_own _ rfl _ _ 24 rfl (w2.heap.size + 1) 3 i0 (.int .i64 0) 1 8 Tryd.underlying24 hi hz0 hz1 hz2 rfl (by decide) _ _ _ rfl (hown2.alloc _) ⟨wc.heap.size, 0, none⟩ 1 1 [.int .i64 (b : Int)] rfl rfl ?c1 ?c2 ?c3 ?c4 ?c5 ?_))
          case c1 =>
            intro j u hj
            match j, hj with
            | 0, hj => simp at hj; subst hj; simp [Addr.add]
          case c2 => intro u hu; simp at hu; subst hu; rfl
          case c3 => unfold maxLen; omega
          case c4 => omega
          case c5 => simp; omega
          intro v' w3 hown' hgrow _
          go_wp2
          go_roundg (64 - (b + 1))
          case measure => have := HGK.out; omega
          case rel =>
            refine ⟨b + 1, rfl, by omega, by go_num, ?_, ?_⟩
            · rw [HL.out, HS.out, vnats_snoc]; exact hown'
            · exact (hB2.alloc (by omega) _).grown hgrow (by simp; omega) (fun r e => (World.ownsRow.lt hown2 r e).1)
    · have hbe : b = (F * R).toNat := by omega
      have HE : Hid (pickTo P (F * R).toNat = pickTo P b) := Lib.hid (by rw [hbe])
      clear hbe
      go_wp2
      go_ret
      exact ⟨_, rfl, by rw [HE.out]; exact World.ownsRow.mono hown (by omega), hB4.trans (hB.mono (by omega))⟩

end Go.Proofs.YtejlbjbmpdddkaaDoor
