/- Positions, by the program: the square behind a pawn. -/
import Derived.Test.YtelkmdklpcfobaaGreatDoorPpC

namespace Go.Proofs.YtelkmdklpcfobaaGreatDoor
open Go.RowKit Go.Sort

theorem pas_true_in {F R : Int} {l : List Int} {n : Nat} (hv : vsz F R) (h6 : 6 ≤ R) (hl : (l.length : Int) = F * R) (h4 : vat F R (n : Int)) (hm : (n : Int) / F = 2) :
    ∃ n4 n2 : Nat, (n : Int) + F = (n4 : Int) ∧ (n : Int) - F = (n2 : Int) ∧ n4 < l.length ∧ n2 < l.length ∧ poPas F R l true (n : Int) 0 = (l[n4]?.getD 0 == 1 && (l[n]?.getD 0 == 0 && l[n2]?.getD 0 == 0)) := by
  have hpe := place_eq (a := (n : Int)) hv
  have hpb := place_bd hv h4.2.1 h4.2.2
  rw [hm] at hpe hpb
  have hvv := hv
  unfold vsz at hvv
  have b2 := number_bd (f := (n : Int) % F) (r := 1) hv hpb.1 hpb.2.1 (by omega) (by omega)
  have b4 := number_bd (f := (n : Int) % F) (r := 3) hv hpb.1 hpb.2.1 (by omega) (by omega)
  have x4 : (n : Int) + F = (3) * F + (n : Int) % F := by
    have : (3) * F = (2) * F + F := by rw [show (3 : Int) = (2) + 1 by omega, Int.add_mul, Int.one_mul]
    omega
  have x2 : (n : Int) - F = (1) * F + (n : Int) % F := by
    have : (1) * F = (2) * F - F := by rw [show (1 : Int) = (2) - 1 by omega, Int.sub_mul, Int.one_mul]
    omega
  refine ⟨((3) * F + (n : Int) % F).toNat, ((1) * F + (n : Int) % F).toNat, by omega, by omega, by omega, by omega, ?_⟩
  rw [poPas_in (by omega) h6 rfl h4]
  rw [show rkA R (!true) 2 = 1 from rfl, show rkA R (!true) 4 = 3 from rfl, show pcS (!true) = 1 from rfl, hm, Int.toNat_natCast]
  rw [show ((2 : Int) * (2) == (1) + (3)) = true from beq_iff_eq.2 (by omega), Bool.true_and]
  generalize (l[n]?.getD 0 == 0) = t1
  generalize (l[((1) * F + (n : Int) % F).toNat]?.getD 0 == 0) = t2
  generalize (l[((3) * F + (n : Int) % F).toNat]?.getD 0 == 1) = t3
  cases t1 <;> cases t2 <;> cases t3 <;> rfl
theorem pas_true_out {F R : Int} {l : List Int} {n : Nat} (_hv : vsz F R) (h6 : 6 ≤ R) (h4 : vat F R (n : Int)) (hm : ¬ (n : Int) / F = 2) : poPas F R l true (n : Int) 0 = false := by
  rw [poPas_in (by omega) h6 rfl h4, show rkA R (!true) 2 = 1 from rfl, show rkA R (!true) 4 = 3 from rfl]
  rw [show (2 * ((n : Int) / F) == (1) + (3)) = false from beq_eq_false_iff_ne.2 (by omega)]
  rfl
theorem pas_false_in {F R : Int} {l : List Int} {n : Nat} (hv : vsz F R) (h6 : 6 ≤ R) (hl : (l.length : Int) = F * R) (h4 : vat F R (n : Int)) (hm : (n : Int) / F = R - 3) :
    ∃ n4 n2 : Nat, (n : Int) + -F = (n4 : Int) ∧ (n : Int) - -F = (n2 : Int) ∧ n4 < l.length ∧ n2 < l.length ∧ poPas F R l false (n : Int) 0 = (l[n4]?.getD 0 == (-1) && (l[n]?.getD 0 == 0 && l[n2]?.getD 0 == 0)) := by
  have hpe := place_eq (a := (n : Int)) hv
  have hpb := place_bd hv h4.2.1 h4.2.2
  rw [hm] at hpe hpb
  have hvv := hv
  unfold vsz at hvv
  have b2 := number_bd (f := (n : Int) % F) (r := R - 2) hv hpb.1 hpb.2.1 (by omega) (by omega)
  have b4 := number_bd (f := (n : Int) % F) (r := R - 4) hv hpb.1 hpb.2.1 (by omega) (by omega)
  have x4 : (n : Int) + -F = (R - 4) * F + (n : Int) % F := by
    have : (R - 4) * F = (R - 3) * F - F := by rw [show (R - 4 : Int) = (R - 3) - 1 by omega, Int.sub_mul, Int.one_mul]
    omega
  have x2 : (n : Int) - -F = (R - 2) * F + (n : Int) % F := by
    have : (R - 2) * F = (R - 3) * F + F := by rw [show (R - 2 : Int) = (R - 3) + 1 by omega, Int.add_mul, Int.one_mul]
    omega
  refine ⟨((R - 4) * F + (n : Int) % F).toNat, ((R - 2) * F + (n : Int) % F).toNat, by omega, by omega, by omega, by omega, ?_⟩
  rw [poPas_in (by omega) h6 rfl h4]
  rw [show rkA R (!false) 2 = R - 2 from rfl, show rkA R (!false) 4 = R - 4 from rfl, show pcS (!false) = (-1) from rfl, hm, Int.toNat_natCast]
  rw [show ((2 : Int) * (R - 3) == (R - 2) + (R - 4)) = true from beq_iff_eq.2 (by omega), Bool.true_and]
  generalize (l[n]?.getD 0 == 0) = t1
  generalize (l[((R - 2) * F + (n : Int) % F).toNat]?.getD 0 == 0) = t2
  generalize (l[((R - 4) * F + (n : Int) % F).toNat]?.getD 0 == (-1)) = t3
  cases t1 <;> cases t2 <;> cases t3 <;> rfl
theorem pas_false_out {F R : Int} {l : List Int} {n : Nat} (_hv : vsz F R) (h6 : 6 ≤ R) (h4 : vat F R (n : Int)) (hm : ¬ (n : Int) / F = R - 3) : poPas F R l false (n : Int) 0 = false := by
  rw [poPas_in (by omega) h6 rfl h4, show rkA R (!false) 2 = R - 2 from rfl, show rkA R (!false) 4 = R - 4 from rfl]
  rw [show (2 * ((n : Int) / F) == (R - 2) + (R - 4)) = false from beq_eq_false_iff_ne.2 (by omega)]
  rfl
set_option maxRecDepth 100000 in
set_option maxHeartbeats 2000000 in
theorem pPas_true (F R : Int) (l : List Int) (A : Option Addr) (c : Nat) (ca n : Nat) (fu : Int) (hb : vbd F R l) (h6 : 6 ≤ R) (h4 : vat F R (n : Int)) (w : World) (hA : RdP w w.heap.size A l c) :
    Calls Tryz.prog 38 #[.agg #[.int .i64 F, .int .i64 R, .slice A l.length c, .bool true, .int .u8 (ca : Int), .int .i64 (n : Int), .int .i64 0, .int .i64 fu]] w fun e w' => e = .returned (.bool (poPas F R l true (n : Int) 0)) ∧ Below w.heap.size w w' := by
  have HIN := Lib.hid (fun hm => pas_true_in hb.1 h6 hb.2.1 h4 hm)
  have HOUT := Lib.hid (fun hm => pas_true_out (l := l) hb.1 h6 h4 hm)
  have HPL := Lib.hid (fun w => placeX_yes F R (n : Int) h4 w)
  have hX := box8 w F R (.slice A l.length c) true ca (n : Int) 0 fu
  have HX := Lib.hid hX
  have HA := Lib.hid (rdBo (box1 w (.cells #[.int .i64 F, .int .i64 R, .slice A l.length c, .bool true, .int .u8 (ca : Int), .int .i64 (n : Int), .int .i64 0, .int .i64 fu] 26)) hA)
  have hR6 : ¬ R < 6 := by omega
  have hR8 : R ≤ 8 := hb.1.2.2.2
  have hF8 : F ≤ 8 := hb.1.2.1
  have hF3 : 3 ≤ F := hb.1.1
  have HRK := Lib.hid (place_bd hb.1 h4.2.1 h4.2.2)
  have l0 : n < l.length := by have := hb.2.1; have := h4.2.2; omega
  have hn1 : ((n : Int) == -1) = false := beq_eq_false_iff_ne.2 (by omega)
  have hl64 := vbd_64 hb
  clear hX hA hb h4
  go_enter Tryz.func38, Tryz.ntmps38
  go_wp2_with fail
  refine (HPL.out _).mono ?_
  rintro e w1 ⟨rfl, hb1⟩
  obtain ⟨⟨x0, x1, x2, x3, x4, x5, x6, x7⟩, xf⟩ := HX.out.below hb1 (by simp)
  have hX1 := HX.out.below hb1 (by simp)
  have hA1 := rdBo hb1 HA.out
  have hB1 := after1 hb1
  clear hb1 HA HX HPL
  go_wp2_with fail
  go_quiet (fail)
  have hbn : Below w1.heap.size w1 (w1.drewN nq) := ⟨rfl, rfl, rfl, Nat.le_refl _, fun _ _ => rfl⟩
  have hX2 := hX1.below hbn hX1.lt
  have hA4 := rdBo hbn hA1
  have hB4 := chain hB1 hbn
  clear hX1 hA1 hB1 hbn x0 x1 x2 x3 x4 x5 x6 x7 xf
  generalize w1.drewN nq = W2 at *
  obtain ⟨⟨x0, x1, x2, x3, x4, x5, x6, x7⟩, xf⟩ := id hX2
  clear hX2
  have hrk := HRK.out
  clear HRK
  by_cases hm : (n : Int) / F = 2
  · have em : ((n : Int) / F == 2) = true := beq_iff_eq.2 hm
    obtain ⟨n4, n2, hm4, hm2, l4, l2, HEE⟩ := HIN.out hm
    have HEE := Lib.hid HEE
    obtain ⟨ad, rfl, _, k0⟩ := hA4.at_ l0
    obtain ⟨ad2, e2, _, k2⟩ := hA4.at_ l2
    obtain ⟨ad4, e4, _, k4⟩ := hA4.at_ l4
    obtain rfl := Option.some.inj e2
    obtain rfl := Option.some.inj e4
    have g4 : 0 ≤ ((n : Int) + F) ∧ ((n : Int) + F) < (l.length : Int) := by omega
    have g2 : 0 ≤ ((n : Int) - F) ∧ ((n : Int) - F) < (l.length : Int) := by omega
    have t4 : ((n : Int) + F).toNat = n4 := by omega
    have t2 : ((n : Int) - F).toNat = n2 := by omega
    generalize l[n]?.getD 0 = a0 at *
    generalize l[n2]?.getD 0 = a2 at *
    generalize l[n4]?.getD 0 = a4 at *
    clear hA4 e2 e4 hm4 hm2 hm l4 l2 HIN
    by_cases h4 : a4 = 1
    · have v4 : (a4 == 1) = true := beq_iff_eq.2 h4
      rw [v4, Bool.true_and] at HEE
      clear h4
      by_cases h0 : a0 = 0
      · have v0 : (a0 == 0) = true := beq_iff_eq.2 h0
        rw [v0, Bool.true_and] at HEE
        clear h0
        go_wp2
        go_ret
        exact ⟨ret_bool HEE.out.symm, hB4⟩
      · have v0 : (a0 == 0) = false := beq_eq_false_iff_ne.2 h0
        rw [v0, Bool.false_and] at HEE
        clear h0
        go_wp2
        go_ret
        exact ⟨ret_bool HEE.out.symm, hB4⟩
    · have v4 : (a4 == 1) = false := beq_eq_false_iff_ne.2 h4
      rw [v4, Bool.false_and] at HEE
      clear h4
      go_wp2
      go_ret
      exact ⟨ret_bool HEE.out.symm, hB4⟩
  · have em : ((n : Int) / F == 2) = false := beq_eq_false_iff_ne.2 hm
    have HEE := Lib.hid (HOUT.out hm)
    clear hm HIN HOUT
    go_wp2
    go_ret
    exact ⟨ret_bool HEE.out.symm, hB4⟩

set_option maxRecDepth 100000 in
set_option maxHeartbeats 2000000 in
theorem pPas_false (F R : Int) (l : List Int) (A : Option Addr) (c : Nat) (ca n : Nat) (fu : Int) (hb : vbd F R l) (h6 : 6 ≤ R) (h4 : vat F R (n : Int)) (w : World) (hA : RdP w w.heap.size A l c) :
    Calls Tryz.prog 38 #[.agg #[.int .i64 F, .int .i64 R, .slice A l.length c, .bool false, .int .u8 (ca : Int), .int .i64 (n : Int), .int .i64 0, .int .i64 fu]] w fun e w' => e = .returned (.bool (poPas F R l false (n : Int) 0)) ∧ Below w.heap.size w w' := by
  have HIN := Lib.hid (fun hm => pas_false_in hb.1 h6 hb.2.1 h4 hm)
  have HOUT := Lib.hid (fun hm => pas_false_out (l := l) hb.1 h6 h4 hm)
  have HPL := Lib.hid (fun w => placeX_yes F R (n : Int) h4 w)
  have hX := box8 w F R (.slice A l.length c) false ca (n : Int) 0 fu
  have HX := Lib.hid hX
  have HA := Lib.hid (rdBo (box1 w (.cells #[.int .i64 F, .int .i64 R, .slice A l.length c, .bool false, .int .u8 (ca : Int), .int .i64 (n : Int), .int .i64 0, .int .i64 fu] 26)) hA)
  have hR6 : ¬ R < 6 := by omega
  have hR8 : R ≤ 8 := hb.1.2.2.2
  have hF8 : F ≤ 8 := hb.1.2.1
  have hF3 : 3 ≤ F := hb.1.1
  have HRK := Lib.hid (place_bd hb.1 h4.2.1 h4.2.2)
  have l0 : n < l.length := by have := hb.2.1; have := h4.2.2; omega
  have hn1 : ((n : Int) == -1) = false := beq_eq_false_iff_ne.2 (by omega)
  have hl64 := vbd_64 hb
  clear hX hA hb h4
  go_enter Tryz.func38, Tryz.ntmps38
  go_wp2_with fail
  refine (HPL.out _).mono ?_
  rintro e w1 ⟨rfl, hb1⟩
  obtain ⟨⟨x0, x1, x2, x3, x4, x5, x6, x7⟩, xf⟩ := HX.out.below hb1 (by simp)
  have hX1 := HX.out.below hb1 (by simp)
  have hA1 := rdBo hb1 HA.out
  have hB1 := after1 hb1
  clear hb1 HA HX HPL
  go_wp2_with fail
  go_quiet (fail)
  have hbn : Below w1.heap.size w1 (w1.drewN nq) := ⟨rfl, rfl, rfl, Nat.le_refl _, fun _ _ => rfl⟩
  have hX2 := hX1.below hbn hX1.lt
  have hA4 := rdBo hbn hA1
  have hB4 := chain hB1 hbn
  clear hX1 hA1 hB1 hbn x0 x1 x2 x3 x4 x5 x6 x7 xf
  generalize w1.drewN nq = W2 at *
  obtain ⟨⟨x0, x1, x2, x3, x4, x5, x6, x7⟩, xf⟩ := id hX2
  go_wp2_with fail
  go_quiet (fail)
  have hbn : Below W2.heap.size W2 (W2.drewN nq) := ⟨rfl, rfl, rfl, Nat.le_refl _, fun _ _ => rfl⟩
  have hX3 := hX2.below hbn hX2.lt
  have hA4 := rdBo hbn hA4
  have hB4 := chain hB4 hbn
  clear hX2 hbn x0 x1 x2 x3 x4 x5 x6 x7 xf
  generalize W2.drewN nq = W3 at *
  obtain ⟨⟨x0, x1, x2, x3, x4, x5, x6, x7⟩, xf⟩ := hX3
  have hrk := HRK.out
  clear HRK
  by_cases hm : (n : Int) / F = (R - 3)
  · have em : ((n : Int) / F == (R - 3)) = true := beq_iff_eq.2 hm
    obtain ⟨n4, n2, hm4, hm2, l4, l2, HEE⟩ := HIN.out hm
    have HEE := Lib.hid HEE
    obtain ⟨ad, rfl, _, k0⟩ := hA4.at_ l0
    obtain ⟨ad2, e2, _, k2⟩ := hA4.at_ l2
    obtain ⟨ad4, e4, _, k4⟩ := hA4.at_ l4
    obtain rfl := Option.some.inj e2
    obtain rfl := Option.some.inj e4
    have g4 : 0 ≤ ((n : Int) + -F) ∧ ((n : Int) + -F) < (l.length : Int) := by omega
    have g2 : 0 ≤ ((n : Int) + F) ∧ ((n : Int) + F) < (l.length : Int) := by omega
    have t4 : ((n : Int) + -F).toNat = n4 := by omega
    have t2 : ((n : Int) + F).toNat = n2 := by omega
    generalize l[n]?.getD 0 = a0 at *
    generalize l[n2]?.getD 0 = a2 at *
    generalize l[n4]?.getD 0 = a4 at *
    clear hA4 e2 e4 hm4 hm2 hm l4 l2 HIN
    by_cases h4 : a4 = (-1)
    · have v4 : (a4 == (-1)) = true := beq_iff_eq.2 h4
      rw [v4, Bool.true_and] at HEE
      clear h4
      by_cases h0 : a0 = 0
      · have v0 : (a0 == 0) = true := beq_iff_eq.2 h0
        rw [v0, Bool.true_and] at HEE
        clear h0
        go_wp2
        go_ret
        exact ⟨ret_bool HEE.out.symm, hB4⟩
      · have v0 : (a0 == 0) = false := beq_eq_false_iff_ne.2 h0
        rw [v0, Bool.false_and] at HEE
        clear h0
        go_wp2
        go_ret
        exact ⟨ret_bool HEE.out.symm, hB4⟩
    · have v4 : (a4 == (-1)) = false := beq_eq_false_iff_ne.2 h4
      rw [v4, Bool.false_and] at HEE
      clear h4
      go_wp2
      go_ret
      exact ⟨ret_bool HEE.out.symm, hB4⟩
  · have em : ((n : Int) / F == (R - 3)) = false := beq_eq_false_iff_ne.2 hm
    have HEE := Lib.hid (HOUT.out hm)
    clear hm HIN HOUT
    go_wp2
    go_ret
    exact ⟨ret_bool HEE.out.symm, hB4⟩

set_option maxRecDepth 100000 in
set_option maxHeartbeats 2000000 in
theorem pPas_any (F R : Int) (l : List Int) (A : Option Addr) (c : Nat) (bl : Bool) (ca : Nat) (ps ha fu : Int) (hb : vbd F R l) (w : World) (hA : RdP w w.heap.size A l c) :
    Calls Tryz.prog 38 #[.agg #[.int .i64 F, .int .i64 R, .slice A l.length c, .bool bl, .int .u8 (ca : Int), .int .i64 ps, .int .i64 ha, .int .i64 fu]] w fun e w' => e = .returned (.bool (poPas F R l bl ps ha)) ∧ Below w.heap.size w w' := by
  by_cases h1 : ps = -1
  · subst h1
    have e2 : poPas F R l bl (-1) ha = true := rfl
    rw [e2]
    clear e2 hA
    go_enter Tryz.func38, Tryz.ntmps38
    go_wp2
    go_ret
    exact ⟨rfl, box1 _ _⟩
  · have b1 : (ps == -1) = false := beq_eq_false_iff_ne.2 h1
    have HX := Lib.hid (box8 w F R (.slice A l.length c) bl ca ps ha fu)
    by_cases h4 : vat F R ps
    · by_cases h6 : 6 ≤ R
      · by_cases h3 : ha = 0
        · obtain ⟨n, rfl, _⟩ := vat_nat h4
          subst h3
          cases bl with
          | true => exact pPas_true F R l A c ca n fu hb h6 h4 w hA
          | false => exact pPas_false F R l A c ca n fu hb h6 h4 w hA
        · have e2 := Lib.hid (poPas_out (l := l) (bl := bl) (ps := ps) h1 hb.1 (fun h => h3 h.2.1))
          have b3 : (ha != 0) = true := bne_iff_ne.2 h3
          have b6 : ¬ R < 6 := by omega
          have HPL := Lib.hid (fun w => placeX_yes F R ps h4 w)
          clear hb hA h3 h4
          go_enter Tryz.func38, Tryz.ntmps38
          go_wp2_with fail
          refine (HPL.out _).mono ?_
          rintro e w1 ⟨rfl, hb1⟩
          obtain ⟨⟨x0, x1, x2, x3, x4, x5, x6, x7⟩, xf⟩ := HX.out.below hb1 (by simp)
          go_wp2
          go_ret
          exact ⟨ret_bool e2.out.symm, after1 hb1⟩
      · have e2 := Lib.hid (poPas_out (l := l) (bl := bl) (ps := ps) (ha := ha) h1 hb.1 (fun h => h6 h.1))
        have b6 : R < 6 := by omega
        have HPL := Lib.hid (fun w => placeX_yes F R ps h4 w)
        clear hb hA h4 h6
        go_enter Tryz.func38, Tryz.ntmps38
        go_wp2_with fail
        refine (HPL.out _).mono ?_
        rintro e w1 ⟨rfl, hb1⟩
        obtain ⟨⟨x0, x1, x2, x3, x4, x5, x6, x7⟩, xf⟩ := HX.out.below hb1 (by simp)
        go_wp2
        go_ret
        exact ⟨ret_bool e2.out.symm, after1 hb1⟩
    · have e2 := Lib.hid (poPas_out (l := l) (bl := bl) (ps := ps) (ha := ha) h1 hb.1 (fun h => h4 h.2.2))
      have HPL := Lib.hid (fun w => placeX_no F R ps h4 w)
      clear hb hA h4
      go_enter Tryz.func38, Tryz.ntmps38
      go_wp2_with fail
      refine (HPL.out _).mono ?_
      rintro e w1 ⟨rfl, hb1⟩
      obtain ⟨⟨x0, x1, x2, x3, x4, x5, x6, x7⟩, xf⟩ := HX.out.below hb1 (by simp)
      go_wp2
      go_ret
      exact ⟨ret_bool e2.out.symm, after1 hb1⟩

end Go.Proofs.YtelkmdklpcfobaaGreatDoor
