/- Positions, by the document: the text of a valid position. -/
import Derived.Test.YtelkmdklpcfobaaGreatDoorPqS
import Derived.Test.YtelkmdklpcfobaaGreatDoorPpF
import Derived.Test.YtelkmdklpcfobaaGreatDoorBkD
import Derived.Test.YtelkmdklpcfobaaGreatDoorPoC
namespace Go.Proofs.YtelkmdklpcfobaaGreatDoor
open Go.RowKit Go.Sort

set_option maxRecDepth 100000 in
set_option maxHeartbeats 2000000 in
theorem rTextP_in (f r : Nat) (l : List Int) (A : Option Addr) (c : Nat) (bl : Bool) (ca : Nat) (ps : Int) (ha fu : Nat) (hok : okPo ⟨(f : Int), (r : Int), l, bl, ca, ps, (ha : Int), (fu : Int)⟩ = true) (w : World) (hA : RdP w w.heap.size A l c) :
    Calls Tryz.prog 26 #[.agg #[.int .i64 (f : Int), .int .i64 (r : Int), .slice A l.length c, .bool bl, .int .u8 (ca : Int), .int .i64 ps, .int .i64 (ha : Int), .int .i64 (fu : Int)]] w fun e w' => e = .returned (.string (bsL (posT ⟨(f : Int), (r : Int), l, bl, ca, ps, (ha : Int), (fu : Int)⟩))) ∧ Below w.heap.size w w' := by
  obtain ⟨f', r', e1, e2, f0, f1, r0, r1, hl, hrow, hca, hps, hcnt, hvb⟩ := okPo_nat hok
  simp only at e1 e2 hl hrow hca hps hcnt hvb
  have HE : Hid (posT ⟨(f : Int), (r : Int), l, bl, ca, ps, (ha : Int), (fu : Int)⟩ = jw [szL (f : Int) (r : Int), accT f r l r, sdL bl, caL ca, psL (f : Int) ps, dec ha, dec fu]) := Lib.hid rfl
  have hB := box1 w (.cells #[.int .i64 (f : Int), .int .i64 (r : Int), .slice A l.length c, .bool bl, .int .u8 (ca : Int), .int .i64 ps, .int .i64 (ha : Int), .int .i64 (fu : Int)] 26)
  have hX := box8 w (f : Int) (r : Int) (.slice A l.length c) bl ca ps (ha : Int) (fu : Int)
  have hA1 := rdBo hB hA
  obtain ⟨V, hV⟩ : ∃ V, w.alloc (.cells #[.int .i64 (f : Int), .int .i64 (r : Int), .slice A l.length c, .bool bl, .int .u8 (ca : Int), .int .i64 ps, .int .i64 (ha : Int), .int .i64 (fu : Int)] 26) = V := ⟨_, rfl⟩
  rw [hV] at hB hX hA1
  have HV := Lib.hid hV
  obtain ⟨⟨x0, x1, x2, x3, x4, x5, x6, x7⟩, xf⟩ := id hX
  have q0 := cell_regrown x0
  have q1 := cell_regrown x1
  have q2 := cell_regrown x2
  have q3 := cell_regrown x3
  have q4 := cell_regrown x4
  have q5 := cell_regrown x5
  have q6 := cell_regrown x6
  have q7 := cell_regrown x7
  have cA := Lib.hid (fun d os => Calls.regrown_of (rDec f (by omega) (grow (redrawn V d) os)))
  have cB := Lib.hid (fun d os => Calls.regrown_of (rDec r (by omega) (grow (redrawn V d) os)))
  have cO := Lib.hid (fun d os => Calls.regrown_of (rOf_any (f : Int) (r : Int) l A c bl ca ps (ha : Int) (fu : Int) (grow (redrawn V d) os)))
  have cT := Lib.hid (fun d os => Calls.regrown_of (rText_any' (f : Int) (r : Int) l A c (grow (redrawn V d) os) hvb (rdBo (below_regrown V d os) hA1)))
  have b1 := dec_len (n := f) (by omega)
  have b2 := dec_len (n := r) (by omega)
  have b3 := dec_len (n := ha) (by omega)
  have b4 := dec_len (n := fu) (by omega)
  have b5 := accT_bd f r l r
  have b6 : r * (2 * f + 2) ≤ 8 * 18 := Nat.mul_le_mul (by omega) (by omega)
  have z1 : (bsL (dec f)).size ≤ 5 := by rw [bsL_size]; omega
  have z2 : (bsL (dec r)).size ≤ 5 := by rw [bsL_size]; omega
  have z3 : (bsL (accT f r l r)).size ≤ 150 := by rw [bsL_size]; omega
  have HTB : textB ((f : Int)).toNat ((r : Int)).toNat l = bsL (accT f r l r) := rfl
  rw [HTB] at cT
  have HN := Lib.hid (fun h w => refName_any (f : Int) (r : Int) ps h w)
  have HH := Lib.hid (fun w => rDec ha (by omega) w)
  have HF := Lib.hid (fun w => rDec fu (by omega) w)
  have HS : Hid (szL (f : Int) (r : Int) = dec f ++ 120 :: dec r) := Lib.hid rfl
  have zn : (bsL (nameB (f : Int) ps).data.toList).size ≤ 2 := by rw [bsL_size]; simp [nameB_list]
  have z4 : (bsL (dec ha)).size ≤ 5 := by rw [bsL_size]; omega
  have z5 : (bsL (dec fu)).size ≤ 5 := by rw [bsL_size]; omega
  have LF := Lib.hid (bsL_toList (dec f))
  have LR := Lib.hid (bsL_toList (dec r))
  have LT := Lib.hid (bsL_toList (accT f r l r))
  have LH := Lib.hid (bsL_toList (dec ha))
  have LU := Lib.hid (bsL_toList (dec fu))
  clear hV hA hA1 x0 x1 x2 x3 x4 x5 x6 x7 xf b1 b2 b3 b4 b5 b6 HTB e1 e2 hl hrow hcnt hvb hok
  generalize bsL (dec f) = s1 at *
  generalize bsL (dec r) = s2 at *
  generalize bsL (accT f r l r) = s3 at *
  generalize bsL (dec ha) = s4 at *
  generalize bsL (dec fu) = s5 at *
  have y1 : (s1 ++ (⟨#[120]⟩ : ByteArray)).size ≤ 6 := by rw [ByteArray.size_append]; show _ + 1 ≤ _; omega
  have y2 : (s1 ++ (⟨#[120]⟩ : ByteArray) ++ s2).size ≤ 11 := by rw [ByteArray.size_append]; omega
  have y3 : (s1 ++ (⟨#[120]⟩ : ByteArray) ++ s2 ++ (⟨#[32]⟩ : ByteArray)).size ≤ 12 := by rw [ByteArray.size_append]; show _ + 1 ≤ _; omega
  have y4 : (s1 ++ (⟨#[120]⟩ : ByteArray) ++ s2 ++ (⟨#[32]⟩ : ByteArray) ++ s3).size ≤ 162 := by rw [ByteArray.size_append]; omega
  have y5 : (s1 ++ (⟨#[120]⟩ : ByteArray) ++ s2 ++ (⟨#[32]⟩ : ByteArray) ++ s3 ++ (⟨#[32]⟩ : ByteArray)).size ≤ 163 := by rw [ByteArray.size_append]; show _ + 1 ≤ _; omega
  go_enter Tryz.func26, Tryz.ntmps26
  go_wp2_with fail
  rw [HV.out]
  refine wp_region_quiet_below (by kernel_rfl) (by kernel_rfl) ?_
  repeat (go_big_quiet_step (first | (go_at_call_has 59 (Value.int .i64 (f : Int)); exact cA.out _ _) | (go_at_call_has 59 (Value.int .i64 (r : Int)); exact cB.out _ _) | (go_at_call 18; exact cO.out _ _) | (go_at_call 60; exact cT.out _ _)))
  refine wpQuiet_nil ?_
  intro _ hw'
  obtain ⟨⟨dq, osq⟩, hw''⟩ := hw'
  subst hw''
  have bq := below_regrown V dq osq
  replace hX := hX.below bq hX.lt
  replace hB := chain hB bq
  clear cA cB cO cT q0 q1 q2 q3 q4 q5 q6 q7 bq
  generalize Go.Sort.grow (redrawn V dq) osq = w1 at *
  obtain ⟨P1, hP1⟩ : ∃ P1, (s1 ++ (⟨#[120]⟩ : ByteArray) ++ s2 ++ (⟨#[32]⟩ : ByteArray) ++ s3 ++ (⟨#[32]⟩ : ByteArray)) = P1 := ⟨_, rfl⟩
  have HP1 := Lib.hid hP1
  rw [hP1] at y5
  clear y1 y2 y3 y4
  obtain ⟨⟨x0, x1, x2, x3, x4, x5, x6, x7⟩, xf⟩ := id hX
  obtain ⟨P2, hP2⟩ : ∃ P2, P1 ++ (if bl then (⟨#[98, 32]⟩ : ByteArray) else ⟨#[119, 32]⟩) = P2 := ⟨_, rfl⟩
  have yy : P2.size ≤ 165 := by rw [← hP2, ByteArray.size_append]; have : (if bl then (⟨#[98, 32]⟩ : ByteArray) else ⟨#[119, 32]⟩).size = 2 := by cases bl <;> rfl
                                omega
  have HP2 := Lib.hid hP2
  clear hP2
  rw [hP1]
  have FIN : Hid (P2 ++ bsL (caL ca) ++ bsL (32 :: psL (f : Int) ps) ++ (⟨#[32]⟩ : ByteArray) ++ s4 ++ (⟨#[32]⟩ : ByteArray) ++ s5 = bsL (posT ⟨(f : Int), (r : Int), l, bl, ca, ps, (ha : Int), (fu : Int)⟩)) := Lib.hid (by
    have e1 : s1 = bsL (dec f) := by rw [← LF.out, bsL_of]
    have e2 : s2 = bsL (dec r) := by rw [← LR.out, bsL_of]
    have e3 : s3 = bsL (accT f r l r) := by rw [← LT.out, bsL_of]
    have e4 : s4 = bsL (dec ha) := by rw [← LH.out, bsL_of]
    have e5 : s5 = bsL (dec fu) := by rw [← LU.out, bsL_of]
    have sd : (if bl = true then (⟨#[98, 32]⟩ : ByteArray) else ⟨#[119, 32]⟩) = bsL (sdL bl ++ [32]) := by cases bl <;> rfl
    rw [HE.out, ← HP2.out, ← HP1.out, HS.out, sd, e1, e2, e3, e4, e5, show (⟨#[120]⟩ : ByteArray) = bsL [120] from rfl, show (⟨#[32]⟩ : ByteArray) = bsL [32] from rfl]
    simp only [bsL_append]
    congr 1
    simp [jw])
  clear HE HS LF LR LT LH LU HP1 hP1
  generalize hRES : bsL (posT ⟨(f : Int), (r : Int), l, bl, ca, ps, (ha : Int), (fu : Int)⟩) = RES at *
  have HRES := Lib.hid hRES.symm
  clear hRES
  clear x0 x1 x2 x3 x4 x5 x6 x7 xf
  cases bl
  all_goals
    obtain ⟨⟨x0, x1, x2, x3, x4, x5, x6, x7⟩, xf⟩ := id hX
    go_wp2
    go_loopw [3, 4] (fun v i wr => ∃ j : Nat, j ≤ 4 ∧ i = .int .i64 j ∧ v = .string (P2 ++ bsL (ckT ca j)) ∧ wr = w1) (fun _ i _ => 4 - (intOf i).toNat)
    case atStart => exact ⟨0, by omega, rfl, by rw [show bsL (ckT ca 0) = ByteArray.empty from rfl, ByteArray.append_empty, ← HP2.out]; rfl, by first | rfl | trivial⟩
    case round =>
      obtain ⟨j, hj, rfl, rfl, rfl⟩ := hrel
      have hz : (P2 ++ bsL (ckT ca j)).size ≤ 169 := by rw [ByteArray.size_append, bsL_size]; have := ckT_len ca j; omega
      have hzz : (bsL (ckT ca j)).size ≤ 4 := by rw [bsL_size]; have := ckT_len ca j; omega
      by_cases hjt : j < 4
      · have hE := Lib.hid (kq_at hjt)
        have hp : ((ca : Int) / 2 ^ j).tmod 2 = ((ca / 2 ^ j % 2 : Nat) : Int) := by
          rw [Int.ofNat_tmod]
          simp
        by_cases hb : ca / 2 ^ j % 2 = 1
        · have hc : (((ca : Int) / 2 ^ j).tmod 2 == 1) = true := by rw [hp, hb]; rfl
          have HSS : Hid (bsL (ckT ca (j + 1)) = bsL (ckT ca j) ++ (ByteArray.mk #[75, 81, 107, 113]).extract j (j + 1)) := Lib.hid (by rw [ckT_succ, if_pos hb, ← bsL_append, hE.out])
          clear hp hb
          go_wp2
          go_roundw
          case rel => exact ⟨j + 1, by omega, by go_num, by rw [HSS.out, ByteArray.append_assoc], by first | rfl | trivial⟩
          case measure => simp [intOf]; omega
        · have hc : (((ca : Int) / 2 ^ j).tmod 2 == 1) = false := by rw [hp]; exact beq_eq_false_iff_ne.2 (by omega)
          have HSS : Hid (bsL (ckT ca (j + 1)) = bsL (ckT ca j)) := Lib.hid (by rw [ckT_succ, if_neg hb, List.append_nil])
          clear hp hb
          go_wp2
          go_roundw
          case rel => exact ⟨j + 1, by omega, by go_num, by rw [HSS.out], by first | rfl | trivial⟩
          case measure => simp [intOf]; omega
      · have hj4 : j = 4 := by omega
        subst hj4
        have HC : Hid (caL ca = if ca = 0 then [45] else ckT ca 4) := Lib.hid rfl
        generalize hO : P2 ++ bsL (ckT ca 4) = O at *
        have HO := Lib.hid hO
        clear hO
        have HO2 : Hid ((if ca = 0 then O ++ (⟨#[45]⟩ : ByteArray) else O) = P2 ++ bsL (caL ca)) := Lib.hid (by
          rw [← HO.out, HC.out]
          by_cases h0 : ca = 0
          · subst h0
            rw [if_pos rfl, if_pos rfl, show bsL (ckT 0 4) = ByteArray.empty from by decide +kernel, ByteArray.append_empty]
            rfl
          · rw [if_neg h0, if_neg h0])
        clear HC
        by_cases h0 : ca = 0
        all_goals
          first
          | (have hc0 : ((ca : Int) == 0) = true := by rw [h0]; rfl)
          | (have hc0 : ((ca : Int) == 0) = false := beq_eq_false_iff_ne.2 (by omega))
          first | rw [if_pos h0] at HO2 | rw [if_neg h0] at HO2
          go_upto_region 12 with fail
          obtain ⟨O2, hO2⟩ : ∃ O2, P2 ++ bsL (caL ca) = O2 := ⟨_, rfl⟩
          rw [HO2.out, hO2]
          rw [hO2] at FIN
          have hz2 : O2.size ≤ 170 := by
            rw [← hO2, ← HO2.out]
            first | omega | (rw [ByteArray.size_append]; show _ + 1 ≤ _; omega)
          clear HO2 hO2 HO HP2 h0 hc0
          rcases hps with rfl | hv
          · obtain ⟨O3, hO3⟩ : ∃ O3, O2 ++ (⟨#[32, 45]⟩ : ByteArray) = O3 := ⟨_, rfl⟩
            have hz3 : O3.size ≤ 180 := by rw [← hO3, ByteArray.size_append]; show _ + 2 ≤ _; omega
            have F3 : Hid (O3 ++ (⟨#[32]⟩ : ByteArray) ++ s4 ++ (⟨#[32]⟩ : ByteArray) ++ s5 = RES) := Lib.hid (by rw [← FIN.out, ← hO3]; rfl)
            go_upto_region 15 with fail
            try rw [hO3]
            clear x0 x1 x2 x3 x4 x5 x6 x7 xf FIN hO3
            obtain ⟨⟨x0, x1, x2, x3, x4, x5, x6, x7⟩, xf⟩ := id hX
            have q0 := cell_regrown x0
            have q1 := cell_regrown x1
            have q2 := cell_regrown x2
            have q3 := cell_regrown x3
            have q4 := cell_regrown x4
            have q5 := cell_regrown x5
            have q6 := cell_regrown x6
            have q7 := cell_regrown x7
            have cA := Lib.hid (fun d os => Calls.regrown_of (HH.out (grow (redrawn wr d) os)))
            have cB := Lib.hid (fun d os => Calls.regrown_of (HF.out (grow (redrawn wr d) os)))
            have m1 : (O3 ++ (⟨#[32]⟩ : ByteArray)).size ≤ 181 := by rw [ByteArray.size_append]; show _ + 1 ≤ _; omega
            have m2 : (O3 ++ (⟨#[32]⟩ : ByteArray) ++ s4).size ≤ 186 := by rw [ByteArray.size_append]; omega
            have m3 : (O3 ++ (⟨#[32]⟩ : ByteArray) ++ s4 ++ (⟨#[32]⟩ : ByteArray)).size ≤ 187 := by rw [ByteArray.size_append]; show _ + 1 ≤ _; omega
            refine wp_region_quiet_below (by kernel_rfl) (by kernel_rfl) ?_
            repeat (go_big_quiet_step (first | (go_at_call_has 59 (Value.int .i64 (ha : Int)); exact cA.out _ _) | (go_at_call_has 59 (Value.int .i64 (fu : Int)); exact cB.out _ _)))
            refine wpQuiet_nil ?_
            intro _ hw'
            obtain ⟨⟨dq, osq⟩, hw''⟩ := hw'
            subst hw''
            have bq := below_regrown wr dq osq
            go_wp2
            go_ret
            exact ⟨ret_str (F3.out.trans HRES.out), chain hB bq⟩
          · have h0p := hv.2.1
            obtain ⟨O3, hO3⟩ : ∃ O3, O2 ++ (⟨#[32]⟩ : ByteArray) ++ nameB (f : Int) ps = O3 := ⟨_, rfl⟩
            have zn2 : (nameB (f : Int) ps).size ≤ 2 := by rw [← bsL_of (nameB (f : Int) ps)]; exact zn
            have zm : (O2 ++ (⟨#[32]⟩ : ByteArray)).size ≤ 171 := by rw [ByteArray.size_append]; show _ + 1 ≤ _; omega
            have hz3 : O3.size ≤ 180 := by rw [← hO3, ByteArray.size_append]; omega
            have F3 : Hid (O3 ++ (⟨#[32]⟩ : ByteArray) ++ s4 ++ (⟨#[32]⟩ : ByteArray) ++ s5 = RES) := Lib.hid (by
              rw [← FIN.out, ← hO3]
              unfold psL
              rw [if_neg (by omega), show bsL (32 :: (nameB (f : Int) ps).data.toList) = (⟨#[32]⟩ : ByteArray) ++ nameB (f : Int) ps from by rw [← List.singleton_append, ← bsL_append, bsL_of]; rfl]
              simp only [ByteArray.append_assoc])
            clear FIN zn
            have HNN := Lib.hid (fun w => HN.out hv w)
            clear hv HN
            go_wp2_with fail
            refine (HNN.out _).mono ?_
            rintro e w2 ⟨rfl, hb2⟩
            replace hX := hX.below hb2 hX.lt
            replace hB := chain hB hb2
            clear x0 x1 x2 x3 x4 x5 x6 x7 xf hb2
            generalize nameB (f : Int) ps = nm at *
            go_upto_region 15 with fail
            try rw [hO3]
            clear hO3 zm zn2
            obtain ⟨⟨x0, x1, x2, x3, x4, x5, x6, x7⟩, xf⟩ := id hX
            have q0 := cell_regrown x0
            have q1 := cell_regrown x1
            have q2 := cell_regrown x2
            have q3 := cell_regrown x3
            have q4 := cell_regrown x4
            have q5 := cell_regrown x5
            have q6 := cell_regrown x6
            have q7 := cell_regrown x7
            have cA := Lib.hid (fun d os => Calls.regrown_of (HH.out (grow (redrawn w2 d) os)))
            have cB := Lib.hid (fun d os => Calls.regrown_of (HF.out (grow (redrawn w2 d) os)))
            have m1 : (O3 ++ (⟨#[32]⟩ : ByteArray)).size ≤ 181 := by rw [ByteArray.size_append]; show _ + 1 ≤ _; omega
            have m2 : (O3 ++ (⟨#[32]⟩ : ByteArray) ++ s4).size ≤ 186 := by rw [ByteArray.size_append]; omega
            have m3 : (O3 ++ (⟨#[32]⟩ : ByteArray) ++ s4 ++ (⟨#[32]⟩ : ByteArray)).size ≤ 187 := by rw [ByteArray.size_append]; show _ + 1 ≤ _; omega
            refine wp_region_quiet_below (by kernel_rfl) (by kernel_rfl) ?_
            repeat (go_big_quiet_step (first | (go_at_call_has 59 (Value.int .i64 (ha : Int)); exact cA.out _ _) | (go_at_call_has 59 (Value.int .i64 (fu : Int)); exact cB.out _ _)))
            refine wpQuiet_nil ?_
            intro _ hw'
            obtain ⟨⟨dq, osq⟩, hw''⟩ := hw'
            subst hw''
            have bq := below_regrown w2 dq osq
            go_wp2
            go_ret
            exact ⟨ret_str (F3.out.trans HRES.out), chain hB bq⟩

theorem rTextP_any (F R : Int) (l : List Int) (A : Option Addr) (c : Nat) (bl : Bool) (ca : Nat) (ps ha fu : Int) (hok : okPo ⟨F, R, l, bl, ca, ps, ha, fu⟩ = true) (w : World) (hA : RdP w w.heap.size A l c) :
    Calls Tryz.prog 26 #[.agg #[.int .i64 F, .int .i64 R, .slice A l.length c, .bool bl, .int .u8 (ca : Int), .int .i64 ps, .int .i64 ha, .int .i64 fu]] w fun e w' => e = .returned (.string (bsL (posT ⟨F, R, l, bl, ca, ps, ha, fu⟩))) ∧ Below w.heap.size w w' := by
  obtain ⟨f, r, e1, e2, _, _, _, _, _, _, _, _, hc, _⟩ := okPo_nat hok
  simp only at e1 e2 hc
  subst e1 e2
  obtain ⟨h, rfl⟩ : ∃ h : Nat, ha = (h : Int) := ⟨ha.toNat, by omega⟩
  obtain ⟨g, rfl⟩ : ∃ g : Nat, fu = (g : Int) := ⟨fu.toNat, by omega⟩
  exact rTextP_in f r l A c bl ca ps h g hok w hA

end Go.Proofs.YtelkmdklpcfobaaGreatDoor
