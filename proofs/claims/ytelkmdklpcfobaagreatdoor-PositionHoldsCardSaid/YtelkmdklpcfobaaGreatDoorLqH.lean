/- The theorem of positions: it answers true, and changes nothing that lay before; given that the program reads as it should. -/
import Derived.Test.YtelkmdklpcfobaaGreatDoorLqV
import Derived.Test.YtelkmdklpcfobaaGreatDoorLqB
import Derived.Test.YtelkmdklpcfobaaGreatDoorLqE
import Derived.Test.YtelkmdklpcfobaaGreatDoorPqM
namespace Go.Proofs.YtelkmdklpcfobaaGreatDoor
open Go.RowKit Go.Sort

set_option maxRecDepth 100000 in
set_option maxHeartbeats 16000000 in
theorem law_pholds (HPA : PParse) (F R : Int) (l : List Int) (A : Option Addr) (c : Nat) (bl : Bool) (ca : Nat) (ps ha fu : Int) (s : ByteArray) (w : World) (hca : ca < 256) (hcap : l.length ≤ c) (hA : RdP w w.heap.size A l c) (hT : T6 w) :
    Calls Tryz.prog 8 #[.agg #[.int .i64 F, .int .i64 R, .slice A l.length c, .bool bl, .int .u8 (ca : Int), .int .i64 ps, .int .i64 ha, .int .i64 fu], .string s] w fun e w' => e = .returned (.bool true) ∧ Below w.heap.size w w' := by
  have hT0 := Lib.hid hT
  have HA0 := Lib.hid hA
  have hB := box1 w (.cells #[.int .i64 F, .int .i64 R, .slice A l.length c, .bool bl, .int .u8 (ca : Int), .int .i64 ps, .int .i64 ha, .int .i64 fu] 26)
  have hx := box8 w F R (.slice A l.length c) bl ca ps ha fu
  replace hA := rdBo hB hA
  replace hT := hT.below hB
  have HK := Lib.hid (fun w hT => known6_any HPA w hT)
  by_cases hs : l.length ≤ 70
  · by_cases hs2 : s.size ≤ 200
    · have h100 := Lib.hid (show l.length ≤ 100000 by omega)
      have HP := Lib.hid (fun w hT => HPA s hs2 w hT)
      go_enter Tryz.func8, Tryz.ntmps8
      obtain ⟨⟨hx_0, hx_1, hx_2, hx_3, hx_4, hx_5, hx_6, hx_7⟩, hx_f⟩ := id hx
      go_wp2_with fail
      refine (small6_any F R l A c bl ca ps ha fu _).mono ?_
      rintro e w1 ⟨rfl, b1⟩
      clear hx_0 hx_1 hx_2 hx_3 hx_4 hx_5 hx_6 hx_7 hx_f
      rw [decide_eq_true hs]
      replace hx := hx.below b1 hx.lt
      replace hA := rdBo b1 hA
      replace hT := hT.below b1
      replace hB := chain hB b1
      clear b1
      have h2 : decide ((200 : Int) < (s.size : Int)) = false := by simp; omega
      obtain ⟨⟨hx_0, hx_1, hx_2, hx_3, hx_4, hx_5, hx_6, hx_7⟩, hx_f⟩ := id hx
      obtain ⟨t1, ht1⟩ : ∃ t, okPo ⟨F, R, l, bl, 0, -1, 0, 1⟩ = t := ⟨_, rfl⟩
      rcases hq : rdPo s.data.toList with _ | ⟨F', R', l', bl', ca', ps', ha', fu'⟩
      rotate_left
      focus
        obtain ⟨hok', htx'⟩ := text_rd hq
        have hbs' : bsL (posT ⟨F', R', l', bl', ca', ps', ha', fu'⟩) = s := by rw [htx', bsL_of]
        have h2' : ca' < 256 ∧ l'.length ≤ 64 := by
          obtain ⟨_, _, _, _, _, _, _, _, _, _, hc0, _, _, hv0⟩ := okPo_nat hok'
          exact ⟨by simp only at hc0; omega, vbd_64 hv0⟩
        obtain ⟨hca', hl64'⟩ := h2'
        go_wp2_with fail
        refine (HP.out _ hT).mono ?_
        intro e w2 hP
        rw [hq] at hP
        obtain ⟨v', rfl, ho', hb2⟩ := hP
        obtain ⟨A', c', rfl, hcap', hr'⟩ := RdP.own ho'
        have hy := box8 w2 F' R' (.slice A' l'.length c') bl' ca' ps' ha' fu'
        have bx := box1 w2 (.cells #[.int .i64 F', .int .i64 R', .slice A' l'.length c', .bool bl', .int .u8 (ca' : Int), .int .i64 ps', .int .i64 ha', .int .i64 fu'] 26)
        replace hr' := rdBo bx hr'
        replace hB := chain (chain hB hb2) bx
        replace hx := (hx.below hb2 hx.lt).below bx (hx.below hb2 hx.lt).lt
        replace hA := rdBo bx (rdBo hb2 hA)
        replace hT := (hT.below hb2).below bx
        have HT' := Lib.hid (fun W (hT : T6 W) hA => kp_text F' R' l' A' c' bl' ca' ps' ha' fu' hok' s hbs' hcap' W hT hA)
        have HV' := Lib.hid (fun W (hT : T6 W) hA => kp_valid F' R' l' A' c' bl' ca' ps' ha' fu' hok' hca' hl64' hcap' W hT hA)
        clear hx_0 hx_1 hx_2 hx_3 hx_4 hx_5 hx_6 hx_7 hx_f hb2 bx ho' hok' htx' hbs' hca' hl64'
        go_wp2_with fail
        refine (HT'.out _ hT hr').mono ?_
        rintro e w3 ⟨rfl, hb3⟩
        replace hr' := rdBo hb3 hr'
        replace hB := chain hB hb3
        replace hx := hx.below hb3 hx.lt
        replace hy := hy.below hb3 hy.lt
        replace hA := rdBo hb3 hA
        replace hT := hT.below hb3
        clear hb3
        obtain ⟨⟨y0, y1, y2, y3, y4, y5, y6, y7⟩, yf⟩ := id hy
        go_wp2_with fail
        refine (HV'.out _ hT hr').mono ?_
        rintro e w4 ⟨rfl, hb4⟩
        replace hB := chain hB hb4
        replace hx := hx.below hb4 hx.lt
        replace hA := rdBo hb4 hA
        replace hT := hT.below hb4
        clear hb4 hr' y0 y1 y2 y3 y4 y5 y6 y7 yf hy HT' HV' hq
        obtain ⟨W0, rfl⟩ : ∃ W0, W0 = w4 := ⟨_, rfl⟩
        obtain ⟨⟨hx_0, hx_1, hx_2, hx_3, hx_4, hx_5, hx_6, hx_7⟩, hx_f⟩ := id hx
        go_upto_region 8 with fail
      rotate_left
      focus
        go_wp2_with fail
        refine (HP.out _ hT).mono ?_
        intro e w4 hP
        rw [hq] at hP
        obtain ⟨rfl, hb2⟩ := hP
        have bx := box1 w4 (.cells #[.int .i64 0, .int .i64 0, .slice none 0 0, .bool false, .int .u8 0, .int .i64 0, .int .i64 0, .int .i64 0] 26)
        replace hB := chain (chain hB hb2) bx
        replace hx := (hx.below hb2 hx.lt).below bx (hx.below hb2 hx.lt).lt
        replace hA := rdBo bx (rdBo hb2 hA)
        replace hT := (hT.below hb2).below bx
        clear hx_0 hx_1 hx_2 hx_3 hx_4 hx_5 hx_6 hx_7 hx_f hb2 bx hq
        obtain ⟨W0, hW0⟩ : ∃ W0, w4.alloc (.cells #[.int .i64 0, .int .i64 0, .slice none 0 0, .bool false, .int .u8 0, .int .i64 0, .int .i64 0, .int .i64 0] 26) = W0 := ⟨_, rfl⟩
        rw [hW0] at hB hx hA hT
        have HW0 := Lib.hid hW0
        clear hW0
        obtain ⟨⟨hx_0, hx_1, hx_2, hx_3, hx_4, hx_5, hx_6, hx_7⟩, hx_f⟩ := id hx
        go_upto_region 8 with fail
        rw [HW0.out]
        clear HW0
      all_goals
        have hS : (W0.cell? ⟨w.heap.size, 0, none⟩ = some (.int .i64 F) ∧ W0.cell? ⟨w.heap.size, 1, none⟩ = some (.int .i64 R) ∧ W0.cell? ⟨w.heap.size, 2, none⟩ = some (.slice A l.length c) ∧ W0.cell? ⟨w.heap.size, 3, none⟩ = some (.bool bl) ∧ W0.cell? ⟨w.heap.size, 4, none⟩ = some (.int .u8 (ca : Int)) ∧ W0.cell? ⟨w.heap.size, 5, none⟩ = some (.int .i64 ps) ∧ W0.cell? ⟨w.heap.size, 6, none⟩ = some (.int .i64 ha) ∧ W0.cell? ⟨w.heap.size, 7, none⟩ = some (.int .i64 fu)) ∧ S10 W0 W0 A l c := ⟨hx.1, hA, hT, Below.refl _ _⟩
        have CB := Lib.hid (fun W hA => pBoard_any F R l A c bl ca ps ha fu W h100.out hA)
        have CO := Lib.hid (fun A1 c1 W hc hT hA => pOf_any F R l A1 c1 bl W h100.out hc hT hA)
        rw [ht1] at CO
        clear hx_0 hx_1 hx_2 hx_3 hx_4 hx_5 hx_6 hx_7 hx_f
        have hxl := Lib.hid hx.lt
        cases t1 with
        | false =>
          go_cut [9, 10] (fun s9 s10 wx => s10 = .int .i64 2 ∧ Below W0.heap.size W0 wx)
          case first =>
            go_region_held3 (fun w' => (w'.cell? ⟨w.heap.size, 0, none⟩ = some (.int .i64 F) ∧ w'.cell? ⟨w.heap.size, 1, none⟩ = some (.int .i64 R) ∧ w'.cell? ⟨w.heap.size, 2, none⟩ = some (.slice A l.length c) ∧ w'.cell? ⟨w.heap.size, 3, none⟩ = some (.bool bl) ∧ w'.cell? ⟨w.heap.size, 4, none⟩ = some (.int .u8 (ca : Int)) ∧ w'.cell? ⟨w.heap.size, 5, none⟩ = some (.int .i64 ps) ∧ w'.cell? ⟨w.heap.size, 6, none⟩ = some (.int .i64 ha) ∧ w'.cell? ⟨w.heap.size, 7, none⟩ = some (.int .i64 fu)) ∧ S10 W0 w' A l c)
              (first | (simp only [S10.mark]; refine keep10s hS ?_ ?_ _ _ _ _ _ _ _ _ <;> first | (exact S10.bel (by assumption)) | (exact (S10.bel (by assumption)).drew) | exact Nat.le_refl _ | (have e1 := hc1.size; have e2 := hc2.size; simp at e1 e2 ⊢; omega)) | assumption | exact keep10 (by assumption) (by assumption) | exact keep10 (by assumption) ((Below.refl _ _).drew) | exact keep10 (by assumption) (box1 _ _) | exact keep10 (keep10 (keep10 hS ((Below.refl _ _).drew)) hc1) hc2 | exact keep10 (keep10 (keep10 (keep10 hS ((Below.refl _ _).drew)) hc1) hc2) (box1 _ _) | exact keep10 (keep10 (keep10 (keep10 hS ((Below.refl _ _).drew)) hc1) (box1 _ _)) hc2)
              (first
                    | (go_at_call 15; refine (CB.out _ (S10.rd (by assumption))).mono ?_; rintro e u1 ⟨v1, rfl, ho1, hc1⟩; obtain ⟨A1, c1, rfl, hcap1, hr1⟩ := RdP.own ho1; try (first | (have yz1 := zb8d hc1) | (have yz1 := zb8 hc1)); try (obtain ⟨⟨e0, e1, e2, e3, e4, e5, e6, e7⟩, ef⟩ := id yz1))
                    | (go_at_call 16; refine (CO.out A1 c1 _ hcap1 (S10.t6 (by assumption)) (by (first | exact hr1 | exact rdBo (Below.refl _ _).drew hr1 | exact rdBo (box1 _ _) hr1 | exact rdBo (box1 _ _).drew hr1 | exact rdBo (chain (Below.refl _ _).drew (box1 _ _)) hr1))).mono ?_; rintro e u2 ⟨rfl, hc2⟩; try (first | (have yz2 := yz1.below hc2 yz1.lt) | (have yz2 := zb8d hc2) | (have yz2 := zb8 hc2)); try (obtain ⟨⟨e0, e1, e2, e3, e4, e5, e6, e7⟩, ef⟩ := id yz2)))
            all_goals
              go_wp2_with fail
              (conv => arg 2; simp [Act.put])
              go_meet
              case rel => exact ⟨rfl, S10.bel (by assumption)⟩
          case rest =>
            obtain ⟨rfl, hb0⟩ := hcut
            replace hx := hx.below hb0 hx.lt
            replace hA := rdBo hb0 hA
            replace hT := hT.below hb0
            replace hB := chain hB hb0
            clear hb0 CB CO hS
            obtain ⟨W1, rfl⟩ : ∃ W1, W1 = wc := ⟨_, rfl⟩
            go_upto_region 9 with fail
            refine wp_region_quiet_below (by kernel_rfl) (by kernel_rfl) ?_
            repeat (go_big_quiet_step (fail))
            refine wpQuiet_nil ?_
            intro _ hw'
            obtain ⟨⟨dq, osq⟩, hw''⟩ := hw'
            subst hw''
            have bq := below_regrown W1 dq osq
            replace hx := hx.below bq hx.lt
            replace hA := rdBo bq hA
            replace hT := hT.below bq
            replace hB := chain hB bq
            clear bq
            generalize Go.Sort.grow (redrawn W1 dq) osq = W2 at *
            cases hok : okPo ⟨F, R, l, bl, ca, ps, ha, fu⟩ with
            | false =>
              have HVp := Lib.hid (fun W (hT : T6 W) hA => pValid_any F R l A c bl ca ps ha fu hca (show l.length ≤ 100000 by omega) hcap W hT.t5 hT.rts hA)
              rw [hok] at HVp
              obtain ⟨⟨hx_0, hx_1, hx_2, hx_3, hx_4, hx_5, hx_6, hx_7⟩, hx_f⟩ := id hx
              go_wp2_with fail
              refine (HVp.out _ hT hA).mono ?_
              rintro e w1 ⟨rfl, b1⟩
              clear hx_0 hx_1 hx_2 hx_3 hx_4 hx_5 hx_6 hx_7 hx_f
              replace hx := hx.below b1 hx.lt
              replace hA := rdBo b1 hA
              replace hT := hT.below b1
              replace hB := chain hB b1
              clear b1
              obtain ⟨⟨hx_0, hx_1, hx_2, hx_3, hx_4, hx_5, hx_6, hx_7⟩, hx_f⟩ := id hx
              go_wp2_with fail
              refine (HK.out _ hT).mono ?_
              rintro e w2 ⟨rfl, b2⟩
              clear hx_0 hx_1 hx_2 hx_3 hx_4 hx_5 hx_6 hx_7 hx_f
              replace hx := hx.below b2 hx.lt
              replace hA := rdBo b2 hA
              replace hT := hT.below b2
              replace hB := chain hB b2
              clear b2
              go_wp2
              go_ret
              exact ⟨by rfl, hB⟩
            | true =>
              have hl64 : l.length ≤ 64 := by
                obtain ⟨_, _, _, _, _, _, _, _, _, _, _, _, _, hv0⟩ := okPo_nat hok
                exact vbd_64 hv0
              have HVp := Lib.hid (fun W (hT : T6 W) hA => kp_valid F R l A c bl ca ps ha fu hok hca hl64 hcap W hT hA)
              have HPT : Hid (∀ W : World, T6 W → Calls Tryz.prog 27 #[.string (bsL (posT ⟨F, R, l, bl, ca, ps, ha, fu⟩))] W (ParsedQ W (some ⟨F, R, l, bl, ca, ps, ha, fu⟩))) := Lib.hid (fun W hT => by
                have h := HPA (bsL (posT ⟨F, R, l, bl, ca, ps, ha, fu⟩)) (by rw [bsL_size]; exact posT_len hok) W hT
                rw [bsL_toList, rd_text hok] at h
                exact h)
              have HTp := Lib.hid (fun W (hT : T6 W) hA => kp_text F R l A c bl ca ps ha fu hok _ rfl hcap W hT hA)
              have HV1 := Lib.hid (fun A' c' hc' W (hT : T6 W) hA => kp_valid F R l A' c' bl 0 ps ha fu (ok_noCa F R l bl ca ps ha fu hok) (by omega) hl64 hc' W hT hA)
              have HV2 := Lib.hid (fun A' c' hc' W (hT : T6 W) hA => kp_valid F R l A' c' bl 0 (-1) ha fu (ok_noPs F R l bl 0 ps ha fu (ok_noCa F R l bl ca ps ha fu hok)) (by omega) hl64 hc' W hT hA)
              have HE := Lib.hid (fun A' c' W hA' hA => rEqualP_any F R l A' c' bl ca ps ha fu F R l A c bl ca ps ha fu W h100.out hA' hA)
              simp only [poEq_self] at HE
              generalize bsL (posT ⟨F, R, l, bl, ca, ps, ha, fu⟩) = txt at *
              obtain ⟨⟨hx_0, hx_1, hx_2, hx_3, hx_4, hx_5, hx_6, hx_7⟩, hx_f⟩ := id hx
              go_wp2_with fail
              refine (HVp.out _ hT hA).mono ?_
              rintro e w3 ⟨rfl, b3⟩
              clear hx_0 hx_1 hx_2 hx_3 hx_4 hx_5 hx_6 hx_7 hx_f
              replace hx := hx.below b3 hx.lt
              replace hA := rdBo b3 hA
              replace hT := hT.below b3
              replace hB := chain hB b3
              clear b3
              obtain ⟨⟨hx_0, hx_1, hx_2, hx_3, hx_4, hx_5, hx_6, hx_7⟩, hx_f⟩ := id hx
              go_wp2_with fail
              refine (HTp.out _ hT hA).mono ?_
              rintro e w4 ⟨rfl, b4⟩
              clear hx_0 hx_1 hx_2 hx_3 hx_4 hx_5 hx_6 hx_7 hx_f
              replace hx := hx.below b4 hx.lt
              replace hA := rdBo b4 hA
              replace hT := hT.below b4
              replace hB := chain hB b4
              clear b4
              obtain ⟨⟨hx_0, hx_1, hx_2, hx_3, hx_4, hx_5, hx_6, hx_7⟩, hx_f⟩ := id hx
              go_wp2_with fail
              refine (HPT.out _ hT).mono ?_
              rintro e wP ⟨vP, rfl, hoP, bP⟩
              clear hx_0 hx_1 hx_2 hx_3 hx_4 hx_5 hx_6 hx_7 hx_f
              obtain ⟨AP, cP, rfl, hcapP, hrP⟩ := RdP.own hoP
              clear hoP
              replace hx := hx.below bP hx.lt
              replace hA := rdBo bP hA
              replace hT := hT.below bP
              replace hB := chain hB bP
              clear bP
              have bx := box1 wP (.cells #[.int .i64 F, .int .i64 R, (.slice AP l.length cP), .bool bl, .int .u8 (ca : Int), .int .i64 ps, .int .i64 ha, .int .i64 fu] 26)
              have hy := box8 wP F R (.slice AP l.length cP) bl ca ps ha fu
              replace hx := hx.below bx hx.lt
              replace hA := rdBo bx hA
              replace hrP := rdBo bx hrP
              replace hT := hT.below bx
              replace hB := chain hB bx
              clear bx
              obtain ⟨⟨hx_0, hx_1, hx_2, hx_3, hx_4, hx_5, hx_6, hx_7⟩, hx_f⟩ := id hx
              obtain ⟨⟨hy_0, hy_1, hy_2, hy_3, hy_4, hy_5, hy_6, hy_7⟩, hy_f⟩ := id hy
              go_wp2_with fail
              refine (HE.out AP cP _ hrP hA).mono ?_
              rintro e w5 ⟨rfl, b5⟩
              clear hx_0 hx_1 hx_2 hx_3 hx_4 hx_5 hx_6 hx_7 hx_f hy_0 hy_1 hy_2 hy_3 hy_4 hy_5 hy_6 hy_7 hy_f
              replace hx := hx.below b5 hx.lt
              replace hy := hy.below b5 hy.lt
              replace hA := rdBo b5 hA
              replace hrP := rdBo b5 hrP
              replace hT := hT.below b5
              replace hB := chain hB b5
              clear b5
              have sB := Lib.hid hB.size
              obtain ⟨⟨hx_0, hx_1, hx_2, hx_3, hx_4, hx_5, hx_6, hx_7⟩, hx_f⟩ := id hx
              go_wp2_with fail
              refine (rCopyP_any F R l A c bl ca ps ha fu _ h100.out hA).mono ?_
              rintro e w6 ⟨vC, rfl, hoC, b6⟩
              clear hx_0 hx_1 hx_2 hx_3 hx_4 hx_5 hx_6 hx_7 hx_f
              obtain ⟨AC, cC, rfl, hrC, hoC⟩ := own_parts hoC
              have hkC := own_block hoC
              have zC := Lib.hid b6.size
              replace hx := hx.below b6 hx.lt
              replace hy := hy.below b6 hy.lt
              replace hA := rdBo b6 hA
              replace hrP := rdBo b6 hrP
              replace hT := hT.below b6
              replace hB := chain hB b6
              clear b6
              have hcapC : l.length ≤ cC := own_cap hoC
              have sN := Lib.hid hB.size
              have hxl := hx.lt
              clear hy hrP
              have bx := box1 w6 (.cells #[.int .i64 F, .int .i64 R, .slice AC l.length cC, .bool bl, .int .u8 0, .int .i64 ps, .int .i64 ha, .int .i64 fu] 26)
              have hz : Bx8 (w6.alloc (.cells #[.int .i64 F, .int .i64 R, .slice AC l.length cC, .bool bl, .int .u8 0, .int .i64 ps, .int .i64 ha, .int .i64 fu] 26)) w6.heap.size F R (.slice AC l.length cC) bl 0 ps ha fu := box8 w6 F R (.slice AC l.length cC) bl 0 ps ha fu
              replace hx := hx.below bx hx.lt
              replace hA := rdBo bx hA
              replace hrC := rdBo bx hrC
              replace hT := hT.below bx
              replace hB := chain hB bx
              clear bx
              obtain ⟨⟨hx_0, hx_1, hx_2, hx_3, hx_4, hx_5, hx_6, hx_7⟩, hx_f⟩ := id hx
              obtain ⟨⟨hz_0, hz_1, hz_2, hz_3, hz_4, hz_5, hz_6, hz_7⟩, hz_f⟩ := id hz
              go_wp2_with fail
              refine (HV1.out AC cC hcapC _ hT hrC).mono ?_
              rintro e w7 ⟨rfl, b7⟩
              clear hx_0 hx_1 hx_2 hx_3 hx_4 hx_5 hx_6 hx_7 hx_f hz_0 hz_1 hz_2 hz_3 hz_4 hz_5 hz_6 hz_7 hz_f
              replace hx := hx.below b7 hx.lt
              replace hz := hz.below b7 hz.lt
              replace hA := rdBo b7 hA
              replace hrC := rdBo b7 hrC
              replace hT := hT.below b7
              replace hB := chain hB b7
              clear b7
              obtain ⟨⟨r0, r1, r2, r3, r4, r5, r6, r7⟩, rf⟩ := id hz
              replace hx := bx_set (k := 5) (x := .int .i64 (-1)) hx (show w.heap.size ≠ w6.heap.size by omega)
              replace hz := bx_ps hz
              replace hrC := rd_set (k := 5) (x := .int .i64 (-1)) hrC (fun ad had => by have := (hkC ad had).2; show ad.block ≠ w6.heap.size; omega)
              replace hB := hB.setCell (p := ⟨w6.heap.size, 5, none⟩) sN.out (.int .i64 (-1))
              replace hA := rdBo hB HA0.out
              replace hT := hT0.out.below hB
              obtain ⟨⟨hx_0, hx_1, hx_2, hx_3, hx_4, hx_5, hx_6, hx_7⟩, hx_f⟩ := id hx
              obtain ⟨⟨hz_0, hz_1, hz_2, hz_3, hz_4, hz_5, hz_6, hz_7⟩, hz_f⟩ := id hz
              go_wp2_with fail
              refine (HV2.out AC cC hcapC _ hT hrC).mono ?_
              rintro e w8 ⟨rfl, b8⟩
              clear hx_0 hx_1 hx_2 hx_3 hx_4 hx_5 hx_6 hx_7 hx_f hz_0 hz_1 hz_2 hz_3 hz_4 hz_5 hz_6 hz_7 hz_f
              replace hx := hx.below b8 hx.lt
              replace hz := hz.below b8 hz.lt
              replace hA := rdBo b8 hA
              replace hrC := rdBo b8 hrC
              replace hT := hT.below b8
              replace hB := chain hB b8
              clear b8
              go_wp2_with fail
              refine (HK.out _ hT).mono ?_
              rintro e w9 ⟨rfl, b9⟩
              replace hx := hx.below b9 hx.lt
              replace hz := hz.below b9 hz.lt
              replace hA := rdBo b9 hA
              replace hrC := rdBo b9 hrC
              replace hT := hT.below b9
              replace hB := chain hB b9
              clear b9
              go_wp2
              go_ret
              exact ⟨by rfl, hB⟩
        | true =>
          go_cut [9, 10] (fun s9 s10 wx => ∃ (b : Nat) (Aq : Option Addr) (cq : Nat), s9 = .pointer (some ⟨b, 0, none⟩) ∧ s10 = .int .i64 0 ∧ l.length ≤ cq ∧ Bx8 wx b F R (.slice Aq l.length cq) bl 0 (-1) 0 1 ∧ wx.ownsRow W0.heap.size 41 1 (.slice Aq l.length cq) l.length (vpcs l) ∧ Below W0.heap.size W0 wx)
          case first =>
            go_region_held3 (fun w' => (w'.cell? ⟨w.heap.size, 0, none⟩ = some (.int .i64 F) ∧ w'.cell? ⟨w.heap.size, 1, none⟩ = some (.int .i64 R) ∧ w'.cell? ⟨w.heap.size, 2, none⟩ = some (.slice A l.length c) ∧ w'.cell? ⟨w.heap.size, 3, none⟩ = some (.bool bl) ∧ w'.cell? ⟨w.heap.size, 4, none⟩ = some (.int .u8 (ca : Int)) ∧ w'.cell? ⟨w.heap.size, 5, none⟩ = some (.int .i64 ps) ∧ w'.cell? ⟨w.heap.size, 6, none⟩ = some (.int .i64 ha) ∧ w'.cell? ⟨w.heap.size, 7, none⟩ = some (.int .i64 fu)) ∧ S10 W0 w' A l c)
              (first | (simp only [S10.mark]; refine keep10s hS ?_ ?_ _ _ _ _ _ _ _ _ <;> first | (exact S10.bel (by assumption)) | (exact (S10.bel (by assumption)).drew) | exact Nat.le_refl _ | (have e1 := hc1.size; have e2 := hc2.size; simp at e1 e2 ⊢; omega)) | assumption | exact keep10 (by assumption) (by assumption) | exact keep10 (by assumption) ((Below.refl _ _).drew) | exact keep10 (by assumption) (box1 _ _) | exact keep10 (keep10 (keep10 hS ((Below.refl _ _).drew)) hc1) hc2 | exact keep10 (keep10 (keep10 (keep10 hS ((Below.refl _ _).drew)) hc1) hc2) (box1 _ _) | exact keep10 (keep10 (keep10 (keep10 hS ((Below.refl _ _).drew)) hc1) (box1 _ _)) hc2)
              (first
                    | (go_at_call 15; refine (CB.out _ (S10.rd (by assumption))).mono ?_; rintro e u1 ⟨v1, rfl, ho1, hc1⟩; obtain ⟨A1, c1, rfl, hcap1, hr1⟩ := RdP.own ho1; try (first | (have yz1 := zb8d hc1) | (have yz1 := zb8 hc1)); try (obtain ⟨⟨e0, e1, e2, e3, e4, e5, e6, e7⟩, ef⟩ := id yz1))
                    | (go_at_call 16; refine (CO.out A1 c1 _ hcap1 (S10.t6 (by assumption)) (by (first | exact hr1 | exact rdBo (Below.refl _ _).drew hr1 | exact rdBo (box1 _ _) hr1 | exact rdBo (box1 _ _).drew hr1 | exact rdBo (chain (Below.refl _ _).drew (box1 _ _)) hr1))).mono ?_; rintro e u2 ⟨v2, rfl, ho2, hc2⟩; obtain ⟨A2, c2, rfl, hcap2, hr2⟩ := RdP.own ho2; try (first | (have yz2 := yz1.below hc2 yz1.lt) | (have yz2 := zb8d hc2) | (have yz2 := zb8 hc2)); try (obtain ⟨⟨e0, e1, e2, e3, e4, e5, e6, e7⟩, ef⟩ := id yz2)))
            all_goals
              go_wp2_with fail
              (conv => arg 2; simp [Act.put])
              go_meet
              case rel =>
                refine ⟨_, A2, c2, rfl, rfl, hcap2, ?_, ?_, ?_⟩
                · first | (have hh := yz2; exact st8 yz2 _ _ _ _ 0 _ _ _) | exact box8 _ _ _ _ _ 0 _ _ _
                · first | (have hh := yz2; exact (own8 ho2 (by first | (have e1 := hc1.size; simp at e1 ⊢; done) | (have e1 := hc1.size; simp at e1 ⊢; omega)) _ _ _ _ _ _ _ _).mono (by first | (have e1 := hc1.size; simp at e1 ⊢; done) | (have e1 := hc1.size; simp at e1 ⊢; omega))) | exact (own_below ho2 (box1 _ _)).mono (by first | (have e1 := hc1.size; simp at e1 ⊢; done) | (have e1 := hc1.size; simp at e1 ⊢; omega))
                · exact S10.bel (by assumption)
          case rest =>
            obtain ⟨b, Aq, cq, rfl, rfl, hcq, hq, hoq, hb0⟩ := hcut
            have hrq := own_rd hoq
            obtain ⟨W1, rfl⟩ : ∃ W1, W1 = wc := ⟨_, rfl⟩
            replace hx := hx.below hb0 hx.lt
            replace hA := rdBo hb0 hA
            replace hT := hT.below hb0
            replace hB := chain hB hb0
            have hS2 : (W1.cell? ⟨w.heap.size, 0, none⟩ = some (.int .i64 F) ∧ W1.cell? ⟨w.heap.size, 1, none⟩ = some (.int .i64 R) ∧ W1.cell? ⟨w.heap.size, 2, none⟩ = some (.slice A l.length c) ∧ W1.cell? ⟨w.heap.size, 3, none⟩ = some (.bool bl) ∧ W1.cell? ⟨w.heap.size, 4, none⟩ = some (.int .u8 (ca : Int)) ∧ W1.cell? ⟨w.heap.size, 5, none⟩ = some (.int .i64 ps) ∧ W1.cell? ⟨w.heap.size, 6, none⟩ = some (.int .i64 ha) ∧ W1.cell? ⟨w.heap.size, 7, none⟩ = some (.int .i64 fu)) ∧ (W1.cell? ⟨b, 0, none⟩ = some (.int .i64 F) ∧ W1.cell? ⟨b, 1, none⟩ = some (.int .i64 R) ∧ W1.cell? ⟨b, 2, none⟩ = some (.slice Aq l.length cq) ∧ W1.cell? ⟨b, 3, none⟩ = some (.bool bl) ∧ W1.cell? ⟨b, 4, none⟩ = some (.int .u8 0) ∧ W1.cell? ⟨b, 5, none⟩ = some (.int .i64 (-1)) ∧ W1.cell? ⟨b, 6, none⟩ = some (.int .i64 0) ∧ W1.cell? ⟨b, 7, none⟩ = some (.int .i64 1)) ∧ S11 W1 W1 A l c Aq l cq := ⟨hx.1, hq.1, hA, hrq, hT, Below.refl _ _⟩
            have CBq := Lib.hid (fun W hA => pBoard_any F R l Aq cq bl 0 (-1) 0 1 W h100.out hA)
            have COf := Lib.hid (fun W => rOf_any F R l A c bl ca ps ha fu W)
            have CVq := Lib.hid (fun W (hT : T6 W) hA => pValid_any F R l Aq cq bl 0 (-1) 0 1 (by omega) h100.out hcq W hT.t5 hT.rts hA)
            have CSm := Lib.hid (fun A1 c1 W h1 h2 => same_yes F R l A1 A c1 c W h100.out h1 h2)
            rw [ht1] at CVq
            clear hb0 CB CO hS hoq hrq hq
            go_upto_region 9 with fail
            go_cut [78] (fun s78 wx => s78 = .bool false ∧ Below W1.heap.size W1 wx)
            case first =>
              go_region_held3 (fun w' => (w'.cell? ⟨w.heap.size, 0, none⟩ = some (.int .i64 F) ∧ w'.cell? ⟨w.heap.size, 1, none⟩ = some (.int .i64 R) ∧ w'.cell? ⟨w.heap.size, 2, none⟩ = some (.slice A l.length c) ∧ w'.cell? ⟨w.heap.size, 3, none⟩ = some (.bool bl) ∧ w'.cell? ⟨w.heap.size, 4, none⟩ = some (.int .u8 (ca : Int)) ∧ w'.cell? ⟨w.heap.size, 5, none⟩ = some (.int .i64 ps) ∧ w'.cell? ⟨w.heap.size, 6, none⟩ = some (.int .i64 ha) ∧ w'.cell? ⟨w.heap.size, 7, none⟩ = some (.int .i64 fu)) ∧ (w'.cell? ⟨b, 0, none⟩ = some (.int .i64 F) ∧ w'.cell? ⟨b, 1, none⟩ = some (.int .i64 R) ∧ w'.cell? ⟨b, 2, none⟩ = some (.slice Aq l.length cq) ∧ w'.cell? ⟨b, 3, none⟩ = some (.bool bl) ∧ w'.cell? ⟨b, 4, none⟩ = some (.int .u8 0) ∧ w'.cell? ⟨b, 5, none⟩ = some (.int .i64 (-1)) ∧ w'.cell? ⟨b, 6, none⟩ = some (.int .i64 0) ∧ w'.cell? ⟨b, 7, none⟩ = some (.int .i64 1)) ∧ S11 W1 w' A l c Aq l cq)
                (first | assumption | exact keep11 (by assumption) (by assumption) | exact keep11 (by assumption) ((Below.refl _ _).drew))
                (first
                  | (go_at_call 15; refine (CBq.out _ (S11.rd2 (by assumption))).mono ?_; rintro e u1 ⟨v1, rfl, ho1, hc1⟩; obtain ⟨A1, c1, rfl, hcap1, hr1⟩ := RdP.own ho1)
                  | (go_at_call 18; refine (COf.out _).mono ?_; rintro e u2 ⟨rfl, hc2⟩)
                  | (go_at_call 17; refine (CSm.out A1 c1 _ (by first | exact hr1 | exact rdBo (Below.refl _ _).drew hr1 | exact rdBo hc2 hr1 | exact rdBo hc2.drew hr1) (S11.rd (by assumption))).mono ?_; rintro e u3 ⟨rfl, hc3⟩)
                  | (go_at_call 11; refine (CVq.out _ (S11.t6 (by assumption)) (S11.rd2 (by assumption))).mono ?_; rintro e u4 ⟨rfl, hc4⟩))
              all_goals
                go_wp2_with fail
                (conv => arg 2; simp [Act.put])
                go_meet
                case rel => exact ⟨by simp, S11.bel (by assumption)⟩
            case rest =>
              obtain ⟨rfl, hb0⟩ := hcut
              replace hx := hx.below hb0 hx.lt
              replace hA := rdBo hb0 hA
              replace hT := hT.below hb0
              replace hB := chain hB hb0
              clear hb0 CBq COf CVq CSm hS2
              cases hok : okPo ⟨F, R, l, bl, ca, ps, ha, fu⟩ with
              | false =>
                have HVp := Lib.hid (fun W (hT : T6 W) hA => pValid_any F R l A c bl ca ps ha fu hca (show l.length ≤ 100000 by omega) hcap W hT.t5 hT.rts hA)
                rw [hok] at HVp
                obtain ⟨⟨hx_0, hx_1, hx_2, hx_3, hx_4, hx_5, hx_6, hx_7⟩, hx_f⟩ := id hx
                go_wp2_with fail
                refine (HVp.out _ hT hA).mono ?_
                rintro e w1 ⟨rfl, b1⟩
                clear hx_0 hx_1 hx_2 hx_3 hx_4 hx_5 hx_6 hx_7 hx_f
                replace hx := hx.below b1 hx.lt
                replace hA := rdBo b1 hA
                replace hT := hT.below b1
                replace hB := chain hB b1
                clear b1
                obtain ⟨⟨hx_0, hx_1, hx_2, hx_3, hx_4, hx_5, hx_6, hx_7⟩, hx_f⟩ := id hx
                go_wp2_with fail
                refine (HK.out _ hT).mono ?_
                rintro e w2 ⟨rfl, b2⟩
                clear hx_0 hx_1 hx_2 hx_3 hx_4 hx_5 hx_6 hx_7 hx_f
                replace hx := hx.below b2 hx.lt
                replace hA := rdBo b2 hA
                replace hT := hT.below b2
                replace hB := chain hB b2
                clear b2
                go_wp2
                go_ret
                exact ⟨by rfl, hB⟩
              | true =>
                have hl64 : l.length ≤ 64 := by
                  obtain ⟨_, _, _, _, _, _, _, _, _, _, _, _, _, hv0⟩ := okPo_nat hok
                  exact vbd_64 hv0
                have HVp := Lib.hid (fun W (hT : T6 W) hA => kp_valid F R l A c bl ca ps ha fu hok hca hl64 hcap W hT hA)
                have HPT : Hid (∀ W : World, T6 W → Calls Tryz.prog 27 #[.string (bsL (posT ⟨F, R, l, bl, ca, ps, ha, fu⟩))] W (ParsedQ W (some ⟨F, R, l, bl, ca, ps, ha, fu⟩))) := Lib.hid (fun W hT => by
                  have h := HPA (bsL (posT ⟨F, R, l, bl, ca, ps, ha, fu⟩)) (by rw [bsL_size]; exact posT_len hok) W hT
                  rw [bsL_toList, rd_text hok] at h
                  exact h)
                have HTp := Lib.hid (fun W (hT : T6 W) hA => kp_text F R l A c bl ca ps ha fu hok _ rfl hcap W hT hA)
                have HV1 := Lib.hid (fun A' c' hc' W (hT : T6 W) hA => kp_valid F R l A' c' bl 0 ps ha fu (ok_noCa F R l bl ca ps ha fu hok) (by omega) hl64 hc' W hT hA)
                have HV2 := Lib.hid (fun A' c' hc' W (hT : T6 W) hA => kp_valid F R l A' c' bl 0 (-1) ha fu (ok_noPs F R l bl 0 ps ha fu (ok_noCa F R l bl ca ps ha fu hok)) (by omega) hl64 hc' W hT hA)
                have HE := Lib.hid (fun A' c' W hA' hA => rEqualP_any F R l A' c' bl ca ps ha fu F R l A c bl ca ps ha fu W h100.out hA' hA)
                simp only [poEq_self] at HE
                generalize bsL (posT ⟨F, R, l, bl, ca, ps, ha, fu⟩) = txt at *
                obtain ⟨⟨hx_0, hx_1, hx_2, hx_3, hx_4, hx_5, hx_6, hx_7⟩, hx_f⟩ := id hx
                go_wp2_with fail
                refine (HVp.out _ hT hA).mono ?_
                rintro e w3 ⟨rfl, b3⟩
                clear hx_0 hx_1 hx_2 hx_3 hx_4 hx_5 hx_6 hx_7 hx_f
                replace hx := hx.below b3 hx.lt
                replace hA := rdBo b3 hA
                replace hT := hT.below b3
                replace hB := chain hB b3
                clear b3
                obtain ⟨⟨hx_0, hx_1, hx_2, hx_3, hx_4, hx_5, hx_6, hx_7⟩, hx_f⟩ := id hx
                go_wp2_with fail
                refine (HTp.out _ hT hA).mono ?_
                rintro e w4 ⟨rfl, b4⟩
                clear hx_0 hx_1 hx_2 hx_3 hx_4 hx_5 hx_6 hx_7 hx_f
                replace hx := hx.below b4 hx.lt
                replace hA := rdBo b4 hA
                replace hT := hT.below b4
                replace hB := chain hB b4
                clear b4
                obtain ⟨⟨hx_0, hx_1, hx_2, hx_3, hx_4, hx_5, hx_6, hx_7⟩, hx_f⟩ := id hx
                go_wp2_with fail
                refine (HPT.out _ hT).mono ?_
                rintro e wP ⟨vP, rfl, hoP, bP⟩
                clear hx_0 hx_1 hx_2 hx_3 hx_4 hx_5 hx_6 hx_7 hx_f
                obtain ⟨AP, cP, rfl, hcapP, hrP⟩ := RdP.own hoP
                clear hoP
                replace hx := hx.below bP hx.lt
                replace hA := rdBo bP hA
                replace hT := hT.below bP
                replace hB := chain hB bP
                clear bP
                have bx := box1 wP (.cells #[.int .i64 F, .int .i64 R, (.slice AP l.length cP), .bool bl, .int .u8 (ca : Int), .int .i64 ps, .int .i64 ha, .int .i64 fu] 26)
                have hy := box8 wP F R (.slice AP l.length cP) bl ca ps ha fu
                replace hx := hx.below bx hx.lt
                replace hA := rdBo bx hA
                replace hrP := rdBo bx hrP
                replace hT := hT.below bx
                replace hB := chain hB bx
                clear bx
                obtain ⟨⟨hx_0, hx_1, hx_2, hx_3, hx_4, hx_5, hx_6, hx_7⟩, hx_f⟩ := id hx
                obtain ⟨⟨hy_0, hy_1, hy_2, hy_3, hy_4, hy_5, hy_6, hy_7⟩, hy_f⟩ := id hy
                go_wp2_with fail
                refine (HE.out AP cP _ hrP hA).mono ?_
                rintro e w5 ⟨rfl, b5⟩
                clear hx_0 hx_1 hx_2 hx_3 hx_4 hx_5 hx_6 hx_7 hx_f hy_0 hy_1 hy_2 hy_3 hy_4 hy_5 hy_6 hy_7 hy_f
                replace hx := hx.below b5 hx.lt
                replace hy := hy.below b5 hy.lt
                replace hA := rdBo b5 hA
                replace hrP := rdBo b5 hrP
                replace hT := hT.below b5
                replace hB := chain hB b5
                clear b5
                have sB := Lib.hid hB.size
                obtain ⟨⟨hx_0, hx_1, hx_2, hx_3, hx_4, hx_5, hx_6, hx_7⟩, hx_f⟩ := id hx
                go_wp2_with fail
                refine (rCopyP_any F R l A c bl ca ps ha fu _ h100.out hA).mono ?_
                rintro e w6 ⟨vC, rfl, hoC, b6⟩
                clear hx_0 hx_1 hx_2 hx_3 hx_4 hx_5 hx_6 hx_7 hx_f
                obtain ⟨AC, cC, rfl, hrC, hoC⟩ := own_parts hoC
                have hkC := own_block hoC
                have zC := Lib.hid b6.size
                replace hx := hx.below b6 hx.lt
                replace hy := hy.below b6 hy.lt
                replace hA := rdBo b6 hA
                replace hrP := rdBo b6 hrP
                replace hT := hT.below b6
                replace hB := chain hB b6
                clear b6
                have hcapC : l.length ≤ cC := own_cap hoC
                have sN := Lib.hid hB.size
                have hxl := hx.lt
                clear hy hrP
                have bx := box1 w6 (.cells #[.int .i64 F, .int .i64 R, .slice AC l.length cC, .bool bl, .int .u8 0, .int .i64 ps, .int .i64 ha, .int .i64 fu] 26)
                have hz : Bx8 (w6.alloc (.cells #[.int .i64 F, .int .i64 R, .slice AC l.length cC, .bool bl, .int .u8 0, .int .i64 ps, .int .i64 ha, .int .i64 fu] 26)) w6.heap.size F R (.slice AC l.length cC) bl 0 ps ha fu := box8 w6 F R (.slice AC l.length cC) bl 0 ps ha fu
                replace hx := hx.below bx hx.lt
                replace hA := rdBo bx hA
                replace hrC := rdBo bx hrC
                replace hT := hT.below bx
                replace hB := chain hB bx
                clear bx
                obtain ⟨⟨hx_0, hx_1, hx_2, hx_3, hx_4, hx_5, hx_6, hx_7⟩, hx_f⟩ := id hx
                obtain ⟨⟨hz_0, hz_1, hz_2, hz_3, hz_4, hz_5, hz_6, hz_7⟩, hz_f⟩ := id hz
                go_wp2_with fail
                refine (HV1.out AC cC hcapC _ hT hrC).mono ?_
                rintro e w7 ⟨rfl, b7⟩
                clear hx_0 hx_1 hx_2 hx_3 hx_4 hx_5 hx_6 hx_7 hx_f hz_0 hz_1 hz_2 hz_3 hz_4 hz_5 hz_6 hz_7 hz_f
                replace hx := hx.below b7 hx.lt
                replace hz := hz.below b7 hz.lt
                replace hA := rdBo b7 hA
                replace hrC := rdBo b7 hrC
                replace hT := hT.below b7
                replace hB := chain hB b7
                clear b7
                obtain ⟨⟨r0, r1, r2, r3, r4, r5, r6, r7⟩, rf⟩ := id hz
                replace hx := bx_set (k := 5) (x := .int .i64 (-1)) hx (show w.heap.size ≠ w6.heap.size by omega)
                replace hz := bx_ps hz
                replace hrC := rd_set (k := 5) (x := .int .i64 (-1)) hrC (fun ad had => by have := (hkC ad had).2; show ad.block ≠ w6.heap.size; omega)
                replace hB := hB.setCell (p := ⟨w6.heap.size, 5, none⟩) sN.out (.int .i64 (-1))
                replace hA := rdBo hB HA0.out
                replace hT := hT0.out.below hB
                obtain ⟨⟨hx_0, hx_1, hx_2, hx_3, hx_4, hx_5, hx_6, hx_7⟩, hx_f⟩ := id hx
                obtain ⟨⟨hz_0, hz_1, hz_2, hz_3, hz_4, hz_5, hz_6, hz_7⟩, hz_f⟩ := id hz
                go_wp2_with fail
                refine (HV2.out AC cC hcapC _ hT hrC).mono ?_
                rintro e w8 ⟨rfl, b8⟩
                clear hx_0 hx_1 hx_2 hx_3 hx_4 hx_5 hx_6 hx_7 hx_f hz_0 hz_1 hz_2 hz_3 hz_4 hz_5 hz_6 hz_7 hz_f
                replace hx := hx.below b8 hx.lt
                replace hz := hz.below b8 hz.lt
                replace hA := rdBo b8 hA
                replace hrC := rdBo b8 hrC
                replace hT := hT.below b8
                replace hB := chain hB b8
                clear b8
                go_wp2_with fail
                refine (HK.out _ hT).mono ?_
                rintro e w9 ⟨rfl, b9⟩
                replace hx := hx.below b9 hx.lt
                replace hz := hz.below b9 hz.lt
                replace hA := rdBo b9 hA
                replace hrC := rdBo b9 hrC
                replace hT := hT.below b9
                replace hB := chain hB b9
                clear b9
                go_wp2
                go_ret
                exact ⟨by rfl, hB⟩
    · go_enter Tryz.func8, Tryz.ntmps8
      obtain ⟨⟨hx_0, hx_1, hx_2, hx_3, hx_4, hx_5, hx_6, hx_7⟩, hx_f⟩ := id hx
      go_wp2_with fail
      refine (small6_any F R l A c bl ca ps ha fu _).mono ?_
      rintro e w1 ⟨rfl, b1⟩
      clear hx_0 hx_1 hx_2 hx_3 hx_4 hx_5 hx_6 hx_7 hx_f
      rw [decide_eq_true hs]
      replace hx := hx.below b1 hx.lt
      replace hA := rdBo b1 hA
      replace hT := hT.below b1
      replace hB := chain hB b1
      clear b1
      have h2 : decide ((200 : Int) < (s.size : Int)) = true := by simp; omega
      obtain ⟨⟨hx_0, hx_1, hx_2, hx_3, hx_4, hx_5, hx_6, hx_7⟩, hx_f⟩ := id hx
      go_wp2_with fail
      refine (HK.out _ hT).mono ?_
      rintro e w2 ⟨rfl, b2⟩
      clear hx_0 hx_1 hx_2 hx_3 hx_4 hx_5 hx_6 hx_7 hx_f
      replace hx := hx.below b2 hx.lt
      replace hA := rdBo b2 hA
      replace hT := hT.below b2
      replace hB := chain hB b2
      clear b2
      go_wp2
      go_ret
      exact ⟨by rfl, hB⟩
  · go_enter Tryz.func8, Tryz.ntmps8
    obtain ⟨⟨hx_0, hx_1, hx_2, hx_3, hx_4, hx_5, hx_6, hx_7⟩, hx_f⟩ := id hx
    go_wp2_with fail
    refine (small6_any F R l A c bl ca ps ha fu _).mono ?_
    rintro e w1 ⟨rfl, b1⟩
    clear hx_0 hx_1 hx_2 hx_3 hx_4 hx_5 hx_6 hx_7 hx_f
    rw [decide_eq_false hs]
    replace hx := hx.below b1 hx.lt
    replace hA := rdBo b1 hA
    replace hT := hT.below b1
    replace hB := chain hB b1
    clear b1
    obtain ⟨⟨hx_0, hx_1, hx_2, hx_3, hx_4, hx_5, hx_6, hx_7⟩, hx_f⟩ := id hx
    go_wp2_with fail
    refine (HK.out _ hT).mono ?_
    rintro e w2 ⟨rfl, b2⟩
    clear hx_0 hx_1 hx_2 hx_3 hx_4 hx_5 hx_6 hx_7 hx_f
    replace hx := hx.below b2 hx.lt
    replace hA := rdBo b2 hA
    replace hT := hT.below b2
    replace hB := chain hB b2
    clear b2
    go_wp2
    go_ret
    exact ⟨by rfl, hB⟩

end Go.Proofs.YtelkmdklpcfobaaGreatDoor
