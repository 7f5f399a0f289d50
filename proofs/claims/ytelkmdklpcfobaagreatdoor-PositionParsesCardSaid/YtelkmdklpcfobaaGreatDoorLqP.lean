/- The law of texts that are read as positions: it answers true, and changes nothing that lay before; given that the program reads as it should. -/
import Derived.Test.YtelkmdklpcfobaaGreatDoorLqV
import Derived.Test.YtelkmdklpcfobaaGreatDoorPqR
import Derived.Test.YtelkmdklpcfobaaGreatDoorLqE
namespace Go.Proofs.YtelkmdklpcfobaaGreatDoor
open Go.RowKit Go.Sort

theorem eqZ_any (w : World) : Calls Tryz.prog 20 #[.agg #[.int .i64 0, .int .i64 0, .slice none 0 0, .bool false, .int .u8 0, .int .i64 0, .int .i64 0, .int .i64 0], .agg #[.int .i64 0, .int .i64 0, .slice none 0 0, .bool false, .int .u8 0, .int .i64 0, .int .i64 0, .int .i64 0]] w fun e w' => e = .returned (.bool true) ∧ Below w.heap.size w w' := by
  have h := rEqualP_any 0 0 [] none 0 false 0 0 0 0 0 0 [] none 0 false 0 0 0 0 w (by simp) (rd_nil _ _) (rd_nil _ _)
  rw [poEq_self] at h
  exact h

set_option maxRecDepth 100000 in
set_option maxHeartbeats 4000000 in
theorem law_pparses (HPA : PParse) (s : ByteArray) (w : World) (hT : T6 w) :
    Calls Tryz.prog 7 #[.string s] w fun e w' => e = .returned (.bool true) ∧ Below w.heap.size w w' := by
  have hB := Below.refl w.heap.size w
  have HK := Lib.hid (fun w hT => known6_any HPA w hT)
  by_cases hs2 : s.size ≤ 200
  · have HP := Lib.hid (fun w hT => HPA s hs2 w hT)
    have HD := Lib.hid (fun w => rParseP_any s hs2 w)
    have h2 : decide ((200 : Int) < (s.size : Int)) = false := by simp; omega
    rcases hq : rdPo s.data.toList with _ | ⟨F, R, l, bl, ca, ps, ha, fu⟩
    · rw [hq] at HP HD
      go_enter Tryz.func7, Tryz.ntmps7
      go_wp2_with fail
      refine (HP.out _ hT).mono ?_
      intro e w1 hP
      obtain ⟨rfl, b1⟩ := hP
      replace hT := hT.below b1
      replace hB := chain hB b1
      clear b1
      have hx : Bx8 (w1.alloc (.cells #[.int .i64 0, .int .i64 0, .slice none 0 0, .bool false, .int .u8 0, .int .i64 0, .int .i64 0, .int .i64 0] 26)) w1.heap.size 0 0 (.slice none 0 0) false 0 0 0 0 := box8 w1 0 0 (.slice none 0 0) false 0 0 0 0
      have bx := box1 w1 (.cells #[.int .i64 0, .int .i64 0, .slice none 0 0, .bool false, .int .u8 0, .int .i64 0, .int .i64 0, .int .i64 0] 26)
      replace hT := hT.below bx
      replace hB := chain hB bx
      clear bx
      go_wp2_with fail
      refine (HD.out _).mono ?_
      intro e w2 hP
      obtain ⟨rfl, b2⟩ := hP
      replace hx := hx.below b2 hx.lt
      replace hT := hT.below b2
      replace hB := chain hB b2
      clear b2
      have hy : Bx8 (w2.alloc (.cells #[.int .i64 0, .int .i64 0, .slice none 0 0, .bool false, .int .u8 0, .int .i64 0, .int .i64 0, .int .i64 0] 26)) w2.heap.size 0 0 (.slice none 0 0) false 0 0 0 0 := box8 w2 0 0 (.slice none 0 0) false 0 0 0 0
      have bx := box1 w2 (.cells #[.int .i64 0, .int .i64 0, .slice none 0 0, .bool false, .int .u8 0, .int .i64 0, .int .i64 0, .int .i64 0] 26)
      replace hx := hx.below bx hx.lt
      replace hT := hT.below bx
      replace hB := chain hB bx
      clear bx
      obtain ⟨⟨hx_0, hx_1, hx_2, hx_3, hx_4, hx_5, hx_6, hx_7⟩, hx_f⟩ := id hx
      obtain ⟨⟨hy_0, hy_1, hy_2, hy_3, hy_4, hy_5, hy_6, hy_7⟩, hy_f⟩ := id hy
      go_wp2_with fail
      refine (eqZ_any _).mono ?_
      rintro e w3 ⟨rfl, b3⟩
      clear hx_0 hx_1 hx_2 hx_3 hx_4 hx_5 hx_6 hx_7 hx_f hy_0 hy_1 hy_2 hy_3 hy_4 hy_5 hy_6 hy_7 hy_f
      replace hx := hx.below b3 hx.lt
      replace hy := hy.below b3 hy.lt
      replace hT := hT.below b3
      replace hB := chain hB b3
      clear b3
      go_wp2_with fail
      refine (HK.out _ hT).mono ?_
      rintro e w4 ⟨rfl, b4⟩
      replace hx := hx.below b4 hx.lt
      replace hy := hy.below b4 hy.lt
      replace hT := hT.below b4
      replace hB := chain hB b4
      clear b4
      go_wp2
      go_ret
      exact ⟨by rfl, hB⟩
    · rw [hq] at HP HD
      have hok := (text_rd hq).1
      have hl64 : l.length ≤ 64 := by
        obtain ⟨_, _, _, _, _, _, _, _, _, _, _, _, _, hv0⟩ := okPo_nat hok
        exact vbd_64 hv0
      clear hok
      go_enter Tryz.func7, Tryz.ntmps7
      go_wp2_with fail
      refine (HP.out _ hT).mono ?_
      rintro e w1 ⟨v1, rfl, ho1, b1⟩
      obtain ⟨A1, c1, rfl, hc1, hr1⟩ := RdP.own ho1
      clear ho1
      replace hT := hT.below b1
      replace hB := chain hB b1
      clear b1
      have bx := box1 w1 (.cells #[.int .i64 F, .int .i64 R, (.slice A1 l.length c1), .bool bl, .int .u8 (ca : Int), .int .i64 ps, .int .i64 ha, .int .i64 fu] 26)
      have hx := box8 w1 F R (.slice A1 l.length c1) bl ca ps ha fu
      replace hr1 := rdBo bx hr1
      replace hT := hT.below bx
      replace hB := chain hB bx
      clear bx
      obtain ⟨⟨hx_0, hx_1, hx_2, hx_3, hx_4, hx_5, hx_6, hx_7⟩, hx_f⟩ := id hx
      go_wp2_with fail
      refine (HD.out _).mono ?_
      rintro e w2 ⟨v2, rfl, ho2, b2⟩
      clear hx_0 hx_1 hx_2 hx_3 hx_4 hx_5 hx_6 hx_7 hx_f
      obtain ⟨A2, c2, rfl, hc2, hr2⟩ := RdP.own ho2
      clear ho2
      replace hx := hx.below b2 hx.lt
      replace hr1 := rdBo b2 hr1
      replace hT := hT.below b2
      replace hB := chain hB b2
      clear b2
      have bx := box1 w2 (.cells #[.int .i64 F, .int .i64 R, (.slice A2 l.length c2), .bool bl, .int .u8 (ca : Int), .int .i64 ps, .int .i64 ha, .int .i64 fu] 26)
      have hy := box8 w2 F R (.slice A2 l.length c2) bl ca ps ha fu
      replace hx := hx.below bx hx.lt
      replace hr1 := rdBo bx hr1
      replace hr2 := rdBo bx hr2
      replace hT := hT.below bx
      replace hB := chain hB bx
      clear bx
      have HE := Lib.hid (fun W h1 h2 => rEqualP_any F R l A1 c1 bl ca ps ha fu F R l A2 c2 bl ca ps ha fu W (show l.length ≤ 100000 by omega) h1 h2)
      simp only [poEq_self] at HE
      obtain ⟨⟨hx_0, hx_1, hx_2, hx_3, hx_4, hx_5, hx_6, hx_7⟩, hx_f⟩ := id hx
      obtain ⟨⟨hy_0, hy_1, hy_2, hy_3, hy_4, hy_5, hy_6, hy_7⟩, hy_f⟩ := id hy
      go_wp2_with fail
      refine (HE.out _ hr1 hr2).mono ?_
      rintro e w4 ⟨rfl, b4⟩
      clear hx_0 hx_1 hx_2 hx_3 hx_4 hx_5 hx_6 hx_7 hx_f hy_0 hy_1 hy_2 hy_3 hy_4 hy_5 hy_6 hy_7 hy_f
      replace hx := hx.below b4 hx.lt
      replace hy := hy.below b4 hy.lt
      replace hr1 := rdBo b4 hr1
      replace hr2 := rdBo b4 hr2
      replace hT := hT.below b4
      replace hB := chain hB b4
      clear b4
      go_wp2_with fail
      refine (HK.out _ hT).mono ?_
      rintro e w5 ⟨rfl, b5⟩
      replace hx := hx.below b5 hx.lt
      replace hy := hy.below b5 hy.lt
      replace hr1 := rdBo b5 hr1
      replace hr2 := rdBo b5 hr2
      replace hT := hT.below b5
      replace hB := chain hB b5
      clear b5
      go_wp2
      go_ret
      exact ⟨by rfl, hB⟩
  · have h2 : decide ((200 : Int) < (s.size : Int)) = true := by simp; omega
    go_enter Tryz.func7, Tryz.ntmps7
    go_wp2_with fail
    refine (HK.out _ hT).mono ?_
    rintro e w1 ⟨rfl, b1⟩
    replace hT := hT.below b1
    replace hB := chain hB b1
    clear b1
    go_wp2
    go_ret
    exact ⟨by rfl, hB⟩

end Go.Proofs.YtelkmdklpcfobaaGreatDoor
