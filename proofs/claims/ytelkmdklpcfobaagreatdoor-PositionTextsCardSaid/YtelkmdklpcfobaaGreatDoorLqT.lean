/- The law of texts of positions: it answers true, and changes nothing that lay before; given that the program reads as it should. -/
import Derived.Test.YtelkmdklpcfobaaGreatDoorLqV
import Derived.Test.YtelkmdklpcfobaaGreatDoorPqT
import Derived.Test.YtelkmdklpcfobaaGreatDoorPoG
namespace Go.Proofs.YtelkmdklpcfobaaGreatDoor
open Go.RowKit Go.Sort

set_option maxRecDepth 100000 in
set_option maxHeartbeats 2000000 in
theorem law_ptexts (HPA : PParse) (F R : Int) (l : List Int) (A : Option Addr) (c : Nat) (bl : Bool) (ca : Nat) (ps ha fu : Int) (w : World) (hca : ca < 256) (hcap : l.length ≤ c) (hA : RdP w w.heap.size A l c) (hT : T6 w) :
    Calls Tryz.prog 6 #[.agg #[.int .i64 F, .int .i64 R, .slice A l.length c, .bool bl, .int .u8 (ca : Int), .int .i64 ps, .int .i64 ha, .int .i64 fu]] w fun e w' => e = .returned (.bool true) ∧ Below w.heap.size w w' := by
  have hB := box1 w (.cells #[.int .i64 F, .int .i64 R, .slice A l.length c, .bool bl, .int .u8 (ca : Int), .int .i64 ps, .int .i64 ha, .int .i64 fu] 26)
  have hx := box8 w F R (.slice A l.length c) bl ca ps ha fu
  replace hA := rdBo hB hA
  replace hT := hT.below hB
  have HK := Lib.hid (fun w hT => known6_any HPA w hT)
  by_cases hs : l.length ≤ 70
  · have h100 := Lib.hid (show l.length ≤ 100000 by omega)
    have HR := Lib.hid (fun w hA => rValid_any F R l A c bl ca ps ha fu hca (show l.length ≤ 100000 by omega) w hA)
    cases hok : okPo ⟨F, R, l, bl, ca, ps, ha, fu⟩ with
    | false =>
      rw [hok] at HR
      have HX := Lib.hid (fun w hT hA => pText_no F R l A c bl ca ps ha fu hca h100.out hcap hok w hT hA)
      go_enter Tryz.func6, Tryz.ntmps6
      obtain ⟨⟨hx_0, hx_1, hx_2, hx_3, hx_4, hx_5, hx_6, hx_7⟩, hx_f⟩ := id hx
      go_wp2_with fail
      refine (small6_any F R l A c bl ca ps ha fu _).mono ?_
      rintro e w1 ⟨rfl, b1⟩
      clear hx_0 hx_1 hx_2 hx_3 hx_4 hx_5 hx_6 hx_7 hx_f
      rw [decide_eq_true hs]
      replace hx := hx.below b1 hx.lt
      replace hA := rdBo b1 hA
      replace hT := hT.below b1
      replace hB := chain hB b1
      clear b1
      obtain ⟨⟨hx_0, hx_1, hx_2, hx_3, hx_4, hx_5, hx_6, hx_7⟩, hx_f⟩ := id hx
      go_wp2_with fail
      refine (HX.out _ hT hA).mono ?_
      rintro e w2 ⟨rfl, b2⟩
      clear hx_0 hx_1 hx_2 hx_3 hx_4 hx_5 hx_6 hx_7 hx_f
      replace hx := hx.below b2 hx.lt
      replace hA := rdBo b2 hA
      replace hT := hT.below b2
      replace hB := chain hB b2
      clear b2
      obtain ⟨⟨hx_0, hx_1, hx_2, hx_3, hx_4, hx_5, hx_6, hx_7⟩, hx_f⟩ := id hx
      go_wp2_with fail
      refine (HR.out _ hA).mono ?_
      rintro e w3 ⟨rfl, b3⟩
      clear hx_0 hx_1 hx_2 hx_3 hx_4 hx_5 hx_6 hx_7 hx_f
      replace hx := hx.below b3 hx.lt
      replace hA := rdBo b3 hA
      replace hT := hT.below b3
      replace hB := chain hB b3
      clear b3
      go_wp2_with fail
      refine (HK.out _ hT).mono ?_
      rintro e w4 ⟨rfl, b4⟩
      replace hx := hx.below b4 hx.lt
      replace hA := rdBo b4 hA
      replace hT := hT.below b4
      replace hB := chain hB b4
      clear b4
      go_wp2
      go_ret
      exact ⟨by rfl, hB⟩
    | true =>
      rw [hok] at HR
      have HX := Lib.hid (fun w hT hA => pText_yes F R l A c bl ca ps ha fu hok hcap w hT hA)
      have HD := Lib.hid (fun w hA => rTextP_any F R l A c bl ca ps ha fu hok w hA)
      generalize bsL (posT ⟨F, R, l, bl, ca, ps, ha, fu⟩) = txt at *
      go_enter Tryz.func6, Tryz.ntmps6
      obtain ⟨⟨hx_0, hx_1, hx_2, hx_3, hx_4, hx_5, hx_6, hx_7⟩, hx_f⟩ := id hx
      go_wp2_with fail
      refine (small6_any F R l A c bl ca ps ha fu _).mono ?_
      rintro e w5 ⟨rfl, b5⟩
      clear hx_0 hx_1 hx_2 hx_3 hx_4 hx_5 hx_6 hx_7 hx_f
      rw [decide_eq_true hs]
      replace hx := hx.below b5 hx.lt
      replace hA := rdBo b5 hA
      replace hT := hT.below b5
      replace hB := chain hB b5
      clear b5
      obtain ⟨⟨hx_0, hx_1, hx_2, hx_3, hx_4, hx_5, hx_6, hx_7⟩, hx_f⟩ := id hx
      go_wp2_with fail
      refine (HX.out _ hT hA).mono ?_
      rintro e w6 ⟨rfl, b6⟩
      clear hx_0 hx_1 hx_2 hx_3 hx_4 hx_5 hx_6 hx_7 hx_f
      replace hx := hx.below b6 hx.lt
      replace hA := rdBo b6 hA
      replace hT := hT.below b6
      replace hB := chain hB b6
      clear b6
      obtain ⟨⟨hx_0, hx_1, hx_2, hx_3, hx_4, hx_5, hx_6, hx_7⟩, hx_f⟩ := id hx
      go_wp2_with fail
      refine (HR.out _ hA).mono ?_
      rintro e w7 ⟨rfl, b7⟩
      clear hx_0 hx_1 hx_2 hx_3 hx_4 hx_5 hx_6 hx_7 hx_f
      replace hx := hx.below b7 hx.lt
      replace hA := rdBo b7 hA
      replace hT := hT.below b7
      replace hB := chain hB b7
      clear b7
      obtain ⟨⟨hx_0, hx_1, hx_2, hx_3, hx_4, hx_5, hx_6, hx_7⟩, hx_f⟩ := id hx
      go_wp2_with fail
      refine (HD.out _ hA).mono ?_
      rintro e w8 ⟨rfl, b8⟩
      clear hx_0 hx_1 hx_2 hx_3 hx_4 hx_5 hx_6 hx_7 hx_f
      replace hx := hx.below b8 hx.lt
      replace hA := rdBo b8 hA
      replace hT := hT.below b8
      replace hB := chain hB b8
      clear b8
      go_wp2_with fail
      refine (HK.out _ hT).mono ?_
      rintro e w9 ⟨rfl, b9⟩
      replace hx := hx.below b9 hx.lt
      replace hA := rdBo b9 hA
      replace hT := hT.below b9
      replace hB := chain hB b9
      clear b9
      go_wp2
      go_ret
      exact ⟨by rfl, hB⟩
  · go_enter Tryz.func6, Tryz.ntmps6
    obtain ⟨⟨hx_0, hx_1, hx_2, hx_3, hx_4, hx_5, hx_6, hx_7⟩, hx_f⟩ := id hx
    go_wp2_with fail
    refine (small6_any F R l A c bl ca ps ha fu _).mono ?_
    rintro e w1 ⟨rfl, b1⟩
    clear hx_0 hx_1 hx_2 hx_3 hx_4 hx_5 hx_6 hx_7 hx_f
    rw [decide_eq_false hs]
    replace hx := hx.below b1 hx.lt
    replace hA := rdBo b1 hA
    replace hT := hT.below b1
    replace hB := chain hB b1
    clear b1
    obtain ⟨⟨hx_0, hx_1, hx_2, hx_3, hx_4, hx_5, hx_6, hx_7⟩, hx_f⟩ := id hx
    go_wp2_with fail
    refine (HK.out _ hT).mono ?_
    rintro e w2 ⟨rfl, b2⟩
    clear hx_0 hx_1 hx_2 hx_3 hx_4 hx_5 hx_6 hx_7 hx_f
    replace hx := hx.below b2 hx.lt
    replace hA := rdBo b2 hA
    replace hT := hT.below b2
    replace hB := chain hB b2
    clear b2
    go_wp2
    go_ret
    exact ⟨by rfl, hB⟩

end Go.Proofs.YtelkmdklpcfobaaGreatDoor
