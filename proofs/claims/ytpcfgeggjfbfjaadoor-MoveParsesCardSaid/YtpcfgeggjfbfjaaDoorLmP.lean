/- The law of texts that are read as moves: it answers true, and changes nothing that lay before. -/
import Derived.Test.YtpcfgeggjfbfjaaDoorMwH
import Derived.Test.YtpcfgeggjfbfjaaDoorMrB
namespace Go.Proofs.YtpcfgeggjfbfjaaDoor
open Go.RowKit Go.Sort

theorem rdB_some (a b p : Int) : rdB (some ⟨a, b, p⟩) = .tuple #[.agg #[.int .i64 a, .int .i64 b, .int .i8 p], .bool true] := rfl
theorem rdB_none : rdB none = .tuple #[.agg #[.int .i64 0, .int .i64 0, .int .i8 0], .bool false] := rfl

set_option maxRecDepth 100000 in
set_option maxHeartbeats 2000000 in
theorem law_mparses (F R : Int) (s : ByteArray) (w : World) (hK : Kinds w) :
    Calls Tryd.prog 5 #[.agg #[.int .i64 F, .int .i64 R], .string s] w fun e w' => e = .returned (.bool true) ∧ Below w.heap.size w w' := by
  have H5 := Lib.hid (fun w hK => known7_any w hK)
  have hs := box2 w F R
  have hB := box1 w (.cells #[.int .i64 F, .int .i64 R] 23)
  have hk := hK.1
  replace hK := hK.below hB hk
  clear hk
  by_cases h20 : (s.size : Int) ≤ 20
  · have hn20 : ¬ 20 < (s.size : Int) := by omega
    by_cases hv : vsz F R
    · have H2 := Lib.hid (fun w => refSize_yes F R hv w)
      have H1 := Lib.hid (fun w hK => mvParse_any F R hv s s.data.toList rfl w hK)
      have H3 := Lib.hid (fun w => rmParse_any F R hv s s.data.toList rfl w)
      clear hv
      cases hr : rdM F R s.data.toList with
      | none =>
        rw [hr] at H1 H3
        rw [rdA_none] at H1
        rw [rdB_none] at H3
        clear hr
        go_enter Tryd.func5, Tryd.ntmps5
        obtain ⟨hs_0, hs_1⟩ := id hs
        go_wp2_with fail
        refine (H1.out _ hK).mono ?_
        rintro e w1 ⟨rfl, b1⟩
        clear hs_0 hs_1
        replace hs := hs.below b1 hs.lt
        replace hK := hK.below b1 hK.1
        replace hB := chain hB b1
        clear b1
        have bx := box1 w1 (.cells #[.int .i64 0, .int .i64 0, .int .i8 0] 27)
        have hm := box3 w1 0 0 0
        replace hs := hs.below bx hs.lt
        replace hK := hK.below bx hK.1
        replace hB := chain hB bx
        clear bx
        obtain ⟨hs_0, hs_1⟩ := id hs
        obtain ⟨⟨hm_0, hm_1, hm_2⟩, hm_f⟩ := id hm
        go_wp2_with fail
        refine (H2.out _).mono ?_
        rintro e w2 ⟨rfl, b2⟩
        clear hs_0 hs_1 hm_0 hm_1 hm_2 hm_f
        replace hs := hs.below b2 hs.lt
        replace hm := hm.below b2 hm.lt
        replace hK := hK.below b2 hK.1
        replace hB := chain hB b2
        clear b2
        obtain ⟨hs_0, hs_1⟩ := id hs
        obtain ⟨⟨hm_0, hm_1, hm_2⟩, hm_f⟩ := id hm
        go_wp2_with fail
        refine (H3.out _).mono ?_
        rintro e w3 ⟨rfl, b3⟩
        clear hs_0 hs_1 hm_0 hm_1 hm_2 hm_f
        replace hs := hs.below b3 hs.lt
        replace hm := hm.below b3 hm.lt
        replace hK := hK.below b3 hK.1
        replace hB := chain hB b3
        clear b3
        have bx := box1 w3 (.cells #[.int .i64 0, .int .i64 0, .int .i8 0] 27)
        have hw := box3 w3 0 0 0
        replace hs := hs.below bx hs.lt
        replace hm := hm.below bx hm.lt
        replace hK := hK.below bx hK.1
        replace hB := chain hB bx
        clear bx
        obtain ⟨hs_0, hs_1⟩ := id hs
        obtain ⟨⟨hm_0, hm_1, hm_2⟩, hm_f⟩ := id hm
        obtain ⟨⟨hw_0, hw_1, hw_2⟩, hw_f⟩ := id hw
        go_wp2_with fail
        refine (H5.out _ hK).mono ?_
        rintro e w4 ⟨rfl, b4⟩
        clear hs_0 hs_1 hm_0 hm_1 hm_2 hm_f hw_0 hw_1 hw_2 hw_f
        replace hs := hs.below b4 hs.lt
        replace hm := hm.below b4 hm.lt
        replace hw := hw.below b4 hw.lt
        replace hK := hK.below b4 hK.1
        replace hB := chain hB b4
        clear b4
        obtain ⟨hs_0, hs_1⟩ := id hs
        obtain ⟨⟨hm_0, hm_1, hm_2⟩, hm_f⟩ := id hm
        obtain ⟨⟨hw_0, hw_1, hw_2⟩, hw_f⟩ := id hw
        go_wp2
        go_ret
        exact ⟨by rfl, hB⟩
      | some m =>
        obtain ⟨a, b, p⟩ := m
        rw [hr] at H1 H3
        rw [rdA_some] at H1
        rw [rdB_some] at H3
        clear hr
        go_enter Tryd.func5, Tryd.ntmps5
        obtain ⟨hs_0, hs_1⟩ := id hs
        go_wp2_with fail
        refine (H1.out _ hK).mono ?_
        rintro e w1 ⟨rfl, b1⟩
        clear hs_0 hs_1
        replace hs := hs.below b1 hs.lt
        replace hK := hK.below b1 hK.1
        replace hB := chain hB b1
        clear b1
        have bx := box1 w1 (.cells #[.int .i64 a, .int .i64 b, .int .i8 p] 27)
        have hm := box3 w1 a b p
        replace hs := hs.below bx hs.lt
        replace hK := hK.below bx hK.1
        replace hB := chain hB bx
        clear bx
        obtain ⟨hs_0, hs_1⟩ := id hs
        obtain ⟨⟨hm_0, hm_1, hm_2⟩, hm_f⟩ := id hm
        go_wp2_with fail
        refine (H2.out _).mono ?_
        rintro e w2 ⟨rfl, b2⟩
        clear hs_0 hs_1 hm_0 hm_1 hm_2 hm_f
        replace hs := hs.below b2 hs.lt
        replace hm := hm.below b2 hm.lt
        replace hK := hK.below b2 hK.1
        replace hB := chain hB b2
        clear b2
        obtain ⟨hs_0, hs_1⟩ := id hs
        obtain ⟨⟨hm_0, hm_1, hm_2⟩, hm_f⟩ := id hm
        go_wp2_with fail
        refine (H3.out _).mono ?_
        rintro e w3 ⟨rfl, b3⟩
        clear hs_0 hs_1 hm_0 hm_1 hm_2 hm_f
        replace hs := hs.below b3 hs.lt
        replace hm := hm.below b3 hm.lt
        replace hK := hK.below b3 hK.1
        replace hB := chain hB b3
        clear b3
        have bx := box1 w3 (.cells #[.int .i64 a, .int .i64 b, .int .i8 p] 27)
        have hw := box3 w3 a b p
        replace hs := hs.below bx hs.lt
        replace hm := hm.below bx hm.lt
        replace hK := hK.below bx hK.1
        replace hB := chain hB bx
        clear bx
        obtain ⟨hs_0, hs_1⟩ := id hs
        obtain ⟨⟨hm_0, hm_1, hm_2⟩, hm_f⟩ := id hm
        obtain ⟨⟨hw_0, hw_1, hw_2⟩, hw_f⟩ := id hw
        go_wp2_with fail
        refine (H5.out _ hK).mono ?_
        rintro e w4 ⟨rfl, b4⟩
        clear hs_0 hs_1 hm_0 hm_1 hm_2 hm_f hw_0 hw_1 hw_2 hw_f
        replace hs := hs.below b4 hs.lt
        replace hm := hm.below b4 hm.lt
        replace hw := hw.below b4 hw.lt
        replace hK := hK.below b4 hK.1
        replace hB := chain hB b4
        clear b4
        obtain ⟨hs_0, hs_1⟩ := id hs
        obtain ⟨⟨hm_0, hm_1, hm_2⟩, hm_f⟩ := id hm
        obtain ⟨⟨hw_0, hw_1, hw_2⟩, hw_f⟩ := id hw
        go_wp2
        go_ret
        exact ⟨by rfl, hB⟩
    · have H2 := Lib.hid (fun w => refSize_no F R hv w)
      have H1 := Lib.hid (fun w (_ : Kinds w) => mvParse_off F R hv s w)
      clear hv
      go_enter Tryd.func5, Tryd.ntmps5
      obtain ⟨hs_0, hs_1⟩ := id hs
      go_wp2_with fail
      refine (H1.out _ hK).mono ?_
      rintro e w1 ⟨rfl, b1⟩
      clear hs_0 hs_1
      replace hs := hs.below b1 hs.lt
      replace hK := hK.below b1 hK.1
      replace hB := chain hB b1
      clear b1
      have bx := box1 w1 (.cells #[.int .i64 0, .int .i64 0, .int .i8 0] 27)
      have hm := box3 w1 0 0 0
      replace hs := hs.below bx hs.lt
      replace hK := hK.below bx hK.1
      replace hB := chain hB bx
      clear bx
      obtain ⟨hs_0, hs_1⟩ := id hs
      obtain ⟨⟨hm_0, hm_1, hm_2⟩, hm_f⟩ := id hm
      go_wp2_with fail
      refine (H2.out _).mono ?_
      rintro e w2 ⟨rfl, b2⟩
      clear hs_0 hs_1 hm_0 hm_1 hm_2 hm_f
      replace hs := hs.below b2 hs.lt
      replace hm := hm.below b2 hm.lt
      replace hK := hK.below b2 hK.1
      replace hB := chain hB b2
      clear b2
      obtain ⟨hs_0, hs_1⟩ := id hs
      obtain ⟨⟨hm_0, hm_1, hm_2⟩, hm_f⟩ := id hm
      go_wp2_with fail
      refine (H5.out _ hK).mono ?_
      rintro e w3 ⟨rfl, b3⟩
      clear hs_0 hs_1 hm_0 hm_1 hm_2 hm_f
      replace hs := hs.below b3 hs.lt
      replace hm := hm.below b3 hm.lt
      replace hK := hK.below b3 hK.1
      replace hB := chain hB b3
      clear b3
      obtain ⟨hs_0, hs_1⟩ := id hs
      obtain ⟨⟨hm_0, hm_1, hm_2⟩, hm_f⟩ := id hm
      go_wp2
      go_ret
      exact ⟨by rfl, hB⟩
  · have hn20 : 20 < (s.size : Int) := by omega
    go_enter Tryd.func5, Tryd.ntmps5
    obtain ⟨hs_0, hs_1⟩ := id hs
    go_wp2_with fail
    refine (H5.out _ hK).mono ?_
    rintro e w1 ⟨rfl, b1⟩
    clear hs_0 hs_1
    replace hs := hs.below b1 hs.lt
    replace hK := hK.below b1 hK.1
    replace hB := chain hB b1
    clear b1
    obtain ⟨hs_0, hs_1⟩ := id hs
    go_wp2
    go_ret
    exact ⟨by rfl, hB⟩

end Go.Proofs.YtpcfgeggjfbfjaaDoor
