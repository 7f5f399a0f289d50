/- The law of texts of moves: it answers true, and changes nothing that lay before. -/
import Derived.Test.YtpcfgeggjfbfjaaDoorMwH
import Derived.Test.YtpcfgeggjfbfjaaDoorMrA
namespace Go.Proofs.YtpcfgeggjfbfjaaDoor
open Go.RowKit Go.Sort

set_option maxRecDepth 100000 in
set_option maxHeartbeats 2000000 in
theorem law_mtexts (F R x y p : Int) (w : World) (hK : Kinds w) :
    Calls Tryd.prog 4 #[.agg #[.int .i64 F, .int .i64 R], .agg #[.int .i64 x, .int .i64 y, .int .i8 p]] w fun e w' => e = .returned (.bool true) ∧ Below w.heap.size w w' := by
  have H5 := Lib.hid (fun w hK => known7_any w hK)
  have hs := box2 w F R
  have hm := box3 (w.alloc (.cells #[.int .i64 F, .int .i64 R] 23)) x y p
  rw [World.size_alloc] at hm
  have b0 := box1 w (.cells #[.int .i64 F, .int .i64 R] 23)
  have b1 := box1 (w.alloc (.cells #[.int .i64 F, .int .i64 R] 23)) (.cells #[.int .i64 x, .int .i64 y, .int .i8 p] 27)
  replace hs := hs.below b1 hs.lt
  have hB := chain b0 b1
  have hk := hK.1
  replace hK := hK.below hB hk
  clear b0 b1 hk
  by_cases hok : okM F R ⟨x, y, p⟩
  · have H1 := Lib.hid (fun w hK => mvText_yes F R x y p hok w hK)
    have H2 := Lib.hid (fun w => rmValid_any F R x y p true (by simp [hok]) w)
    have H3 := Lib.hid (fun w => rmText_any F R x y p hok w)
    clear hok
    generalize bsL (mvT F ⟨x, y, p⟩) = tx at *
    go_enter Tryd.func4, Tryd.ntmps4
    obtain ⟨s0, s1⟩ := id hs
    obtain ⟨⟨m0, m1, m2⟩, mf⟩ := id hm
    go_wp2_with fail
    refine (H1.out _ hK).mono ?_
    rintro e w1 ⟨rfl, b1⟩
    clear s0 s1 m0 m1 m2 mf
    replace hs := hs.below b1 hs.lt
    replace hm := hm.below b1 hm.lt
    replace hK := hK.below b1 hK.1
    replace hB := chain hB b1
    clear b1
    obtain ⟨s0, s1⟩ := id hs
    obtain ⟨⟨m0, m1, m2⟩, mf⟩ := id hm
    go_wp2_with fail
    refine (H2.out _).mono ?_
    rintro e w2 ⟨rfl, b2⟩
    clear s0 s1 m0 m1 m2 mf
    replace hs := hs.below b2 hs.lt
    replace hm := hm.below b2 hm.lt
    replace hK := hK.below b2 hK.1
    replace hB := chain hB b2
    clear b2
    obtain ⟨s0, s1⟩ := id hs
    obtain ⟨⟨m0, m1, m2⟩, mf⟩ := id hm
    go_wp2_with fail
    refine (H3.out _).mono ?_
    rintro e w3 ⟨rfl, b3⟩
    clear s0 s1 m0 m1 m2 mf
    replace hK := hK.below b3 hK.1
    replace hB := chain hB b3
    clear b3
    have htt : (tx.toList == tx.toList) = true := by simp
    go_wp2_with fail
    refine (H5.out _ hK).mono ?_
    rintro e w4 ⟨rfl, b4⟩
    replace hB := chain hB b4
    clear b4
    go_wp2
    go_ret
    exact ⟨by rfl, hB⟩
  · have H1 := Lib.hid (fun w => mvText_no F R x y p hok w)
    have H2 := Lib.hid (fun w => rmValid_any F R x y p false (by simp [hok]) w)
    clear hok
    go_enter Tryd.func4, Tryd.ntmps4
    obtain ⟨s0, s1⟩ := id hs
    obtain ⟨⟨m0, m1, m2⟩, mf⟩ := id hm
    go_wp2_with fail
    refine (H1.out _).mono ?_
    rintro e w1 ⟨rfl, b1⟩
    clear s0 s1 m0 m1 m2 mf
    replace hs := hs.below b1 hs.lt
    replace hm := hm.below b1 hm.lt
    replace hK := hK.below b1 hK.1
    replace hB := chain hB b1
    clear b1
    obtain ⟨s0, s1⟩ := id hs
    obtain ⟨⟨m0, m1, m2⟩, mf⟩ := id hm
    go_wp2_with fail
    refine (H2.out _).mono ?_
    rintro e w2 ⟨rfl, b2⟩
    clear s0 s1 m0 m1 m2 mf
    replace hK := hK.below b2 hK.1
    replace hB := chain hB b2
    clear b2
    go_wp2_with fail
    refine (H5.out _ hK).mono ?_
    rintro e w3 ⟨rfl, b3⟩
    replace hB := chain hB b3
    clear b3
    go_wp2
    go_ret
    exact ⟨by rfl, hB⟩

end Go.Proofs.YtpcfgeggjfbfjaaDoor
