/- The laws of valid moves and of their order, and of texts of moves: they answer true, and change nothing that lay before. -/
import Derived.Test.YtpcfgeggjfbfjaaDoorMwH
import Derived.Test.YtpcfgeggjfbfjaaDoorMrA
namespace Go.Proofs.YtpcfgeggjfbfjaaDoor
open Go.RowKit Go.Sort

set_option maxRecDepth 100000 in
set_option maxHeartbeats 2000000 in
theorem law_mvalid (F R a b c x y z : Int) (hc0 : -128 ≤ c) (hc1 : c ≤ 127) (hz0 : -128 ≤ z) (hz1 : z ≤ 127) (w : World) (hK : Kinds w) :
    Calls Tryd.prog 3 #[.agg #[.int .i64 F, .int .i64 R], .agg #[.int .i64 a, .int .i64 b, .int .i8 c], .agg #[.int .i64 x, .int .i64 y, .int .i8 z]] w fun e w' => e = .returned (.bool true) ∧ Below w.heap.size w w' := by
  obtain ⟨t, ht⟩ := bool_is (okM F R ⟨a, b, c⟩)
  have H1 := Lib.hid (fun w => mvValid_any F R a b c t ht w)
  have H2 := Lib.hid (fun w => rmValid_any F R a b c t ht w)
  have H3 := Lib.hid (fun w => mvCmp_any a b c x y z w)
  have H4 := Lib.hid (fun w => rmCmp_any a b c x y z hc0 hc1 hz0 hz1 w)
  have H5 := Lib.hid (fun w hK => known7_any w hK)
  generalize cmpM ⟨a, b, c⟩ ⟨x, y, z⟩ = v at *
  have hs := box2 w F R
  have ha := box3 (w.alloc (.cells #[.int .i64 F, .int .i64 R] 23)) a b c
  have hb := box3 ((w.alloc (.cells #[.int .i64 F, .int .i64 R] 23)).alloc (.cells #[.int .i64 a, .int .i64 b, .int .i8 c] 27)) x y z
  rw [World.size_alloc] at ha
  rw [World.size_alloc, World.size_alloc] at hb
  have b0 := box1 w (.cells #[.int .i64 F, .int .i64 R] 23)
  have b1 := box1 (w.alloc (.cells #[.int .i64 F, .int .i64 R] 23)) (.cells #[.int .i64 a, .int .i64 b, .int .i8 c] 27)
  have b2 := box1 ((w.alloc (.cells #[.int .i64 F, .int .i64 R] 23)).alloc (.cells #[.int .i64 a, .int .i64 b, .int .i8 c] 27)) (.cells #[.int .i64 x, .int .i64 y, .int .i8 z] 27)
  replace hs := (hs.below b1 hs.lt).below b2 (hs.below b1 hs.lt).lt
  replace ha := ha.below b2 ha.lt
  have hB := chain (chain b0 b1) b2
  have hk := hK.1
  replace hK := hK.below hB hk
  clear b0 b1 b2 hk ht hc0 hc1 hz0 hz1
  go_enter Tryd.func3, Tryd.ntmps3
  obtain ⟨s0, s1⟩ := id hs
  obtain ⟨⟨a0, a1, a2⟩, af⟩ := id ha
  obtain ⟨⟨e0, e1, e2⟩, ef⟩ := id hb
  go_wp2_with fail
  generalize hV : ((w.alloc (.cells #[.int .i64 F, .int .i64 R] 23)).alloc (.cells #[.int .i64 a, .int .i64 b, .int .i8 c] 27)).alloc (.cells #[.int .i64 x, .int .i64 y, .int .i8 z] 27) = V at *
  have q0 := cell_regrown s0
  have q1 := cell_regrown s1
  have q2 := cell_regrown a0
  have q3 := cell_regrown a1
  have q4 := cell_regrown a2
  have q5 := cell_regrown e0
  have q6 := cell_regrown e1
  have q7 := cell_regrown e2
  have c1 := Lib.hid (fun d os => Calls.regrown_of (H1.out (grow (redrawn V d) os)))
  have c2 := Lib.hid (fun d os => Calls.regrown_of (H2.out (grow (redrawn V d) os)))
  have c3 := Lib.hid (fun d os => Calls.regrown_of (H3.out (grow (redrawn V d) os)))
  have c4 := Lib.hid (fun d os => Calls.regrown_of (H4.out (grow (redrawn V d) os)))
  have c5 := Lib.hid (fun d os => Calls.regrown_of (H5.out (grow (redrawn V d) os) (hK.below (below_regrown V d os) hK.1)))
  have ett : (t == t) = true := by simp
  have evv : (v == v) = true := by simp
  clear hK
  refine wp_region_quiet_below (by kernel_rfl) (by kernel_rfl) ?_
  repeat (go_big_quiet_step (first | (go_at_call 9; exact c1.out _ _) | (go_at_call 10; exact c2.out _ _) | (go_at_call 11; exact c3.out _ _) | (go_at_call 12; exact c4.out _ _) | (go_at_call 13; exact c5.out _ _)))
  refine wpQuiet_nil ?_
  intro _ hw'
  obtain ⟨⟨dq, osq⟩, hw''⟩ := hw'
  subst hw''
  have bq := below_regrown V dq osq
  replace hB := chain hB bq
  clear c1 c2 c3 c4 c5 q0 q1 q2 q3 q4 q5 q6 q7
  go_wp2
  go_ret
  exact ⟨by rfl, hB⟩

end Go.Proofs.YtpcfgeggjfbfjaaDoor
