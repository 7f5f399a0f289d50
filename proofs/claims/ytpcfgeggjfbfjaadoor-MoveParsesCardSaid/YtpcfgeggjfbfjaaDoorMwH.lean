/- Moves, by the program: wrong sizes, and the chapter's examples. -/
import Derived.Test.YtpcfgeggjfbfjaaDoorMwF
import Derived.Test.YtpcfgeggjfbfjaaDoorMwG
namespace Go.Proofs.YtpcfgeggjfbfjaaDoor
open Go.RowKit Go.Sort

set_option maxRecDepth 100000 in
set_option maxHeartbeats 2000000 in
theorem mvParse_off (F R : Int) (hv : ¬ vsz F R) (s : ByteArray) (w : World) :
    Calls Tryd.prog 16 #[.agg #[.int .i64 F, .int .i64 R], .string s] w fun e w' => e = .returned (.tuple #[.agg #[.int .i64 0, .int .i64 0, .int .i8 0], .int .i64 2]) ∧ Below w.heap.size w w' := by
  have hr := box3 (w.alloc (.cells #[.int .i64 F, .int .i64 R] 23)) 0 0 0
  rw [World.size_alloc] at hr
  have b0 := box1 w (.cells #[.int .i64 F, .int .i64 R] 23)
  have b1 := box1 (w.alloc (.cells #[.int .i64 F, .int .i64 R] 23)) (.cells #[.int .i64 0, .int .i64 0, .int .i8 0] 27)
  have hB := chain b0 b1
  clear b0 b1
  have HV := Lib.hid (fun w => validSize_no F R hv w)
  clear hv
  go_enter Tryd.func16, Tryd.ntmps16
  go_wp2_with fail
  refine (HV.out _).mono ?_
  rintro e w1 ⟨rfl, b1⟩
  replace hr := hr.below b1 hr.lt
  replace hB := chain hB b1
  obtain ⟨⟨r0, r1, r2⟩, rf⟩ := id hr
  obtain ⟨t0, t1, t2⟩ := st3 hr
  go_wp2
  refine bodyPost_ret (v := .tuple #[.agg #[.int .i64 0, .int .i64 0, .int .i8 0], .int .i64 2]) ?_ rfl ⟨rfl, below3 hB (by simp) _ _ _⟩
  simp [results, Tryd.results16, go_sem, t0, t1, t2]

theorem v88 : vsz 8 8 := ⟨by decide, by decide, by decide, by decide⟩
theorem v33 : vsz 3 3 := ⟨by decide, by decide, by decide, by decide⟩
theorem ok_a2a4 : okM 8 8 ⟨8, 24, 0⟩ := ⟨⟨v88, by decide, by decide⟩, ⟨v88, by decide, by decide⟩, by decide, .inl rfl⟩
theorem ok_a7a8 : okM 8 8 ⟨48, 56, 5⟩ := ⟨⟨v88, by decide, by decide⟩, ⟨v88, by decide, by decide⟩, by decide, .inr ⟨by decide, by decide⟩⟩
theorem no_a1a1 : ¬ okM 3 3 ⟨0, 0, 0⟩ := fun h => h.2.2.1 rfl
theorem ok_line : ∀ m ∈ [(⟨0, 1, 0⟩ : Mv), ⟨8, 5, 0⟩], okM 3 3 m := by
  intro m hm
  simp only [List.mem_cons, List.not_mem_nil, or_false] at hm
  rcases hm with rfl | rfl
  · exact ⟨⟨v33, by decide, by decide⟩, ⟨v33, by decide, by decide⟩, by decide, .inl rfl⟩
  · exact ⟨⟨v33, by decide, by decide⟩, ⟨v33, by decide, by decide⟩, by decide, .inl rfl⟩
theorem t_a2a4 : bsL (mvT 8 ⟨8, 24, 0⟩) = ⟨#[97, 50, 97, 52]⟩ := by decide +kernel
theorem t_a7a8 : bsL (mvT 8 ⟨48, 56, 5⟩) = ⟨#[97, 55, 97, 56, 81]⟩ := by decide +kernel
theorem t_line : bsL (lnT 3 [⟨0, 1, 0⟩, ⟨8, 5, 0⟩]) = ⟨#[97, 49, 98, 49, 32, 99, 51, 99, 50]⟩ := by decide +kernel
theorem r_h2h1N : rdM 8 8 [104, 50, 104, 49, 78] = some ⟨15, 7, 2⟩ := by decide +kernel
theorem r_h2h1n : rdM 8 8 [104, 50, 104, 49, 110] = none := by decide +kernel
theorem r_h2h1K : rdM 8 8 [104, 50, 104, 49, 75] = none := by decide +kernel
theorem r_a1a4 : rdM 3 3 [97, 49, 97, 52] = none := by decide +kernel
theorem r_a1b1 : rdM 3 3 [97, 49, 98, 49] = some ⟨0, 1, 0⟩ := by decide +kernel
theorem r_empty : rdM 3 3 [] = none := by decide +kernel
theorem w_line : wds [97, 49, 98, 49, 32, 32, 99, 51, 99, 50] = [[97, 49, 98, 49], [], [99, 51, 99, 50]] := by decide +kernel
theorem p_line : (wordsP [97, 49, 98, 49, 32, 32, 99, 51, 99, 50]).length ≤ 1000 := by
  have := (wordsP_each [97, 49, 98, 49, 32, 32, 99, 51, 99, 50])
  decide +kernel

/-- a list of two moves that has just been laid. -/
theorem lit2 (W : World) (a b c d e f : Int) : RdM (W.alloc (.cells #[.int .i64 a, .int .i64 b, .int .i8 c, .int .i64 d, .int .i64 e, .int .i8 f] 27)) (W.alloc (.cells #[.int .i64 a, .int .i64 b, .int .i8 c, .int .i64 d, .int .i64 e, .int .i8 f] 27)).heap.size (some ⟨W.heap.size, 0, none⟩) [⟨a, b, c⟩, ⟨d, e, f⟩] := fun _ => ⟨_, rfl, by simp, fun j u hj => by
  match j, hj with
  | 0, hj => simp [vmvs, Mv.cells] at hj; subst hj; simp [go_sem]
  | 1, hj => simp [vmvs, Mv.cells] at hj; subst hj; simp [go_sem]
  | 2, hj => simp [vmvs, Mv.cells] at hj; subst hj; simp [go_sem]
  | 3, hj => simp [vmvs, Mv.cells] at hj; subst hj; simp [go_sem]
  | 4, hj => simp [vmvs, Mv.cells] at hj; subst hj; simp [go_sem]
  | 5, hj => simp [vmvs, Mv.cells] at hj; subst hj; simp [go_sem]
  | j + 6, hj => simp [vmvs, Mv.cells] at hj⟩

set_option maxRecDepth 100000 in
set_option maxHeartbeats 4000000 in
theorem known7_any (w : World) (hK : Kinds w) : Calls Tryd.prog 13 #[] w fun e w' => e = .returned (.bool true) ∧ Below w.heap.size w w' := by
  have hf := box2 w 8 8
  have ht := box2 (w.alloc (.cells #[.int .i64 8, .int .i64 8] 23)) 3 3
  rw [World.size_alloc] at ht
  have b0 := box1 w (.cells #[.int .i64 8, .int .i64 8] 23)
  have b1 := box1 (w.alloc (.cells #[.int .i64 8, .int .i64 8] 23)) (.cells #[.int .i64 3, .int .i64 3] 23)
  replace hf := hf.below b1 hf.lt
  have hB := chain b0 b1
  have hk := hK.1
  replace hK := hK.below hB hk
  clear b0 b1 hk
  have H1 := Lib.hid (fun w hK => mvText_yes 8 8 8 24 0 ok_a2a4 w hK)
  rw [t_a2a4] at H1
  have H2 := Lib.hid (fun w hK => mvText_yes 8 8 48 56 5 ok_a7a8 w hK)
  rw [t_a7a8] at H2
  have H3 := Lib.hid (fun w => mvText_no 3 3 0 0 0 no_a1a1 w)
  have H4 := Lib.hid (fun w hK => mvParse_any 8 8 v88 ⟨#[104, 50, 104, 49, 78]⟩ _ rfl w hK)
  rw [r_h2h1N, rdA_some] at H4
  have H5 := Lib.hid (fun w hK => mvParse_any 8 8 v88 ⟨#[104, 50, 104, 49, 110]⟩ _ rfl w hK)
  rw [r_h2h1n, rdA_none] at H5
  have H6 := Lib.hid (fun w hK => mvParse_any 8 8 v88 ⟨#[104, 50, 104, 49, 75]⟩ _ rfl w hK)
  rw [r_h2h1K, rdA_none] at H6
  have H7 := Lib.hid (fun w hK => mvParse_any 3 3 v33 ⟨#[97, 49, 97, 52]⟩ _ rfl w hK)
  rw [r_a1a4, rdA_none] at H7
  have H8 := Lib.hid (fun A c w hA hK => mvLine_yes 3 3 [⟨0, 1, 0⟩, ⟨8, 5, 0⟩] A c v33 (by decide) ok_line w hA hK)
  rw [t_line] at H8
  have H9 := Lib.hid (fun w hK => mvPL_bad 3 3 ⟨#[97, 49, 98, 49, 32, 32, 99, 51, 99, 50]⟩ (by decide) v33 (by decide) p_line [⟨0, 1, 0⟩] [] [[99, 51, 99, 50]] (by rw [w_line]; rfl) (by rw [w_line]; simp [r_a1b1]) r_empty w hK)
  have H10 := Lib.hid (fun w => mvPL_none 3 3 v33 w)
  go_enter Tryd.func13, Tryd.ntmps13
  obtain ⟨f0, f1⟩ := id hf
  obtain ⟨t0, t1⟩ := id ht
  go_wp2_with fail
  refine (H1.out _ hK).mono ?_
  rintro e w1 ⟨rfl, b1⟩
  clear f0 f1 t0 t1
  replace hf := hf.below b1 hf.lt
  replace ht := ht.below b1 ht.lt
  replace hK := hK.below b1 hK.1
  replace hB := chain hB b1
  clear b1
  obtain ⟨f0, f1⟩ := id hf
  obtain ⟨t0, t1⟩ := id ht
  go_wp2_with fail
  refine (H2.out _ hK).mono ?_
  rintro e w2 ⟨rfl, b2⟩
  clear f0 f1 t0 t1
  replace hf := hf.below b2 hf.lt
  replace ht := ht.below b2 ht.lt
  replace hK := hK.below b2 hK.1
  replace hB := chain hB b2
  clear b2
  obtain ⟨f0, f1⟩ := id hf
  obtain ⟨t0, t1⟩ := id ht
  go_wp2_with fail
  refine (H3.out _).mono ?_
  rintro e w3 ⟨rfl, b3⟩
  clear f0 f1 t0 t1
  replace hf := hf.below b3 hf.lt
  replace ht := ht.below b3 ht.lt
  replace hK := hK.below b3 hK.1
  replace hB := chain hB b3
  clear b3
  obtain ⟨f0, f1⟩ := id hf
  obtain ⟨t0, t1⟩ := id ht
  go_wp2_with fail
  refine (H4.out _ hK).mono ?_
  rintro e w4 ⟨rfl, b4⟩
  clear f0 f1 t0 t1
  replace hf := hf.below b4 hf.lt
  replace ht := ht.below b4 ht.lt
  replace hK := hK.below b4 hK.1
  replace hB := chain hB b4
  clear b4
  have bx := box1 w4 (.cells #[.int .i64 15, .int .i64 7, .int .i8 2] 27)
  have hc := box3 w4 15 7 2
  replace hf := hf.below bx hf.lt
  replace ht := ht.below bx ht.lt
  replace hK := hK.below bx hK.1
  replace hB := chain hB bx
  clear bx
  obtain ⟨f0, f1⟩ := id hf
  obtain ⟨t0, t1⟩ := id ht
  obtain ⟨⟨c0, c1, c2⟩, cf⟩ := id hc
  go_wp2_with fail
  refine (H5.out _ hK).mono ?_
  rintro e w5 ⟨rfl, b5⟩
  clear f0 f1 t0 t1 c0 c1 c2 cf
  replace hf := hf.below b5 hf.lt
  replace ht := ht.below b5 ht.lt
  replace hc := hc.below b5 hc.lt
  replace hK := hK.below b5 hK.1
  replace hB := chain hB b5
  clear b5
  obtain ⟨f0, f1⟩ := id hf
  obtain ⟨t0, t1⟩ := id ht
  obtain ⟨⟨c0, c1, c2⟩, cf⟩ := id hc
  go_wp2_with fail
  refine (H6.out _ hK).mono ?_
  rintro e w6 ⟨rfl, b6⟩
  clear f0 f1 t0 t1 c0 c1 c2 cf
  replace hf := hf.below b6 hf.lt
  replace ht := ht.below b6 ht.lt
  replace hc := hc.below b6 hc.lt
  replace hK := hK.below b6 hK.1
  replace hB := chain hB b6
  clear b6
  obtain ⟨f0, f1⟩ := id hf
  obtain ⟨t0, t1⟩ := id ht
  obtain ⟨⟨c0, c1, c2⟩, cf⟩ := id hc
  go_wp2_with fail
  refine (H7.out _ hK).mono ?_
  rintro e w7 ⟨rfl, b7⟩
  clear f0 f1 t0 t1 c0 c1 c2 cf
  replace hf := hf.below b7 hf.lt
  replace ht := ht.below b7 ht.lt
  replace hc := hc.below b7 hc.lt
  replace hK := hK.below b7 hK.1
  replace hB := chain hB b7
  clear b7
  have bx := box1 w7 (.cells #[.int .i64 0, .int .i64 0, .int .i8 0] 27)
  replace hf := hf.below bx hf.lt
  replace ht := ht.below bx ht.lt
  replace hc := hc.below bx hc.lt
  replace hK := hK.below bx hK.1
  replace hB := chain hB bx
  clear bx
  have hl := lit2 (w7.alloc (.cells #[.int .i64 0, .int .i64 0, .int .i8 0] 27)) 0 1 0 8 5 0
  rw [World.size_alloc (w := w7)] at hl
  obtain ⟨f0, f1⟩ := id hf
  obtain ⟨t0, t1⟩ := id ht
  obtain ⟨⟨c0, c1, c2⟩, cf⟩ := id hc
  have bx := box1 (w7.alloc (.cells #[.int .i64 0, .int .i64 0, .int .i8 0] 27)) (.cells #[.int .i64 0, .int .i64 1, .int .i8 0, .int .i64 8, .int .i64 5, .int .i8 0] 27)
  have hK2 := hK.below bx hK.1
  go_wp2_with fail
  refine (H8.out _ _ _ hl hK2).mono ?_
  rintro e w8 ⟨rfl, b8⟩
  clear f0 f1 t0 t1 c0 c1 c2 cf
  clear hK2 hl
  replace hf := hf.below bx hf.lt
  replace ht := ht.below bx ht.lt
  replace hc := hc.below bx hc.lt
  replace hK := hK.below bx hK.1
  replace hB := chain hB bx
  clear bx
  replace hf := hf.below b8 hf.lt
  replace ht := ht.below b8 ht.lt
  replace hc := hc.below b8 hc.lt
  replace hK := hK.below b8 hK.1
  replace hB := chain hB b8
  clear b8
  obtain ⟨f0, f1⟩ := id hf
  obtain ⟨t0, t1⟩ := id ht
  obtain ⟨⟨c0, c1, c2⟩, cf⟩ := id hc
  go_wp2_with fail
  refine (H9.out _ hK).mono ?_
  rintro e w9 ⟨rfl, b9⟩
  clear f0 f1 t0 t1 c0 c1 c2 cf
  replace hf := hf.below b9 hf.lt
  replace ht := ht.below b9 ht.lt
  replace hc := hc.below b9 hc.lt
  replace hK := hK.below b9 hK.1
  replace hB := chain hB b9
  clear b9
  obtain ⟨f0, f1⟩ := id hf
  obtain ⟨t0, t1⟩ := id ht
  obtain ⟨⟨c0, c1, c2⟩, cf⟩ := id hc
  go_wp2_with fail
  refine (H10.out _).mono ?_
  rintro e w10 ⟨rfl, b10⟩
  clear f0 f1 t0 t1 c0 c1 c2 cf
  replace hf := hf.below b10 hf.lt
  replace ht := ht.below b10 ht.lt
  replace hc := hc.below b10 hc.lt
  replace hK := hK.below b10 hK.1
  replace hB := chain hB b10
  clear b10
  obtain ⟨f0, f1⟩ := id hf
  obtain ⟨t0, t1⟩ := id ht
  obtain ⟨⟨c0, c1, c2⟩, cf⟩ := id hc
  go_wp2
  go_ret
  exact ⟨by rfl, hB⟩

end Go.Proofs.YtpcfgeggjfbfjaaDoor
