/- Moves, by the document: which are valid, their order and their text. -/
import Derived.Test.YtpcfgeggjfbfjaaDoorMwB
import Derived.Lib.QuietBelow
import Derived.Sort.AtCall
namespace Go.Proofs.YtpcfgeggjfbfjaaDoor
open Go.RowKit Go.Sort
set_option maxRecDepth 100000 in
set_option maxHeartbeats 2000000 in
theorem rmValid_any (F R x y p : Int) (b : Bool) (hb : b = true ↔ okM F R ⟨x, y, p⟩) (w : World) :
    Calls Tryd.prog 10 #[.agg #[.int .i64 F, .int .i64 R], .agg #[.int .i64 x, .int .i64 y, .int .i8 p]] w fun e w' => e = .returned (.bool b) ∧ Below w.heap.size w w' := by
  have hs := box2 w F R
  have hm := box3 (w.alloc (.cells #[.int .i64 F, .int .i64 R] 23)) x y p
  rw [World.size_alloc] at hm
  have b0 := box1 w (.cells #[.int .i64 F, .int .i64 R] 23)
  have b1 := box1 (w.alloc (.cells #[.int .i64 F, .int .i64 R] 23)) (.cells #[.int .i64 x, .int .i64 y, .int .i8 p] 27)
  replace hs := hs.below b1 hs.lt
  have hB := chain b0 b1
  clear b0 b1
  unfold okM at hb
  simp only at hb
  go_enter Tryd.func10, Tryd.ntmps10
  by_cases h1 : vat F R x
  · have HX := Lib.hid (fun w => refValid_yes F R x h1 w)
    by_cases h2 : vat F R y
    · have HY := Lib.hid (fun w => refValid_yes F R y h2 w)
      by_cases h3 : x = y
      · have := b_false hb (fun h => h.2.2.1 h3)
        subst this
        have hne : (x != y) = false := by simp [h3]
        clear hb h1 h2 h3
        obtain ⟨s0, s1⟩ := id hs
        obtain ⟨⟨m0, m1, m2⟩, mf⟩ := id hm
        go_wp2_with fail
        refine (HX.out _).mono ?_
        rintro e w1 ⟨rfl, b1⟩
        clear s0 s1 m0 m1 m2 mf
        replace hs := hs.below b1 hs.lt
        replace hm := hm.below b1 hm.lt
        replace hB := chain hB b1
        clear b1
        obtain ⟨s0, s1⟩ := id hs
        obtain ⟨⟨m0, m1, m2⟩, mf⟩ := id hm
        go_wp2_with fail
        refine (HY.out _).mono ?_
        rintro e w2 ⟨rfl, b2⟩
        clear s0 s1 m0 m1 m2 mf
        replace hs := hs.below b2 hs.lt
        replace hm := hm.below b2 hm.lt
        replace hB := chain hB b2
        clear b2
        obtain ⟨s0, s1⟩ := id hs
        obtain ⟨⟨m0, m1, m2⟩, mf⟩ := id hm
        go_wp2
        go_ret
        exact ⟨rfl, hB⟩
      · have hne : (x != y) = true := by simp [h3]
        have hb' : b = true ↔ okPr p := hb.trans ⟨fun h => h.2.2.2, fun h => ⟨h1, h2, h3, h⟩⟩
        unfold okPr at hb'
        clear hb h1 h2 h3
        by_cases h0 : p = 0
        · have := b_true hb' (.inl h0)
          subst this h0
          clear hb' 
          obtain ⟨s0, s1⟩ := id hs
          obtain ⟨⟨m0, m1, m2⟩, mf⟩ := id hm
          go_wp2_with fail
          refine (HX.out _).mono ?_
          rintro e w1 ⟨rfl, b1⟩
          clear s0 s1 m0 m1 m2 mf
          replace hs := hs.below b1 hs.lt
          replace hm := hm.below b1 hm.lt
          replace hB := chain hB b1
          clear b1
          obtain ⟨s0, s1⟩ := id hs
          obtain ⟨⟨m0, m1, m2⟩, mf⟩ := id hm
          go_wp2_with fail
          refine (HY.out _).mono ?_
          rintro e w2 ⟨rfl, b2⟩
          clear s0 s1 m0 m1 m2 mf
          replace hs := hs.below b2 hs.lt
          replace hm := hm.below b2 hm.lt
          replace hB := chain hB b2
          clear b2
          obtain ⟨s0, s1⟩ := id hs
          obtain ⟨⟨m0, m1, m2⟩, mf⟩ := id hm
          go_wp2
          go_ret
          exact ⟨rfl, hB⟩
        · have hz : (p == 0) = false := beq_eq_false_iff_ne.2 h0
          by_cases h2 : 2 ≤ p
          · by_cases h5 : p ≤ 5
            · have := b_true hb' (.inr ⟨h2, h5⟩)
              subst this
              clear hb' 
              obtain ⟨s0, s1⟩ := id hs
              obtain ⟨⟨m0, m1, m2⟩, mf⟩ := id hm
              go_wp2_with fail
              refine (HX.out _).mono ?_
              rintro e w1 ⟨rfl, b1⟩
              clear s0 s1 m0 m1 m2 mf
              replace hs := hs.below b1 hs.lt
              replace hm := hm.below b1 hm.lt
              replace hB := chain hB b1
              clear b1
              obtain ⟨s0, s1⟩ := id hs
              obtain ⟨⟨m0, m1, m2⟩, mf⟩ := id hm
              go_wp2_with fail
              refine (HY.out _).mono ?_
              rintro e w2 ⟨rfl, b2⟩
              clear s0 s1 m0 m1 m2 mf
              replace hs := hs.below b2 hs.lt
              replace hm := hm.below b2 hm.lt
              replace hB := chain hB b2
              clear b2
              obtain ⟨s0, s1⟩ := id hs
              obtain ⟨⟨m0, m1, m2⟩, mf⟩ := id hm
              go_wp2
              go_ret
              exact ⟨rfl, hB⟩
            · have := b_false hb' (by omega)
              subst this
              have hd : decide (p ≤ 5) = false := decide_eq_false h5
              clear hb' 
              obtain ⟨s0, s1⟩ := id hs
              obtain ⟨⟨m0, m1, m2⟩, mf⟩ := id hm
              go_wp2_with fail
              refine (HX.out _).mono ?_
              rintro e w1 ⟨rfl, b1⟩
              clear s0 s1 m0 m1 m2 mf
              replace hs := hs.below b1 hs.lt
              replace hm := hm.below b1 hm.lt
              replace hB := chain hB b1
              clear b1
              obtain ⟨s0, s1⟩ := id hs
              obtain ⟨⟨m0, m1, m2⟩, mf⟩ := id hm
              go_wp2_with fail
              refine (HY.out _).mono ?_
              rintro e w2 ⟨rfl, b2⟩
              clear s0 s1 m0 m1 m2 mf
              replace hs := hs.below b2 hs.lt
              replace hm := hm.below b2 hm.lt
              replace hB := chain hB b2
              clear b2
              obtain ⟨s0, s1⟩ := id hs
              obtain ⟨⟨m0, m1, m2⟩, mf⟩ := id hm
              go_wp2
              go_ret
              exact ⟨rfl, hB⟩
          · have := b_false hb' (by omega)
            subst this
            have hd : decide (2 ≤ p) = false := decide_eq_false h2
            clear hb' 
            obtain ⟨s0, s1⟩ := id hs
            obtain ⟨⟨m0, m1, m2⟩, mf⟩ := id hm
            go_wp2_with fail
            refine (HX.out _).mono ?_
            rintro e w1 ⟨rfl, b1⟩
            clear s0 s1 m0 m1 m2 mf
            replace hs := hs.below b1 hs.lt
            replace hm := hm.below b1 hm.lt
            replace hB := chain hB b1
            clear b1
            obtain ⟨s0, s1⟩ := id hs
            obtain ⟨⟨m0, m1, m2⟩, mf⟩ := id hm
            go_wp2_with fail
            refine (HY.out _).mono ?_
            rintro e w2 ⟨rfl, b2⟩
            clear s0 s1 m0 m1 m2 mf
            replace hs := hs.below b2 hs.lt
            replace hm := hm.below b2 hm.lt
            replace hB := chain hB b2
            clear b2
            obtain ⟨s0, s1⟩ := id hs
            obtain ⟨⟨m0, m1, m2⟩, mf⟩ := id hm
            go_wp2
            go_ret
            exact ⟨rfl, hB⟩
    · have := b_false hb (fun h => h2 h.2.1)
      subst this
      have HY := Lib.hid (fun w => refValid_no F R y h2 w)
      clear hb h1 h2
      obtain ⟨s0, s1⟩ := id hs
      obtain ⟨⟨m0, m1, m2⟩, mf⟩ := id hm
      go_wp2_with fail
      refine (HX.out _).mono ?_
      rintro e w1 ⟨rfl, b1⟩
      clear s0 s1 m0 m1 m2 mf
      replace hs := hs.below b1 hs.lt
      replace hm := hm.below b1 hm.lt
      replace hB := chain hB b1
      clear b1
      obtain ⟨s0, s1⟩ := id hs
      obtain ⟨⟨m0, m1, m2⟩, mf⟩ := id hm
      go_wp2_with fail
      refine (HY.out _).mono ?_
      rintro e w2 ⟨rfl, b2⟩
      clear s0 s1 m0 m1 m2 mf
      replace hs := hs.below b2 hs.lt
      replace hm := hm.below b2 hm.lt
      replace hB := chain hB b2
      clear b2
      obtain ⟨s0, s1⟩ := id hs
      obtain ⟨⟨m0, m1, m2⟩, mf⟩ := id hm
      go_wp2
      go_ret
      exact ⟨rfl, hB⟩
  · have := b_false hb (fun h => h1 h.1)
    subst this
    have HX := Lib.hid (fun w => refValid_no F R x h1 w)
    clear hb h1
    obtain ⟨s0, s1⟩ := id hs
    obtain ⟨⟨m0, m1, m2⟩, mf⟩ := id hm
    go_wp2_with fail
    refine (HX.out _).mono ?_
    rintro e w1 ⟨rfl, b1⟩
    go_wp2
    go_ret
    exact ⟨rfl, chain hB b1⟩
set_option maxRecDepth 100000 in
set_option maxHeartbeats 1000000 in
theorem rOrder_any (x y : Int) (w : World) : Calls Tryd.prog 30 #[.int .i64 x, .int .i64 y] w fun e w' => e = .returned (.int .i64 (cmpI x y)) ∧ w = w' := by
  obtain ⟨v, hv⟩ : ∃ v, cmpI x y = v := ⟨_, rfl⟩
  rw [hv]
  have HB := cmpI_bd x y
  rw [hv] at HB
  clear hv
  rcases HB with ⟨rfl, h⟩ | ⟨rfl, h⟩ | ⟨rfl, h⟩
  · go_enter Tryd.func30, Tryd.ntmps30
    go_wp2
    go_ret
    exact ⟨rfl, rfl⟩
  · have h2 : ¬ x < y := by omega
    go_enter Tryd.func30, Tryd.ntmps30
    go_wp2
    go_ret
    exact ⟨rfl, rfl⟩
  · subst h
    go_enter Tryd.func30, Tryd.ntmps30
    go_wp2
    go_ret
    exact ⟨rfl, rfl⟩

theorem cmpM_1 {a b : Mv} (h : a.a ≠ b.a) : cmpI a.a b.a = cmpM a b := by
  have := cmpI_bd a.a b.a
  unfold cmpM
  rw [if_pos (by omega)]
theorem cmpM_2 {a b : Mv} (h : a.a = b.a) (h2 : a.b ≠ b.b) : cmpI a.b b.b = cmpM a b := by
  have := cmpI_bd a.a b.a
  have := cmpI_bd a.b b.b
  unfold cmpM
  rw [if_neg (by omega), if_pos (by omega)]
theorem cmpM_3 {a b : Mv} (h : a.a = b.a) (h2 : a.b = b.b) : cmpI a.p b.p = cmpM a b := by
  have := cmpI_bd a.a b.a
  have := cmpI_bd a.b b.b
  unfold cmpM
  rw [if_neg (by omega), if_neg (by omega)]

set_option maxRecDepth 100000 in
set_option maxHeartbeats 2000000 in
theorem rmCmp_any (a b c x y z : Int) (hc0 : -128 ≤ c) (hc1 : c ≤ 127) (hz0 : -128 ≤ z) (hz1 : z ≤ 127) (w : World) :
    Calls Tryd.prog 12 #[.agg #[.int .i64 a, .int .i64 b, .int .i8 c], .agg #[.int .i64 x, .int .i64 y, .int .i8 z]] w fun e w' => e = .returned (.int .i64 (cmpM ⟨a, b, c⟩ ⟨x, y, z⟩)) ∧ Below w.heap.size w w' := by
  have hB := after2 (Below.refl ((w.alloc (.cells #[.int .i64 a, .int .i64 b, .int .i8 c] 27)).alloc (.cells #[.int .i64 x, .int .i64 y, .int .i8 z] 27)).heap.size _)
  by_cases h1 : a = x
  · by_cases h2 : b = y
    · have E := Lib.hid (cmpM_3 (a := ⟨a, b, c⟩) (b := ⟨x, y, z⟩) h1 h2)
      have HC := Lib.hid (fun w => rOrder_any c z w)
      have e1 : (a != x) = false := by simp [h1]
      have e2 : (b != y) = false := by simp [h2]
      have EB := Lib.hid hB
      clear h1 h2 hB
      go_enter Tryd.func12, Tryd.ntmps12
      go_wp2_with fail
      refine (HC.out _).mono ?_
      rintro e w1 ⟨rfl, rfl⟩
      go_wp2
      go_ret
      exact ⟨ret_int E.out, EB.out⟩
    · have E := Lib.hid (cmpM_2 (a := ⟨a, b, c⟩) (b := ⟨x, y, z⟩) h1 h2)
      have HC := Lib.hid (fun w => rOrder_any b y w)
      have e1 : (a != x) = false := by simp [h1]
      have e2 : (b != y) = true := by simp [h2]
      have EB := Lib.hid hB
      clear h1 h2 hB
      go_enter Tryd.func12, Tryd.ntmps12
      go_wp2_with fail
      refine (HC.out _).mono ?_
      rintro e w1 ⟨rfl, rfl⟩
      go_wp2
      go_ret
      exact ⟨ret_int E.out, EB.out⟩
  · have E := Lib.hid (cmpM_1 (a := ⟨a, b, c⟩) (b := ⟨x, y, z⟩) h1)
    have HC := Lib.hid (fun w => rOrder_any a x w)
    have e1 : (a != x) = true := by simp [h1]
    have EB := Lib.hid hB
    clear h1 hB
    go_enter Tryd.func12, Tryd.ntmps12
    go_wp2_with fail
    refine (HC.out _).mono ?_
    rintro e w1 ⟨rfl, rfl⟩
    go_wp2
    go_ret
    exact ⟨ret_int E.out, EB.out⟩

theorem nbrq (p : Int) (h2 : 2 ≤ p) (h5 : p ≤ 5) : (ByteArray.mk #[78, 66, 82, 81]).extract (p - 2).toNat (p.toNat - 1) = bsL (prL p) := by
  have : ∀ i : Nat, i < 4 → (ByteArray.mk #[78, 66, 82, 81]).extract i (i + 1) = bsL (prL ((i : Int) + 2)) := by decide +kernel
  have e := this (p - 2).toNat (by omega)
  rw [show (((p - 2).toNat : Nat) : Int) + 2 = p by omega, show (p - 2).toNat + 1 = p.toNat - 1 by omega] at e
  exact e

set_option maxRecDepth 100000 in
set_option maxHeartbeats 2000000 in
theorem rmText_any (F R x y p : Int) (h : okM F R ⟨x, y, p⟩) (w : World) :
    Calls Tryd.prog 15 #[.agg #[.int .i64 F, .int .i64 R], .agg #[.int .i64 x, .int .i64 y, .int .i8 p]] w fun e w' => e = .returned (.string (bsL (mvT F ⟨x, y, p⟩))) ∧ Below w.heap.size w w' := by
  have hs := box2 w F R
  have hm := box3 (w.alloc (.cells #[.int .i64 F, .int .i64 R] 23)) x y p
  rw [World.size_alloc] at hm
  have b0 := box1 w (.cells #[.int .i64 F, .int .i64 R] 23)
  have b1 := box1 (w.alloc (.cells #[.int .i64 F, .int .i64 R] 23)) (.cells #[.int .i64 x, .int .i64 y, .int .i8 p] 27)
  replace hs := hs.below b1 hs.lt
  have hB := chain b0 b1
  clear b0 b1
  have HX := Lib.hid (fun w => refName_any F R x h.1 w)
  have HY := Lib.hid (fun w => refName_any F R y h.2.1 w)
  have z1 : (nameB F x).size = 2 := nm_size _ _
  have z2 : (nameB F y).size = 2 := nm_size _ _
  have z4 : (nameB F x ++ nameB F y).size = 4 := by rw [ByteArray.size_append]; omega
  have E : Hid (nameB F x ++ nameB F y ++ bsL (prL p) = bsL (mvT F ⟨x, y, p⟩)) := Lib.hid (by
    apply bytes_eq
    have e : nameB F x ++ nameB F y ++ bsL (prL p) = bsL ((nameB F x).data.toList ++ (nameB F y).data.toList ++ prL p) := by
      rw [← bsL_append, ← bsL_append, bsL_of, bsL_of]
    rw [e, bsL_toList, bsL_toList]
    unfold mvT
    rw [List.append_assoc])
  have hpr := h.2.2.2
  clear h
  generalize nameB F x = t1 at *
  generalize nameB F y = t2 at *
  go_enter Tryd.func15, Tryd.ntmps15
  obtain ⟨s0, s1⟩ := id hs
  obtain ⟨⟨m0, m1, m2⟩, mf⟩ := id hm
  go_wp2_with fail
  generalize hV : (w.alloc (.cells #[.int .i64 F, .int .i64 R] 23)).alloc (.cells #[.int .i64 x, .int .i64 y, .int .i8 p] 27) = V at *
  have q0 := cell_regrown s0
  have q1 := cell_regrown s1
  have q2 := cell_regrown m0
  have q3 := cell_regrown m1
  have cX := Lib.hid (fun d os => Calls.regrown_of (HX.out (grow (redrawn V d) os)))
  have cY := Lib.hid (fun d os => Calls.regrown_of (HY.out (grow (redrawn V d) os)))
  refine wp_region_quiet_below (by kernel_rfl) (by kernel_rfl) ?_
  repeat (go_big_quiet_step (first | (go_at_call_has 33 (Value.int .i64 x); exact cX.out _ _) | (go_at_call_has 33 (Value.int .i64 y); exact cY.out _ _)))
  refine wpQuiet_nil ?_
  intro _ hw'
  obtain ⟨⟨dq, osq⟩, hw''⟩ := hw'
  subst hw''
  have bq := below_regrown V dq osq
  replace hs := hs.below bq hs.lt
  replace hm := hm.below bq hm.lt
  replace hB := chain hB bq
  clear cX cY q0 q1 q2 q3 bq s0 s1 m0 m1 m2 mf hV
  generalize Go.Sort.grow (redrawn V dq) osq = w1 at *
  obtain ⟨⟨m0, m1, m2⟩, mf⟩ := id hm
  have n1 : ¬ 9223372036854775807 < t1.size + t2.size := by omega
  by_cases h0 : p = 0
  · subst h0
    have E2 : Hid (t1 ++ t2 = bsL (mvT F ⟨x, y, 0⟩)) := Lib.hid (by rw [← E.out]; apply bytes_eq; rw [← bsL_of (t1 ++ t2), bsL_append, bsL_of, bsL_toList]; simp [prL])
    clear E hpr
    go_wp2
    go_ret
    exact ⟨ret_str E2.out, hB⟩
  · have h2 : 2 ≤ p := (hpr.resolve_left h0).1
    have h5 : p ≤ 5 := (hpr.resolve_left h0).2
    have hp0 : 0 < p := by omega
    have HN := Lib.hid (nbrq p h2 h5)
    go_wp2
    go_ret
    exact ⟨ret_str (by rw [HN.out, E.out]), (by first | exact hB | exact drawn hB _)⟩
  
  end Go.Proofs.YtpcfgeggjfbfjaaDoor
