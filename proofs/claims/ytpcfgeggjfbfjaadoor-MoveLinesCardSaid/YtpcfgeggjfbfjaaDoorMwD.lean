/- Moves, by the program: a text is read as a move. -/
import Derived.Test.YtpcfgeggjfbfjaaDoorMwC
import Derived.Lib.QuietBelow
namespace Go.Proofs.YtpcfgeggjfbfjaaDoor
open Go.RowKit Go.Sort

/-- what a name is read as, and the error. -/
def nmA (o : Option Int) : Int := o.getD 0
def nmE (o : Option Int) : Int := if o.isSome then 0 else 6
theorem sqP_any (F R : Int) (hv : vsz F R) (s : ByteArray) (L : List UInt8) (hL : s.data.toList = L) (w : World) :
    Calls Tryd.prog 35 #[.agg #[.int .i64 F, .int .i64 R], .string s] w fun e w' => e = .returned (.tuple #[.int .i64 (nmA (nmV F R L)), .int .i64 (nmE (nmV F R L))]) ∧ Below w.heap.size w w' := by
  cases h : nmV F R L with
  | none => exact parse_none F R s hv (fun a ha e => nmV_no h a ha (by rw [e, hL])) w
  | some a =>
    obtain ⟨h1, h2⟩ := nmV_yes hv h
    have e : nameB F a = s := bytes_eq (h2.trans hL.symm)
    rw [← e]
    exact parse_name F R a h1 w

/-- the piece with a letter, and the error. -/
def proV : List UInt8 → Int
  | [c] => piP c.toNat
  | _ => 0
def proE : List UInt8 → Int
  | [] => 0
  | [c] => perr (piP c.toNat)
  | _ => 6
theorem pro_prV (L : List UInt8) : prV L = if proE L = 0 ∧ okPr (proV L) then some (proV L) else none := by
  unfold prV proE proV
  match L with
  | [] => simp [okPr]
  | [c] =>
    unfold perr okPr
    by_cases h0 : piP c.toNat = 0
    · simp [h0]
    · simp [h0]
  | c :: d :: l => simp
theorem proE_or (L : List UInt8) : proE L = 0 ∨ proE L = 6 := by
  unfold proE perr
  split
  · exact .inl rfl
  · split
    · exact .inr rfl
    · exact .inl rfl
  · exact .inr rfl

set_option maxRecDepth 100000 in
set_option maxHeartbeats 1000000 in
theorem proP_any (s : ByteArray) (L : List UInt8) (hL : s.data.toList = L) (w : World) (hK : Kinds w) :
    Calls Tryd.prog 36 #[.string s] w fun e w' => e = .returned (.tuple #[.int .i8 (proV L), .int .i64 (proE L)]) ∧ w = w' := by
  have hsz : s.size = L.length := by rw [← hL, Array.length_toList]; rfl
  match L, hL with
  | [], hL =>
    have hz : s.size = 0 := hsz
    clear hL hsz hK
    go_enter Tryd.func36, Tryd.ntmps36
    go_wp2
    go_ret2
    exact ⟨rfl, rfl⟩
  | [c], hL =>
    have hz : s.size = 1 := hsz
    have h0 : 0 < s.size := by omega
    have hg : s[0] = c := by
      have : s.data.toList[0]'(by rw [hL]; simp) = c := by simp [hL]
      exact this
    have HP := Lib.hid (parse_any c.toNat w hK)
    have hgN : (s[0].toNat : Int) = (c.toNat : Int) := by rw [hg]
    clear hL hsz hK hg
    go_enter Tryd.func36, Tryd.ntmps36
    go_wp2_with fail
    refine (HP.out).mono ?_
    rintro e w1 ⟨rfl, rfl⟩
    go_wp2
    go_ret2
    exact ⟨rfl, rfl⟩
  | c :: d :: l, hL =>
    have hz0 : ((s.size : Int) == 0) = false := beq_eq_false_iff_ne.2 (by rw [hsz]; simp only [List.length_cons]; omega)
    have hz1 : ((s.size : Int) == 1) = false := beq_eq_false_iff_ne.2 (by rw [hsz]; simp only [List.length_cons]; omega)
    clear hL hsz hK
    go_enter Tryd.func36, Tryd.ntmps36
    go_wp2
    go_ret2
    exact ⟨rfl, rfl⟩


/-- what is read where the text is long enough. -/
theorem rdM_is {F R : Int} {L : List UInt8} {a b : Int} (ha : nmV F R (L.take 2) = some a) (hb : nmV F R ((L.drop 2).take 2) = some b) :
    rdM F R L = if proE (L.drop 4) = 0 ∧ okPr (proV (L.drop 4)) ∧ a ≠ b then some ⟨a, b, proV (L.drop 4)⟩ else none := by
  unfold rdM
  rw [ha, hb, pro_prV]
  by_cases h1 : proE (L.drop 4) = 0 ∧ okPr (proV (L.drop 4))
  · by_cases h2 : a = b
    · simp [h1, h2]
    · simp [h1, h2]
  · rw [if_neg h1, if_neg (fun h => h1 ⟨h.1, h.2.1⟩)]
theorem rdM_short {F R : Int} {L : List UInt8} (hv : vsz F R) (h : L.length < 4) : rdM F R L = none := by
  cases e : rdM F R L with
  | none => rfl
  | some m =>
    have := (text_rdM hv e).2
    have h2 := mvT_len F m
    rw [this] at h2
    omega
theorem rdM_no1 {F R : Int} {L : List UInt8} (h : nmV F R (L.take 2) = none) : rdM F R L = none := by
  unfold rdM; rw [h]
theorem rdM_no2 {F R : Int} {L : List UInt8} (h : nmV F R ((L.drop 2).take 2) = none) : rdM F R L = none := by
  unfold rdM
  rw [h]
  cases nmV F R (L.take 2) <;> rfl

/-- what Parse returns. -/
def rdA (o : Option Mv) : Value := .tuple #[.agg #[.int .i64 ((o.map Mv.a).getD 0), .int .i64 ((o.map Mv.b).getD 0), .int .i8 ((o.map Mv.p).getD 0)], .int .i64 (if o.isSome then 0 else 6)]

theorem ext_take (s : ByteArray) (L : List UInt8) (hL : s.data.toList = L) (i j : Nat) : (s.extract i j).data.toList = (L.drop i).take (j - i) := by
  rw [ByteArray.data_extract, Array.toList_extract, hL]


/-- a box of a move that is written whole. -/
theorem st3 {W : World} {b : Nat} {x y p : Int} (h : Bx3 W b x y p) : (∀ t, (W.setCell ⟨b, 0, none⟩ t).cell? ⟨b, 0, none⟩ = some t) ∧ (∀ t u, ((W.setCell ⟨b, 0, none⟩ t).setCell ⟨b, 1, none⟩ u).cell? ⟨b, 1, none⟩ = some u) ∧
    (∀ t u v, (((W.setCell ⟨b, 0, none⟩ t).setCell ⟨b, 1, none⟩ u).setCell ⟨b, 2, none⟩ v).cell? ⟨b, 2, none⟩ = some v) := by
  refine ⟨fun t => World.cell?_setCell_same _ _ _ h.1.1, fun t u => World.cell?_setCell_same _ _ _ ((World.cell?_setCell_other _ _ _ _ (by simp)).trans h.1.2.1), fun t u v => World.cell?_setCell_same _ _ _ ((World.cell?_setCell_other _ _ _ _ (by simp)).trans ((World.cell?_setCell_other _ _ _ _ (by simp)).trans h.1.2.2))⟩
theorem below3 {w W : World} {b : Nat} (hB : Below w.heap.size w W) (hb : w.heap.size ≤ b) (t u v : Value) : Below w.heap.size w (((W.setCell ⟨b, 0, none⟩ t).setCell ⟨b, 1, none⟩ u).setCell ⟨b, 2, none⟩ v) :=
  ((hB.setCell (p := ⟨_, _, none⟩) hb _).setCell (p := ⟨_, _, none⟩) hb _).setCell (p := ⟨_, _, none⟩) hb _

set_option maxRecDepth 100000 in
set_option maxHeartbeats 2000000 in
theorem mvParse_any (F R : Int) (hv : vsz F R) (s : ByteArray) (L : List UInt8) (hL : s.data.toList = L) (w : World) (hK : Kinds w) :
    Calls Tryd.prog 16 #[.agg #[.int .i64 F, .int .i64 R], .string s] w fun e w' => e = .returned (rdA (rdM F R L)) ∧ Below w.heap.size w w' := by
  have hsz : s.size = L.length := by rw [← hL, Array.length_toList]; rfl
  have hs := box2 w F R
  have hr := box3 (w.alloc (.cells #[.int .i64 F, .int .i64 R] 23)) 0 0 0
  rw [World.size_alloc] at hr
  have b0 := box1 w (.cells #[.int .i64 F, .int .i64 R] 23)
  have b1 := box1 (w.alloc (.cells #[.int .i64 F, .int .i64 R] 23)) (.cells #[.int .i64 0, .int .i64 0, .int .i8 0] 27)
  replace hs := hs.below b1 hs.lt
  have hB := chain b0 b1
  have hk := hK.1
  clear b0 b1
  replace hK := hK.below hB hk
  have HV := Lib.hid (fun w => validSize_yes F R hv w)
  by_cases h4 : s.size < 4
  · have E : Hid (rdM F R L = none) := Lib.hid (rdM_short hv (by omega))
    clear hL hsz
    go_enter Tryd.func16, Tryd.ntmps16
    obtain ⟨s0, s1⟩ := id hs
    obtain ⟨⟨r0, r1, r2⟩, rf⟩ := id hr
    go_wp2_with fail
    refine (HV.out _).mono ?_
    rintro e w1 ⟨rfl, b1⟩
    clear s0 s1 r0 r1 r2 rf
    replace hs := hs.below b1 hs.lt
    replace hr := hr.below b1 hr.lt
    replace hK := hK.below b1 hK.1
    replace hB := chain hB b1
    clear b1
    obtain ⟨s0, s1⟩ := id hs
    obtain ⟨⟨r0, r1, r2⟩, rf⟩ := id hr
    clear hv
    obtain ⟨t0, t1, t2⟩ := st3 hr
    go_wp2
    refine bodyPost_ret (v := rdA (none)) ?_ rfl ⟨by rw [E.out], below3 hB (by simp) _ _ _⟩
    simp [results, Tryd.results16, go_sem, rdA, t0, t1, t2]
  · have h4' : 4 ≤ s.size := by omega
    have e1 : (s.extract 0 2).data.toList = L.take 2 := by rw [ext_take s L hL]; rfl
    have e2 : (s.extract 2 4).data.toList = (L.drop 2).take 2 := ext_take s L hL 2 4
    have e3 : (s.extract 4 s.size).data.toList = L.drop 4 := by
      rw [ext_take s L hL, List.take_of_length_le (by rw [List.length_drop]; omega)]
    have H1 := Lib.hid (fun w => sqP_any F R hv (s.extract 0 2) _ e1 w)
    have H2 := Lib.hid (fun w => sqP_any F R hv (s.extract 2 4) _ e2 w)
    have H3 := Lib.hid (fun w hK => (proP_any (s.extract 4 s.size) _ e3 w hK).mono (fun e w' h => (⟨h.1, by rw [← h.2]; exact Below.refl _ _⟩ : _ ∧ Below w.heap.size w w')))
    clear e1 e2 e3 hL hsz
    go_enter Tryd.func16, Tryd.ntmps16
    obtain ⟨s0, s1⟩ := id hs
    obtain ⟨⟨r0, r1, r2⟩, rf⟩ := id hr
    go_wp2_with fail
    refine (HV.out _).mono ?_
    rintro e w1 ⟨rfl, b1⟩
    clear s0 s1 r0 r1 r2 rf
    replace hs := hs.below b1 hs.lt
    replace hr := hr.below b1 hr.lt
    replace hK := hK.below b1 hK.1
    replace hB := chain hB b1
    clear b1
    obtain ⟨s0, s1⟩ := id hs
    obtain ⟨⟨r0, r1, r2⟩, rf⟩ := id hr
    go_wp2_with fail
    have q0 := cell_regrown s0
    have q1 := cell_regrown s1
    have cC := Lib.hid (fun d os => Calls.regrown_of (H1.out (grow (redrawn w1 d) os)))
    refine wp_region_quiet_below (by kernel_rfl) (by kernel_rfl) ?_
    repeat (go_big_quiet_step ( exact cC.out _ _))
    refine wpQuiet_nil ?_
    intro _ hw'
    obtain ⟨⟨dq, osq⟩, hw''⟩ := hw'
    subst hw''
    have b2 := below_regrown w1 dq osq
    clear cC q0 q1
    clear s0 s1 r0 r1 r2 rf
    generalize Go.Sort.grow (redrawn w1 dq) osq = w2 at *
    replace hs := hs.below b2 hs.lt
    replace hr := hr.below b2 hr.lt
    replace hK := hK.below b2 hK.1
    replace hB := chain hB b2
    clear b2
    cases hn1 : nmV F R (L.take 2) with
    | none =>
      have E : Hid (rdM F R L = none) := Lib.hid (rdM_no1 hn1)
      simp only [nmA, nmE, Option.getD_none, Option.isSome_none, Bool.false_eq_true, if_false]
      clear hn1
      obtain ⟨s0, s1⟩ := id hs
      obtain ⟨⟨r0, r1, r2⟩, rf⟩ := id hr
      clear hv
      obtain ⟨t0, t1, t2⟩ := st3 hr
      go_wp2
      refine bodyPost_ret (v := rdA (none)) ?_ rfl ⟨by rw [E.out], below3 hB (by simp) _ _ _⟩
      simp [results, Tryd.results16, go_sem, rdA, t0, t1, t2]
    | some a =>
      simp only [nmA, nmE, Option.getD_some, Option.isSome_some, if_true]
      obtain ⟨s0, s1⟩ := id hs
      obtain ⟨⟨r0, r1, r2⟩, rf⟩ := id hr
      go_wp2_with fail
      have q0 := cell_regrown s0
      have q1 := cell_regrown s1
      have cC := Lib.hid (fun d os => Calls.regrown_of (H2.out (grow (redrawn w2 d) os)))
      refine wp_region_quiet_below (by kernel_rfl) (by kernel_rfl) ?_
      repeat (go_big_quiet_step ( exact cC.out _ _))
      refine wpQuiet_nil ?_
      intro _ hw'
      obtain ⟨⟨dq, osq⟩, hw''⟩ := hw'
      subst hw''
      have b3 := below_regrown w2 dq osq
      clear cC q0 q1
      clear s0 s1 r0 r1 r2 rf
      generalize Go.Sort.grow (redrawn w2 dq) osq = w3 at *
      replace hs := hs.below b3 hs.lt
      replace hr := hr.below b3 hr.lt
      replace hK := hK.below b3 hK.1
      replace hB := chain hB b3
      clear b3
      cases hn2 : nmV F R ((L.drop 2).take 2) with
      | none =>
        have E : Hid (rdM F R L = none) := Lib.hid (rdM_no2 hn2)
        simp only [nmA, nmE, Option.getD_none, Option.isSome_none, Bool.false_eq_true, if_false]
        clear hn1 hn2
        obtain ⟨s0, s1⟩ := id hs
        obtain ⟨⟨r0, r1, r2⟩, rf⟩ := id hr
        clear hv
        obtain ⟨t0, t1, t2⟩ := st3 hr
        go_wp2
        refine bodyPost_ret (v := rdA (none)) ?_ rfl ⟨by rw [E.out], below3 hB (by simp) _ _ _⟩
        simp [results, Tryd.results16, go_sem, rdA, t0, t1, t2]
      | some b =>
        simp only [nmA, nmE, Option.getD_some, Option.isSome_some, if_true]
        have HR := Lib.hid (rdM_is hn1 hn2)
        obtain ⟨va, _⟩ := nmV_yes hv hn1
        obtain ⟨vb, _⟩ := nmV_yes hv hn2
        have HVa := Lib.hid va
        have HVb := Lib.hid vb
        clear va vb hn1 hn2 H1 H2
        obtain ⟨s0, s1⟩ := id hs
        obtain ⟨⟨r0, r1, r2⟩, rf⟩ := id hr
        go_wp2_with fail
        refine (H3.out _ hK).mono ?_
        rintro e w4 ⟨rfl, b4⟩
        clear s0 s1 r0 r1 r2 rf
        replace hs := hs.below b4 hs.lt
        replace hr := hr.below b4 hr.lt
        replace hK := hK.below b4 hK.1
        replace hB := chain hB b4
        clear b4
        rcases proE_or (L.drop 4) with h6 | h6
        · rw [h6] at HR
          rw [h6]
          obtain ⟨p, hp⟩ : ∃ p, proV (L.drop 4) = p := ⟨_, rfl⟩
          rw [hp] at HR
          rw [hp]
          clear hv hp h6
          by_cases hok : a ≠ b ∧ okPr p
          · have E : Hid (rdM F R L = some ⟨a, b, p⟩) := Lib.hid (by rw [HR.out, if_pos ⟨rfl, hok.2, hok.1⟩])
            have HM := Lib.hid (fun w => mvValid_any F R a b p true (by simp only [true_iff]; exact ⟨HVa.out, HVb.out, hok.1, hok.2⟩) w)
            clear hok
            obtain ⟨s0, s1⟩ := id hs
            obtain ⟨⟨r0, r1, r2⟩, rf⟩ := id hr
            have d0 := fun o => liv3 (w := w4) o s0
            have d1 := fun o => liv3 (w := w4) o s1
            have hm := box3 w4 a b p
            have bx := box1 w4 (.cells #[.int .i64 a, .int .i64 b, .int .i8 p] 27)
            go_wp2_with fail
            refine (HM.out _).mono ?_
            rintro e w5 ⟨rfl, b5⟩
            clear s0 s1 r0 r1 r2 rf
            clear d0 d1
            replace hm := hm.below b5 hm.lt
            replace hr := (hr.below bx hr.lt).below b5 (hr.below bx hr.lt).lt
            replace hB := chain (chain hB bx) b5
            clear bx b5 hs hK
            obtain ⟨⟨m0, m1, m2⟩, mf⟩ := id hm
            obtain ⟨⟨r0, r1, r2⟩, rf⟩ := id hr
            obtain ⟨t0, t1, t2⟩ := st3 hr
            go_wp2
            refine bodyPost_ret (v := rdA (some ⟨a, b, p⟩)) ?_ rfl ⟨by rw [E.out], below3 hB (by simp) _ _ _⟩
            simp [results, Tryd.results16, go_sem, rdA, t0, t1, t2]
          · have E : Hid (rdM F R L = none) := Lib.hid (by rw [HR.out, if_neg (fun h => hok ⟨h.2.2, h.2.1⟩)])
            have HM := Lib.hid (fun w => mvValid_any F R a b p false (by simp only [Bool.false_eq_true, false_iff]; exact fun h => hok ⟨h.2.2.1, h.2.2.2⟩) w)
            clear hok
            obtain ⟨s0, s1⟩ := id hs
            obtain ⟨⟨r0, r1, r2⟩, rf⟩ := id hr
            have d0 := fun o => liv3 (w := w4) o s0
            have d1 := fun o => liv3 (w := w4) o s1
            have hm := box3 w4 a b p
            have bx := box1 w4 (.cells #[.int .i64 a, .int .i64 b, .int .i8 p] 27)
            go_wp2_with fail
            refine (HM.out _).mono ?_
            rintro e w5 ⟨rfl, b5⟩
            clear s0 s1 r0 r1 r2 rf
            clear d0 d1
            replace hm := hm.below b5 hm.lt
            replace hr := (hr.below bx hr.lt).below b5 (hr.below bx hr.lt).lt
            replace hB := chain (chain hB bx) b5
            clear bx b5 hs hK
            obtain ⟨⟨m0, m1, m2⟩, mf⟩ := id hm
            obtain ⟨⟨r0, r1, r2⟩, rf⟩ := id hr
            obtain ⟨t0, t1, t2⟩ := st3 hr
            go_wp2
            refine bodyPost_ret (v := rdA (none)) ?_ rfl ⟨by rw [E.out], below3 hB (by simp) _ _ _⟩
            simp [results, Tryd.results16, go_sem, rdA, t0, t1, t2]
        · rw [h6] at HR
          rw [h6]
          have E : Hid (rdM F R L = none) := Lib.hid (by rw [HR.out]; simp)
          generalize proV (L.drop 4) = p at *
          clear h6 HR
          obtain ⟨s0, s1⟩ := id hs
          obtain ⟨⟨r0, r1, r2⟩, rf⟩ := id hr
          clear hv
          obtain ⟨t0, t1, t2⟩ := st3 hr
          go_wp2
          refine bodyPost_ret (v := rdA (none)) ?_ rfl ⟨by rw [E.out], below3 hB (by simp) _ _ _⟩
          simp [results, Tryd.results16, go_sem, rdA, t0, t1, t2]

end Go.Proofs.YtpcfgeggjfbfjaaDoor
