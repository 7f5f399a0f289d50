/- The law of texts of lists: it answers true, and changes nothing that lay before. -/
import Derived.Test.YtpcfgeggjfbfjaaDoorMwH
import Derived.Test.YtpcfgeggjfbfjaaDoorMrC
import Derived.Test.YtpcfgeggjfbfjaaDoorMrD
import Derived.Test.YtpcfgeggjfbfjaaDoorMrB
namespace Go.Proofs.YtpcfgeggjfbfjaaDoor
open Go.RowKit Go.Sort

/-- the copies. -/
def reps (n : Nat) : List Mv := List.replicate n ⟨0, 1, 0⟩
theorem reps_len (n : Nat) : (reps n).length = n := by simp [reps]
theorem reps_ok (n : Nat) : ∀ m ∈ reps n, okM 3 3 m := by
  intro m hm
  rw [(List.mem_replicate.1 hm).2]
  exact ok_line _ (by simp)
theorem reps_succ (n : Nat) : vmvs (reps (n + 1)) = vmvs (reps n) ++ [.int .i64 0, .int .i64 1, .int .i8 0] := by
  unfold reps
  rw [List.replicate_succ', vmvs_app]
  rfl
theorem reps_text (n : Nat) : (lnT 3 (reps (n + 1))).length = 5 * n + 4 := by
  induction n with
  | zero => rfl
  | succ n ih =>
    have e : reps (n + 1 + 1) = reps (n + 1) ++ [⟨0, 1, 0⟩] := by unfold reps; rw [List.replicate_succ']
    rw [e, lnT_snoc 3 (by simp [reps])]
    simp only [List.length_append, ih]
    have : (mvT 3 ⟨0, 1, 0⟩).length = 4 := rfl
    rw [this]
    simp
    omega
theorem reps_words (n : Nat) (h : 0 < n) : wds (lnT 3 (reps n)) = (reps n).map (mvT 3) := by
  have h1 := wdsM_line (F := 3) (R := 3) (reps_ok n)
  unfold wdsM at h1
  rw [if_neg (lnT_ne (R := 3) (by intro e; have := congrArg List.length e; rw [reps_len] at this; simp at this; omega) (reps_ok n))] at h1
  exact h1
theorem reps_read (n : Nat) (h : 0 < n) : (wds (lnT 3 (reps n))).map (rdM 3 3) = (reps n).map some := by
  rw [reps_words n h, List.map_map]
  apply List.map_congr_left
  intro m hm
  exact rdM_text (reps_ok n m hm)
theorem reps_few (n : Nat) (h : 0 < n) (h2 : n ≤ 1000) : (wordsP (lnT 3 (reps n))).length ≤ 1000 := by
  obtain ⟨_, q, _⟩ := wordsP_or (lnT 3 (reps n))
  rcases Nat.lt_or_ge 1000 (wordsP (lnT 3 (reps n))).length with h3 | h3
  · have := q h3
    rw [reps_words n h, List.length_map, reps_len] at this
    omega
  · exact h3
theorem reps_lot (n : Nat) (h2 : 1000 < n) : 1000 < (wordsP (lnT 3 (reps n))).length := by
  obtain ⟨q, _, _⟩ := wordsP_or (lnT 3 (reps n))
  rcases Nat.lt_or_ge 1000 (wordsP (lnT 3 (reps n))).length with h3 | h3
  · exact h3
  · have := q h3
    rw [this, reps_words n (by omega), List.length_map, reps_len] at h3
    omega
theorem reps_size (n : Nat) (h : n ≤ 1005) : (bsL (lnT 3 (reps n))).size ≤ 10000 := by
  rw [bsL_size]
  have := lnT_len 3 (reps n)
  rw [reps_len] at this
  omega
theorem reps_one : ∀ u ∈ [Value.int .i64 0, .int .i64 1, .int .i8 0], u.oneCell' = true := by
  intro u hu
  simp at hu
  rcases hu with rfl | rfl | rfl <;> rfl

set_option maxRecDepth 100000 in
set_option maxHeartbeats 4000000 in
theorem law_mlines (F R : Int) (l : List Mv) (A : Option Addr) (c : Nat) (many : Int) (w : World) (hA : RdM w w.heap.size A l) (hK : Kinds w) :
    Calls Tryd.prog 6 #[.agg #[.int .i64 F, .int .i64 R], .slice A l.length c, .int .i64 many] w fun e w' => e = .returned (.bool true) ∧ Below w.heap.size w w' := by
  have H5 := Lib.hid (fun w hK => known7_any w hK)
  have hs := box2 w F R
  have hB := box1 w (.cells #[.int .i64 F, .int .i64 R] 23)
  have hk := hK.1
  replace hK := hK.below hB hk
  replace hA := rdMv hB hA
  clear hk
  obtain ⟨i0, hi, hz0, hz1, hz2⟩ := info_parts infoMv
  by_cases h40 : (l.length : Int) ≤ 40
  · have hn40 : ¬ 40 < (l.length : Int) := by omega
    by_cases hok : vsz F R ∧ ∀ m ∈ l, okM F R m
    · have H1 := Lib.hid (fun w hA hK => mvLine_yes F R l A c hok.1 (by omega) hok.2 w hA hK)
      have H2 := Lib.hid (fun w => refSize_yes F R hok.1 w)
      have H3 := Lib.hid (fun w hA => rmLine_any F R l A c (by omega) hok.2 w hA)
      have HV : Hid (∀ m ∈ l, okM F R m) := Lib.hid hok.2
      have hz : (bsL (lnT F l)).size ≤ 1000 := by
        rw [bsL_size]
        have := lnT_len F l
        omega
      clear hok
      generalize bsL (lnT F l) = tx at *
      go_enter Tryd.func6, Tryd.ntmps6
      obtain ⟨hs_0, hs_1⟩ := id hs
      go_wp2_with fail
      refine (H1.out _ hA hK).mono ?_
      rintro e w1 ⟨rfl, b1⟩
      clear hs_0 hs_1
      replace hs := hs.below b1 hs.lt
      replace hA := rdMv b1 hA
      replace hK := hK.below b1 hK.1
      replace hB := chain hB b1
      clear b1
      obtain ⟨hs_0, hs_1⟩ := id hs
      go_wp2_with fail
      refine (H2.out _).mono ?_
      rintro e w2 ⟨rfl, b2⟩
      clear hs_0 hs_1
      replace hs := hs.below b2 hs.lt
      replace hA := rdMv b2 hA
      replace hK := hK.below b2 hK.1
      replace hB := chain hB b2
      clear b2
      obtain ⟨hs_0, hs_1⟩ := id hs
      go_wp2
      clear hs_0 hs_1
      go_loopw [9, 10] (fun g i wr => g = .bool true ∧ ∃ k : Nat, k ≤ l.length ∧ i = .int .i64 k ∧ Below w2.heap.size w2 wr) (fun _ i _ => l.length - (intOf i).toNat)
      case atStart => exact ⟨rfl, 0, by omega, rfl, Below.refl _ _⟩
      case round =>
        obtain ⟨rfl, k, hk, rfl, hW⟩ := hrel
        have hs1 := hs.below hW hs.lt
        have hA1 := rdMv hW hA
        by_cases hlt : k < l.length
        · obtain ⟨m, hm⟩ : ∃ m, l[k]? = some m := ⟨_, List.getElem?_eq_getElem hlt⟩
          obtain ⟨ad, rfl, had, m0, m1, m2⟩ := hA1.at_ hm
          obtain ⟨x, y, p⟩ := m
          have HX := Lib.hid (fun w => rmValid_any F R x y p true (by simp only [true_iff]; exact HV.out _ (List.mem_of_getElem? hm)) w)
          simp only at m0 m1 m2
          obtain ⟨s0, s1⟩ := id hs1
          clear hm hA1 had hs1
          go_wp2_with fail
          have q0 := cell_regrown s0
          have q1 := cell_regrown s1
          have q2 := cell_regrown m0
          have q3 := cell_regrown m1
          have q4 := cell_regrown m2
          have cC0 := Lib.hid (fun d os => Calls.regrown_of (HX.out (grow (redrawn wr d) os)))
          refine wp_region_quiet_below (by kernel_rfl) (by kernel_rfl) ?_
          repeat (go_big_quiet_step (first | (go_at_call 10; exact cC0.out _ _)))
          refine wpQuiet_nil ?_
          intro _ hw'
          obtain ⟨⟨dq, osq⟩, hw''⟩ := hw'
          subst hw''
          have bq := below_regrown wr dq osq
          clear q0 q1 q2 q3 q4 cC0 s0 s1 m0 m1 m2
          generalize Go.Sort.grow (redrawn wr dq) osq = wq at *
          replace hW := chain hW bq
          go_wp2
          go_roundw
          case rel => exact ⟨rfl, k + 1, by omega, by go_num, hW⟩
          case measure => simp [intOf]; omega
        · replace hs := hs1
          replace hA := hA1
          replace hK := hK.below hW hK.1
          replace hB := chain hB hW
          have htt : (tx.toList == tx.toList) = true := by simp
          clear hW hA1 hs1 H1 H2 HV
          obtain ⟨hs_0, hs_1⟩ := id hs
          go_wp2_with fail
          refine (H3.out _ hA).mono ?_
          rintro e w3 ⟨rfl, b3⟩
          clear hs_0 hs_1
          replace hs := hs.below b3 hs.lt
          replace hA := rdMv b3 hA
          replace hK := hK.below b3 hK.1
          replace hB := chain hB b3
          clear b3
          clear H3
          by_cases hm1 : many < 995
          · clear hA
            go_wp2_with fail
            refine (H5.out _ hK).mono ?_
            rintro e w4 ⟨rfl, b4⟩
            replace hs := hs.below b4 hs.lt
            replace hK := hK.below b4 hK.1
            replace hB := chain hB b4
            clear b4
            go_wp2
            go_ret
            exact ⟨by rfl, hB⟩
          · by_cases hm2 : 1005 < many
            · clear hA
              go_wp2_with fail
              refine (H5.out _ hK).mono ?_
              rintro e w4 ⟨rfl, b4⟩
              replace hs := hs.below b4 hs.lt
              replace hK := hK.below b4 hK.1
              replace hB := chain hB b4
              clear b4
              go_wp2
              go_ret
              exact ⟨by rfl, hB⟩
            · obtain ⟨n, rfl⟩ := Int.eq_ofNat_of_zero_le (show 0 ≤ many by omega)
              have ht := box2 w3 3 3
              have bx := box1 w3 (.cells #[.int .i64 3, .int .i64 3] 23)
              replace hK := hK.below bx hK.1
              replace hB := chain hB bx
              clear bx hs hA
              go_wp2
              generalize w3.alloc (.cells #[.int .i64 3, .int .i64 3] 23) = Z at *
              go_loopw [12, 13] (fun v i wz => ∃ j : Nat, j ≤ n ∧ i = .int .i64 j ∧ wz.ownsRow Z.heap.size 27 3 v j (vmvs (reps j)) ∧ Below Z.heap.size Z wz) (fun _ i _ => n - (intOf i).toNat)
              case atStart => exact ⟨0, by omega, rfl, World.ownsRow_nil _ _ _ _, Below.refl _ _⟩
              case round =>
                obtain ⟨j, hj, rfl, hown, hZ⟩ := hrel
                have hsz2 := hZ.size
                by_cases hjn : j < n
                · have HT := Lib.hid (reps_succ j)
                  go_wp2_with (at_builtin; (refine wpList_append_own _ rfl _ _ 42 rfl Z.heap.size 27 i0 (.agg #[.int .i64 0, .int .i64 0, .int .i8 0]) 3 24 Tryd.underlying42 hi hz0 hz1 hz2 rfl (by decide) _ _ _ rfl (hown.alloc _) ⟨wr.heap.size, 0, none⟩ 1 1 [.int .i64 0, .int .i64 1, .int .i8 0] rfl rfl ?c1 ?c2 ?c3 ?c4 ?c5 ?_))
                  case c1 =>
                    intro j u hj
                    match j, hj with
                    | 0, hj => simp at hj; subst hj; simp [go_sem]
                    | 1, hj => simp at hj; subst hj; simp [go_sem]
                    | 2, hj => simp at hj; subst hj; simp [go_sem]
                  case c2 => exact reps_one
                  case c3 => unfold maxLen; omega
                  case c4 => omega
                  case c5 => simp; omega
                  intro v' w4 hown' hgrow _
                  go_wp2
                  go_roundw
                  case rel =>
                    refine ⟨j + 1, by omega, by go_num, ?_, ?_⟩
                    · rw [HT.out]; exact hown'
                    · exact (hZ.alloc (by omega) _).grown hgrow (by simp; omega) (fun r e => (World.ownsRow.lt hown r e).1)
                  case measure => simp [intOf]; omega
                · obtain rfl : j = n := by omega
                  have hown1 : wr.ownsRow Z.heap.size 27 3 u12 (reps j).length (vmvs (reps j)) := by rw [reps_len]; exact hown
                  obtain ⟨A3, c3, rfl, hc3, hA⟩ := RdM.own hown1
                  replace ht := ht.below hZ ht.lt
                  replace hK := hK.below hZ hK.1
                  replace hB := chain hB hZ
                  have HL2 := Lib.hid (fun w h => rmLine_any 3 3 (reps j) A3 c3 (by rw [reps_len]; omega) (reps_ok j) w h)
                  clear hown hown1 hZ hsz2
                  rw [reps_len]
                  simp only [reps_len] at HL2
                  by_cases hj1 : j ≤ 1000
                  · have HL1 := Lib.hid (fun w h k => mvLine_yes 3 3 (reps j) A3 c3 v33 (by rw [reps_len]; exact hj1) (reps_ok j) w h k)
                    have HL3 := Lib.hid (fun w k => mvPL_yes 3 3 (bsL (lnT 3 (reps j))) (reps_size j (by omega)) v33 (by rw [bsL_toList]; exact lnT_ne (R := 3) (by intro e; have := congrArg List.length e; rw [reps_len] at this; simp at this; omega) (reps_ok j)) (by rw [bsL_toList]; exact reps_few j (by omega) hj1) (reps j) (by rw [bsL_toList]; exact reps_read j (by omega)) w k)
                    have hzz : ((bsL (lnT 3 (reps j))).size : Int) = 5 * (j : Int) - 1 := by
                      obtain ⟨q, rfl⟩ : ∃ q, j = q + 1 := ⟨j - 1, by omega⟩
                      rw [bsL_size, reps_text]
                      omega
                    simp only [reps_len] at HL1
                    generalize bsL (lnT 3 (reps j)) = tz at *
                    obtain ⟨t0, t1⟩ := id ht
                    go_wp2_with fail
                    refine (HL1.out _ hA hK).mono ?_
                    rintro e yb5 ⟨rfl, b5⟩
                    clear t0 t1
                    replace ht := ht.below b5 ht.lt
                    replace hA := rdMv b5 hA
                    replace hK := hK.below b5 hK.1
                    replace hB := chain hB b5
                    clear b5
                    have hS : (yb5.cell? ⟨w3.heap.size, 0, none⟩ = some (.int .i64 3) ∧ yb5.cell? ⟨w3.heap.size, 1, none⟩ = some (.int .i64 3)) ∧ BelM yb5 yb5 := ⟨⟨ht.1, ht.2⟩, Below.refl _ _⟩
                    have hAd : RdM yb5.drew yb5.drew.heap.size A3 (reps j) := hA
                    have hKd : Kinds yb5.drew := hK
                    go_wp2_with fail
                    go_region_held3 (fun w' => (w'.cell? ⟨w3.heap.size, 0, none⟩ = some (.int .i64 3) ∧ w'.cell? ⟨w3.heap.size, 1, none⟩ = some (.int .i64 3)) ∧ BelM yb5 w')
                      (first | assumption | exact keepM hS ((Below.refl _ _).drew) | exact keepM (by assumption) (by assumption) | exact keepM (keepM hS ((Below.refl _ _).drew)) hc1 | exact keepM (keepM (keepM hS ((Below.refl _ _).drew)) hc1) hc2)
                      (first
                        | (go_at_call 20; refine (HL2.out _ hAd).mono ?_; rintro e u1 ⟨rfl, hc1⟩)
                        | (go_at_call 21; refine (HL3.out _ (hKd.below hc1 hKd.1)).mono ?_; rintro e u2 ⟨v4, rfl, ho4, hc2⟩))
                    have bD : Below yb5.heap.size yb5 yb5.drew := (Below.refl _ _).drew
                    have bq := chain (chain bD hc1) hc2
                    clear hS hAd bD hc1 hc2 hKd
                    obtain ⟨A4, c4, rfl, hc4, hA4⟩ := RdM.own ho4
                    clear ho4
                    replace ht := ht.below bq ht.lt
                    replace hA := rdMv bq hA
                    replace hK := hK.below bq hK.1
                    replace hB := chain hB bq
                    clear bq
                    rw [reps_len]
                    have HL4 := Lib.hid (fun w h1 h2 => rmSame_any (reps j) (reps j) A4 A3 c4 c3 (by rw [reps_len]; omega) true (by simp) w h1 h2)
                    simp only [reps_len] at HL4
                    go_wp2_with fail
                    refine (HL4.out _ hA4 hA).mono ?_
                    rintro e y7 ⟨rfl, b7⟩
                    replace hK := hK.below b7 hK.1
                    replace hB := chain hB b7
                    go_wp2_with fail
                    refine (H5.out _ hK).mono ?_
                    rintro e y8 ⟨rfl, b8⟩
                    replace hB := chain hB b8
                    go_wp2
                    go_ret
                    exact ⟨by rfl, hB⟩
                  · have HL1 := Lib.hid (fun w => mvLine_many 3 3 (reps j) A3 c3 v33 (by rw [reps_len]; omega) w)
                    have HL3 := Lib.hid (fun w => mvPL_many 3 3 (bsL (lnT 3 (reps j))) (reps_size j (by omega)) v33 (by rw [bsL_toList]; exact reps_lot j (by omega)) w)
                    simp only [reps_len] at HL1
                    generalize bsL (lnT 3 (reps j)) = tz at *
                    obtain ⟨t0, t1⟩ := id ht
                    go_wp2_with fail
                    refine (HL1.out _).mono ?_
                    rintro e yb5 ⟨rfl, b5⟩
                    clear t0 t1
                    replace ht := ht.below b5 ht.lt
                    replace hA := rdMv b5 hA
                    replace hK := hK.below b5 hK.1
                    replace hB := chain hB b5
                    clear b5
                    have hS : (yb5.cell? ⟨w3.heap.size, 0, none⟩ = some (.int .i64 3) ∧ yb5.cell? ⟨w3.heap.size, 1, none⟩ = some (.int .i64 3)) ∧ BelM yb5 yb5 := ⟨⟨ht.1, ht.2⟩, Below.refl _ _⟩
                    have hAd : RdM yb5.drew yb5.drew.heap.size A3 (reps j) := hA
                    have hKd : Kinds yb5.drew := hK
                    go_wp2_with fail
                    go_region_held3 (fun w' => (w'.cell? ⟨w3.heap.size, 0, none⟩ = some (.int .i64 3) ∧ w'.cell? ⟨w3.heap.size, 1, none⟩ = some (.int .i64 3)) ∧ BelM yb5 w')
                      (first | assumption | exact keepM hS ((Below.refl _ _).drew) | exact keepM (by assumption) (by assumption) | exact keepM (keepM hS ((Below.refl _ _).drew)) hc1 | exact keepM (keepM (keepM hS ((Below.refl _ _).drew)) hc1) hc2)
                      (first
                        | (go_at_call 20; refine (HL2.out _ hAd).mono ?_; rintro e u1 ⟨rfl, hc1⟩)
                        | (go_at_call 21; refine (HL3.out _).mono ?_; rintro e u2 ⟨rfl, hc2⟩))
                    have bD : Below yb5.heap.size yb5 yb5.drew := (Below.refl _ _).drew
                    have bq := chain (chain bD hc1) hc2
                    clear hS hAd bD hc1 hc2 hKd
                    replace ht := ht.below bq ht.lt
                    replace hA := rdMv bq hA
                    replace hK := hK.below bq hK.1
                    replace hB := chain hB bq
                    clear bq
                    obtain ⟨t0, t1⟩ := id ht
                    go_wp2_with fail
                    refine (H5.out _ hK).mono ?_
                    rintro e yb8 ⟨rfl, b8⟩
                    clear t0 t1
                    replace ht := ht.below b8 ht.lt
                    replace hA := rdMv b8 hA
                    replace hK := hK.below b8 hK.1
                    replace hB := chain hB b8
                    clear b8
                    go_wp2
                    go_ret
                    exact ⟨by rfl, hB⟩
    · have H1 := Lib.hid (fun w hA hK => mvLine_no F R l A c (fun h => hok ⟨h.1, h.2.2⟩) w hA hK)
      obtain ⟨gv, hgv⟩ := bool_is (vsz F R)
      have H2 : Hid (∀ w : World, Calls Tryd.prog 17 #[.agg #[.int .i64 F, .int .i64 R]] w fun e w' => e = .returned (.bool gv) ∧ Below w.heap.size w w') := Lib.hid (fun w => by
        by_cases hv : vsz F R
        · rw [b_true hgv hv]; exact refSize_yes F R hv w
        · rw [b_false hgv hv]; exact refSize_no F R hv w)
      have HOK := Lib.hid hok
      have HGV := Lib.hid hgv
      clear hok hgv
      go_enter Tryd.func6, Tryd.ntmps6
      obtain ⟨hs_0, hs_1⟩ := id hs
      go_wp2_with fail
      refine (H1.out _ hA hK).mono ?_
      rintro e w1 ⟨rfl, b1⟩
      clear hs_0 hs_1
      replace hs := hs.below b1 hs.lt
      replace hA := rdMv b1 hA
      replace hK := hK.below b1 hK.1
      replace hB := chain hB b1
      clear b1
      obtain ⟨hs_0, hs_1⟩ := id hs
      go_wp2_with fail
      refine (H2.out _).mono ?_
      rintro e w2 ⟨rfl, b2⟩
      clear hs_0 hs_1
      replace hs := hs.below b2 hs.lt
      replace hA := rdMv b2 hA
      replace hK := hK.below b2 hK.1
      replace hB := chain hB b2
      clear b2
      obtain ⟨hs_0, hs_1⟩ := id hs
      go_wp2
      clear hs_0 hs_1
      go_loopw [9, 10] (fun g i wr => ∃ k : Nat, k ≤ l.length ∧ i = .int .i64 k ∧ (∃ gb : Bool, g = .bool gb ∧ Hid (gb = true ↔ vsz F R ∧ ∀ m ∈ l.take k, okM F R m)) ∧ Below w2.heap.size w2 wr) (fun _ i _ => l.length - (intOf i).toNat)
      case atStart => exact ⟨0, by omega, rfl, ⟨gv, rfl, Lib.hid (HGV.out.trans ⟨fun h => ⟨h, fun m hm => by simp at hm⟩, fun h => h.1⟩)⟩, Below.refl _ _⟩
      case round =>
        obtain ⟨k, hk, rfl, ⟨gb, rfl, HG⟩, hW⟩ := hrel
        have hs1 := hs.below hW hs.lt
        have hA1 := rdMv hW hA
        by_cases hlt : k < l.length
        · obtain ⟨m, hm⟩ : ∃ m, l[k]? = some m := ⟨_, List.getElem?_eq_getElem hlt⟩
          have ht : l.take (k + 1) = l.take k ++ [m] := by
            rw [List.take_add_one, hm]
            rfl
          have HT := Lib.hid ht
          obtain ⟨ad, rfl, had, m0, m1, m2⟩ := hA1.at_ hm
          obtain ⟨x, y, p⟩ := m
          obtain ⟨vb, hvb⟩ := bool_is (okM F R ⟨x, y, p⟩)
          have HX := Lib.hid (fun w => rmValid_any F R x y p vb hvb w)
          have HVB := Lib.hid hvb
          simp only at m0 m1 m2
          obtain ⟨s0, s1⟩ := id hs1
          clear hm hA1 had hs1 ht hvb
          cases gb with
          | true =>
            have HN : Hid (vb = true ↔ vsz F R ∧ ∀ m ∈ l.take (k + 1), okM F R m) := Lib.hid (by
              have hg := HG.out.1 rfl
              rw [HVB.out, HT.out]
              constructor
              · intro h
                refine ⟨hg.1, fun m hm => ?_⟩
                rcases List.mem_append.1 hm with hm | hm
                · exact hg.2 m hm
                · rw [List.mem_singleton.1 hm]; exact h
              · intro h
                exact h.2 _ (by simp))
            go_wp2_with fail
            have q0 := cell_regrown s0
            have q1 := cell_regrown s1
            have q2 := cell_regrown m0
            have q3 := cell_regrown m1
            have q4 := cell_regrown m2
            have cC0 := Lib.hid (fun d os => Calls.regrown_of (HX.out (grow (redrawn wr d) os)))
            refine wp_region_quiet_below (by kernel_rfl) (by kernel_rfl) ?_
            repeat (go_big_quiet_step (first | (go_at_call 10; exact cC0.out _ _)))
            refine wpQuiet_nil ?_
            intro _ hw'
            obtain ⟨⟨dq, osq⟩, hw''⟩ := hw'
            subst hw''
            have bq := below_regrown wr dq osq
            clear q0 q1 q2 q3 q4 cC0 s0 s1 m0 m1 m2
            generalize Go.Sort.grow (redrawn wr dq) osq = wq at *
            replace hW := chain hW bq
            go_wp2
            go_roundw
            case rel => exact ⟨k + 1, by omega, by go_num, ⟨vb, rfl, HN⟩, hW⟩
            case measure => simp [intOf]; omega
          | false =>
            have HN : Hid (false = true ↔ vsz F R ∧ ∀ m ∈ l.take (k + 1), okM F R m) := Lib.hid (by
              have hg := HG.out
              rw [HT.out]
              constructor
              · intro h
                exact absurd h (by simp)
              · intro h
                exact hg.2 ⟨h.1, fun m hm => h.2 m (List.mem_append_left _ hm)⟩)
            go_wp2_with fail
            have q0 := cell_regrown s0
            have q1 := cell_regrown s1
            have q2 := cell_regrown m0
            have q3 := cell_regrown m1
            have q4 := cell_regrown m2
            refine wp_region_quiet_below (by kernel_rfl) (by kernel_rfl) ?_
            repeat (go_big_quiet_step (fail))
            refine wpQuiet_nil ?_
            intro _ hw'
            obtain ⟨⟨dq, osq⟩, hw''⟩ := hw'
            subst hw''
            have bq := below_regrown wr dq osq
            clear q0 q1 q2 q3 q4 s0 s1 m0 m1 m2
            generalize Go.Sort.grow (redrawn wr dq) osq = wq at *
            replace hW := chain hW bq
            go_wp2
            go_roundw
            case rel => exact ⟨k + 1, by omega, by go_num, ⟨false, rfl, HN⟩, hW⟩
            case measure => simp [intOf]; omega
        · have hkl : l.take k = l := List.take_of_length_le (by omega)
          have hgb : gb = false := by
            cases gb with
            | false => rfl
            | true =>
              have h := HG.out.1 rfl
              rw [hkl] at h
              exact absurd h HOK.out
          subst hgb
          replace hs := hs1
          replace hA := hA1
          replace hK := hK.below hW hK.1
          replace hB := chain hB hW
          clear hW hA1 hs1 H1 H2 HOK HGV HG hkl
          obtain ⟨wk, rfl⟩ : ∃ wk : World, wk = wr := ⟨_, rfl⟩
          by_cases hm1 : many < 995
          · clear hA
            go_wp2_with fail
            refine (H5.out _ hK).mono ?_
            rintro e w3 ⟨rfl, b3⟩
            replace hs := hs.below b3 hs.lt
            replace hK := hK.below b3 hK.1
            replace hB := chain hB b3
            clear b3
            go_wp2
            go_ret
            exact ⟨by rfl, hB⟩
          · by_cases hm2 : 1005 < many
            · clear hA
              go_wp2_with fail
              refine (H5.out _ hK).mono ?_
              rintro e w3 ⟨rfl, b3⟩
              replace hs := hs.below b3 hs.lt
              replace hK := hK.below b3 hK.1
              replace hB := chain hB b3
              clear b3
              go_wp2
              go_ret
              exact ⟨by rfl, hB⟩
            · obtain ⟨n, rfl⟩ := Int.eq_ofNat_of_zero_le (show 0 ≤ many by omega)
              have ht := box2 wk 3 3
              have bx := box1 wk (.cells #[.int .i64 3, .int .i64 3] 23)
              replace hK := hK.below bx hK.1
              replace hB := chain hB bx
              clear bx hs hA
              go_wp2
              generalize wk.alloc (.cells #[.int .i64 3, .int .i64 3] 23) = Z at *
              go_loopw [12, 13] (fun v i wz => ∃ j : Nat, j ≤ n ∧ i = .int .i64 j ∧ wz.ownsRow Z.heap.size 27 3 v j (vmvs (reps j)) ∧ Below Z.heap.size Z wz) (fun _ i _ => n - (intOf i).toNat)
              case atStart => exact ⟨0, by omega, rfl, World.ownsRow_nil _ _ _ _, Below.refl _ _⟩
              case round =>
                obtain ⟨j, hj, rfl, hown, hZ⟩ := hrel
                have hsz2 := hZ.size
                by_cases hjn : j < n
                · have HT := Lib.hid (reps_succ j)
                  go_wp2_with (at_builtin; (refine wpList_append_own _ rfl _ _ 42 rfl Z.heap.size 27 i0 (.agg #[.int .i64 0, .int .i64 0, .int .i8 0]) 3 24 Tryd.underlying42 hi hz0 hz1 hz2 rfl (by decide) _ _ _ rfl (hown.alloc _) ⟨wr.heap.size, 0, none⟩ 1 1 [.int .i64 0, .int .i64 1, .int .i8 0] rfl rfl ?c1 ?c2 ?c3 ?c4 ?c5 ?_))
                  case c1 =>
                    intro j u hj
                    match j, hj with
                    | 0, hj => simp at hj; subst hj; simp [go_sem]
                    | 1, hj => simp at hj; subst hj; simp [go_sem]
                    | 2, hj => simp at hj; subst hj; simp [go_sem]
                  case c2 => exact reps_one
                  case c3 => unfold maxLen; omega
                  case c4 => omega
                  case c5 => simp; omega
                  intro v' w4 hown' hgrow _
                  go_wp2
                  go_roundw
                  case rel =>
                    refine ⟨j + 1, by omega, by go_num, ?_, ?_⟩
                    · rw [HT.out]; exact hown'
                    · exact (hZ.alloc (by omega) _).grown hgrow (by simp; omega) (fun r e => (World.ownsRow.lt hown r e).1)
                  case measure => simp [intOf]; omega
                · obtain rfl : j = n := by omega
                  have hown1 : wr.ownsRow Z.heap.size 27 3 u12 (reps j).length (vmvs (reps j)) := by rw [reps_len]; exact hown
                  obtain ⟨A3, c3, rfl, hc3, hA⟩ := RdM.own hown1
                  replace ht := ht.below hZ ht.lt
                  replace hK := hK.below hZ hK.1
                  replace hB := chain hB hZ
                  have HL2 := Lib.hid (fun w h => rmLine_any 3 3 (reps j) A3 c3 (by rw [reps_len]; omega) (reps_ok j) w h)
                  clear hown hown1 hZ hsz2
                  rw [reps_len]
                  simp only [reps_len] at HL2
                  by_cases hj1 : j ≤ 1000
                  · have HL1 := Lib.hid (fun w h k => mvLine_yes 3 3 (reps j) A3 c3 v33 (by rw [reps_len]; exact hj1) (reps_ok j) w h k)
                    have HL3 := Lib.hid (fun w k => mvPL_yes 3 3 (bsL (lnT 3 (reps j))) (reps_size j (by omega)) v33 (by rw [bsL_toList]; exact lnT_ne (R := 3) (by intro e; have := congrArg List.length e; rw [reps_len] at this; simp at this; omega) (reps_ok j)) (by rw [bsL_toList]; exact reps_few j (by omega) hj1) (reps j) (by rw [bsL_toList]; exact reps_read j (by omega)) w k)
                    have hzz : ((bsL (lnT 3 (reps j))).size : Int) = 5 * (j : Int) - 1 := by
                      obtain ⟨q, rfl⟩ : ∃ q, j = q + 1 := ⟨j - 1, by omega⟩
                      rw [bsL_size, reps_text]
                      omega
                    simp only [reps_len] at HL1
                    generalize bsL (lnT 3 (reps j)) = tz at *
                    obtain ⟨t0, t1⟩ := id ht
                    go_wp2_with fail
                    refine (HL1.out _ hA hK).mono ?_
                    rintro e yb5 ⟨rfl, b5⟩
                    clear t0 t1
                    replace ht := ht.below b5 ht.lt
                    replace hA := rdMv b5 hA
                    replace hK := hK.below b5 hK.1
                    replace hB := chain hB b5
                    clear b5
                    have hS : (yb5.cell? ⟨wk.heap.size, 0, none⟩ = some (.int .i64 3) ∧ yb5.cell? ⟨wk.heap.size, 1, none⟩ = some (.int .i64 3)) ∧ BelM yb5 yb5 := ⟨⟨ht.1, ht.2⟩, Below.refl _ _⟩
                    have hAd : RdM yb5.drew yb5.drew.heap.size A3 (reps j) := hA
                    have hKd : Kinds yb5.drew := hK
                    go_wp2_with fail
                    go_region_held3 (fun w' => (w'.cell? ⟨wk.heap.size, 0, none⟩ = some (.int .i64 3) ∧ w'.cell? ⟨wk.heap.size, 1, none⟩ = some (.int .i64 3)) ∧ BelM yb5 w')
                      (first | assumption | exact keepM hS ((Below.refl _ _).drew) | exact keepM (by assumption) (by assumption) | exact keepM (keepM hS ((Below.refl _ _).drew)) hc1 | exact keepM (keepM (keepM hS ((Below.refl _ _).drew)) hc1) hc2)
                      (first
                        | (go_at_call 20; refine (HL2.out _ hAd).mono ?_; rintro e u1 ⟨rfl, hc1⟩)
                        | (go_at_call 21; refine (HL3.out _ (hKd.below hc1 hKd.1)).mono ?_; rintro e u2 ⟨v4, rfl, ho4, hc2⟩))
                    have bD : Below yb5.heap.size yb5 yb5.drew := (Below.refl _ _).drew
                    have bq := chain (chain bD hc1) hc2
                    clear hS hAd bD hc1 hc2 hKd
                    obtain ⟨A4, c4, rfl, hc4, hA4⟩ := RdM.own ho4
                    clear ho4
                    replace ht := ht.below bq ht.lt
                    replace hA := rdMv bq hA
                    replace hK := hK.below bq hK.1
                    replace hB := chain hB bq
                    clear bq
                    rw [reps_len]
                    have HL4 := Lib.hid (fun w h1 h2 => rmSame_any (reps j) (reps j) A4 A3 c4 c3 (by rw [reps_len]; omega) true (by simp) w h1 h2)
                    simp only [reps_len] at HL4
                    go_wp2_with fail
                    refine (HL4.out _ hA4 hA).mono ?_
                    rintro e y7 ⟨rfl, b7⟩
                    replace hK := hK.below b7 hK.1
                    replace hB := chain hB b7
                    go_wp2_with fail
                    refine (H5.out _ hK).mono ?_
                    rintro e y8 ⟨rfl, b8⟩
                    replace hB := chain hB b8
                    go_wp2
                    go_ret
                    exact ⟨by rfl, hB⟩
                  · have HL1 := Lib.hid (fun w => mvLine_many 3 3 (reps j) A3 c3 v33 (by rw [reps_len]; omega) w)
                    have HL3 := Lib.hid (fun w => mvPL_many 3 3 (bsL (lnT 3 (reps j))) (reps_size j (by omega)) v33 (by rw [bsL_toList]; exact reps_lot j (by omega)) w)
                    simp only [reps_len] at HL1
                    generalize bsL (lnT 3 (reps j)) = tz at *
                    obtain ⟨t0, t1⟩ := id ht
                    go_wp2_with fail
                    refine (HL1.out _).mono ?_
                    rintro e yb5 ⟨rfl, b5⟩
                    clear t0 t1
                    replace ht := ht.below b5 ht.lt
                    replace hA := rdMv b5 hA
                    replace hK := hK.below b5 hK.1
                    replace hB := chain hB b5
                    clear b5
                    have hS : (yb5.cell? ⟨wk.heap.size, 0, none⟩ = some (.int .i64 3) ∧ yb5.cell? ⟨wk.heap.size, 1, none⟩ = some (.int .i64 3)) ∧ BelM yb5 yb5 := ⟨⟨ht.1, ht.2⟩, Below.refl _ _⟩
                    have hAd : RdM yb5.drew yb5.drew.heap.size A3 (reps j) := hA
                    have hKd : Kinds yb5.drew := hK
                    go_wp2_with fail
                    go_region_held3 (fun w' => (w'.cell? ⟨wk.heap.size, 0, none⟩ = some (.int .i64 3) ∧ w'.cell? ⟨wk.heap.size, 1, none⟩ = some (.int .i64 3)) ∧ BelM yb5 w')
                      (first | assumption | exact keepM hS ((Below.refl _ _).drew) | exact keepM (by assumption) (by assumption) | exact keepM (keepM hS ((Below.refl _ _).drew)) hc1 | exact keepM (keepM (keepM hS ((Below.refl _ _).drew)) hc1) hc2)
                      (first
                        | (go_at_call 20; refine (HL2.out _ hAd).mono ?_; rintro e u1 ⟨rfl, hc1⟩)
                        | (go_at_call 21; refine (HL3.out _).mono ?_; rintro e u2 ⟨rfl, hc2⟩))
                    have bD : Below yb5.heap.size yb5 yb5.drew := (Below.refl _ _).drew
                    have bq := chain (chain bD hc1) hc2
                    clear hS hAd bD hc1 hc2 hKd
                    replace ht := ht.below bq ht.lt
                    replace hA := rdMv bq hA
                    replace hK := hK.below bq hK.1
                    replace hB := chain hB bq
                    clear bq
                    obtain ⟨t0, t1⟩ := id ht
                    go_wp2_with fail
                    refine (H5.out _ hK).mono ?_
                    rintro e yb8 ⟨rfl, b8⟩
                    clear t0 t1
                    replace ht := ht.below b8 ht.lt
                    replace hA := rdMv b8 hA
                    replace hK := hK.below b8 hK.1
                    replace hB := chain hB b8
                    clear b8
                    go_wp2
                    go_ret
                    exact ⟨by rfl, hB⟩
  · have hn20 : 40 < (l.length : Int) := by omega
    go_enter Tryd.func6, Tryd.ntmps6
    obtain ⟨hs_0, hs_1⟩ := id hs
    go_wp2_with fail
    refine (H5.out _ hK).mono ?_
    rintro e w1 ⟨rfl, b1⟩
    clear hs_0 hs_1
    replace hs := hs.below b1 hs.lt
    replace hK := hK.below b1 hK.1
    replace hB := chain hB b1
    clear b1
    obtain ⟨hs_0, hs_1⟩ := id hs
    go_wp2
    go_ret
    exact ⟨by rfl, hB⟩

end Go.Proofs.YtpcfgeggjfbfjaaDoor
