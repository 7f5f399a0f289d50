/- The law of texts that are read as lists: it answers true, and changes nothing that lay before. -/
import Derived.Test.YtpcfgeggjfbfjaaDoorMwH
import Derived.Test.YtpcfgeggjfbfjaaDoorMrB
import Derived.Test.YtpcfgeggjfbfjaaDoorMrC
import Derived.Test.YtpcfgeggjfbfjaaDoorMrD
namespace Go.Proofs.YtpcfgeggjfbfjaaDoor
open Go.RowKit Go.Sort

/-- the words of a row of strings. -/
def RdW (W : World) (g : Nat) (ts : List (List UInt8)) : Prop := g < W.heap.size ∧ ∀ k t, ts[k]? = some t → W.cell? ⟨g, k, none⟩ = some (.string (bsL t))
theorem RdW.below {W W' : World} {g : Nat} {ts : List (List UInt8)} (h : RdW W g ts) (hb : Below W.heap.size W W') : RdW W' g ts := ⟨Nat.lt_of_lt_of_le h.1 hb.size, fun k t hk => (hb.cell (p := ⟨g, k, none⟩) h.1).trans (h.2 k t hk)⟩
theorem RdW.of {W : World} {B e : Nat} {v : Value} {ts : List (List UInt8)} (hne : 0 < ts.length) (h : W.ownsRow B e 1 v ts.length (vstW ts)) : ∃ g cap, v = .slice (some ⟨g, 0, none⟩) ts.length cap ∧ RdW W g ts := by
  obtain ⟨g, cap, rfl⟩ := Joins.ownsRow_form h hne
  refine ⟨g, cap, rfl, (World.ownsRow.lt h g rfl).2, fun k t hk => ?_⟩
  have hl := (List.getElem?_eq_some_iff.1 hk).1
  rw [h.cellAt k (by omega)]
  simp [vstW, hk]
theorem keepN {V W W' : World} {g b k : Nat} {z0 z1 z2 : Value} (h : (W.cell? ⟨g, 0, none⟩ = some z0 ∧ W.cell? ⟨g, 1, none⟩ = some z1 ∧ W.cell? ⟨b, k, none⟩ = some z2) ∧ BelM V W) (hb : Below W.heap.size W W') : (W'.cell? ⟨g, 0, none⟩ = some z0 ∧ W'.cell? ⟨g, 1, none⟩ = some z1 ∧ W'.cell? ⟨b, k, none⟩ = some z2) ∧ BelM V W' :=
  ⟨⟨cBm hb h.1.1, cBm hb h.1.2.1, cBm hb h.1.2.2⟩, Below.trans h.2 (hb.mono (Below.size h.2))⟩
theorem keepNs {V W : World} {b g q k : Nat} {z0 z1 z2 : Value} (h : (V.cell? ⟨g, 0, none⟩ = some z0 ∧ V.cell? ⟨g, 1, none⟩ = some z1 ∧ V.cell? ⟨q, k, none⟩ = some z2) ∧ BelM V V) (hb : Below V.heap.size V W) (hbb : V.heap.size ≤ b) (v0 v1 v2 : Value) :
    ((((W.setCell ⟨b, 0, none⟩ v0).setCell ⟨b, 1, none⟩ v1).setCell ⟨b, 2, none⟩ v2).cell? ⟨g, 0, none⟩ = some z0 ∧ (((W.setCell ⟨b, 0, none⟩ v0).setCell ⟨b, 1, none⟩ v1).setCell ⟨b, 2, none⟩ v2).cell? ⟨g, 1, none⟩ = some z1 ∧ (((W.setCell ⟨b, 0, none⟩ v0).setCell ⟨b, 1, none⟩ v1).setCell ⟨b, 2, none⟩ v2).cell? ⟨q, k, none⟩ = some z2) ∧ BelMm V W b v0 v1 v2 :=
  keepN h (below3 hb hbb v0 v1 v2)
theorem few_words {L : List UInt8} (h : L.length ≤ 300) : (wordsP L).length ≤ 1000 ∧ (wds L).length ≤ 301 := by
  have h1 := List.count_le_length (a := (32 : UInt8)) (l := L)
  have h2 := wds_count L
  obtain ⟨_, q, _⟩ := wordsP_or L
  refine ⟨?_, by omega⟩
  rcases Nat.lt_or_ge 1000 (wordsP L).length with h3 | h3
  · have := q h3; omega
  · exact h3
theorem rdB_some' (a b p : Int) : rdB (some ⟨a, b, p⟩) = .tuple #[.agg #[.int .i64 a, .int .i64 b, .int .i8 p], .bool true] := rfl
theorem rdB_none' : rdB none = .tuple #[.agg #[.int .i64 0, .int .i64 0, .int .i8 0], .bool false] := rfl

set_option maxRecDepth 100000 in
set_option maxHeartbeats 4000000 in
theorem law_mreads (F R : Int) (s : ByteArray) (w : World) (hK : Kinds w) :
    Calls Tryd.prog 7 #[.agg #[.int .i64 F, .int .i64 R], .string s] w fun e w' => e = .returned (.bool true) ∧ Below w.heap.size w w' := by
  have H5 := Lib.hid (fun w hK => known7_any w hK)
  have hs := box2 w F R
  have hB := box1 w (.cells #[.int .i64 F, .int .i64 R] 23)
  have hk := hK.1
  replace hK := hK.below hB hk
  clear hk
  obtain ⟨i0, hi, hz0, hz1, hz2⟩ := info_parts infoMv
  have hLs : s.data.toList.length = s.size := by rw [Array.length_toList]; rfl
  by_cases h20 : (s.size : Int) ≤ 300
  · have hn20 : ¬ 300 < (s.size : Int) := by omega
    have hsz : s.size ≤ 10000 := by omega
    by_cases hv : vsz F R
    · have H2 := Lib.hid (fun w => refSize_yes F R hv w)
      by_cases hne : s.data.toList = []
      · have hse : s = ⟨#[]⟩ := bytes_eq hne
        subst hse
        have H1 := Lib.hid (fun w => mvPL_none F R hv w)
        have H3 := Lib.hid (fun w => (rmWords_none w).mono (fun e w' h => (⟨h.1, by rw [← h.2]; exact Below.refl _ _⟩ : _ ∧ Below w.heap.size w w')))
        have H4 := Lib.hid (fun w => rmSame_eq [] none none 0 0 (by decide) w (rdM_nil _ _ _) (rdM_nil _ _ _))
        simp only [List.length_nil] at H4
        clear hv hne hLs h20 hsz hn20
        go_enter Tryd.func7, Tryd.ntmps7
        obtain ⟨hs_0, hs_1⟩ := id hs
        go_wp2_with fail
        refine (H1.out _).mono ?_
        rintro e w1 ⟨rfl, b1⟩
        clear hs_0 hs_1
        replace hs := hs.below b1 hs.lt
        replace hK := hK.below b1 hK.1
        replace hB := chain hB b1
        clear b1
        obtain ⟨hs_0, hs_1⟩ := id hs
        go_wp2_with fail
        refine (H2.out _).mono ?_
        rintro e w2 ⟨rfl, b2⟩
        clear hs_0 hs_1
        replace hs := hs.below b2 hs.lt
        replace hK := hK.below b2 hK.1
        replace hB := chain hB b2
        clear b2
        obtain ⟨hs_0, hs_1⟩ := id hs
        go_wp2_with fail
        refine (H3.out _).mono ?_
        rintro e w3 ⟨rfl, b3⟩
        clear hs_0 hs_1
        replace hs := hs.below b3 hs.lt
        replace hK := hK.below b3 hK.1
        replace hB := chain hB b3
        clear b3
        obtain ⟨hs_0, hs_1⟩ := id hs
        go_wp2
        clear hs_0 hs_1
        go_loopw [9, 10] (fun v i wr => v = .slice none 0 0 ∧ i = .int .i64 0 ∧ wr = w3) (fun _ _ _ => 0)
        case atStart => exact ⟨rfl, rfl, rfl⟩
        case round =>
          obtain ⟨rfl, rfl, rfl⟩ := hrel
          obtain ⟨hs_0, hs_1⟩ := id hs
          go_wp2_with fail
          refine (H4.out _).mono ?_
          rintro e w4 ⟨rfl, b4⟩
          clear hs_0 hs_1
          replace hs := hs.below b4 hs.lt
          replace hK := hK.below b4 hK.1
          replace hB := chain hB b4
          clear b4
          obtain ⟨hs_0, hs_1⟩ := id hs
          go_wp2_with fail
          refine (H5.out _ hK).mono ?_
          rintro e w5 ⟨rfl, b5⟩
          clear hs_0 hs_1
          replace hs := hs.below b5 hs.lt
          replace hK := hK.below b5 hK.1
          replace hB := chain hB b5
          clear b5
          obtain ⟨hs_0, hs_1⟩ := id hs
          go_wp2
          go_ret
          exact ⟨by rfl, hB⟩
      · have hfw := few_words (L := s.data.toList) (by omega)
        have hwl : 1 ≤ (wds s.data.toList).length := by rw [wds_count]; omega
        have H3 := Lib.hid (fun w => rmWords_any s hsz hne w)
        rcases words_or F R (wds s.data.toList) with ⟨l, hl⟩ | ⟨l, t0, us, hw0, hl, hbad⟩
        · have hlen : (wds s.data.toList).length = l.length := by have := congrArg List.length hl; simpa using this
          have HPRE : Hid (∀ (k : Nat) (u : List UInt8), k < l.length → (wds s.data.toList)[k]? = some u → rdM F R u = l[k]?) := Lib.hid (fun k u _ hk => by
            have h1 := congrArg (·[k]?) hl
            simp only [List.getElem?_map, hk, Option.map_some] at h1
            cases hh : l[k]? with
            | none => rw [hh] at h1; simp at h1
            | some m => rw [hh] at h1; simpa using h1)
          have H1 := Lib.hid (fun w hK => mvPL_yes F R s hsz hv hne hfw.1 l hl w hK)
          have hlw : l.length ≤ (wds s.data.toList).length := by omega
          have hn301 := hfw.2
          clear hfw hne hLs hl 
          generalize wds s.data.toList = ws at *
          go_enter Tryd.func7, Tryd.ntmps7
          obtain ⟨hs_0, hs_1⟩ := id hs
          go_wp2_with fail
          refine (H1.out _ hK).mono ?_
          rintro e w1 ⟨v1, rfl, ho1, b1⟩
          obtain ⟨A1, c1, rfl, hc1, hA1⟩ := RdM.own ho1
          clear ho1
          clear hs_0 hs_1
          replace hs := hs.below b1 hs.lt
          replace hK := hK.below b1 hK.1
          replace hB := chain hB b1
          clear b1
          obtain ⟨hs_0, hs_1⟩ := id hs
          go_wp2_with fail
          refine (H2.out _).mono ?_
          rintro e w2 ⟨rfl, b2⟩
          clear hs_0 hs_1
          replace hs := hs.below b2 hs.lt
          replace hA1 := rdMv b2 hA1
          replace hK := hK.below b2 hK.1
          replace hB := chain hB b2
          clear b2
          obtain ⟨hs_0, hs_1⟩ := id hs
          go_wp2_with fail
          refine (H3.out _).mono ?_
          rintro e w3 ⟨v3, rfl, ho3, b3⟩
          obtain ⟨g, cap, rfl, hRW⟩ := RdW.of (by omega) ho3
          clear ho3
          clear hs_0 hs_1
          replace hs := hs.below b3 hs.lt
          replace hA1 := rdMv b3 hA1
          replace hK := hK.below b3 hK.1
          replace hB := chain hB b3
          clear b3
          obtain ⟨hs_0, hs_1⟩ := id hs
          go_wp2
          clear hs_0 hs_1
          go_loopw [9, 10] (fun v i wr => ∃ k : Nat, k ≤ l.length ∧ i = .int .i64 k ∧ wr.ownsRow w3.heap.size 27 3 v k (vmvs (l.take k)) ∧ Below w3.heap.size w3 wr) (fun _ i _ => ws.length - (intOf i).toNat)
          case atStart => exact ⟨0, by omega, rfl, World.ownsRow_nil _ _ _ _, Below.refl _ _⟩
          case round =>
            obtain ⟨k, hk, rfl, hown, hW⟩ := hrel
            have hs1 := hs.below hW hs.lt
            have hRW1 := hRW.below hW
            by_cases hlt : k < l.length
            · obtain ⟨m, hm⟩ : ∃ m, l[k]? = some m := ⟨_, List.getElem?_eq_getElem hlt⟩
              have hkw : k < ws.length := by omega
              obtain ⟨tk, htk⟩ : ∃ tk, ws[k]? = some tk := ⟨_, List.getElem?_eq_getElem hkw⟩
              have hcell := hRW1.2 k tk htk
              have hrt := HPRE.out k tk hlt htk
              have HT : Hid (vmvs (l.take (k + 1)) = vmvs (l.take k) ++ [.int .i64 m.a, .int .i64 m.b, .int .i8 m.p]) := Lib.hid (by
                rw [List.take_add_one, hm, vmvs_app]
                rfl)
              obtain ⟨x, y, p⟩ := m
              have HP := Lib.hid (fun w => rmParse_any F R hv (bsL tk) tk (bsL_toList tk) w)
              rw [hrt, hm, rdB_some'] at HP
              simp only at HT
              clear hm hrt htk hRW1 H1 H2 H3
          
              have hS : (wr.cell? ⟨w.heap.size, 0, none⟩ = some (.int .i64 F) ∧ wr.cell? ⟨w.heap.size, 1, none⟩ = some (.int .i64 R) ∧ wr.cell? ⟨g, k, none⟩ = some (.string (bsL tk))) ∧ BelM wr wr := ⟨⟨hs1.1, hs1.2, hcell⟩, Below.refl _ _⟩
              clear hs1 hcell
              go_upto_region 11 with fail
              go_cut [11, 12] (fun s11 s12 wx => ∃ b : Nat, s11 = .pointer (some ⟨b, 0, none⟩) ∧ s12 = .bool true ∧ wr.heap.size ≤ b ∧ Bx3 wx b x y p ∧ Below wr.heap.size wr wx)
              case first =>
                go_region_held3 (fun w' => (w'.cell? ⟨w.heap.size, 0, none⟩ = some (.int .i64 F) ∧ w'.cell? ⟨w.heap.size, 1, none⟩ = some (.int .i64 R) ∧ w'.cell? ⟨g, k, none⟩ = some (.string (bsL tk))) ∧ BelM wr w')
                  (first | (simp only [BelM.mark]; refine keepNs hS ?_ ?_ _ _ _ <;> first | (exact BelM.of (by assumption)) | (exact (BelM.of (by assumption)).drew) | exact Nat.le_refl _ | (have e1 := hc1.size; simp at e1 ⊢; omega)) | assumption | exact keepN (by assumption) (by assumption) | exact keepN (by assumption) ((Below.refl _ _).drew) | exact keepN (by assumption) (box1 _ _) | exact keepN (keepN (keepN hS ((Below.refl _ _).drew)) hc1) (box1 _ _))
                  (first
                    | (go_at_call 18; refine (HP.out _).mono ?_; rintro e u1 ⟨rfl, hc1⟩; try (first | (have yz1 := yb3d hc1) | (have yz1 := yb3 hc1)); try (obtain ⟨⟨e0, e1, e2⟩, ef⟩ := id yz1)))
                all_goals
                  go_wp2_with fail
                  (conv => arg 2; simp [Act.put])
                  go_meet
                  case rel =>
                    refine ⟨_, rfl, rfl, ?_, ?_, ?_⟩
                    · first | exact Nat.le_refl _ | (have e1 := hc1.size; simp at e1 ⊢; omega)
                    · first | exact bx3s yz1 _ _ _ | exact box3 _ _ _ _
                    · exact BelM.of (by assumption)
              case rest =>
                obtain ⟨bx, rfl, rfl, hbx, hm3, hX⟩ := hcut
                have hown2 := own_bel hown hX
                have hW2 := chain hW hX
                have hsz2 := hW2.size
                obtain ⟨⟨m0, m1, m2⟩, mf⟩ := id hm3
                clear hown hS
                go_wp2_with (at_builtin; (refine wpList_append_own _ rfl _ _ 42 rfl w3.heap.size 27 i0 (.agg #[.int .i64 0, .int .i64 0, .int .i8 0]) 3 24 Tryd.underlying42 hi hz0 hz1 hz2 rfl (by decide) _ _ _ rfl (hown2.alloc _) ⟨wc.heap.size, 0, none⟩ 1 1 [.int .i64 x, .int .i64 y, .int .i8 p] rfl rfl ?c1 ?c2 ?c3 ?c4 ?c5 ?_))
                case c1 =>
                  intro j u hj
                  match j, hj with
                  | 0, hj => simp at hj; subst hj; simp [go_sem]
                  | 1, hj => simp at hj; subst hj; simp [go_sem]
                  | 2, hj => simp at hj; subst hj; simp [go_sem]
                case c2 =>
                  intro u hu
                  simp at hu
                  rcases hu with rfl | rfl | rfl <;> rfl
                case c3 => unfold maxLen; omega
                case c4 => omega
                case c5 => simp; omega
                intro v' w4 hown' hgrow _
                go_wp2
                go_roundw
                case rel =>
                  refine ⟨k + 1, by omega, by go_num, ?_, ?_⟩
                  · rw [HT.out]; exact hown'
                  · exact (hW2.alloc (by omega) _).grown hgrow (by simp; omega) (fun r e => (World.ownsRow.lt hown2 r e).1)
                case measure => simp [intOf]; omega
            · have hkl : l.take k = l := List.take_of_length_le (by omega)
              obtain rfl : k = l.length := by omega
              rw [hkl] at hown
              obtain ⟨A2, c2, rfl, hc2, hA2⟩ := RdM.own hown
              have hA1' := rdMv hW hA1
              have hK1 := hK.below hW hK.1
              have hB1 := chain hB hW
              clear hown hkl hRW1 hs1 H1 H2 H3 hA1 hW hRW hs hK hB
              have H4 := Lib.hid (fun w h1 h2 => rmSame_any l l A1 A2 c1 c2 (by omega) true (by simp) w h1 h2)
              go_wp2_with fail
              refine (H4.out _ hA1' hA2).mono ?_
              rintro e w5 ⟨rfl, b5⟩
              replace hK1 := hK1.below b5 hK1.1
              replace hB1 := chain hB1 b5
              go_wp2_with fail
              refine (H5.out _ hK1).mono ?_
              rintro e w6 ⟨rfl, b6⟩
              replace hB1 := chain hB1 b6
              go_wp2
              go_ret
              exact ⟨by rfl, hB1⟩
        · have hl3 : ((wds s.data.toList).take l.length).length = l.length := by have := congrArg List.length hl; simpa using this
          have hlen : l.length < (wds s.data.toList).length := by
            have := congrArg List.length hw0
            rw [List.length_append, hl3, List.length_cons] at this
            omega
          have HPRE : Hid (∀ (k : Nat) (u : List UInt8), k < l.length → (wds s.data.toList)[k]? = some u → rdM F R u = l[k]?) := Lib.hid (fun k u hkl hk => by
            have h1 := congrArg (·[k]?) hl
            simp only [List.getElem?_map, List.getElem?_take, if_pos hkl, hk, Option.map_some] at h1
            cases hh : l[k]? with
            | none => rw [hh] at h1; simp at h1
            | some m => rw [hh] at h1; simpa using h1)
          have HBAD : Hid (∀ u : List UInt8, (wds s.data.toList)[l.length]? = some u → rdM F R u = none) := Lib.hid (fun u hu => by
            rw [hw0, List.getElem?_append_right (by omega), hl3, Nat.sub_self] at hu
            have : t0 = u := by simpa using hu
            rw [← this]
            exact hbad)
          have H1 := Lib.hid (fun w hK => mvPL_bad F R s hsz hv hne hfw.1 l t0 us hw0 hl hbad w hK)
          have hlw : l.length ≤ (wds s.data.toList).length := by omega
          have hn301 := hfw.2
          clear hfw hne hLs hl hw0 hbad hl3
          generalize wds s.data.toList = ws at *
          go_enter Tryd.func7, Tryd.ntmps7
          obtain ⟨hs_0, hs_1⟩ := id hs
          go_wp2_with fail
          refine (H1.out _ hK).mono ?_
          rintro e w1 ⟨rfl, b1⟩
          clear hs_0 hs_1
          replace hs := hs.below b1 hs.lt
          replace hK := hK.below b1 hK.1
          replace hB := chain hB b1
          clear b1
          obtain ⟨hs_0, hs_1⟩ := id hs
          go_wp2_with fail
          refine (H2.out _).mono ?_
          rintro e w2 ⟨rfl, b2⟩
          clear hs_0 hs_1
          replace hs := hs.below b2 hs.lt
          replace hK := hK.below b2 hK.1
          replace hB := chain hB b2
          clear b2
          obtain ⟨hs_0, hs_1⟩ := id hs
          go_wp2_with fail
          refine (H3.out _).mono ?_
          rintro e w3 ⟨v3, rfl, ho3, b3⟩
          obtain ⟨g, cap, rfl, hRW⟩ := RdW.of (by omega) ho3
          clear ho3
          clear hs_0 hs_1
          replace hs := hs.below b3 hs.lt
          replace hK := hK.below b3 hK.1
          replace hB := chain hB b3
          clear b3
          obtain ⟨hs_0, hs_1⟩ := id hs
          go_wp2
          clear hs_0 hs_1
          go_loopw [9, 10] (fun v i wr => ∃ k : Nat, k ≤ l.length ∧ i = .int .i64 k ∧ wr.ownsRow w3.heap.size 27 3 v k (vmvs (l.take k)) ∧ Below w3.heap.size w3 wr) (fun _ i _ => ws.length - (intOf i).toNat)
          case atStart => exact ⟨0, by omega, rfl, World.ownsRow_nil _ _ _ _, Below.refl _ _⟩
          case round =>
            obtain ⟨k, hk, rfl, hown, hW⟩ := hrel
            have hs1 := hs.below hW hs.lt
            have hRW1 := hRW.below hW
            by_cases hlt : k < l.length
            · obtain ⟨m, hm⟩ : ∃ m, l[k]? = some m := ⟨_, List.getElem?_eq_getElem hlt⟩
              have hkw : k < ws.length := by omega
              obtain ⟨tk, htk⟩ : ∃ tk, ws[k]? = some tk := ⟨_, List.getElem?_eq_getElem hkw⟩
              have hcell := hRW1.2 k tk htk
              have hrt := HPRE.out k tk hlt htk
              have HT : Hid (vmvs (l.take (k + 1)) = vmvs (l.take k) ++ [.int .i64 m.a, .int .i64 m.b, .int .i8 m.p]) := Lib.hid (by
                rw [List.take_add_one, hm, vmvs_app]
                rfl)
              obtain ⟨x, y, p⟩ := m
              have HP := Lib.hid (fun w => rmParse_any F R hv (bsL tk) tk (bsL_toList tk) w)
              rw [hrt, hm, rdB_some'] at HP
              simp only at HT
              clear hm hrt htk hRW1 H1 H2 H3
          
              have hS : (wr.cell? ⟨w.heap.size, 0, none⟩ = some (.int .i64 F) ∧ wr.cell? ⟨w.heap.size, 1, none⟩ = some (.int .i64 R) ∧ wr.cell? ⟨g, k, none⟩ = some (.string (bsL tk))) ∧ BelM wr wr := ⟨⟨hs1.1, hs1.2, hcell⟩, Below.refl _ _⟩
              clear hs1 hcell
              go_upto_region 11 with fail
              go_cut [11, 12] (fun s11 s12 wx => ∃ b : Nat, s11 = .pointer (some ⟨b, 0, none⟩) ∧ s12 = .bool true ∧ wr.heap.size ≤ b ∧ Bx3 wx b x y p ∧ Below wr.heap.size wr wx)
              case first =>
                go_region_held3 (fun w' => (w'.cell? ⟨w.heap.size, 0, none⟩ = some (.int .i64 F) ∧ w'.cell? ⟨w.heap.size, 1, none⟩ = some (.int .i64 R) ∧ w'.cell? ⟨g, k, none⟩ = some (.string (bsL tk))) ∧ BelM wr w')
                  (first | (simp only [BelM.mark]; refine keepNs hS ?_ ?_ _ _ _ <;> first | (exact BelM.of (by assumption)) | (exact (BelM.of (by assumption)).drew) | exact Nat.le_refl _ | (have e1 := hc1.size; simp at e1 ⊢; omega)) | assumption | exact keepN (by assumption) (by assumption) | exact keepN (by assumption) ((Below.refl _ _).drew) | exact keepN (by assumption) (box1 _ _) | exact keepN (keepN (keepN hS ((Below.refl _ _).drew)) hc1) (box1 _ _))
                  (first
                    | (go_at_call 18; refine (HP.out _).mono ?_; rintro e u1 ⟨rfl, hc1⟩; try (first | (have yz1 := yb3d hc1) | (have yz1 := yb3 hc1)); try (obtain ⟨⟨e0, e1, e2⟩, ef⟩ := id yz1)))
                all_goals
                  go_wp2_with fail
                  (conv => arg 2; simp [Act.put])
                  go_meet
                  case rel =>
                    refine ⟨_, rfl, rfl, ?_, ?_, ?_⟩
                    · first | exact Nat.le_refl _ | (have e1 := hc1.size; simp at e1 ⊢; omega)
                    · first | exact bx3s yz1 _ _ _ | exact box3 _ _ _ _
                    · exact BelM.of (by assumption)
              case rest =>
                obtain ⟨bx, rfl, rfl, hbx, hm3, hX⟩ := hcut
                have hown2 := own_bel hown hX
                have hW2 := chain hW hX
                have hsz2 := hW2.size
                obtain ⟨⟨m0, m1, m2⟩, mf⟩ := id hm3
                clear hown hS
                go_wp2_with (at_builtin; (refine wpList_append_own _ rfl _ _ 42 rfl w3.heap.size 27 i0 (.agg #[.int .i64 0, .int .i64 0, .int .i8 0]) 3 24 Tryd.underlying42 hi hz0 hz1 hz2 rfl (by decide) _ _ _ rfl (hown2.alloc _) ⟨wc.heap.size, 0, none⟩ 1 1 [.int .i64 x, .int .i64 y, .int .i8 p] rfl rfl ?c1 ?c2 ?c3 ?c4 ?c5 ?_))
                case c1 =>
                  intro j u hj
                  match j, hj with
                  | 0, hj => simp at hj; subst hj; simp [go_sem]
                  | 1, hj => simp at hj; subst hj; simp [go_sem]
                  | 2, hj => simp at hj; subst hj; simp [go_sem]
                case c2 =>
                  intro u hu
                  simp at hu
                  rcases hu with rfl | rfl | rfl <;> rfl
                case c3 => unfold maxLen; omega
                case c4 => omega
                case c5 => simp; omega
                intro v' w4 hown' hgrow _
                go_wp2
                go_roundw
                case rel =>
                  refine ⟨k + 1, by omega, by go_num, ?_, ?_⟩
                  · rw [HT.out]; exact hown'
                  · exact (hW2.alloc (by omega) _).grown hgrow (by simp; omega) (fun r e => (World.ownsRow.lt hown2 r e).1)
                case measure => simp [intOf]; omega
            · obtain rfl : k = l.length := by omega
              obtain ⟨tk, htk⟩ : ∃ tk, ws[l.length]? = some tk := ⟨_, List.getElem?_eq_getElem (by omega)⟩
              have hcell := hRW1.2 l.length tk htk
              have hrt := HBAD.out tk htk
              have HP := Lib.hid (fun w => rmParse_any F R hv (bsL tk) tk (bsL_toList tk) w)
              rw [hrt, rdB_none'] at HP
              have hK1 := hK.below hW hK.1
              have hB1 := chain hB hW
              clear hrt htk hRW1 H1 H2 H3 hown
              have hS : (wr.cell? ⟨w.heap.size, 0, none⟩ = some (.int .i64 F) ∧ wr.cell? ⟨w.heap.size, 1, none⟩ = some (.int .i64 R) ∧ wr.cell? ⟨g, l.length, none⟩ = some (.string (bsL tk))) ∧ BelM wr wr := ⟨⟨hs1.1, hs1.2, hcell⟩, Below.refl _ _⟩
              clear hs1 hcell
              go_upto_region 11 with fail
              go_cut [11, 12] (fun s11 s12 wx => ∃ b : Nat, s11 = .pointer (some ⟨b, 0, none⟩) ∧ s12 = .bool false ∧ wr.heap.size ≤ b ∧ Bx3 wx b 0 0 0 ∧ Below wr.heap.size wr wx)
              case first =>
                go_region_held3 (fun w' => (w'.cell? ⟨w.heap.size, 0, none⟩ = some (.int .i64 F) ∧ w'.cell? ⟨w.heap.size, 1, none⟩ = some (.int .i64 R) ∧ w'.cell? ⟨g, l.length, none⟩ = some (.string (bsL tk))) ∧ BelM wr w')
                  (first | (simp only [BelM.mark]; refine keepNs hS ?_ ?_ _ _ _ <;> first | (exact BelM.of (by assumption)) | (exact (BelM.of (by assumption)).drew) | exact Nat.le_refl _ | (have e1 := hc1.size; simp at e1 ⊢; omega)) | assumption | exact keepN (by assumption) (by assumption) | exact keepN (by assumption) ((Below.refl _ _).drew) | exact keepN (by assumption) (box1 _ _) | exact keepN (keepN (keepN hS ((Below.refl _ _).drew)) hc1) (box1 _ _))
                  (first
                    | (go_at_call 18; refine (HP.out _).mono ?_; rintro e u1 ⟨rfl, hc1⟩; try (first | (have yz1 := yb3d hc1) | (have yz1 := yb3 hc1)); try (obtain ⟨⟨e0, e1, e2⟩, ef⟩ := id yz1)))
                all_goals
                  go_wp2_with fail
                  (conv => arg 2; simp [Act.put])
                  go_meet
                  case rel =>
                    refine ⟨_, rfl, rfl, ?_, ?_, ?_⟩
                    · first | exact Nat.le_refl _ | (have e1 := hc1.size; simp at e1 ⊢; omega)
                    · first | exact bx3s yz1 _ _ _ | exact box3 _ _ _ _
                    · exact BelM.of (by assumption)
              case rest =>
                obtain ⟨bx, rfl, rfl, hbx, hm3, hX⟩ := hcut
                replace hK1 := hK1.below hX hK1.1
                replace hB1 := chain hB1 hX
                clear hS hm3 hX
                go_wp2_with fail
                refine (H5.out _ hK1).mono ?_
                rintro e w6 ⟨rfl, b6⟩
                replace hB1 := chain hB1 b6
                go_wp2
                go_ret
                exact ⟨by rfl, hB1⟩
    · have H2 := Lib.hid (fun w => refSize_no F R hv w)
      have H1 := Lib.hid (fun w => mvPL_off F R s hsz hv w)
      clear hv
      go_enter Tryd.func7, Tryd.ntmps7
      obtain ⟨hs_0, hs_1⟩ := id hs
      go_wp2_with fail
      refine (H1.out _).mono ?_
      rintro e w1 ⟨rfl, b1⟩
      clear hs_0 hs_1
      replace hs := hs.below b1 hs.lt
      replace hK := hK.below b1 hK.1
      replace hB := chain hB b1
      clear b1
      obtain ⟨hs_0, hs_1⟩ := id hs
      go_wp2_with fail
      refine (H2.out _).mono ?_
      rintro e w2 ⟨rfl, b2⟩
      clear hs_0 hs_1
      replace hs := hs.below b2 hs.lt
      replace hK := hK.below b2 hK.1
      replace hB := chain hB b2
      clear b2
      obtain ⟨hs_0, hs_1⟩ := id hs
      go_wp2_with fail
      refine (H5.out _ hK).mono ?_
      rintro e w3 ⟨rfl, b3⟩
      clear hs_0 hs_1
      replace hs := hs.below b3 hs.lt
      replace hK := hK.below b3 hK.1
      replace hB := chain hB b3
      clear b3
      obtain ⟨hs_0, hs_1⟩ := id hs
      go_wp2
      go_ret
      exact ⟨by rfl, hB⟩
  · have hn20 : 300 < (s.size : Int) := by omega
    go_enter Tryd.func7, Tryd.ntmps7
    obtain ⟨hs_0, hs_1⟩ := id hs
    go_wp2_with fail
    refine (H5.out _ hK).mono ?_
    rintro e w1 ⟨rfl, b1⟩
    clear hs_0 hs_1
    replace hs := hs.below b1 hs.lt
    replace hK := hK.below b1 hK.1
    replace hB := chain hB b1
    clear b1
    obtain ⟨hs_0, hs_1⟩ := id hs
    go_wp2
    go_ret
    exact ⟨by rfl, hB⟩

end Go.Proofs.YtpcfgeggjfbfjaaDoor
