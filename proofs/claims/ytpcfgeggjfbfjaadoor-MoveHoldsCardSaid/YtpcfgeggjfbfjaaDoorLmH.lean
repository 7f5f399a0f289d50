/- The theorem of moves: it answers true, and changes nothing that lay before. -/
import Derived.Test.YtpcfgeggjfbfjaaDoorMwH
import Derived.Test.YtpcfgeggjfbfjaaDoorMrB
import Derived.Test.YtpcfgeggjfbfjaaDoorMrC
import Derived.Test.YtpcfgeggjfbfjaaDoorMrD
import Derived.Deep.DeepCutAuto
namespace Go.Proofs.YtpcfgeggjfbfjaaDoor
open Go.RowKit Go.Sort

theorem cmpM_bd (a b : Mv) : cmpM a b = -1 ∨ cmpM a b = 0 ∨ cmpM a b = 1 := by
  have h1 := cmpI_bd a.a b.a
  have h2 := cmpI_bd a.b b.b
  have h3 := cmpI_bd a.p b.p
  unfold cmpM
  split
  · omega
  · split <;> omega
theorem cmpI_neg (x y : Int) : cmpI y x = - cmpI x y := by
  have h1 := cmpI_bd x y
  have h2 := cmpI_bd y x
  omega
theorem cmpM_neg (a b : Mv) : cmpM b a = - cmpM a b := by
  unfold cmpM
  rw [cmpI_neg a.a b.a, cmpI_neg a.b b.b, cmpI_neg a.p b.p]
  by_cases h1 : cmpI a.a b.a = 0
  · by_cases h2 : cmpI a.b b.b = 0
    · simp [h1, h2]
    · simp [h1, h2]
  · simp [h1]
theorem cmpM_zero (a b : Mv) : cmpM a b = 0 ↔ a.a = b.a ∧ a.b = b.b ∧ a.p = b.p := by
  have h1 := cmpI_bd a.a b.a
  have h2 := cmpI_bd a.b b.b
  have h3 := cmpI_bd a.p b.p
  unfold cmpM
  split
  · omega
  · split <;> omega
theorem cmpM_trans (a b c : Mv) (h1 : cmpM a b ≤ 0) (h2 : cmpM b c ≤ 0) : cmpM a c ≤ 0 := by
  have ha := cmpI_bd a.a b.a
  have hb := cmpI_bd a.b b.b
  have hc := cmpI_bd a.p b.p
  have hd := cmpI_bd b.a c.a
  have he := cmpI_bd b.b c.b
  have hf := cmpI_bd b.p c.p
  have hg := cmpI_bd a.a c.a
  have hh := cmpI_bd a.b c.b
  have hi := cmpI_bd a.p c.p
  unfold cmpM at *
  split at h1
  · split at h2
    · split <;> omega
    · split at h2 <;> split <;> omega
  · split at h1
    · split at h2
      · split <;> omega
      · split at h2
        · split
          · omega
          · split <;> omega
        · split
          · omega
          · split <;> omega
    · split at h2
      · split <;> omega
      · split at h2
        · split
          · omega
          · split <;> omega
        · split
          · omega
          · split <;> omega

/-- what Line gives, whatever the list. -/
theorem line_or (F R : Int) (l : List Mv) (hv : vsz F R) (hl : l.length ≤ 40) : ∃ (tx : ByteArray) (ev : Int), (∀ (A : Option Addr) (c : Nat) (w : World), RdM w w.heap.size A l → Kinds w → Calls Tryd.prog 19 #[.agg #[.int .i64 F, .int .i64 R], .slice A l.length c] w fun e w' => e = .returned (.tuple #[.string tx, .int .i64 ev]) ∧ Below w.heap.size w w') ∧
    ((ev = 0 ∧ tx = bsL (lnT F l) ∧ ∀ m ∈ l, okM F R m) ∨ ev = 2) := by
  by_cases hok : ∀ m ∈ l, okM F R m
  · exact ⟨_, 0, fun A c w hA hK => mvLine_yes F R l A c hv (by omega) hok w hA hK, .inl ⟨rfl, rfl, hok⟩⟩
  · exact ⟨_, 2, fun A c w hA hK => mvLine_no F R l A c (fun h => hok h.2.2) w hA hK, .inr rfl⟩
theorem text_or (F R x y p : Int) : ∃ (tx : ByteArray) (ev : Int), (∀ (w : World), Kinds w → Calls Tryd.prog 14 #[.agg #[.int .i64 F, .int .i64 R], .agg #[.int .i64 x, .int .i64 y, .int .i8 p]] w fun e w' => e = .returned (.tuple #[.string tx, .int .i64 ev]) ∧ Below w.heap.size w w') ∧
    ((ev = 0 ∧ tx = bsL (mvT F ⟨x, y, p⟩) ∧ okM F R ⟨x, y, p⟩) ∨ ev = 2) := by
  by_cases hok : okM F R ⟨x, y, p⟩
  · exact ⟨_, 0, fun w hK => mvText_yes F R x y p hok w hK, .inl ⟨rfl, rfl, hok⟩⟩
  · exact ⟨_, 2, fun w _ => mvText_no F R x y p hok w, .inr rfl⟩
theorem read_or (F R : Int) (s : ByteArray) (hv : vsz F R) (hs : s.size ≤ 300) (w : World) (hK : Kinds w) : Calls Tryd.prog 21 #[.agg #[.int .i64 F, .int .i64 R], .string s] w fun e w' =>
    ∃ (A : Option Addr) (c : Nat) (l : List Mv) (nv ev : Int), e = .returned (.tuple #[.slice A l.length c, .int .i64 nv, .int .i64 ev]) ∧ RdM w' w'.heap.size A l ∧ ((ev = 0 ∧ (∀ m ∈ l, okM F R m) ∧ bsL (lnT F l) = s ∧ l.length ≤ 1000) ∨ ev = 6) ∧ Below w.heap.size w w' := by
  by_cases hne : s.data.toList = []
  · have hse : s = ⟨#[]⟩ := bytes_eq hne
    subst hse
    refine (mvPL_none F R hv w).mono ?_
    rintro e w' ⟨rfl, hb⟩
    exact ⟨none, 0, [], 0, 0, rfl, rdM_nil _ _ _, .inl ⟨rfl, fun m hm => by simp at hm, rfl, by simp⟩, hb⟩
  · have hLs : s.data.toList.length = s.size := by rw [Array.length_toList]; rfl
    have hcl := List.count_le_length (a := (32 : UInt8)) (l := s.data.toList)
    have hwc := wds_count s.data.toList
    have hfw : (wordsP s.data.toList).length ≤ 1000 := by
      obtain ⟨_, q, _⟩ := wordsP_or s.data.toList
      rcases Nat.lt_or_ge 1000 (wordsP s.data.toList).length with h3 | h3
      · have := q h3; omega
      · exact h3
    have hwm : wdsM s.data.toList = wds s.data.toList := by unfold wdsM; rw [if_neg hne]
    rcases words_or F R (wds s.data.toList) with ⟨l, hl⟩ | ⟨l, t0, us, hw0, hl, hbad⟩
    · refine (mvPL_yes F R s (by omega) hv hne hfw l hl w hK).mono ?_
      rintro e w' ⟨v, rfl, ho, hb⟩
      obtain ⟨A, c, rfl, _, hA⟩ := RdM.own ho
      obtain ⟨h1, h2⟩ := text_words hv (by rw [hwm]; exact hl)
      have hll := congrArg List.length hl
      simp only [List.length_map] at hll
      exact ⟨A, c, l, 0, 0, rfl, hA, .inl ⟨rfl, h1, by rw [h2, bsL_of], by omega⟩, hb⟩
    · refine (mvPL_bad F R s (by omega) hv hne hfw l t0 us hw0 hl hbad w hK).mono ?_
      rintro e w' ⟨rfl, hb⟩
      exact ⟨none, 0, [], _, 6, rfl, rdM_nil _ _ _, .inr rfl, hb⟩

/-- the text of a list is read again. -/
theorem reread (F R : Int) (l : List Mv) (hv : vsz F R) (hl : l.length ≤ 40) (hok : ∀ m ∈ l, okM F R m) (w : World) (hK : Kinds w) : Calls Tryd.prog 21 #[.agg #[.int .i64 F, .int .i64 R], .string (bsL (lnT F l))] w fun e w' =>
    ∃ (A : Option Addr) (c : Nat), e = .returned (.tuple #[.slice A l.length c, .int .i64 0, .int .i64 0]) ∧ RdM w' w'.heap.size A l ∧ Below w.heap.size w w' := by
  by_cases hne : l = []
  · subst hne
    refine (mvPL_none F R hv w).mono ?_
    rintro e w' ⟨rfl, hb⟩
    exact ⟨none, 0, rfl, rdM_nil _ _ _, hb⟩
  · have hln := lnT_ne (R := R) hne hok
    have hw : wds (lnT F l) = l.map (mvT F) := by
      have h1 := wdsM_line (R := R) hok
      unfold wdsM at h1
      rwa [if_neg hln] at h1
    have hrd : (wds (lnT F l)).map (rdM F R) = l.map some := by
      rw [hw, List.map_map]
      apply List.map_congr_left
      intro m hm
      exact rdM_text (hok m hm)
    have hfw : (wordsP (lnT F l)).length ≤ 1000 := by
      obtain ⟨_, q, _⟩ := wordsP_or (lnT F l)
      rcases Nat.lt_or_ge 1000 (wordsP (lnT F l)).length with h3 | h3
      · have := q h3
        rw [hw, List.length_map] at this
        omega
      · exact h3
    have hsz : (bsL (lnT F l)).size ≤ 10000 := by
      rw [bsL_size]
      have := lnT_len F l
      omega
    refine (mvPL_yes F R (bsL (lnT F l)) hsz hv (by rw [bsL_toList]; exact hln) (by rw [bsL_toList]; exact hfw) l (by rw [bsL_toList]; exact hrd) w hK).mono ?_
    rintro e w' ⟨v, rfl, ho, hb⟩
    obtain ⟨A, c, rfl, _, hA⟩ := RdM.own ho
    exact ⟨A, c, rfl, hA, hb⟩

set_option maxRecDepth 100000 in
set_option maxHeartbeats 4000000 in
theorem law_mholds (F R : Int) (l : List Mv) (A : Option Addr) (cl : Nat) (s : ByteArray) (xa ya pa xb yb pb xc yc pc : Int) (w : World) (hA : RdM w w.heap.size A l) (hK : Kinds w) :
    Calls Tryd.prog 8 #[.agg #[.int .i64 F, .int .i64 R], .slice A l.length cl, .string s, .agg #[.int .i64 xa, .int .i64 ya, .int .i8 pa], .agg #[.int .i64 xb, .int .i64 yb, .int .i8 pb], .agg #[.int .i64 xc, .int .i64 yc, .int .i8 pc]] w fun e w' => e = .returned (.bool true) ∧ Below w.heap.size w w' := by
  have H5 := Lib.hid (fun w hK => known7_any w hK)
  obtain ⟨V1, hV1⟩ : ∃ V1, w.alloc (.cells #[.int .i64 F, .int .i64 R] 23) = V1 := ⟨_, rfl⟩
  obtain ⟨V2, hV2⟩ : ∃ V2, V1.alloc (.cells #[.int .i64 xa, .int .i64 ya, .int .i8 pa] 27) = V2 := ⟨_, rfl⟩
  obtain ⟨V3, hV3⟩ : ∃ V3, V2.alloc (.cells #[.int .i64 xb, .int .i64 yb, .int .i8 pb] 27) = V3 := ⟨_, rfl⟩
  have hs := box2 w F R
  have b0 := box1 w (.cells #[.int .i64 F, .int .i64 R] 23)
  have s0 : (w.alloc (.cells #[.int .i64 F, .int .i64 R] 23)).heap.size = w.heap.size + 1 := by simp
  rw [hV1] at hs b0 s0
  have ha := box3 V1 xa ya pa
  have b1 := box1 V1 (.cells #[.int .i64 xa, .int .i64 ya, .int .i8 pa] 27)
  have s1 : (V1.alloc (.cells #[.int .i64 xa, .int .i64 ya, .int .i8 pa] 27)).heap.size = V1.heap.size + 1 := by simp
  rw [hV2] at ha b1 s1
  have hb := box3 V2 xb yb pb
  have b2 := box1 V2 (.cells #[.int .i64 xb, .int .i64 yb, .int .i8 pb] 27)
  have s2 : (V2.alloc (.cells #[.int .i64 xb, .int .i64 yb, .int .i8 pb] 27)).heap.size = V2.heap.size + 1 := by simp
  rw [hV3] at hb b2 s2
  have hc := box3 V3 xc yc pc
  have b3 := box1 V3 (.cells #[.int .i64 xc, .int .i64 yc, .int .i8 pc] 27)
  rw [s0] at ha
  rw [s1, s0] at hb
  rw [s2, s1, s0] at hc
  replace hs := ((hs.below b1 hs.lt).below b2 (hs.below b1 hs.lt).lt).below b3 ((hs.below b1 hs.lt).below b2 (hs.below b1 hs.lt).lt).lt
  replace ha := (ha.below b2 ha.lt).below b3 (ha.below b2 ha.lt).lt
  replace hb := hb.below b3 hb.lt
  have hB := chain (chain (chain b0 b1) b2) b3
  have hk := hK.1
  replace hK := hK.below hB hk
  replace hA := rdMv hB hA
  clear b0 b1 b2 b3 s0 s1 s2 hk
  subst hV1 hV2 hV3
  by_cases hv : vsz F R
  · have H2 := Lib.hid (fun w => refSize_yes F R hv w)
    by_cases h40 : (l.length : Int) ≤ 40
    · by_cases h300 : (s.size : Int) ≤ 300
      · have hn40 : ¬ 40 < (l.length : Int) := by omega
        have hn300 : ¬ 300 < (s.size : Int) := by omega
        obtain ⟨tx, ev, hL1, hE1⟩ := line_or F R l hv (by omega)
        obtain ⟨ty, ew, hL3, hE3⟩ := text_or F R xa ya pa
        have HL1 := Lib.hid hL1
        have HE1 := Lib.hid hE1
        have HL3 := Lib.hid hL3
        have HE3 := Lib.hid hE3
        have HL2 := Lib.hid (fun w hK => read_or F R s hv (by omega) w hK)
        clear hL1 hE1 hL3 hE3
        go_enter Tryd.func8, Tryd.ntmps8
        obtain ⟨hs_0, hs_1⟩ := id hs
        obtain ⟨⟨ha_0, ha_1, ha_2⟩, ha_f⟩ := id ha
        obtain ⟨⟨hb_0, hb_1, hb_2⟩, hb_f⟩ := id hb
        obtain ⟨⟨hc_0, hc_1, hc_2⟩, hc_f⟩ := id hc
        go_wp2_with fail
        refine (H2.out _).mono ?_
        rintro e w1 ⟨rfl, b1⟩
        clear hs_0 hs_1 ha_0 ha_1 ha_2 ha_f hb_0 hb_1 hb_2 hb_f hc_0 hc_1 hc_2 hc_f
        replace hs := hs.below b1 hs.lt
        replace ha := ha.below b1 ha.lt
        replace hb := hb.below b1 hb.lt
        replace hc := hc.below b1 hc.lt
        replace hA := rdMv b1 hA
        replace hK := hK.below b1 hK.1
        replace hB := chain hB b1
        clear b1
        obtain ⟨hs_0, hs_1⟩ := id hs
        obtain ⟨⟨ha_0, ha_1, ha_2⟩, ha_f⟩ := id ha
        obtain ⟨⟨hb_0, hb_1, hb_2⟩, hb_f⟩ := id hb
        obtain ⟨⟨hc_0, hc_1, hc_2⟩, hc_f⟩ := id hc
        go_wp2_with fail
        refine (HL1.out _ _ _ hA hK).mono ?_
        rintro e w2 ⟨rfl, b2⟩
        clear hs_0 hs_1 ha_0 ha_1 ha_2 ha_f hb_0 hb_1 hb_2 hb_f hc_0 hc_1 hc_2 hc_f
        replace hs := hs.below b2 hs.lt
        replace ha := ha.below b2 ha.lt
        replace hb := hb.below b2 hb.lt
        replace hc := hc.below b2 hc.lt
        replace hA := rdMv b2 hA
        replace hK := hK.below b2 hK.1
        replace hB := chain hB b2
        clear b2
        obtain ⟨hs_0, hs_1⟩ := id hs
        obtain ⟨⟨ha_0, ha_1, ha_2⟩, ha_f⟩ := id ha
        obtain ⟨⟨hb_0, hb_1, hb_2⟩, hb_f⟩ := id hb
        obtain ⟨⟨hc_0, hc_1, hc_2⟩, hc_f⟩ := id hc
        go_upto_if 52 with fail
        clear hs_0 hs_1 ha_0 ha_1 ha_2 ha_f hb_0 hb_1 hb_2 hb_f hc_0 hc_1 hc_2 hc_f
        go_cut [] (fun wx => Below w2.heap.size w2 wx)
        case first =>
          rcases HE1.out with ⟨e0, etx, hok⟩ | e2
          · subst e0 etx
            have HP := Lib.hid (fun w hK => reread F R l hv (by omega) hok w hK)
            have hbz := Below.refl w2.heap.size w2
            obtain ⟨hs_0, hs_1⟩ := id hs
            obtain ⟨⟨ha_0, ha_1, ha_2⟩, ha_f⟩ := id ha
            obtain ⟨⟨hb_0, hb_1, hb_2⟩, hb_f⟩ := id hb
            obtain ⟨⟨hc_0, hc_1, hc_2⟩, hc_f⟩ := id hc
            go_wp2_with fail
            refine (HP.out _ hK).mono ?_
            rintro e y1 ⟨A4, c4, rfl, hA4, d1⟩
            clear hs_0 hs_1 ha_0 ha_1 ha_2 ha_f hb_0 hb_1 hb_2 hb_f hc_0 hc_1 hc_2 hc_f
            replace hbz := chain hbz d1
            replace hA := rdMv d1 hA
            have HSm := Lib.hid (fun w h1 h2 => rmSame_any l l A4 A c4 cl (by omega) true (by simp) w h1 h2)
            go_wp2_with fail
            refine (HSm.out _ hA4 hA).mono ?_
            rintro e y2 ⟨rfl, d2⟩
            replace hbz := chain hbz d2
            go_wp2
            go_meet
            case rel => exact hbz
          · subst e2
            go_wp2
            go_meet
            case rel => exact Below.refl _ _
        case rest =>
          obtain ⟨wz, rfl⟩ : ∃ wz : World, wz = wc := ⟨_, rfl⟩
          replace hcut : Below w2.heap.size w2 wz := hcut
          replace hs := hs.below hcut hs.lt
          replace ha := ha.below hcut ha.lt
          replace hb := hb.below hcut hb.lt
          replace hc := hc.below hcut hc.lt
          replace hA := rdMv hcut hA
          replace hK := hK.below hcut hK.1
          replace hB := chain hB hcut
          clear hcut
          clear HL1 HE1
          obtain ⟨hs_0, hs_1⟩ := id hs
          obtain ⟨⟨ha_0, ha_1, ha_2⟩, ha_f⟩ := id ha
          obtain ⟨⟨hb_0, hb_1, hb_2⟩, hb_f⟩ := id hb
          obtain ⟨⟨hc_0, hc_1, hc_2⟩, hc_f⟩ := id hc
          go_wp2_with fail
          refine (HL2.out _ hK).mono ?_
          rintro e w3 ⟨A5, c5, l5, n5, e5, rfl, hA5, hE5, b3⟩
          clear hs_0 hs_1 ha_0 ha_1 ha_2 ha_f hb_0 hb_1 hb_2 hb_f hc_0 hc_1 hc_2 hc_f
          replace hs := hs.below b3 hs.lt
          replace ha := ha.below b3 ha.lt
          replace hb := hb.below b3 hb.lt
          replace hc := hc.below b3 hc.lt
          replace hA := rdMv b3 hA
          replace hK := hK.below b3 hK.1
          replace hB := chain hB b3
          clear b3
          have HE5 := Lib.hid hE5
          clear hE5
          obtain ⟨hs_0, hs_1⟩ := id hs
          obtain ⟨⟨ha_0, ha_1, ha_2⟩, ha_f⟩ := id ha
          obtain ⟨⟨hb_0, hb_1, hb_2⟩, hb_f⟩ := id hb
          obtain ⟨⟨hc_0, hc_1, hc_2⟩, hc_f⟩ := id hc
          go_upto_if 80 with fail
          clear hs_0 hs_1 ha_0 ha_1 ha_2 ha_f hb_0 hb_1 hb_2 hb_f hc_0 hc_1 hc_2 hc_f
          go_cut [] (fun wx => Below w3.heap.size w3 wx)
          case first =>
            rcases HE5.out with ⟨e0, hok, htx, hl5⟩ | e2
            · subst e0
              have HP := Lib.hid (fun w hA hK => mvLine_yes F R l5 A5 c5 hv hl5 hok w hA hK)
              rw [htx] at HP
              have hss : (s.toList == s.toList) = true := by simp
              clear htx hok hl5
              obtain ⟨hs_0, hs_1⟩ := id hs
              obtain ⟨⟨ha_0, ha_1, ha_2⟩, ha_f⟩ := id ha
              obtain ⟨⟨hb_0, hb_1, hb_2⟩, hb_f⟩ := id hb
              obtain ⟨⟨hc_0, hc_1, hc_2⟩, hc_f⟩ := id hc
              go_wp2_with fail
              refine (HP.out _ hA5 hK).mono ?_
              rintro e y1 ⟨rfl, d1⟩
              clear hs_0 hs_1 ha_0 ha_1 ha_2 ha_f hb_0 hb_1 hb_2 hb_f hc_0 hc_1 hc_2 hc_f
              go_wp2
              go_meet
              case rel => exact d1
            · subst e2
              go_wp2
              go_meet
              case rel => exact Below.refl _ _
          case rest =>
            obtain ⟨wz, rfl⟩ : ∃ wz : World, wz = wc := ⟨_, rfl⟩
            replace hcut : Below w3.heap.size w3 wz := hcut
            replace hs := hs.below hcut hs.lt
            replace ha := ha.below hcut ha.lt
            replace hb := hb.below hcut hb.lt
            replace hc := hc.below hcut hc.lt
            replace hA := rdMv hcut hA
            replace hK := hK.below hcut hK.1
            replace hB := chain hB hcut
            clear hcut
            clear HL2 HE5 hA5
            obtain ⟨hs_0, hs_1⟩ := id hs
            obtain ⟨⟨ha_0, ha_1, ha_2⟩, ha_f⟩ := id ha
            obtain ⟨⟨hb_0, hb_1, hb_2⟩, hb_f⟩ := id hb
            obtain ⟨⟨hc_0, hc_1, hc_2⟩, hc_f⟩ := id hc
            go_wp2_with fail
            refine (HL3.out _ hK).mono ?_
            rintro e w4 ⟨rfl, b4⟩
            clear hs_0 hs_1 ha_0 ha_1 ha_2 ha_f hb_0 hb_1 hb_2 hb_f hc_0 hc_1 hc_2 hc_f
            replace hs := hs.below b4 hs.lt
            replace ha := ha.below b4 ha.lt
            replace hb := hb.below b4 hb.lt
            replace hc := hc.below b4 hc.lt
            replace hA := rdMv b4 hA
            replace hK := hK.below b4 hK.1
            replace hB := chain hB b4
            clear b4
            obtain ⟨hs_0, hs_1⟩ := id hs
            obtain ⟨⟨ha_0, ha_1, ha_2⟩, ha_f⟩ := id ha
            obtain ⟨⟨hb_0, hb_1, hb_2⟩, hb_f⟩ := id hb
            obtain ⟨⟨hc_0, hc_1, hc_2⟩, hc_f⟩ := id hc
            go_upto_if 101 with fail
            clear hs_0 hs_1 ha_0 ha_1 ha_2 ha_f hb_0 hb_1 hb_2 hb_f hc_0 hc_1 hc_2 hc_f
            go_cut [] (fun wx => Below w4.heap.size w4 wx)
            case first =>
              rcases HE3.out with ⟨e0, etx, hok⟩ | e2
              · subst e0 etx
                have HP := Lib.hid (fun w hK => mvParse_any F R hv (bsL (mvT F ⟨xa, ya, pa⟩)) (mvT F ⟨xa, ya, pa⟩) (bsL_toList _) w hK)
                rw [rdM_text hok, rdA_some] at HP
                clear hok
                obtain ⟨hs_0, hs_1⟩ := id hs
                obtain ⟨⟨ha_0, ha_1, ha_2⟩, ha_f⟩ := id ha
                obtain ⟨⟨hb_0, hb_1, hb_2⟩, hb_f⟩ := id hb
                obtain ⟨⟨hc_0, hc_1, hc_2⟩, hc_f⟩ := id hc
                go_wp2_with fail
                refine (HP.out _ hK).mono ?_
                rintro e y1 ⟨rfl, d1⟩
                clear hs_0 hs_1 ha_0 ha_1 ha_2 ha_f hb_0 hb_1 hb_2 hb_f hc_0 hc_1 hc_2 hc_f
                replace ha := ha.below d1 ha.lt
                have hmm := box3 y1 xa ya pa
                have dx := box1 y1 (.cells #[.int .i64 xa, .int .i64 ya, .int .i8 pa] 27)
                replace ha := ha.below dx ha.lt
                obtain ⟨⟨ha_0, ha_1, ha_2⟩, ha_f⟩ := id ha
                go_wp2
                go_meet
                case rel => exact chain d1 dx
              · subst e2
                go_wp2
                go_meet
                case rel => exact Below.refl _ _
            case rest =>
              obtain ⟨wz, rfl⟩ : ∃ wz : World, wz = wc := ⟨_, rfl⟩
              replace hcut : Below w4.heap.size w4 wz := hcut
              replace hs := hs.below hcut hs.lt
              replace ha := ha.below hcut ha.lt
              replace hb := hb.below hcut hb.lt
              replace hc := hc.below hcut hc.lt
              replace hA := rdMv hcut hA
              replace hK := hK.below hcut hK.1
              replace hB := chain hB hcut
              clear hcut
              clear HL3 HE3
              obtain ⟨hs_0, hs_1⟩ := id hs
              obtain ⟨⟨ha_0, ha_1, ha_2⟩, ha_f⟩ := id ha
              obtain ⟨⟨hb_0, hb_1, hb_2⟩, hb_f⟩ := id hb
              obtain ⟨⟨hc_0, hc_1, hc_2⟩, hc_f⟩ := id hc
              go_wp2_with fail
              have q0 := cell_regrown ha_0
              have q1 := cell_regrown ha_1
              have q2 := cell_regrown ha_2
              have q3 := cell_regrown hb_0
              have q4 := cell_regrown hb_1
              have q5 := cell_regrown hb_2
              have q6 := cell_regrown hc_0
              have q7 := cell_regrown hc_1
              have q8 := cell_regrown hc_2
              have cC := Lib.hid (fun a b c x y z d os => Calls.regrown_of (mvCmp_any a b c x y z (grow (redrawn wz d) os)))
              refine wp_region_quiet_below (by kernel_rfl) (by kernel_rfl) ?_
              repeat (go_big_quiet_step (exact cC.out _ _ _ _ _ _ _ _))
              refine wpQuiet_nil ?_
              intro _ hw'
              obtain ⟨⟨dq, osq⟩, hw''⟩ := hw'
              subst hw''
              have bq := below_regrown wz dq osq
              clear cC q0 q1 q2 q3 q4 q5 q6 q7 q8
              clear hs_0 hs_1 ha_0 ha_1 ha_2 ha_f hb_0 hb_1 hb_2 hb_f hc_0 hc_1 hc_2 hc_f
              generalize Go.Sort.grow (redrawn wz dq) osq = w5 at *
              replace hs := hs.below bq hs.lt
              replace ha := ha.below bq ha.lt
              replace hb := hb.below bq hb.lt
              replace hc := hc.below bq hc.lt
              replace hA := rdMv bq hA
              replace hK := hK.below bq hK.1
              replace hB := chain hB bq
              clear bq
              have k1 := cmpM_bd ⟨xa, ya, pa⟩ ⟨xb, yb, pb⟩
              have k2 := cmpM_neg ⟨xa, ya, pa⟩ ⟨xb, yb, pb⟩
              have k3 := cmpM_zero ⟨xa, ya, pa⟩ ⟨xb, yb, pb⟩
              have k4 := cmpM_trans ⟨xa, ya, pa⟩ ⟨xb, yb, pb⟩ ⟨xc, yc, pc⟩
              have k5 := cmpM_bd ⟨xb, yb, pb⟩ ⟨xc, yc, pc⟩
              have k6 := cmpM_bd ⟨xa, ya, pa⟩ ⟨xc, yc, pc⟩
              simp only at k3
              generalize cmpM ⟨xa, ya, pa⟩ ⟨xb, yb, pb⟩ = v1 at *
              generalize cmpM ⟨xb, yb, pb⟩ ⟨xa, ya, pa⟩ = v2 at *
              generalize cmpM ⟨xb, yb, pb⟩ ⟨xc, yc, pc⟩ = v3 at *
              generalize cmpM ⟨xa, ya, pa⟩ ⟨xc, yc, pc⟩ = v4 at *
              have K2 := Lib.hid k2
              have K3 := Lib.hid k3
              have K4 := Lib.hid k4
              have K5 := Lib.hid k5
              have K6 := Lib.hid k6
              have K1 := Lib.hid k1
              clear k1 k2 k3 k4 k5 k6
              rcases K1.out with e1 | e1 | e1
              · have e2 : v2 = 1 := by have := K2.out; omega
                subst e1 e2
                have hd : xa ≠ xb ∨ (xa = xb ∧ ya ≠ yb) ∨ (xa = xb ∧ ya = yb ∧ pa ≠ pb) := by
                  by_cases e1 : xa = xb
                  · by_cases e2 : ya = yb
                    · exact .inr (.inr ⟨e1, e2, fun e3 => absurd (K3.out.2 ⟨e1, e2, e3⟩) (by omega)⟩)
                    · exact .inr (.inl ⟨e1, e2⟩)
                  · exact .inl e1
                rcases hd with hd | ⟨rfl, hd⟩ | ⟨rfl, rfl, hd⟩
                · have hq : (xa == xb) = false := beq_eq_false_iff_ne.2 hd
                  clear hd
                  by_cases h3 : 0 < v3
                  · clear K1 K2 K3 K4 K5 K6
                    obtain ⟨hs_0, hs_1⟩ := id hs
                    obtain ⟨⟨ha_0, ha_1, ha_2⟩, ha_f⟩ := id ha
                    obtain ⟨⟨hb_0, hb_1, hb_2⟩, hb_f⟩ := id hb
                    obtain ⟨⟨hc_0, hc_1, hc_2⟩, hc_f⟩ := id hc
                    go_wp2_with fail
                    refine (H5.out _ hK).mono ?_
                    rintro e w6 ⟨rfl, b6⟩
                    clear hs_0 hs_1 ha_0 ha_1 ha_2 ha_f hb_0 hb_1 hb_2 hb_f hc_0 hc_1 hc_2 hc_f
                    replace hB := chain hB b6
                    go_wp2
                    go_ret
                    exact ⟨by rfl, hB⟩
                  · have h4 : v4 ≤ 0 := K4.out (by omega) (by omega)
                    clear K1 K2 K3 K4 K5 K6
                    obtain ⟨hs_0, hs_1⟩ := id hs
                    obtain ⟨⟨ha_0, ha_1, ha_2⟩, ha_f⟩ := id ha
                    obtain ⟨⟨hb_0, hb_1, hb_2⟩, hb_f⟩ := id hb
                    obtain ⟨⟨hc_0, hc_1, hc_2⟩, hc_f⟩ := id hc
                    go_wp2_with fail
                    refine (H5.out _ hK).mono ?_
                    rintro e w6 ⟨rfl, b6⟩
                    clear hs_0 hs_1 ha_0 ha_1 ha_2 ha_f hb_0 hb_1 hb_2 hb_f hc_0 hc_1 hc_2 hc_f
                    replace hB := chain hB b6
                    go_wp2
                    go_ret
                    exact ⟨by rfl, hB⟩
                · have hq : (ya == yb) = false := beq_eq_false_iff_ne.2 hd
                  clear hd
                  by_cases h3 : 0 < v3
                  · clear K1 K2 K3 K4 K5 K6
                    obtain ⟨hs_0, hs_1⟩ := id hs
                    obtain ⟨⟨ha_0, ha_1, ha_2⟩, ha_f⟩ := id ha
                    obtain ⟨⟨hb_0, hb_1, hb_2⟩, hb_f⟩ := id hb
                    obtain ⟨⟨hc_0, hc_1, hc_2⟩, hc_f⟩ := id hc
                    go_wp2_with fail
                    refine (H5.out _ hK).mono ?_
                    rintro e w6 ⟨rfl, b6⟩
                    clear hs_0 hs_1 ha_0 ha_1 ha_2 ha_f hb_0 hb_1 hb_2 hb_f hc_0 hc_1 hc_2 hc_f
                    replace hB := chain hB b6
                    go_wp2
                    go_ret
                    exact ⟨by rfl, hB⟩
                  · have h4 : v4 ≤ 0 := K4.out (by omega) (by omega)
                    clear K1 K2 K3 K4 K5 K6
                    obtain ⟨hs_0, hs_1⟩ := id hs
                    obtain ⟨⟨ha_0, ha_1, ha_2⟩, ha_f⟩ := id ha
                    obtain ⟨⟨hb_0, hb_1, hb_2⟩, hb_f⟩ := id hb
                    obtain ⟨⟨hc_0, hc_1, hc_2⟩, hc_f⟩ := id hc
                    go_wp2_with fail
                    refine (H5.out _ hK).mono ?_
                    rintro e w6 ⟨rfl, b6⟩
                    clear hs_0 hs_1 ha_0 ha_1 ha_2 ha_f hb_0 hb_1 hb_2 hb_f hc_0 hc_1 hc_2 hc_f
                    replace hB := chain hB b6
                    go_wp2
                    go_ret
                    exact ⟨by rfl, hB⟩
                · have hq : (pa == pb) = false := beq_eq_false_iff_ne.2 hd
                  clear hd
                  by_cases h3 : 0 < v3
                  · clear K1 K2 K3 K4 K5 K6
                    obtain ⟨hs_0, hs_1⟩ := id hs
                    obtain ⟨⟨ha_0, ha_1, ha_2⟩, ha_f⟩ := id ha
                    obtain ⟨⟨hb_0, hb_1, hb_2⟩, hb_f⟩ := id hb
                    obtain ⟨⟨hc_0, hc_1, hc_2⟩, hc_f⟩ := id hc
                    go_wp2_with fail
                    refine (H5.out _ hK).mono ?_
                    rintro e w6 ⟨rfl, b6⟩
                    clear hs_0 hs_1 ha_0 ha_1 ha_2 ha_f hb_0 hb_1 hb_2 hb_f hc_0 hc_1 hc_2 hc_f
                    replace hB := chain hB b6
                    go_wp2
                    go_ret
                    exact ⟨by rfl, hB⟩
                  · have h4 : v4 ≤ 0 := K4.out (by omega) (by omega)
                    clear K1 K2 K3 K4 K5 K6
                    obtain ⟨hs_0, hs_1⟩ := id hs
                    obtain ⟨⟨ha_0, ha_1, ha_2⟩, ha_f⟩ := id ha
                    obtain ⟨⟨hb_0, hb_1, hb_2⟩, hb_f⟩ := id hb
                    obtain ⟨⟨hc_0, hc_1, hc_2⟩, hc_f⟩ := id hc
                    go_wp2_with fail
                    refine (H5.out _ hK).mono ?_
                    rintro e w6 ⟨rfl, b6⟩
                    clear hs_0 hs_1 ha_0 ha_1 ha_2 ha_f hb_0 hb_1 hb_2 hb_f hc_0 hc_1 hc_2 hc_f
                    replace hB := chain hB b6
                    go_wp2
                    go_ret
                    exact ⟨by rfl, hB⟩
              · have e2 : v2 = 0 := by have := K2.out; omega
                obtain ⟨d1, d2, d3⟩ := K3.out.1 e1
                subst e1 e2 d1 d2 d3
                by_cases h3 : 0 < v3
                · clear K1 K2 K3 K4 K5 K6
                  obtain ⟨hs_0, hs_1⟩ := id hs
                  obtain ⟨⟨ha_0, ha_1, ha_2⟩, ha_f⟩ := id ha
                  obtain ⟨⟨hb_0, hb_1, hb_2⟩, hb_f⟩ := id hb
                  obtain ⟨⟨hc_0, hc_1, hc_2⟩, hc_f⟩ := id hc
                  go_wp2_with fail
                  refine (H5.out _ hK).mono ?_
                  rintro e w6 ⟨rfl, b6⟩
                  clear hs_0 hs_1 ha_0 ha_1 ha_2 ha_f hb_0 hb_1 hb_2 hb_f hc_0 hc_1 hc_2 hc_f
                  replace hB := chain hB b6
                  go_wp2
                  go_ret
                  exact ⟨by rfl, hB⟩
                · have h4 : v4 ≤ 0 := K4.out (by omega) (by omega)
                  clear K1 K2 K3 K4 K5 K6
                  obtain ⟨hs_0, hs_1⟩ := id hs
                  obtain ⟨⟨ha_0, ha_1, ha_2⟩, ha_f⟩ := id ha
                  obtain ⟨⟨hb_0, hb_1, hb_2⟩, hb_f⟩ := id hb
                  obtain ⟨⟨hc_0, hc_1, hc_2⟩, hc_f⟩ := id hc
                  go_wp2_with fail
                  refine (H5.out _ hK).mono ?_
                  rintro e w6 ⟨rfl, b6⟩
                  clear hs_0 hs_1 ha_0 ha_1 ha_2 ha_f hb_0 hb_1 hb_2 hb_f hc_0 hc_1 hc_2 hc_f
                  replace hB := chain hB b6
                  go_wp2
                  go_ret
                  exact ⟨by rfl, hB⟩
              · have e2 : v2 = -1 := by have := K2.out; omega
                subst e1 e2
                have hd : xa ≠ xb ∨ (xa = xb ∧ ya ≠ yb) ∨ (xa = xb ∧ ya = yb ∧ pa ≠ pb) := by
                  by_cases e1 : xa = xb
                  · by_cases e2 : ya = yb
                    · exact .inr (.inr ⟨e1, e2, fun e3 => absurd (K3.out.2 ⟨e1, e2, e3⟩) (by omega)⟩)
                    · exact .inr (.inl ⟨e1, e2⟩)
                  · exact .inl e1
                rcases hd with hd | ⟨rfl, hd⟩ | ⟨rfl, rfl, hd⟩
                · have hq : (xa == xb) = false := beq_eq_false_iff_ne.2 hd
                  clear hd
                  clear K1 K2 K3 K4 K5 K6
                  obtain ⟨hs_0, hs_1⟩ := id hs
                  obtain ⟨⟨ha_0, ha_1, ha_2⟩, ha_f⟩ := id ha
                  obtain ⟨⟨hb_0, hb_1, hb_2⟩, hb_f⟩ := id hb
                  obtain ⟨⟨hc_0, hc_1, hc_2⟩, hc_f⟩ := id hc
                  go_wp2_with fail
                  refine (H5.out _ hK).mono ?_
                  rintro e w6 ⟨rfl, b6⟩
                  clear hs_0 hs_1 ha_0 ha_1 ha_2 ha_f hb_0 hb_1 hb_2 hb_f hc_0 hc_1 hc_2 hc_f
                  replace hB := chain hB b6
                  go_wp2
                  go_ret
                  exact ⟨by rfl, hB⟩
                · have hq : (ya == yb) = false := beq_eq_false_iff_ne.2 hd
                  clear hd
                  clear K1 K2 K3 K4 K5 K6
                  obtain ⟨hs_0, hs_1⟩ := id hs
                  obtain ⟨⟨ha_0, ha_1, ha_2⟩, ha_f⟩ := id ha
                  obtain ⟨⟨hb_0, hb_1, hb_2⟩, hb_f⟩ := id hb
                  obtain ⟨⟨hc_0, hc_1, hc_2⟩, hc_f⟩ := id hc
                  go_wp2_with fail
                  refine (H5.out _ hK).mono ?_
                  rintro e w6 ⟨rfl, b6⟩
                  clear hs_0 hs_1 ha_0 ha_1 ha_2 ha_f hb_0 hb_1 hb_2 hb_f hc_0 hc_1 hc_2 hc_f
                  replace hB := chain hB b6
                  go_wp2
                  go_ret
                  exact ⟨by rfl, hB⟩
                · have hq : (pa == pb) = false := beq_eq_false_iff_ne.2 hd
                  clear hd
                  clear K1 K2 K3 K4 K5 K6
                  obtain ⟨hs_0, hs_1⟩ := id hs
                  obtain ⟨⟨ha_0, ha_1, ha_2⟩, ha_f⟩ := id ha
                  obtain ⟨⟨hb_0, hb_1, hb_2⟩, hb_f⟩ := id hb
                  obtain ⟨⟨hc_0, hc_1, hc_2⟩, hc_f⟩ := id hc
                  go_wp2_with fail
                  refine (H5.out _ hK).mono ?_
                  rintro e w6 ⟨rfl, b6⟩
                  clear hs_0 hs_1 ha_0 ha_1 ha_2 ha_f hb_0 hb_1 hb_2 hb_f hc_0 hc_1 hc_2 hc_f
                  replace hB := chain hB b6
                  go_wp2
                  go_ret
                  exact ⟨by rfl, hB⟩
      · have hn40 : ¬ 40 < (l.length : Int) := by omega
        have hn300 : 300 < (s.size : Int) := by omega
        go_enter Tryd.func8, Tryd.ntmps8
        obtain ⟨hs_0, hs_1⟩ := id hs
        obtain ⟨⟨ha_0, ha_1, ha_2⟩, ha_f⟩ := id ha
        obtain ⟨⟨hb_0, hb_1, hb_2⟩, hb_f⟩ := id hb
        obtain ⟨⟨hc_0, hc_1, hc_2⟩, hc_f⟩ := id hc
        go_wp2_with fail
        refine (H2.out _).mono ?_
        rintro e w1 ⟨rfl, b1⟩
        clear hs_0 hs_1 ha_0 ha_1 ha_2 ha_f hb_0 hb_1 hb_2 hb_f hc_0 hc_1 hc_2 hc_f
        replace hs := hs.below b1 hs.lt
        replace ha := ha.below b1 ha.lt
        replace hb := hb.below b1 hb.lt
        replace hc := hc.below b1 hc.lt
        replace hA := rdMv b1 hA
        replace hK := hK.below b1 hK.1
        replace hB := chain hB b1
        clear b1
        obtain ⟨hs_0, hs_1⟩ := id hs
        obtain ⟨⟨ha_0, ha_1, ha_2⟩, ha_f⟩ := id ha
        obtain ⟨⟨hb_0, hb_1, hb_2⟩, hb_f⟩ := id hb
        obtain ⟨⟨hc_0, hc_1, hc_2⟩, hc_f⟩ := id hc
        go_wp2_with fail
        refine (H5.out _ hK).mono ?_
        rintro e w2 ⟨rfl, b2⟩
        clear hs_0 hs_1 ha_0 ha_1 ha_2 ha_f hb_0 hb_1 hb_2 hb_f hc_0 hc_1 hc_2 hc_f
        replace hs := hs.below b2 hs.lt
        replace ha := ha.below b2 ha.lt
        replace hb := hb.below b2 hb.lt
        replace hc := hc.below b2 hc.lt
        replace hA := rdMv b2 hA
        replace hK := hK.below b2 hK.1
        replace hB := chain hB b2
        clear b2
        obtain ⟨hs_0, hs_1⟩ := id hs
        obtain ⟨⟨ha_0, ha_1, ha_2⟩, ha_f⟩ := id ha
        obtain ⟨⟨hb_0, hb_1, hb_2⟩, hb_f⟩ := id hb
        obtain ⟨⟨hc_0, hc_1, hc_2⟩, hc_f⟩ := id hc
        go_wp2
        go_ret
        exact ⟨by rfl, hB⟩
    · have hn40 : 40 < (l.length : Int) := by omega
      go_enter Tryd.func8, Tryd.ntmps8
      obtain ⟨hs_0, hs_1⟩ := id hs
      obtain ⟨⟨ha_0, ha_1, ha_2⟩, ha_f⟩ := id ha
      obtain ⟨⟨hb_0, hb_1, hb_2⟩, hb_f⟩ := id hb
      obtain ⟨⟨hc_0, hc_1, hc_2⟩, hc_f⟩ := id hc
      go_wp2_with fail
      refine (H2.out _).mono ?_
      rintro e w1 ⟨rfl, b1⟩
      clear hs_0 hs_1 ha_0 ha_1 ha_2 ha_f hb_0 hb_1 hb_2 hb_f hc_0 hc_1 hc_2 hc_f
      replace hs := hs.below b1 hs.lt
      replace ha := ha.below b1 ha.lt
      replace hb := hb.below b1 hb.lt
      replace hc := hc.below b1 hc.lt
      replace hA := rdMv b1 hA
      replace hK := hK.below b1 hK.1
      replace hB := chain hB b1
      clear b1
      obtain ⟨hs_0, hs_1⟩ := id hs
      obtain ⟨⟨ha_0, ha_1, ha_2⟩, ha_f⟩ := id ha
      obtain ⟨⟨hb_0, hb_1, hb_2⟩, hb_f⟩ := id hb
      obtain ⟨⟨hc_0, hc_1, hc_2⟩, hc_f⟩ := id hc
      go_wp2_with fail
      refine (H5.out _ hK).mono ?_
      rintro e w2 ⟨rfl, b2⟩
      clear hs_0 hs_1 ha_0 ha_1 ha_2 ha_f hb_0 hb_1 hb_2 hb_f hc_0 hc_1 hc_2 hc_f
      replace hs := hs.below b2 hs.lt
      replace ha := ha.below b2 ha.lt
      replace hb := hb.below b2 hb.lt
      replace hc := hc.below b2 hc.lt
      replace hA := rdMv b2 hA
      replace hK := hK.below b2 hK.1
      replace hB := chain hB b2
      clear b2
      obtain ⟨hs_0, hs_1⟩ := id hs
      obtain ⟨⟨ha_0, ha_1, ha_2⟩, ha_f⟩ := id ha
      obtain ⟨⟨hb_0, hb_1, hb_2⟩, hb_f⟩ := id hb
      obtain ⟨⟨hc_0, hc_1, hc_2⟩, hc_f⟩ := id hc
      go_wp2
      go_ret
      exact ⟨by rfl, hB⟩
  · have H2 := Lib.hid (fun w => refSize_no F R hv w)
    go_enter Tryd.func8, Tryd.ntmps8
    obtain ⟨hs_0, hs_1⟩ := id hs
    obtain ⟨⟨ha_0, ha_1, ha_2⟩, ha_f⟩ := id ha
    obtain ⟨⟨hb_0, hb_1, hb_2⟩, hb_f⟩ := id hb
    obtain ⟨⟨hc_0, hc_1, hc_2⟩, hc_f⟩ := id hc
    go_wp2_with fail
    refine (H2.out _).mono ?_
    rintro e w1 ⟨rfl, b1⟩
    clear hs_0 hs_1 ha_0 ha_1 ha_2 ha_f hb_0 hb_1 hb_2 hb_f hc_0 hc_1 hc_2 hc_f
    replace hs := hs.below b1 hs.lt
    replace ha := ha.below b1 ha.lt
    replace hb := hb.below b1 hb.lt
    replace hc := hc.below b1 hc.lt
    replace hA := rdMv b1 hA
    replace hK := hK.below b1 hK.1
    replace hB := chain hB b1
    clear b1
    obtain ⟨hs_0, hs_1⟩ := id hs
    obtain ⟨⟨ha_0, ha_1, ha_2⟩, ha_f⟩ := id ha
    obtain ⟨⟨hb_0, hb_1, hb_2⟩, hb_f⟩ := id hb
    obtain ⟨⟨hc_0, hc_1, hc_2⟩, hc_f⟩ := id hc
    go_wp2_with fail
    refine (H5.out _ hK).mono ?_
    rintro e w2 ⟨rfl, b2⟩
    clear hs_0 hs_1 ha_0 ha_1 ha_2 ha_f hb_0 hb_1 hb_2 hb_f hc_0 hc_1 hc_2 hc_f
    replace hs := hs.below b2 hs.lt
    replace ha := ha.below b2 ha.lt
    replace hb := hb.below b2 hb.lt
    replace hc := hc.below b2 hc.lt
    replace hA := rdMv b2 hA
    replace hK := hK.below b2 hK.1
    replace hB := chain hB b2
    clear b2
    obtain ⟨hs_0, hs_1⟩ := id hs
    obtain ⟨⟨ha_0, ha_1, ha_2⟩, ha_f⟩ := id ha
    obtain ⟨⟨hb_0, hb_1, hb_2⟩, hb_f⟩ := id hb
    obtain ⟨⟨hc_0, hc_1, hc_2⟩, hc_f⟩ := id hc
    go_wp2
    go_ret
    exact ⟨by rfl, hB⟩

end Go.Proofs.YtpcfgeggjfbfjaaDoor
