/- Moves, by the program: the text of a list. -/
import Derived.Test.YtpcfgeggjfbfjaaDoorMwE
import Derived.Test.YtpcfgeggjfbfjaaDoorMwC
namespace Go.Proofs.YtpcfgeggjfbfjaaDoor
open Go.RowKit Go.Sort

def vtxs (F : Int) (l : List Mv) : List Value := l.map fun m => .string (bsL (mvT F m))

set_option maxRecDepth 100000 in
set_option maxHeartbeats 2000000 in
theorem mvLine_yes (F R : Int) (l : List Mv) (A : Option Addr) (c : Nat) (hv : vsz F R) (hl : l.length ≤ 1000) (hok : ∀ m ∈ l, okM F R m) (w : World) (hA : RdM w w.heap.size A l) (hK : Kinds w) :
    Calls Tryd.prog 19 #[.agg #[.int .i64 F, .int .i64 R], .slice A l.length c] w fun e w' => e = .returned (.tuple #[.string (bsL (lnT F l)), .int .i64 0]) ∧ Below w.heap.size w w' := by
  obtain ⟨i0, hi, hz0, hz1, hz2⟩ := info_parts infoSt
  have hs := box2 w F R
  have hB := box1 w (.cells #[.int .i64 F, .int .i64 R] 23)
  have hk := hK.1
  replace hK := hK.below hB hk
  replace hA := rdMv hB hA
  have HV := Lib.hid (fun w => validSize_yes F R hv w)
  go_enter Tryd.func19, Tryd.ntmps19
  obtain ⟨s0, s1⟩ := id hs
  go_wp2_with fail
  refine (HV.out _).mono ?_
  rintro e w1 ⟨rfl, b1⟩
  clear s0 s1
  replace hs := hs.below b1 hs.lt
  replace hK := hK.below b1 hK.1
  replace hA := rdMv b1 hA
  replace hB := chain hB b1
  clear b1
  have hlt : ¬ 1000 < (l.length : Int) := by omega
  go_wp2
  go_loopw [6, 21] (fun v i wr => ∃ k : Nat, k ≤ l.length ∧ i = .int .i64 k ∧ wr.ownsRow w1.heap.size 9 1 v (vtxs F (l.take k)).length (vtxs F (l.take k)) ∧ Below w1.heap.size w1 wr) (fun _ i _ => l.length - (intOf i).toNat)
  case atStart => exact ⟨0, by omega, rfl, World.ownsRow_nil _ _ _ _, Below.refl _ _⟩
  case round =>
    obtain ⟨k, hk, rfl, hown, hW⟩ := hrel
    have hs1 := hs.below hW hs.lt
    have hK1 := hK.below hW hK.1
    have hA1 := rdMv hW hA
    have hB1 := chain hB hW
    have hsz := hW.size
    by_cases hlt : k < l.length
    · obtain ⟨m, hm⟩ : ∃ m, l[k]? = some m := ⟨_, List.getElem?_eq_getElem hlt⟩
      obtain ⟨ad, rfl, had, m0, m1, m2⟩ := hA1.at_ hm
      have hokm := hok m (List.mem_of_getElem? hm)
      have ht : vtxs F (l.take (k + 1)) = vtxs F (l.take k) ++ [.string (bsL (mvT F m))] := by
        rw [List.take_add_one, hm]
        simp [vtxs]
      have HT := Lib.hid ht
      have hlen : (vtxs F (l.take k)).length = k := by simp [vtxs]; omega
      obtain ⟨x, y, p⟩ := m
      have HX := Lib.hid (fun w hK => mvText_yes F R x y p hokm w hK)
      simp only at m0 m1 m2
      clear hm hokm ht
      obtain ⟨s0, s1⟩ := id hs1
      have hm3 := box3 wr x y p
      have d0 := fun o => liv3 (w := wr) o s0
      have d1 := fun o => liv3 (w := wr) o s1
      have bx := box1 wr (.cells #[.int .i64 x, .int .i64 y, .int .i8 p] 27)
      replace hK1 := hK1.below bx hK1.1
      go_wp2_with fail
      refine (HX.out _ hK1).mono ?_
      rintro e w2 ⟨rfl, b2⟩
      have hb2 := chain bx b2
      replace hown := own_bel hown hb2
      replace hB1 := chain hB1 hb2
      replace hW := chain hW hb2
      have hsz2 := hW.size
      clear m0 m1 m2 s0 s1 d0 d1 hm3 b2 bx hb2 hs1 hK1 had hA1
      generalize bsL (mvT F ⟨x, y, p⟩) = tx at *
      rw [hlen] at hown
      go_wp2_with (at_builtin; (refine wpList_append_own _ rfl _ _ 49 rfl w1.heap.size 9 i0 (.string ByteArray.empty) 1 16 Tryd.underlying49 hi hz0 hz1 hz2 rfl (by decide) _ _ _ rfl (hown.alloc _) ⟨w2.heap.size, 0, none⟩ 1 1 [.string tx] rfl rfl ?c1 ?c2 ?c3 ?c4 ?c5 ?_))
      case c1 =>
        intro j u hj
        match j, hj with
        | 0, hj => simp at hj; subst hj; simp [Addr.add]
      case c2 => intro u hu; simp at hu; subst hu; rfl
      case c3 => unfold maxLen; omega
      case c4 => omega
      case c5 => simp; omega
      intro v' w3 hown' hgrow _
      go_wp2
      go_roundw
      case rel =>
        refine ⟨k + 1, by omega, by go_num, ?_, ?_⟩
        · rw [HT.out, List.length_append, hlen]; exact hown'
        · exact (hW.alloc (by omega) _).grown hgrow (by simp; omega) (fun r e => (World.ownsRow.lt hown r e).1)
      case measure => simp [intOf]; omega
    · have hkl : l.take k = l := List.take_of_length_le (by omega)
      rw [hkl] at hown
      clear hkl hA1
      have HE : Hid (bsL (jw ((l.map fun m => bsL (mvT F m)).map (·.data.toList))) = bsL (lnT F l)) := Lib.hid (by
        unfold lnT
        rw [List.map_map]
        congr 2)
      have hlen2 : (vtxs F l).length = (l.map fun m => bsL (mvT F m)).length := by simp [vtxs]
      by_cases h0 : l.length = 0
      · have hl0 : l = [] := List.eq_nil_of_length_eq_zero h0
        have HN : Hid (bsL (lnT F l) = ⟨#[]⟩) := Lib.hid (by rw [hl0]; rfl)
        have hv0 : ∃ A c, u6 = .slice A 0 c := by
          obtain ⟨_, ⟨h, _⟩ | ⟨g, cap, cur, h, _⟩⟩ := hown
          · exact ⟨none, 0, h⟩
          · exact ⟨some ⟨g, 0, none⟩, cap, by rw [h, hlen2]; simp [h0]⟩
        obtain ⟨A', c', rfl⟩ := hv0
        have HJ := Lib.hid (fun w => joinW_none A' c' w)
        clear hown hA hs1 HE
        go_wp2_with fail
        refine (HJ.out _).mono ?_
        rintro e w2 ⟨rfl, b2⟩
        go_wp2
        go_ret2
        exact ⟨ret2 (by rw [HN.out]; rfl) rfl, chain hB1 b2⟩
      · obtain ⟨g, cap, rfl⟩ := Joins.ownsRow_form hown (by rw [hlen2]; simp; omega)
        obtain ⟨hg0, hg1⟩ := World.ownsRow.lt hown g rfl
        have hrd : RdSt wr g (l.map fun m => bsL (mvT F m)) := fun j x hx => by
          have hj := (List.getElem?_eq_some_iff.1 hx).1
          rw [hown.cellAt j (by omega)]
          unfold vtxs
          rw [List.getElem?_map] at hx ⊢
          cases hm : l[j]? with
          | none => rw [hm] at hx; simp at hx
          | some m => rw [hm] at hx; simp at hx ⊢; exact hx
        have hcap : (vtxs F l).length ≤ cap := by
          obtain ⟨_, ⟨h, _⟩ | ⟨g2, c2, cur, he, _, _, hn, _⟩⟩ := hown
          · cases h
          · cases he; exact hn
        have hjl : (jw ((l.map fun m => bsL (mvT F m)).map (·.data.toList))).length ≤ 100000 := by
          have h6 : ∀ l : List Mv, (List.flatMap (fun u : List UInt8 => 32 :: u) ((l.map fun m => bsL (mvT F m)).map (·.data.toList))).length ≤ 6 * l.length := by
            intro l
            induction l with
            | nil => simp
            | cons m l ih =>
              have := mvT_len F m
              simp only [List.map_cons, List.flatMap_cons, List.length_append, List.length_cons, bsL_toList] at ih ⊢
              omega
          cases l with
          | nil => simp [jw]
          | cons m l =>
            have h1 := h6 l
            have := mvT_len F m
            simp only [List.map_cons, jw, List.length_append, bsL_toList, List.length_cons] at h1 hl ⊢
            omega
        have HJ := Lib.hid (joinW_any g cap (l.map fun m => bsL (mvT F m)) wr hg1 (by rw [← hlen2]; simp [vtxs]; omega) (by omega) hrd hjl)
        rw [← hlen2, HE.out] at HJ
        generalize (vtxs F l).length = n at *
        clear hown hA hs1 HE hrd hjl hcap hlen2
        go_wp2_with fail
        refine HJ.out.mono ?_
        rintro e w2 ⟨rfl, b2⟩
        go_wp2
        go_ret2
        exact ⟨rfl, chain hB1 b2⟩

set_option maxRecDepth 100000 in
set_option maxHeartbeats 2000000 in
theorem mvLine_bad (F R : Int) (l : List Mv) (A : Option Addr) (c : Nat) (hv : vsz F R) (hl : l.length ≤ 1000) (n : Nat) (bad : Mv) (hn : l[n]? = some bad) (hb : ¬ okM F R bad) (hok : ∀ j m, j < n → l[j]? = some m → okM F R m) (w : World) (hA : RdM w w.heap.size A l) (hK : Kinds w) :
    Calls Tryd.prog 19 #[.agg #[.int .i64 F, .int .i64 R], .slice A l.length c] w fun e w' => e = .returned (.tuple #[.string ⟨#[]⟩, .int .i64 2]) ∧ Below w.heap.size w w' := by
  obtain ⟨i0, hi, hz0, hz1, hz2⟩ := info_parts infoSt
  have HG := Lib.hid hok
  clear hok
  have hnl : n < l.length := (List.getElem?_eq_some_iff.1 hn).1
  have hs := box2 w F R
  have hB := box1 w (.cells #[.int .i64 F, .int .i64 R] 23)
  have hk := hK.1
  replace hK := hK.below hB hk
  replace hA := rdMv hB hA
  have HV := Lib.hid (fun w => validSize_yes F R hv w)
  go_enter Tryd.func19, Tryd.ntmps19
  obtain ⟨s0, s1⟩ := id hs
  go_wp2_with fail
  refine (HV.out _).mono ?_
  rintro e w1 ⟨rfl, b1⟩
  clear s0 s1
  replace hs := hs.below b1 hs.lt
  replace hK := hK.below b1 hK.1
  replace hA := rdMv b1 hA
  replace hB := chain hB b1
  clear b1
  have hlt : ¬ 1000 < (l.length : Int) := by omega
  go_wp2
  go_loopw [6, 21] (fun v i wr => ∃ k : Nat, k ≤ n ∧ i = .int .i64 k ∧ wr.ownsRow w1.heap.size 9 1 v (vtxs F (l.take k)).length (vtxs F (l.take k)) ∧ Below w1.heap.size w1 wr) (fun _ i _ => l.length - (intOf i).toNat)
  case atStart => exact ⟨0, by omega, rfl, World.ownsRow_nil _ _ _ _, Below.refl _ _⟩
  case round =>
    obtain ⟨k, hk, rfl, hown, hW⟩ := hrel
    have hs1 := hs.below hW hs.lt
    have hK1 := hK.below hW hK.1
    have hA1 := rdMv hW hA
    have hB1 := chain hB hW
    have hsz := hW.size
    by_cases hlt : k < n
    · have hkl : k < l.length := by omega
      obtain ⟨m, hm⟩ : ∃ m, l[k]? = some m := ⟨_, List.getElem?_eq_getElem (by omega)⟩
      obtain ⟨ad, rfl, had, m0, m1, m2⟩ := hA1.at_ hm
      have hokm := HG.out k m hlt hm
      have ht : vtxs F (l.take (k + 1)) = vtxs F (l.take k) ++ [.string (bsL (mvT F m))] := by
        rw [List.take_add_one, hm]
        simp [vtxs]
      have HT := Lib.hid ht
      have hlen : (vtxs F (l.take k)).length = k := by simp [vtxs]; omega
      obtain ⟨x, y, p⟩ := m
      have HX := Lib.hid (fun w hK => mvText_yes F R x y p hokm w hK)
      simp only at m0 m1 m2
      clear hm hokm ht
      obtain ⟨s0, s1⟩ := id hs1
      have hm3 := box3 wr x y p
      have d0 := fun o => liv3 (w := wr) o s0
      have d1 := fun o => liv3 (w := wr) o s1
      have bx := box1 wr (.cells #[.int .i64 x, .int .i64 y, .int .i8 p] 27)
      replace hK1 := hK1.below bx hK1.1
      go_wp2_with fail
      refine (HX.out _ hK1).mono ?_
      rintro e w2 ⟨rfl, b2⟩
      have hb2 := chain bx b2
      replace hown := own_bel hown hb2
      replace hB1 := chain hB1 hb2
      replace hW := chain hW hb2
      have hsz2 := hW.size
      clear m0 m1 m2 s0 s1 d0 d1 hm3 b2 bx hb2 hs1 hK1 had hA1
      generalize bsL (mvT F ⟨x, y, p⟩) = tx at *
      rw [hlen] at hown
      go_wp2_with (at_builtin; (refine wpList_append_own _ rfl _ _ 49 rfl w1.heap.size 9 i0 (.string ByteArray.empty) 1 16 Tryd.underlying49 hi hz0 hz1 hz2 rfl (by decide) _ _ _ rfl (hown.alloc _) ⟨w2.heap.size, 0, none⟩ 1 1 [.string tx] rfl rfl ?c1 ?c2 ?c3 ?c4 ?c5 ?_))
      case c1 =>
        intro j u hj
        match j, hj with
        | 0, hj => simp at hj; subst hj; simp [Addr.add]
      case c2 => intro u hu; simp at hu; subst hu; rfl
      case c3 => unfold maxLen; omega
      case c4 => omega
      case c5 => simp; omega
      intro v' w3 hown' hgrow _
      go_wp2
      go_roundw
      case rel =>
        refine ⟨k + 1, by omega, by go_num, ?_, ?_⟩
        · rw [HT.out, List.length_append, hlen]; exact hown'
        · exact (hW.alloc (by omega) _).grown hgrow (by simp; omega) (fun r e => (World.ownsRow.lt hown r e).1)
      case measure => simp [intOf]; omega
    · obtain rfl : k = n := by omega
      obtain ⟨ad, rfl, had, m0, m1, m2⟩ := hA1.at_ hn
      obtain ⟨x, y, p⟩ := bad
      have HX := Lib.hid (fun w => mvText_no F R x y p hb w)
      simp only at m0 m1 m2
      clear hn hb
      obtain ⟨s0, s1⟩ := id hs1
      have hm3 := box3 wr x y p
      have d0 := fun o => liv3 (w := wr) o s0
      have d1 := fun o => liv3 (w := wr) o s1
      have bx := box1 wr (.cells #[.int .i64 x, .int .i64 y, .int .i8 p] 27)
      go_wp2_with fail
      refine (HX.out _).mono ?_
      rintro e w2 ⟨rfl, b2⟩
      have hb2 := chain bx b2
      clear m0 m1 m2 s0 s1 d0 d1 hm3 b2 bx hs1 hK1 had hA1 hown
      go_wp2
      go_ret2
      exact ⟨rfl, chain hB1 hb2⟩

set_option maxRecDepth 100000 in
set_option maxHeartbeats 2000000 in
theorem mvLine_off (F R : Int) (l : List Mv) (A : Option Addr) (c : Nat) (h : ¬ vsz F R) (w : World) :
    Calls Tryd.prog 19 #[.agg #[.int .i64 F, .int .i64 R], .slice A l.length c] w fun e w' => e = .returned (.tuple #[.string ⟨#[]⟩, .int .i64 2]) ∧ Below w.heap.size w w' := by
  have HV := Lib.hid (fun w => validSize_no F R h w)
  clear h
  go_enter Tryd.func19, Tryd.ntmps19
  go_wp2_with fail
  refine (HV.out _).mono ?_
  rintro e w1 ⟨rfl, b1⟩
  go_wp2
  go_ret2
  exact ⟨rfl, after1 b1⟩
set_option maxRecDepth 100000 in
set_option maxHeartbeats 2000000 in
theorem mvLine_many (F R : Int) (l : List Mv) (A : Option Addr) (c : Nat) (hv : vsz F R) (h : 1000 < l.length) (w : World) :
    Calls Tryd.prog 19 #[.agg #[.int .i64 F, .int .i64 R], .slice A l.length c] w fun e w' => e = .returned (.tuple #[.string ⟨#[]⟩, .int .i64 2]) ∧ Below w.heap.size w w' := by
  have HV := Lib.hid (fun w => validSize_yes F R hv w)
  have hlt : 1000 < (l.length : Int) := by omega
  clear h hv
  go_enter Tryd.func19, Tryd.ntmps19
  go_wp2_with fail
  refine (HV.out _).mono ?_
  rintro e w1 ⟨rfl, b1⟩
  go_wp2
  go_ret2
  exact ⟨rfl, after1 b1⟩

/-- a list that is not one of valid moves, or too long a one, or a wrong size. -/
theorem mvLine_no (F R : Int) (l : List Mv) (A : Option Addr) (c : Nat) (h : ¬ (vsz F R ∧ l.length ≤ 1000 ∧ ∀ m ∈ l, okM F R m)) (w : World) (hA : RdM w w.heap.size A l) (hK : Kinds w) :
    Calls Tryd.prog 19 #[.agg #[.int .i64 F, .int .i64 R], .slice A l.length c] w fun e w' => e = .returned (.tuple #[.string ⟨#[]⟩, .int .i64 2]) ∧ Below w.heap.size w w' := by
  by_cases hv : vsz F R
  · by_cases hl : l.length ≤ 1000
    · have h2 : ∃ m ∈ l, ¬ okM F R m := by
        by_cases hh : ∃ m ∈ l, ¬ okM F R m
        · exact hh
        · exact absurd ⟨hv, hl, fun m hm => by
            by_cases ho : okM F R m
            · exact ho
            · exact absurd ⟨m, hm, ho⟩ hh⟩ h
      obtain ⟨m, hm, hb⟩ := h2
      obtain ⟨j, hj, e⟩ := List.mem_iff_getElem.1 hm
      obtain ⟨n, _, ⟨b, hn, hnb⟩, hlow⟩ := least (P := fun n => ∃ b, l[n]? = some b ∧ ¬ okM F R b) j ⟨m, by rw [List.getElem?_eq_getElem hj, e], hb⟩
      refine mvLine_bad F R l A c hv hl n b hn hnb (fun i x hi hx => ?_) w hA hK
      by_cases ho : okM F R x
      · exact ho
      · exact absurd ⟨x, hx, ho⟩ (hlow i hi)
    · exact mvLine_many F R l A c hv (by omega) w
  · exact mvLine_off F R l A c hv w

end Go.Proofs.YtpcfgeggjfbfjaaDoor
