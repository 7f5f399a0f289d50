/- Moves, by the program: a text is read as a list. -/
import Derived.Test.YtpcfgeggjfbfjaaDoorMwE
import Derived.Test.YtpcfgeggjfbfjaaDoorMwD
namespace Go.Proofs.YtpcfgeggjfbfjaaDoor
open Go.RowKit Go.Sort

theorem own_lower {w : World} {b b' : Nat} {e : TypeId} {size : Nat} {v : Value} {n : Nat} {xs : List Value} (h : w.ownsRow b e size v n xs) (hb : b' ≤ b) : w.ownsRow b' e size v n xs := by
  obtain ⟨hl, ⟨rfl, h0⟩ | ⟨g, cap, cur, rfl, hg, rest⟩⟩ := h
  · exact ⟨hl, .inl ⟨rfl, h0⟩⟩
  · exact ⟨hl, .inr ⟨g, cap, cur, rfl, Nat.le_trans hb hg, rest⟩⟩
theorem rdA_some (a b p : Int) : rdA (some ⟨a, b, p⟩) = .tuple #[.agg #[.int .i64 a, .int .i64 b, .int .i8 p], .int .i64 0] := rfl
theorem rdA_none : rdA none = .tuple #[.agg #[.int .i64 0, .int .i64 0, .int .i8 0], .int .i64 6] := rfl

set_option maxRecDepth 100000 in
set_option maxHeartbeats 2000000 in
theorem mvPL_off (F R : Int) (s : ByteArray) (hs : s.size ≤ 10000) (hv : ¬ vsz F R) (w : World) :
    Calls Tryd.prog 21 #[.agg #[.int .i64 F, .int .i64 R], .string s] w fun e w' => e = .returned (.tuple #[.slice none 0 0, .int .i64 0, .int .i64 2]) ∧ Below w.heap.size w w' := by
  have HV := Lib.hid (fun w => validSize_no F R hv w)
  have HS := Lib.hid (fun w => splitW_any s hs w)
  have hx := box2 w F R
  have hB := box1 w (.cells #[.int .i64 F, .int .i64 R] 23)
  clear hv
  go_enter Tryd.func21, Tryd.ntmps21
  go_wp2_with fail
  refine (HS.out _).mono ?_
  rintro e w1 ⟨xs, c, rfl, hc, hxs, hrd, hsz, b1⟩
  replace hx := hx.below b1 hx.lt
  replace hB := chain hB b1
  obtain ⟨s0, s1⟩ := id hx
  go_wp2_with fail
  refine (HV.out _).mono ?_
  rintro e w2 ⟨rfl, b2⟩
  clear s0 s1
  go_wp2
  go_ret3
  exact ⟨rfl, chain hB b2⟩

set_option maxRecDepth 100000 in
set_option maxHeartbeats 2000000 in
theorem mvPL_many (F R : Int) (s : ByteArray) (hs : s.size ≤ 10000) (hv : vsz F R) (hm : 1000 < (wordsP s.data.toList).length) (w : World) :
    Calls Tryd.prog 21 #[.agg #[.int .i64 F, .int .i64 R], .string s] w fun e w' => e = .returned (.tuple #[.slice none 0 0, .int .i64 0, .int .i64 2]) ∧ Below w.heap.size w w' := by
  have HV := Lib.hid (fun w => validSize_yes F R hv w)
  have HS := Lib.hid (fun w => splitW_any s hs w)
  have hx := box2 w F R
  have hB := box1 w (.cells #[.int .i64 F, .int .i64 R] 23)
  clear hv
  go_enter Tryd.func21, Tryd.ntmps21
  go_wp2_with fail
  refine (HS.out _).mono ?_
  rintro e w1 ⟨xs, c, rfl, hc, hxs, hrd, hsz, b1⟩
  have hlen : (xs.length : Int) > 1000 := by
    have := congrArg List.length hxs
    rw [List.length_map] at this
    omega
  replace hx := hx.below b1 hx.lt
  replace hB := chain hB b1
  obtain ⟨s0, s1⟩ := id hx
  clear hxs hm
  go_wp2_with fail
  refine (HV.out _).mono ?_
  rintro e w2 ⟨rfl, b2⟩
  clear s0 s1
  go_wp2
  go_ret3
  exact ⟨rfl, chain hB b2⟩

set_option maxRecDepth 100000 in
set_option maxHeartbeats 2000000 in
theorem mvPL_none (F R : Int) (hv : vsz F R) (w : World) :
    Calls Tryd.prog 21 #[.agg #[.int .i64 F, .int .i64 R], .string ⟨#[]⟩] w fun e w' => e = .returned (.tuple #[.slice none 0 0, .int .i64 0, .int .i64 0]) ∧ Below w.heap.size w w' := by
  have HV := Lib.hid (fun w => validSize_yes F R hv w)
  have HS := Lib.hid (fun w => splitW_any ⟨#[]⟩ (by decide) w)
  have hx := box2 w F R
  have hB := box1 w (.cells #[.int .i64 F, .int .i64 R] 23)
  clear hv
  go_enter Tryd.func21, Tryd.ntmps21
  go_wp2_with fail
  refine (HS.out _).mono ?_
  rintro e w1 ⟨xs, c, rfl, hc, hxs, hrd, hsz, b1⟩
  have hlen : ¬ 1000 < (xs.length : Int) := by
    have := congrArg List.length hxs
    rw [List.length_map] at this
    have h1 : (wordsP []).length = 1 := rfl
    omega
  replace hx := hx.below b1 hx.lt
  replace hB := chain hB b1
  obtain ⟨s0, s1⟩ := id hx
  clear hxs
  go_wp2_with fail
  refine (HV.out _).mono ?_
  rintro e w2 ⟨rfl, b2⟩
  clear s0 s1
  go_wp2
  go_ret3
  exact ⟨rfl, chain hB b2⟩

set_option maxRecDepth 100000 in
set_option maxHeartbeats 2000000 in
theorem mvPL_yes (F R : Int) (s : ByteArray) (hs : s.size ≤ 10000) (hv : vsz F R) (hne : s.data.toList ≠ []) (hm : (wordsP s.data.toList).length ≤ 1000) (l : List Mv) (hl : (wds s.data.toList).map (rdM F R) = l.map some) (w : World) (hK : Kinds w) :
    Calls Tryd.prog 21 #[.agg #[.int .i64 F, .int .i64 R], .string s] w fun e w' => ∃ v, e = .returned (.tuple #[v, .int .i64 0, .int .i64 0]) ∧ w'.ownsRow w.heap.size 27 3 v l.length (vmvs l) ∧ Below w.heap.size w w' := by
  have HV := Lib.hid (fun w => validSize_yes F R hv w)
  have HS := Lib.hid (fun w => splitW_any s hs w)
  have HW := Lib.hid ((wordsP_or s.data.toList).1 hm)
  obtain ⟨i0, hi, hz0, hz1, hz2⟩ := info_parts infoMv
  have hemp : s.toList.isEmpty = false := by rw [ByteArray.toList_eq]; exact List.isEmpty_eq_false_iff.2 hne
  have hx := box2 w F R
  have hB := box1 w (.cells #[.int .i64 F, .int .i64 R] 23)
  have hk := hK.1
  replace hK := hK.below hB hk
  go_enter Tryd.func21, Tryd.ntmps21
  go_wp2_with fail
  refine (HS.out _).mono ?_
  rintro e w1 ⟨xs, c, rfl, hc, hxs, hrd, hsz, b1⟩
  rw [HW.out] at hxs
  have hxl : xs.length = l.length := by
    have h1 := congrArg List.length hxs
    have h2 := congrArg List.length hl
    simp only [List.length_map] at h1 h2
    omega
  have hat : ∀ (k : Nat) (x : ByteArray), xs[k]? = some x → rdM F R x.data.toList = l[k]? := fun k x hk => by
    have h1 := congrArg (·[k]?) hl
    rw [← hxs] at h1
    simp only [List.getElem?_map, hk, Option.map_some] at h1
    cases hh : l[k]? with
    | none => rw [hh] at h1; simp at h1
    | some m => rw [hh] at h1; simpa using h1
  have HA := Lib.hid hat
  have hl1 : l.length ≤ 1000 := by
    have h1 := congrArg List.length hxs
    rw [List.length_map, ← HW.out] at h1
    omega
  have hrd' : RdSt w1 w1.heap.size xs → True := fun _ => trivial
  have hlen : ¬ 1000 < (xs.length : Int) := by omega
  clear hxs hl hat hrd' hm hne HW HS
  replace hx := hx.below b1 hx.lt
  replace hK := hK.below b1 hK.1
  replace hB := chain hB b1
  obtain ⟨s0, s1⟩ := id hx
  go_wp2_with fail
  refine (HV.out _).mono ?_
  rintro e w2 ⟨rfl, b2⟩
  clear s0 s1
  have hgl := hsz
  replace hx := hx.below b2 hx.lt
  replace hK := hK.below b2 hK.1
  replace hB := chain hB b2
  replace hrd := hrd.below b2 (by omega)
  have hg2 := Nat.lt_of_lt_of_le (show (w.alloc (.cells #[.int .i64 F, .int .i64 R] 23)).heap.size < w1.heap.size by omega) b2.size
  rw [World.size_alloc] at hrd hg2
  clear b1 b2
  go_wp2
  go_loopw [8, 27] (fun v i wr => ∃ k : Nat, k ≤ l.length ∧ i = .int .i64 k ∧ wr.ownsRow w2.heap.size 27 3 v k (vmvs (l.take k)) ∧ Below w2.heap.size w2 wr) (fun _ i _ => l.length - (intOf i).toNat)
  case atStart => exact ⟨0, by omega, rfl, World.ownsRow_nil _ _ _ _, Below.refl _ _⟩
  case round =>
    obtain ⟨k, hk, rfl, hown, hW⟩ := hrel
    have hx1 := hx.below hW hx.lt
    have hK1 := hK.below hW hK.1
    have hB1 := chain hB hW
    have hrd1 := hrd.below hW (by omega)
    by_cases hlt : k < l.length
    · obtain ⟨m, hm⟩ : ∃ m, l[k]? = some m := ⟨_, List.getElem?_eq_getElem hlt⟩
      have hcell := hrd1.at_ (k := k) (by omega)
      obtain ⟨x, hxk⟩ : ∃ x, xs[k]? = some x := ⟨_, List.getElem?_eq_getElem (by omega)⟩
      rw [hxk] at hcell
      simp only [Option.getD_some] at hcell
      have hrx := HA.out k x hxk
      rw [hm] at hrx
      have ht : vmvs (l.take (k + 1)) = vmvs (l.take k) ++ [.int .i64 m.a, .int .i64 m.b, .int .i8 m.p] := by
        rw [List.take_add_one, hm, vmvs_app]
        rfl
      have HT := Lib.hid ht
      obtain ⟨a, b, p⟩ := m
      have HX := Lib.hid (fun w hK => mvParse_any F R hv x x.data.toList rfl w hK)
      rw [hrx, rdA_some] at HX
      simp only at HT
      clear hm ht hrx hxk
      obtain ⟨s0, s1⟩ := id hx1
      go_wp2_with fail
      refine (HX.out _ hK1).mono ?_
      rintro e w3 ⟨rfl, b3⟩
      replace hown := own_bel hown b3
      replace hB1 := chain hB1 b3
      replace hW := chain hW b3
      have hsz2 := hW.size
      clear s0 s1 b3 hx1 hK1 hrd1 hcell
      have hown2 := hown.alloc (.cells #[.int .i64 a, .int .i64 b, .int .i8 p] 27)
      go_wp2_with (at_builtin; (refine wpList_append_own _ rfl _ _ 42 rfl w2.heap.size 27 i0 (.agg #[.int .i64 0, .int .i64 0, .int .i8 0]) 3 24 Tryd.underlying42 hi hz0 hz1 hz2 rfl (by decide) _ _ _ rfl (hown2.alloc _) ⟨w3.heap.size + 1, 0, none⟩ 1 1 [.int .i64 a, .int .i64 b, .int .i8 p] rfl rfl ?c1 ?c2 ?c3 ?c4 ?c5 ?_))
      case c1 =>
        intro j u hj
        match j, hj with
        | 0, hj => simp at hj; subst hj; simp [go_sem]
        | 1, hj => simp at hj; subst hj; simp [go_sem]
        | 2, hj => simp at hj; subst hj; simp [go_sem]
      case c2 =>
        intro u hu
        simp at hu
        rcases hu with rfl | rfl | rfl <;> rfl
      case c3 => unfold maxLen; omega
      case c4 => omega
      case c5 => simp; omega
      intro v' w4 hown' hgrow _
      go_wp2
      go_roundw
      case rel =>
        refine ⟨k + 1, by omega, by go_num, ?_, ?_⟩
        · rw [HT.out]; exact hown'
        · exact ((hW.alloc (by omega) _).alloc (by simp; omega) _).grown hgrow (by simp; omega) (fun r e => (World.ownsRow.lt hown r e).1)
      case measure => simp [intOf]; omega
    · have hkl : l.take k = l := List.take_of_length_le (by omega)
      obtain rfl : k = l.length := by omega
      rw [hkl] at hown
      clear hkl
      have HO := Lib.hid hown
      clear hown hrd1
      go_wp2
      go_ret3
      refine ⟨_, rfl, ?_, hB1⟩
      exact own_lower HO.out hB.size

set_option maxRecDepth 100000 in
set_option maxHeartbeats 2000000 in
theorem mvPL_bad (F R : Int) (s : ByteArray) (hs : s.size ≤ 10000) (hv : vsz F R) (hne : s.data.toList ≠ []) (hm : (wordsP s.data.toList).length ≤ 1000) (l : List Mv) (t : List UInt8) (us : List (List UInt8)) (hw : wds s.data.toList = (wds s.data.toList).take l.length ++ t :: us)
    (hl : ((wds s.data.toList).take l.length).map (rdM F R) = l.map some) (hb : rdM F R t = none) (w : World) (hK : Kinds w) :
    Calls Tryd.prog 21 #[.agg #[.int .i64 F, .int .i64 R], .string s] w fun e w' => e = .returned (.tuple #[.slice none 0 0, .int .i64 l.length, .int .i64 6]) ∧ Below w.heap.size w w' := by
  have HV := Lib.hid (fun w => validSize_yes F R hv w)
  have HS := Lib.hid (fun w => splitW_any s hs w)
  have HW := Lib.hid ((wordsP_or s.data.toList).1 hm)
  obtain ⟨i0, hi, hz0, hz1, hz2⟩ := info_parts infoMv
  have hemp : s.toList.isEmpty = false := by rw [ByteArray.toList_eq]; exact List.isEmpty_eq_false_iff.2 hne
  have hx := box2 w F R
  have hB := box1 w (.cells #[.int .i64 F, .int .i64 R] 23)
  have hk := hK.1
  replace hK := hK.below hB hk
  go_enter Tryd.func21, Tryd.ntmps21
  go_wp2_with fail
  refine (HS.out _).mono ?_
  rintro e w1 ⟨xs, c, rfl, hc, hxs, hrd, hsz, b1⟩
  rw [HW.out] at hxs
  have hxn : l.length < xs.length := by
    have h1 := congrArg List.length hxs
    have h2 := congrArg List.length hw
    have h3 := congrArg List.length hl
    simp only [List.length_map, List.length_append, List.length_cons] at h1 h2 h3
    omega
  have hat : ∀ (k : Nat) (x : ByteArray), k < l.length → xs[k]? = some x → rdM F R x.data.toList = l[k]? := fun k x hkl hk => by
    have h1 := congrArg (·[k]?) hl
    rw [← hxs] at h1
    simp only [List.getElem?_map, List.getElem?_take, if_pos hkl, hk, Option.map_some] at h1
    cases hh : l[k]? with
    | none => rw [hh] at h1; simp at h1
    | some m => rw [hh] at h1; simpa using h1
  have hbad : ∀ (x : ByteArray), xs[l.length]? = some x → rdM F R x.data.toList = none := fun x hx => by
    have h1 := congrArg (·[l.length]?) hw
    have h3 := congrArg List.length hl
    simp only [List.length_map] at h3
    rw [List.getElem?_append_right (by omega), h3, Nat.sub_self, ← hxs] at h1
    simp only [List.getElem?_map, hx, Option.map_some] at h1
    have h4 : x.data.toList = t := by simpa using h1
    rw [h4]
    exact hb
  have HA := Lib.hid hat
  have HBD := Lib.hid hbad
  have hl1 : xs.length ≤ 1000 := by
    have h1 := congrArg List.length hxs
    rw [List.length_map, ← HW.out] at h1
    omega
  have hlen : ¬ 1000 < (xs.length : Int) := by omega
  clear hxs hl hat hbad hw hb hm hne HW HS
  replace hx := hx.below b1 hx.lt
  replace hK := hK.below b1 hK.1
  replace hB := chain hB b1
  obtain ⟨s0, s1⟩ := id hx
  go_wp2_with fail
  refine (HV.out _).mono ?_
  rintro e w2 ⟨rfl, b2⟩
  clear s0 s1
  have hgl := hsz
  replace hx := hx.below b2 hx.lt
  replace hK := hK.below b2 hK.1
  replace hB := chain hB b2
  replace hrd := hrd.below b2 (by omega)
  have hg2 := Nat.lt_of_lt_of_le (show (w.alloc (.cells #[.int .i64 F, .int .i64 R] 23)).heap.size < w1.heap.size by omega) b2.size
  rw [World.size_alloc] at hrd hg2
  clear b1 b2
  go_wp2
  go_loopw [8, 27] (fun v i wr => ∃ k : Nat, k ≤ l.length ∧ i = .int .i64 k ∧ wr.ownsRow w2.heap.size 27 3 v k (vmvs (l.take k)) ∧ Below w2.heap.size w2 wr) (fun _ i _ => l.length - (intOf i).toNat)
  case atStart => exact ⟨0, by omega, rfl, World.ownsRow_nil _ _ _ _, Below.refl _ _⟩
  case round =>
    obtain ⟨k, hk, rfl, hown, hW⟩ := hrel
    have hx1 := hx.below hW hx.lt
    have hK1 := hK.below hW hK.1
    have hB1 := chain hB hW
    have hrd1 := hrd.below hW (by omega)
    by_cases hlt : k < l.length
    · obtain ⟨m, hm⟩ : ∃ m, l[k]? = some m := ⟨_, List.getElem?_eq_getElem hlt⟩
      have hcell := hrd1.at_ (k := k) (by omega)
      obtain ⟨x, hxk⟩ : ∃ x, xs[k]? = some x := ⟨_, List.getElem?_eq_getElem (by omega)⟩
      rw [hxk] at hcell
      simp only [Option.getD_some] at hcell
      have hrx := HA.out k x hlt hxk
      rw [hm] at hrx
      have ht : vmvs (l.take (k + 1)) = vmvs (l.take k) ++ [.int .i64 m.a, .int .i64 m.b, .int .i8 m.p] := by
        rw [List.take_add_one, hm, vmvs_app]
        rfl
      have HT := Lib.hid ht
      obtain ⟨a, b, p⟩ := m
      have HX := Lib.hid (fun w hK => mvParse_any F R hv x x.data.toList rfl w hK)
      rw [hrx, rdA_some] at HX
      simp only at HT
      clear hm ht hrx hxk
      obtain ⟨s0, s1⟩ := id hx1
      go_wp2_with fail
      refine (HX.out _ hK1).mono ?_
      rintro e w3 ⟨rfl, b3⟩
      replace hown := own_bel hown b3
      replace hB1 := chain hB1 b3
      replace hW := chain hW b3
      have hsz2 := hW.size
      clear s0 s1 b3 hx1 hK1 hrd1 hcell
      have hown2 := hown.alloc (.cells #[.int .i64 a, .int .i64 b, .int .i8 p] 27)
      go_wp2_with (at_builtin; (refine wpList_append_own _ rfl _ _ 42 rfl w2.heap.size 27 i0 (.agg #[.int .i64 0, .int .i64 0, .int .i8 0]) 3 24 Tryd.underlying42 hi hz0 hz1 hz2 rfl (by decide) _ _ _ rfl (hown2.alloc _) ⟨w3.heap.size + 1, 0, none⟩ 1 1 [.int .i64 a, .int .i64 b, .int .i8 p] rfl rfl ?c1 ?c2 ?c3 ?c4 ?c5 ?_))
      case c1 =>
        intro j u hj
        match j, hj with
        | 0, hj => simp at hj; subst hj; simp [go_sem]
        | 1, hj => simp at hj; subst hj; simp [go_sem]
        | 2, hj => simp at hj; subst hj; simp [go_sem]
      case c2 =>
        intro u hu
        simp at hu
        rcases hu with rfl | rfl | rfl <;> rfl
      case c3 => unfold maxLen; omega
      case c4 => omega
      case c5 => simp; omega
      intro v' w4 hown' hgrow _
      go_wp2
      go_roundw
      case rel =>
        refine ⟨k + 1, by omega, by go_num, ?_, ?_⟩
        · rw [HT.out]; exact hown'
        · exact ((hW.alloc (by omega) _).alloc (by simp; omega) _).grown hgrow (by simp; omega) (fun r e => (World.ownsRow.lt hown r e).1)
      case measure => simp [intOf]; omega
    · obtain rfl : k = l.length := by omega
      have hcell := hrd1.at_ (k := l.length) (by omega)
      obtain ⟨x, hxk⟩ : ∃ x, xs[l.length]? = some x := ⟨_, List.getElem?_eq_getElem (by omega)⟩
      rw [hxk] at hcell
      simp only [Option.getD_some] at hcell
      have hrx := HBD.out x hxk
      have HX := Lib.hid (fun w hK => mvParse_any F R hv x x.data.toList rfl w hK)
      rw [hrx, rdA_none] at HX
      clear hrx hxk hown
      obtain ⟨s0, s1⟩ := id hx1
      go_wp2_with fail
      refine (HX.out _ hK1).mono ?_
      rintro e w3 ⟨rfl, b3⟩
      have bx := box1 w3 (.cells #[.int .i64 0, .int .i64 0, .int .i8 0] 27)
      replace hB1 := chain hB1 (chain b3 bx)
      clear s0 s1 b3 bx hx1 hK1 hrd1 hcell
      go_wp2
      go_ret3
      exact ⟨rfl, hB1⟩

end Go.Proofs.YtpcfgeggjfbfjaaDoor
