/- Moves, by the document: the text of a list. -/
import Derived.Test.YtpcfgeggjfbfjaaDoorMrA
import Derived.Test.YtpcfgeggjfbfjaaDoorMvL
import Derived.Deep.RegionHeld3
import Derived.Deep.DeepCutAuto
namespace Go.Proofs.YtpcfgeggjfbfjaaDoor
open Go.RowKit Go.Sort

theorem lnT_one (F : Int) (m : Mv) : lnT F [m] = mvT F m := by
  unfold lnT
  rw [List.map_cons, List.map_nil, jw_one]
theorem lnT_snoc (F : Int) {l : List Mv} (h : l ≠ []) (m : Mv) : lnT F (l ++ [m]) = lnT F l ++ [32] ++ mvT F m := by
  unfold lnT
  rw [List.map_append, List.map_cons, List.map_nil, jw_snoc (by simpa using h)]
theorem lnT_len (F : Int) : ∀ l : List Mv, (lnT F l).length ≤ 6 * l.length := by
  have h6 : ∀ l : List Mv, (List.flatMap (fun u : List UInt8 => 32 :: u) (l.map (mvT F))).length ≤ 6 * l.length := by
    intro l
    induction l with
    | nil => simp
    | cons m l ih =>
      have := mvT_len F m
      simp only [List.map_cons, List.flatMap_cons, List.length_append, List.length_cons] at ih ⊢
      omega
  intro l
  cases l with
  | nil => simp [lnT, jw]
  | cons m l =>
    have h1 := h6 l
    have := mvT_len F m
    unfold lnT
    simp only [List.map_cons, jw, List.length_append, List.length_cons] at h1 ⊢
    omega

set_option maxRecDepth 100000 in
set_option maxHeartbeats 2000000 in
theorem rmLine_any (F R : Int) (l : List Mv) (A : Option Addr) (c : Nat) (hl : l.length ≤ 2000) (hok : ∀ m ∈ l, okM F R m) (w : World) (hA : RdM w w.heap.size A l) :
    Calls Tryd.prog 20 #[.agg #[.int .i64 F, .int .i64 R], .slice A l.length c] w fun e w' => e = .returned (.string (bsL (lnT F l))) ∧ Below w.heap.size w w' := by
  have hs := box2 w F R
  have hB := box1 w (.cells #[.int .i64 F, .int .i64 R] 23)
  replace hA := rdMv hB hA
  have hV2 : (w.alloc (.cells #[.int .i64 F, .int .i64 R] 23)).heap.size = w.heap.size + 1 := by simp
  go_enter Tryd.func20, Tryd.ntmps20
  go_wp2
  generalize hV : w.alloc (.cells #[.int .i64 F, .int .i64 R] 23) = V at *
  clear hV hV2
  go_loopw [5, 6] (fun v i wr => ∃ k : Nat, k ≤ l.length ∧ i = .int .i64 k ∧ v = .string (bsL (lnT F (l.take k))) ∧ Below V.heap.size V wr) (fun _ i _ => l.length - (intOf i).toNat)
  case atStart => exact ⟨0, by omega, rfl, rfl, Below.refl _ _⟩
  case round =>
    obtain ⟨k, hk, rfl, rfl, hW⟩ := hrel
    have hs1 := hs.below hW hs.lt
    have hA1 := rdMv hW hA
    by_cases hlt : k < l.length
    · obtain ⟨m, hm⟩ : ∃ m, l[k]? = some m := ⟨_, List.getElem?_eq_getElem hlt⟩
      obtain ⟨ad, rfl, had, m0, m1, m2⟩ := hA1.at_ hm
      have hokm := hok m (List.mem_of_getElem? hm)
      have ht : l.take (k + 1) = l.take k ++ [m] := by
        rw [List.take_add_one, hm]
        rfl
      have hz := lnT_len F (l.take k)
      rw [List.length_take] at hz
      have hz2 : (bsL (mvT F m)).size ≤ 5 := by rw [bsL_size]; exact (mvT_len F m).2
      obtain ⟨x, y, p⟩ := m
      have HX := Lib.hid (fun w => rmText_any F R x y p hokm w)
      simp only at m0 m1 m2
      by_cases h0 : k = 0
      · have HT : Hid (bsL (lnT F (l.take (k + 1))) = (⟨#[]⟩ : ByteArray) ++ bsL (mvT F ⟨x, y, p⟩)) := Lib.hid (by
          rw [ht, h0, List.take_zero, List.nil_append, lnT_one]
          show _ = bsL [] ++ bsL _
          rw [bsL_append, List.nil_append])
        have hz3 : bsL (lnT F (l.take k)) = ⟨#[]⟩ := by rw [h0]; rfl
        have hk0 : ¬ 0 < (k : Int) := by omega
        rw [hz3]
        clear hm ht hokm hz hz3 hk hA1 had h0
        generalize bsL (mvT F ⟨x, y, p⟩) = tx at *
        obtain ⟨s0, s1⟩ := id hs1
        go_wp2_with fail
        have q0 := cell_regrown s0
        have q1 := cell_regrown s1
        have q2 := cell_regrown m0
        have q3 := cell_regrown m1
        have q4 := cell_regrown m2
        have cC := Lib.hid (fun d os => Calls.regrown_of (HX.out (grow (redrawn wr d) os)))
        refine wp_region_quiet_below (by kernel_rfl) (by kernel_rfl) ?_
        repeat (go_big_quiet_step (exact cC.out _ _))
        refine wpQuiet_nil ?_
        intro _ hw'
        obtain ⟨⟨dq, osq⟩, hw''⟩ := hw'
        subst hw''
        have bq := below_regrown wr dq osq
        clear cC q0 q1 q2 q3 q4 s0 s1 m0 m1 m2 hs1
        replace hW := chain hW bq
        generalize Go.Sort.grow (redrawn wr dq) osq = w2 at *
        go_wp2
        go_roundw
        case rel => exact ⟨k + 1, by omega, by go_num, by rw [HT.out], hW⟩
        case measure => simp [intOf]; omega
      · have hne : l.take k ≠ [] := by
          intro e
          have := congrArg List.length e
          rw [List.length_take, List.length_nil] at this
          omega
        have HT : Hid (bsL (lnT F (l.take (k + 1))) = bsL (lnT F (l.take k)) ++ ⟨#[32]⟩ ++ bsL (mvT F ⟨x, y, p⟩)) := Lib.hid (by
          rw [ht, lnT_snoc F hne]
          show _ = bsL _ ++ bsL [32] ++ bsL _
          rw [bsL_append, bsL_append])
        have hz3 : (bsL (lnT F (l.take k))).size ≤ 12000 := by rw [bsL_size]; omega
        have hz4 : (bsL (lnT F (l.take k)) ++ ⟨#[32]⟩).size ≤ 12001 := by rw [ByteArray.size_append]; show _ + 1 ≤ _; omega
        have hk0 : 0 < (k : Int) := by omega
        clear hm ht hokm hz hk hA1 had hne
        generalize bsL (mvT F ⟨x, y, p⟩) = tx at *
        generalize bsL (lnT F (l.take k)) = ty at *
        obtain ⟨s0, s1⟩ := id hs1
        go_wp2_with fail
        have q0 := cell_regrown s0
        have q1 := cell_regrown s1
        have q2 := cell_regrown m0
        have q3 := cell_regrown m1
        have q4 := cell_regrown m2
        have cC := Lib.hid (fun d os => Calls.regrown_of (HX.out (grow (redrawn wr d) os)))
        refine wp_region_quiet_below (by kernel_rfl) (by kernel_rfl) ?_
        repeat (go_big_quiet_step (exact cC.out _ _))
        refine wpQuiet_nil ?_
        intro _ hw'
        obtain ⟨⟨dq, osq⟩, hw''⟩ := hw'
        subst hw''
        have bq := below_regrown wr dq osq
        clear cC q0 q1 q2 q3 q4 s0 s1 m0 m1 m2 hs1
        replace hW := chain hW bq
        generalize Go.Sort.grow (redrawn wr dq) osq = w2 at *
        go_wp2
        go_roundw
        case rel => exact ⟨k + 1, by omega, by go_num, by rw [HT.out], hW⟩
        case measure => simp [intOf]; omega
    · have hkl : l.take k = l := List.take_of_length_le (by omega)
      rw [hkl]
      go_wp2
      go_ret
      exact ⟨rfl, chain hB hW⟩


/-- the words so far: none before the first byte. -/
theorem wdsM_ne {L : List UInt8} (h : L ≠ []) : wdsM L = wds L := by unfold wdsM; rw [if_neg h]
def vstW (ts : List (List UInt8)) : List Value := ts.map fun t => .string (bsL t)

theorem infoStW : (Tryd.prog.info? 9).map (fun i => (i.zero, i.size, i.bytes)) = some (some (.string ByteArray.empty), 1, 16) := by kernel_rfl
theorem extW (s : ByteArray) (k : Nat) (h : k < s.size) : s.extract k (k + 1) = bsL [s[k]] := by
  apply ByteArray.ext
  rw [ByteArray.data_extract]
  apply Array.ext
  · simp [bsL]; have : s.data.size = s.size := rfl; omega
  · intro i h1 h2
    simp [bsL] at h2
    subst h2
    simp [bsL]
    rfl

set_option maxRecDepth 100000 in
set_option maxHeartbeats 2000000 in
theorem rmWords_none (w : World) :
    Calls Tryd.prog 23 #[.string ⟨#[]⟩] w fun e w' => e = .returned (.slice none 0 0) ∧ w = w' := by
  go_enter Tryd.func23, Tryd.ntmps23
  go_wp2
  go_ret
  exact ⟨rfl, rfl⟩

set_option maxRecDepth 100000 in
set_option maxHeartbeats 2000000 in
theorem rmWords_any (s : ByteArray) (hs : s.size ≤ 10000) (hne : s.data.toList ≠ []) (w : World) :
    Calls Tryd.prog 23 #[.string s] w fun e w' => ∃ v, e = .returned v ∧ w'.ownsRow w.heap.size 9 1 v (wds s.data.toList).length (vstW (wds s.data.toList)) ∧ Below w.heap.size w w' := by
  obtain ⟨i0, hi, hz0, hz1, hz2⟩ := info_parts infoStW
  have hLs : s.data.toList.length = s.size := by rw [Array.length_toList]; rfl
  have hemp : s.toList.isEmpty = false := by rw [ByteArray.toList_eq]; exact List.isEmpty_eq_false_iff.2 hne
  have HL := Lib.hid hLs
  clear hLs hne
  go_enter Tryd.func23, Tryd.ntmps23
  go_wp2
  go_loopw [3, 4] (fun v i wr => ∃ k : Nat, k ≤ s.size ∧ i = .int .i64 k ∧ wr.ownsRow w.heap.size 9 1 v (wdT s.data.toList k).length (vstW (wdT s.data.toList k)) ∧ Below w.heap.size w wr) (fun _ i _ => s.size - (intOf i).toNat)
  case atStart => exact ⟨0, by omega, rfl, by simpa [wdT, vstW, bsL] using World.ownsRow_lit (base := w.heap.size) (e := 9) (size := 1) w #[.string ⟨#[]⟩] 1 (by simp) (by decide) rfl, box1 _ _⟩
  case round =>
    obtain ⟨k, hk, rfl, hown, hB⟩ := hrel
    have s1 := hB.size
    have hlen := wdT_len s.data.toList k (by rw [HL.out]; exact hk)
    have heach := Lib.hid (wdT_each s.data.toList k (by rw [HL.out]; exact hk))
    obtain ⟨g, cap, rfl⟩ := Joins.ownsRow_form hown (by omega)
    obtain ⟨hg0, hg1⟩ := World.ownsRow.lt hown g rfl
    by_cases hlt : k < s.size
    · have HS := Lib.hid (wdT_succ s.data.toList k (by rw [HL.out]; exact hlt))
      have hget : s.data.toList[k]'(by rw [HL.out]; exact hlt) = s[k] := rfl
      rw [hget] at HS
      clear hget
      generalize hst1 : wdT s.data.toList (k + 1) = st1 at *
      have H1 := Lib.hid hst1
      clear hst1
      generalize hst : wdT s.data.toList k = st at *
      clear hst
      by_cases hsl : s[k] = 32
      · have hc : ((s[k].toNat : Int) == 32) = true := by rw [hsl]; rfl
        have E : Hid (st1 = st ++ [[]]) := Lib.hid (by rw [HS.out]; unfold wdS; rw [if_pos hsl])
        have EL : Hid (st1.length = st.length + 1) := Lib.hid (by rw [E.out]; simp)
        clear hsl HS
        go_wp2_with (at_builtin; (refine wpList_append_own _ rfl _ _ 49 rfl w.heap.size 9 i0 (.string ByteArray.empty) 1 16 Tryd.underlying49 hi hz0 hz1 hz2 rfl (by decide) _ _ _ rfl (hown.alloc _) ⟨wr.heap.size, 0, none⟩ 1 1 [.string ⟨#[]⟩] rfl rfl ?c1 ?c2 ?c3 ?c4 ?c5 ?_))
        case c1 =>
          intro j u hj
          match j, hj with
          | 0, hj => simp at hj; subst hj; simp [Addr.add]
        case c2 => intro u hu; simp at hu; subst hu; rfl
        case c3 => unfold maxLen; omega
        case c4 => omega
        case c5 => simp; omega
        intro v' w2 hown' hgrow _
        go_wp2
        go_roundw
        case rel =>
          refine ⟨k + 1, by omega, by go_num, ?_, ?_⟩
          · rw [H1.out, EL.out, E.out]; unfold vstW at hown' ⊢; rw [List.map_append]; exact hown'
          · exact (hB.alloc (by omega) _).grown hgrow (by simp; omega) (fun r e => (World.ownsRow.lt hown r e).1)
        case measure => simp [intOf]; omega
      · have hc : ((s[k].toNat : Int) == 32) = false := beq_eq_false_iff_ne.2 (fun h => hsl (UInt8.toNat_inj.1 (by rw [show (32 : UInt8).toNat = 32 from rfl]; omega)))
        have E : Hid (st1 = st.set (st.length - 1) (st[st.length - 1]?.getD [] ++ [s[k]])) := Lib.hid (by rw [HS.out]; unfold wdS; rw [if_neg hsl])
        have EL : Hid (st1.length = st.length) := Lib.hid (by rw [E.out]; simp)
        obtain ⟨m, hm⟩ : ∃ m : Nat, st.length - 1 = m := ⟨_, rfl⟩
        have hml : m < st.length := by omega
        have hq : (st[m]?.getD []).length ≤ 10000 := by
          rw [List.getElem?_eq_getElem hml]
          have := heach.out _ (List.getElem_mem hml)
          simp; omega
        have hcell : wr.cell? ⟨g, m, none⟩ = some (.string (bsL (st[m]?.getD []))) := by
          rw [hown.cellAt m (by omega)]
          simp [vstW, List.getElem?_eq_getElem hml]
        have hqs : (bsL (st[m]?.getD [])).size ≤ 10000 := by rw [bsL_size]; exact hq
        have hfz := hown.frozenAt m
        have hst := hown.stored m (.string (bsL (st[m]?.getD []) ++ s.extract k (k + 1)))
        have HS2 : Hid (vstW st1 = (vstW st).set m (.string (bsL (st[m]?.getD []) ++ s.extract k (k + 1)))) := Lib.hid (by
          rw [E.out, hm]
          unfold vstW
          rw [List.map_set]
          rw [extW s k hlt, bsL_append])
        have HT := Lib.hid hst
        have hwr : IntKind.i64.wrap ((st.length : Int) - 1) = (m : Int) := by rw [IntWalk.i64_in _ (by omega)]; omega
        have hwk : IntKind.i64.wrap ((k : Int) + 1) = (k : Int) + 1 := IntWalk.i64_in _ (by omega)
        clear hst hsl HS
        generalize bsL (st[m]?.getD []) = Q at *
        have hWb : Below w.heap.size w (wr.setCell ⟨g, m, none⟩ (.string (Q ++ s.extract k (k + 1)))) := hB.setCell (p := ⟨g, m, none⟩) hg0 _
        have HWb := Lib.hid hWb
        clear hWb
        go_wp2
        go_region
        clear hwr hwk
        go_wp2
        go_roundw
        case rel => exact ⟨k + 1, by omega, by go_num, by rw [H1.out, EL.out, HS2.out]; exact World.ownsRow.drew HT.out.1, HWb.out.drew⟩
        case measure => simp [intOf]; omega
    · have hks : k = s.size := by omega
      subst hks
      have e : wdT s.data.toList s.size = wds s.data.toList := by unfold wds; rw [HL.out]
      rw [e] at hown hlen heach
      have HO : Hid (wr.ownsRow w.heap.size 9 1 (.slice (some ⟨g, 0, none⟩) (wds s.data.toList).length cap) (wds s.data.toList).length (vstW (wds s.data.toList)) ∧ Below w.heap.size w wr) := Lib.hid ⟨hown, hB⟩
      clear hown hB heach HL e
      go_wp2
      go_ret
      exact ⟨_, rfl, HO.out.1, HO.out.2⟩

end Go.Proofs.YtpcfgeggjfbfjaaDoor
