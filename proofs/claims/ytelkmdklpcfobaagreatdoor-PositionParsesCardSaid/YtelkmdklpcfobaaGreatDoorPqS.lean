/- Positions, by the document: a text is cut at its spaces; numbers and rights are read. -/
import Derived.Test.YtelkmdklpcfobaaGreatDoorPoE
import Derived.Test.YtelkmdklpcfobaaGreatDoorBdH
import Derived.Test.YtelkmdklpcfobaaGreatDoorBdF
namespace Go.Proofs.YtelkmdklpcfobaaGreatDoor
open Go.RowKit Go.Sort

/-- a new row of words is returned. -/
def WordsR (w : World) (ts : List (List UInt8)) (e : Ending) (w' : World) : Prop :=
  ∃ v, e = .returned v ∧ w'.ownsRow w.heap.size 9 1 v ts.length (vstrs ts) ∧ Below w.heap.size w w'

set_option maxRecDepth 100000 in
set_option maxHeartbeats 2000000 in
theorem rSplit_any (s : ByteArray) (hs : s.size ≤ 200) (w : World) :
    Calls Tryz.prog 67 #[.string s] w (WordsR w (wds s.data.toList)) := by
  obtain ⟨i0, hi, hz0, hz1, hz2⟩ := info_parts infoStr
  have hLs : s.data.toList.length = s.size := by rw [Array.length_toList]; rfl
  have HL := Lib.hid hLs
  clear hLs
  go_enter Tryz.func67, Tryz.ntmps67
  go_wp2
  go_loopw [3, 4] (fun v i wr => ∃ k : Nat, k ≤ s.size ∧ i = .int .i64 k ∧ wr.ownsRow w.heap.size 9 1 v (wdT s.data.toList k).length (vstrs (wdT s.data.toList k)) ∧ Below w.heap.size w wr) (fun _ i _ => s.size - (intOf i).toNat)
  case atStart => exact ⟨0, by omega, rfl, by simpa [wdT, vstrs, vstr, bsL] using World.ownsRow_lit (base := w.heap.size) (e := 9) (size := 1) w #[.string ⟨#[]⟩] 1 (by simp) (by decide) rfl, box1 _ _⟩
  case round =>
    obtain ⟨k, hk, rfl, hown, hB⟩ := hrel
    have s1 := hB.size
    have hlen := wdT_len s.data.toList k (by rw [HL.out]; exact hk)
    have heach := Lib.hid (wdT_each s.data.toList k (by rw [HL.out]; exact hk))
    obtain ⟨g, cap, rfl⟩ := Joins.ownsRow_form hown (by omega)
    obtain ⟨hg0, hg1⟩ := World.ownsRow.lt hown g rfl
    by_cases hlt : k < s.size
    · have HS := Lib.hid (wdT_succ s.data.toList k (by rw [HL.out]; exact hlt))
      have hget : s.data.toList[k]'(by rw [HL.out]; exact hlt) = s[k] := rfl
      rw [hget] at HS
      clear hget
      generalize hst1 : wdT s.data.toList (k + 1) = st1 at *
      have H1 := Lib.hid hst1
      clear hst1
      generalize hst : wdT s.data.toList k = st at *
      clear hst
      by_cases hsl : s[k] = 32
      · have hc : ((s[k].toNat : Int) == 32) = true := by rw [hsl]; rfl
        have E : Hid (st1 = st ++ [[]]) := Lib.hid (by rw [HS.out]; unfold wdS; rw [if_pos hsl])
        have EL : Hid (st1.length = st.length + 1) := Lib.hid (by rw [E.out]; simp)
        clear hsl HS
        go_wp2_with (at_builtin; (refine wpList_append_own _ rfl _ _ 51 rfl w.heap.size 9 i0 (.string ByteArray.empty) 1 16 Tryz.underlying51 hi hz0 hz1 hz2 rfl (by decide) _ _ _ rfl (hown.alloc _) ⟨wr.heap.size, 0, none⟩ 1 1 [.string ⟨#[]⟩] rfl rfl ?c1 ?c2 ?c3 ?c4 ?c5 ?_))
        case c1 =>
          intro j u hj
          match j, hj with
          | 0, hj => simp at hj; subst hj; simp [Addr.add]
        case c2 => intro u hu; simp at hu; subst hu; rfl
        case c3 => unfold maxLen; omega
        case c4 => omega
        case c5 => simp; omega
        intro v' w2 hown' hgrow _
        go_wp2
        go_roundw
        case rel =>
          refine ⟨k + 1, by omega, by go_num, ?_, ?_⟩
          · rw [H1.out, EL.out, E.out]; unfold vstrs at hown' ⊢; rw [List.map_append]; exact hown'
          · exact (hB.alloc (by omega) _).grown hgrow (by simp; omega) (fun r e => (World.ownsRow.lt hown r e).1)
        case measure => simp [intOf]; omega
      · have hc : ((s[k].toNat : Int) == 32) = false := beq_eq_false_iff_ne.2 (fun h => hsl (UInt8.toNat_inj.1 (by rw [show (32 : UInt8).toNat = 32 from rfl]; omega)))
        have E : Hid (st1 = st.set (st.length - 1) (st[st.length - 1]?.getD [] ++ [s[k]])) := Lib.hid (by rw [HS.out]; unfold wdS; rw [if_neg hsl])
        have EL : Hid (st1.length = st.length) := Lib.hid (by rw [E.out]; simp)
        obtain ⟨m, hm⟩ : ∃ m : Nat, st.length - 1 = m := ⟨_, rfl⟩
        have hml : m < st.length := by omega
        have hq : (st[m]?.getD []).length ≤ 200 := by
          rw [List.getElem?_eq_getElem hml]
          have := heach.out _ (List.getElem_mem hml)
          simp; omega
        have hcell : wr.cell? ⟨g, m, none⟩ = some (.string (bsL (st[m]?.getD []))) := by
          rw [hown.cellAt m (by omega)]
          simp [vstrs, vstr, List.getElem?_eq_getElem hml]
        have hqs : (bsL (st[m]?.getD [])).size ≤ 200 := by rw [bsL_size]; exact hq
        have hfz := hown.frozenAt m
        have hst := hown.stored m (.string (bsL (st[m]?.getD []) ++ s.extract k (k + 1)))
        have HS2 : Hid (vstrs st1 = (vstrs st).set m (.string (bsL (st[m]?.getD []) ++ s.extract k (k + 1)))) := Lib.hid (by
          rw [E.out, hm]
          unfold vstrs
          rw [List.map_set]
          unfold vstr
          rw [ext_one s k hlt, bsL_append])
        have HT := Lib.hid hst
        have hwr : IntKind.i64.wrap ((st.length : Int) - 1) = (m : Int) := by rw [IntWalk.i64_in _ (by omega)]; omega
        have hwk : IntKind.i64.wrap ((k : Int) + 1) = (k : Int) + 1 := IntWalk.i64_in _ (by omega)
        clear hst hsl HS
        generalize bsL (st[m]?.getD []) = Q at *
        have hWb : Below w.heap.size w (wr.setCell ⟨g, m, none⟩ (.string (Q ++ s.extract k (k + 1)))) := hB.setCell (p := ⟨g, m, none⟩) hg0 _
        have HWb := Lib.hid hWb
        clear hWb
        go_wp2
        go_region
        clear hwr hwk
        go_wp2
        go_roundw
        case rel => exact ⟨k + 1, by omega, by go_num, by rw [H1.out, EL.out, HS2.out]; exact World.ownsRow.drew HT.out.1, HWb.out.drew⟩
        case measure => simp [intOf]; omega
    · have hks : k = s.size := by omega
      subst hks
      have e : wdT s.data.toList s.size = wds s.data.toList := by unfold wds; rw [HL.out]
      rw [e] at hown hlen heach
      have HO : Hid (WordsR w (wds s.data.toList) (.returned (.slice (some ⟨g, 0, none⟩) (wds s.data.toList).length cap)) wr) := Lib.hid ⟨_, rfl, hown, hB⟩
      clear hown hB heach HL e
      go_wp2
      go_ret
      exact HO.out

theorem str_inj {t s : ByteArray} (h : t.toList = s.toList) : t = s := by
  rw [ByteArray.toList_eq, ByteArray.toList_eq] at h
  rw [← bsL_of t, h, bsL_of]
/-- the digits so far. -/
theorem foldV_lt : ∀ (w : List UInt8) (a k : Nat), (∀ c ∈ w, isDg c = true) → a < 10 ^ k → w.foldl (fun n c => n * 10 + (c.toNat - 48)) a < 10 ^ (k + w.length)
  | [], a, k, _, h => by simpa using h
  | c :: w, a, k, hd, h => by
    have h2 := hd c (by simp)
    unfold isDg at h2
    simp at h2
    have := foldV_lt w (a * 10 + (c.toNat - 48)) (k + 1) (fun x hx => hd x (by simp [hx])) (by rw [Nat.pow_succ]; omega)
    rw [List.foldl_cons, List.length_cons, show k + (w.length + 1) = k + 1 + w.length by omega]
    exact this
theorem valF_lt (w : List UInt8) (h : ∀ c ∈ w, isDg c = true) : valF w < 10 ^ w.length := by
  have := foldV_lt w 0 0 h (by simp)
  rwa [Nat.zero_add] at this
theorem nmbV_no {w : List UInt8} (h : ¬ (w.length ≤ 5 ∧ ∀ c ∈ w, isDg c = true) ∨ w = [] ∨ dec (valF w) ≠ w) : nmbV w = -1 := by
  unfold nmbV
  rw [if_neg]
  simp only [Bool.and_eq_true, decide_eq_true_eq, Bool.not_eq_true', beq_eq_false_iff_ne, ne_eq, beq_iff_eq, List.all_eq_true]
  rintro ⟨⟨⟨h1, h2⟩, h3⟩, h4⟩
  rcases h with h | h | h
  · exact h ⟨h1, h2⟩
  · exact h3 h
  · exact h h4
theorem nmbV_is {w : List UInt8} (h1 : w.length ≤ 5) (h2 : ∀ c ∈ w, isDg c = true) (h3 : w ≠ []) (h4 : dec (valF w) = w) : nmbV w = valF w := by
  unfold nmbV
  rw [if_pos]
  simp only [Bool.and_eq_true, decide_eq_true_eq, Bool.not_eq_true', beq_eq_false_iff_ne, ne_eq, beq_iff_eq, List.all_eq_true]
  exact ⟨⟨⟨h1, h2⟩, h3⟩, h4⟩
/-- the rights' letters so far. -/
def ckT (ca k : Nat) : List UInt8 := (List.range k).flatMap fun i => if ca / 2 ^ i % 2 = 1 then [[75, 81, 107, 113].getD i 0] else []
theorem ckT_succ (ca k : Nat) : ckT ca (k + 1) = ckT ca k ++ (if ca / 2 ^ k % 2 = 1 then [[75, 81, 107, 113].getD k 0] else []) := by
  unfold ckT
  rw [List.range_succ, List.flatMap_append]
  simp
theorem ckT_len (ca : Nat) : ∀ k, (ckT ca k).length ≤ k
  | 0 => by simp [ckT]
  | k + 1 => by
    rw [ckT_succ, List.length_append]
    have := ckT_len ca k
    split <;> simp <;> omega
theorem ckT_end {ca : Nat} (h : ca < 16) : caL ca = if ckT ca 4 = [] then [45] else ckT ca 4 := by
  have : ∀ c, c < 16 → caL c = if ckT c 4 = [] then [45] else ckT c 4 := by decide +kernel
  exact this ca h
theorem kq_at {i : Nat} (h : i < 4) : (ByteArray.mk #[75, 81, 107, 113]).extract i (i + 1) = bsL [[75, 81, 107, 113].getD i 0] := by
  have : ∀ i, i < 4 → (ByteArray.mk #[75, 81, 107, 113]).extract i (i + 1) = bsL [[75, 81, 107, 113].getD i 0] := by decide +kernel
  exact this i h

end Go.Proofs.YtelkmdklpcfobaaGreatDoor
