/- Texts of boards: the text of a rank, as the program writes it. -/
import Derived.Test.YtolohfkenglpcaaDoorBpF
import Derived.Test.YtolohfkenglpcaaDoorBdF
import Derived.Lib.UnsafeStr
import Derived.Laws.IdiomStrings
namespace Go.Proofs.YtolohfkenglpcaaDoor
open Go.RowKit

theorem infoU8 : (Tryd.prog.info? 5).map (fun i => (i.zero, i.size, i.bytes)) = some (some (.int .u8 0), 1, 1) := by kernel_rfl

set_option maxRecDepth 100000 in
set_option maxHeartbeats 1000000 in
theorem group_any (B : Nat) (v : Value) (L : List UInt8) (e : Nat) (w : World) (he : e ≤ 9) (hL : L.length ≤ 1000) (hB : B ≤ w.heap.size) (hown : w.ownsRow B 5 1 v L.length (Lib.byteCells L)) :
    Calls Tryd.prog 62 #[v, .int .i64 e] w fun en w' => ∃ v', en = .returned v' ∧ w'.ownsRow B 5 1 v' (L ++ flu e).length (Lib.byteCells (L ++ flu e)) ∧ Below B w w' := by
  obtain ⟨i0, hi, hz0, hz1, hz2⟩ := info_parts infoU8
  go_enter Tryd.func62, Tryd.ntmps62
  by_cases h0 : e = 0
  · subst h0
    go_wp2
    go_ret
    exact ⟨_, rfl, by rw [flu_zero, List.append_nil]; exact hown, Below.refl _ _⟩
  · have hne : ((e : Int) == 0) = false := beq_eq_false_iff_ne.2 (by omega)
    have hw1 : IntKind.u8.wrap (e : Int) = e := by simp [IntKind.wrap_u8]; omega
    have hw2 : IntKind.u8.wrap (48 + (e : Int)) = 48 + (e : Int) := by simp [IntKind.wrap_u8]; omega
    have HL : Hid (Lib.byteCells (L ++ flu e) = Lib.byteCells L ++ [.int .u8 (48 + (e : Int))]) := Lib.hid (by
      rw [flu_pos (by omega), Lib.byteCells_append]
      congr 1
      simp [Lib.byteCells]
      omega)
    have HN : Hid ((L ++ flu e).length = L.length + 1) := Lib.hid (by rw [flu_pos (by omega)]; simp)
    go_wp2_with (at_builtin; (refine wpList_append_own _ rfl _ _ 82 rfl B 5 i0 (.int .u8 0) 1 1 Tryd.underlying82 hi hz0 hz1 hz2 rfl (by decide) _ _ _ rfl (hown.alloc _) ⟨w.heap.size, 0, none⟩ 1 1 [.int .u8 (48 + (e : Int))] rfl rfl ?c1 ?c2 ?c3 ?c4 ?c5 ?_))
    case c1 =>
      intro j u hj
      match j, hj with
      | 0, hj => simp at hj; subst hj; simp [Addr.add]
    case c2 => intro u hu; simp at hu; subst hu; rfl
    case c3 => unfold maxLen; omega
    case c4 => omega
    case c5 => simp; omega
    intro v' w2 hown' hgrow _
    go_wp2
    go_ret
    refine ⟨_, rfl, by rw [HL.out, HN.out]; exact hown', ((Below.refl B w).alloc hB _).grown hgrow (by simp; omega) (fun r e => (World.ownsRow.lt hown r e).1)⟩

theorem letter_any (p : Int) (h : okP p) (hz : p ≠ 0) (w : World) (hK : Kinds w) : Calls Tryd.prog 61 #[.int .i8 p] w fun e w' => e = .returned (.tuple #[.int .u8 (lt p : Int), .int .i64 0]) ∧ w = w' := by
  obtain ⟨h0, h1⟩ := h
  by_cases hn : p < 0
  · obtain ⟨i, rfl⟩ : ∃ i : Nat, p = -(i : Int) := ⟨(-p).toNat, by omega⟩
    rw [lt_neg (by omega)]
    exact letter_neg i (by omega) (by omega) w hK
  · obtain ⟨i, rfl⟩ : ∃ i : Nat, p = (i : Int) := ⟨p.toNat, by omega⟩
    rw [lt_pos (by omega)]
    exact letter_pos i (by omega) (by omega) w hK

set_option maxRecDepth 100000 in
set_option maxHeartbeats 1000000 in
theorem rankText_any (row : List Int) (A : Option Addr) (c : Nat) (w : World) (h0 : 0 < row.length) (hlen : row.length ≤ 8) (hok : ∀ j, j < row.length → okP (row[j]?.getD 0)) (hA : RdP w w.heap.size A row c) (hK : Kinds w) :
    Calls Tryd.prog 50 #[.slice A row.length c] w fun en w' => en = .returned (.string (bsL (rowT row))) ∧ Below w.heap.size w w' := by
  obtain ⟨i0, hi, hz0, hz1, hz2⟩ := info_parts infoU8
  have HO := Lib.hid hok
  clear hok
  go_enter Tryd.func50, Tryd.ntmps50
  go_wp2_with fail
  go_loopw [3, 4, 6, 7, 8, 11] (fun v e _ _ _ i wr => ∃ k : Nat, k ≤ row.length ∧ i = .int .i64 k ∧ e = .int .i64 ((rowS row k).2 : Int) ∧ wr.ownsRow w.heap.size 5 1 v (rowS row k).1.length (Lib.byteCells (rowS row k).1) ∧ Below w.heap.size w wr) (fun _ _ _ _ _ i _ => row.length - (intOf i).toNat)
  case atStart => exact ⟨0, by omega, rfl, rfl, World.ownsRow_nil _ _ _ _, Below.refl _ _⟩
  case round =>
    obtain ⟨k, hk, rfl, rfl, hown, hB⟩ := hrel
    have hbd := rowS_bd row k hk
    by_cases hlt : k < row.length
    · obtain ⟨ad, rfl, hb, hc⟩ := (hA.below hB).at_ hlt
      have hV := HO.out k hlt
      clear hA
      by_cases hz : row[k]?.getD 0 = 0
      · have HS := Lib.hid (rowS_emp hlt hz)
        rw [hz] at hc
        clear hV hz
        generalize rowS row k = S at *
        have hwr : IntKind.i64.wrap ((S.2 : Int) + 1) = ((S.2 + 1 : Nat) : Int) := by rw [IntWalk.i64_in _ (by omega)]; omega
        go_wp2
        go_roundw
        case rel => exact ⟨k + 1, by omega, by go_num, by rw [HS.out]; exact vint (by simp), by rw [HS.out]; exact hown, hB⟩
        case measure => simp [intOf]; omega
      · have HS := Lib.hid (rowS_pc hlt hz)
        have hbq : (row[k]?.getD 0 == 0) = false := beq_eq_false_iff_ne.2 hz
        have hHZ := Lib.hid hz
        have hr := lt_rng hV hz
        generalize hn : row[k]?.getD 0 = n at *
        clear hn hz
        generalize rowS row k = S at *
        go_wp2_with fail
        refine (letter_any n hV hHZ.out _ (hK.below hB hK.1)).mono ?_
        rintro e w2 ⟨rfl, rfl⟩
        go_wp2_with fail
        refine (group_any w.heap.size _ S.1 S.2 _ (by omega) (by omega) hB.size hown).mono ?_
        rintro e w2 ⟨v2, rfl, hown2, hB2⟩
        have HL : Hid (Lib.byteCells (S.1 ++ flu S.2 ++ [UInt8.ofNat (lt n)]) = Lib.byteCells (S.1 ++ flu S.2) ++ [.int .u8 (lt n : Int)]) := Lib.hid (by
          rw [Lib.byteCells_append]
          congr 1
          simp [Lib.byteCells]
          omega)
        have HN : Hid ((S.1 ++ flu S.2 ++ [UInt8.ofNat (lt n)]).length = (S.1 ++ flu S.2).length + 1) := Lib.hid (by rw [List.length_append]; rfl)
        have hfl := flu_le S.2
        have hln : (S.1 ++ flu S.2).length ≤ 100 := by rw [List.length_append]; omega
        have hs2 : w.heap.size ≤ w2.heap.size := Nat.le_trans hB.size hB2.size
        have hBt := Lib.hid (hB.trans hB2)
        clear hB hB2 hbd hfl hown
        generalize S.1 ++ flu S.2 = Q at *
        go_wp2_with (at_builtin; (refine wpList_append_own _ rfl _ _ 82 rfl w.heap.size 5 i0 (.int .u8 0) 1 1 Tryd.underlying82 hi hz0 hz1 hz2 rfl (by decide) _ _ _ rfl (hown2.alloc _) ⟨w2.heap.size, 0, none⟩ 1 1 [.int .u8 (lt n : Int)] rfl rfl ?c1 ?c2 ?c3 ?c4 ?c5 ?_))
        case c1 =>
          intro j u hj
          match j, hj with
          | 0, hj => simp at hj; subst hj; simp [Addr.add]
        case c2 => intro u hu; simp at hu; subst hu; rfl
        case c3 => unfold maxLen; omega
        case c4 => omega
        case c5 => simp; omega
        intro v' w3 hown' hgrow _
        go_wp2
        go_roundw
        case rel =>
          refine ⟨k + 1, by omega, by go_num, by rw [HS.out]; rfl, ?_, ?_⟩
          · rw [HS.out]
            show w3.ownsRow w.heap.size 5 1 v' (Q ++ [UInt8.ofNat (lt n)]).length (Lib.byteCells (Q ++ [UInt8.ofNat (lt n)]))
            rw [HL.out, HN.out]
            exact hown'
          · exact (hBt.out.alloc hs2 _).grown hgrow (by simp; omega) (fun r e => (World.ownsRow.lt hown2 r e).1)
        case measure => simp [intOf]; omega
    · have hkl : k = row.length := by omega
      subst hkl
      have HT : Hid ((rowS row row.length).1 ++ flu (rowS row row.length).2 = rowT row) := Lib.hid rfl
      have hne := Lib.hid (rowT_ne row h0)
      have hbt := rowT_bd row
      generalize rowS row row.length = S at *
      go_wp2_with fail
      refine (group_any w.heap.size _ S.1 S.2 _ (by omega) (by omega) hB.size hown).mono ?_
      rintro e w2 ⟨v2, rfl, hown2, hB2⟩
      obtain ⟨T, hTr⟩ : ∃ T, T = rowT row := ⟨_, rfl⟩
      rw [HT.out, ← hTr] at hown2
      have hne := Lib.hid (show T ≠ [] by rw [hTr]; exact hne.out)
      have hbt : T.length ≤ 2 * row.length + 1 := by rw [hTr]; exact hbt
      have hTq := Lib.hid hTr
      clear hTr
      obtain ⟨g, cap, rfl⟩ := Joins.ownsRow_form hown2 (List.length_pos_iff.2 hne.out)
      have hcv : (convert 82 9 (.slice (some ⟨g, 0, none⟩) T.length cap)).run Tryd.prog w2 = .ok (.string ⟨T.toArray⟩) w2 :=
        run_convert_bytes_back w2 _ _ 5 ⟨g, 0, none⟩ cap T Tryd.underlying82 Tryd.underlying5 Tryd.underlying9 (fun j hj => by
          have := hown2.cellAt j (by omega)
          rw [show (Addr.add ⟨g, 0, none⟩ j) = ⟨g, j, none⟩ by simp [Addr.add]; exact fun h => h.symm, this]
          simp only [Lib.byteCells, List.getElem?_map, List.getElem?_eq_getElem hj, Option.map_some])
      have hBt := Lib.hid (hB.trans hB2)
      clear hown hown2 hB hB2
      go_wp2
      go_ret
      exact ⟨by rw [← hTq.out]; rfl, hBt.out⟩

end Go.Proofs.YtolohfkenglpcaaDoor
