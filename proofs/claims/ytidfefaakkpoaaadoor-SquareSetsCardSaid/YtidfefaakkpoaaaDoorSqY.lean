/- The reference's shifted set. -/
import Derived.Test.YtidfefaakkpoaaaDoorSqX
import Derived.Test.YtidfefaakkpoaaaDoorSqF
namespace Go.Proofs.YtidfefaakkpoaaaDoor
open Go.RowKit

theorem shl_len (F R df dr : Int) (l : List Nat) : (shl F R df dr l).length ≤ l.length := List.length_filterMap_le _ _

set_option maxRecDepth 100000 in
set_option maxHeartbeats 2000000 in
theorem refShift_any (F R df dr : Int) (X : Nat) (hv : vsz F R) (hX : X < 2 ^ (F * R).toNat) (d0 : -8 ≤ df) (d1 : df ≤ 8) (e0 : -8 ≤ dr) (e1 : dr ≤ 8) (w : World) :
    Calls Tryd.prog 43 #[.agg #[.int .i64 F, .int .i64 R], .int .u64 X, .int .i64 df, .int .i64 dr] w fun e w' => e = .returned (.int .u64 (ofL (shl F R df dr (listOf X)) : Int)) ∧ Below w.heap.size w w' := by
  obtain ⟨m0, m1⟩ := vsz_mul hv
  have hX64 : X < 18446744073709551616 := by
    have : 2 ^ (F * R).toNat ≤ 2 ^ 64 := Nat.pow_le_pow_right (by decide) (by omega)
    simp at this
    omega
  have hf8 := hv.2.1
  have hr8 := hv.2.2.2
  obtain ⟨i0, hi, hz0, hz1, hz2⟩ := info_parts ints3
  go_enter Tryd.func43, Tryd.ntmps43
  go_wp2_with fail
  refine (refList_any X hX64 _).mono ?_
  rintro e w1 ⟨v, rfl, hown, hB⟩
  obtain ⟨A, c, rfl, hlc, hA⟩ := RdI.own' hown
  have s1 := hB.size
  simp at s1
  have c0 := hB.cell (p := ⟨w.heap.size, 0, none⟩) (by simp)
  have c1 := hB.cell (p := ⟨w.heap.size, 1, none⟩) (by simp)
  simp [go_sem] at c0 c1
  have hBB := after1 hB
  clear hown hB
  have HM : Hid (∀ i ∈ listOf X, vat F R (i : Int)) := Lib.hid fun i h => ⟨hv, by omega, by have := in_board hX h; omega⟩
  have hl64 := listOf_len X
  generalize hL : listOf X = L at *
  have HLX := Lib.hid hL
  clear hL hX hX64
  go_wp2_with fail
  go_loopw [9, 11] (fun v i wr => ∃ k : Nat, k ≤ L.length ∧ i = .int .i64 k ∧ wr.ownsRow w1.heap.size 3 1 v (shl F R df dr (L.take k)).length (vnats (shl F R df dr (L.take k))) ∧ Below w1.heap.size w1 wr) (fun _ i _ => L.length - (intOf i).toNat)
  case atStart => exact ⟨0, by omega, rfl, World.ownsRow_nil _ _ _ _, Below.refl _ _⟩
  case round =>
    obtain ⟨k, hk, rfl, hown, hB⟩ := hrel
    have s2 := hB.size
    by_cases hlt : k < L.length
    · obtain ⟨ad, rfl, hadb, hc⟩ := (hA.below hB).at_ (k := k) (by simpa using hlt)
      have hg : (L.map fun i : Nat => (i : Int))[k]?.getD 0 = ((L[k]?.getD 0 : Nat) : Int) := by
        rw [List.getElem?_map]
        cases L[k]? <;> rfl
      rw [hg] at hc
      have hm : L[k]?.getD 0 ∈ L := by rw [List.getElem?_eq_getElem hlt]; exact List.getElem_mem hlt
      have hvat := HM.out _ hm
      have ht : L.take (k + 1) = L.take k ++ [L[k]?.getD 0] := by rw [List.take_succ_eq_append_getElem hlt, List.getElem?_eq_getElem hlt]; rfl
      have HT := Lib.hid ht
      have hle := shl_len F R df dr (L.take k)
      have hle2 : (L.take k).length ≤ 64 := by rw [List.length_take]; omega
      clear hg ht hm
      generalize L[k]?.getD 0 = q at *
      generalize hT : L.take k = T at *
      clear hT
      obtain ⟨p0, p1, p2, p3⟩ := place_bd hvat.1 hvat.2.1 hvat.2.2
      have k0 := (hB.cell (p := ⟨w.heap.size, 0, none⟩) (by simp; omega)).trans c0
      have k1 := (hB.cell (p := ⟨w.heap.size, 1, none⟩) (by simp; omega)).trans c1
      go_upto_region 6 with fail
      go_cut [12] (fun s12 wx => ∃ g : Nat, s12 = .pointer (some ⟨g, 0, none⟩) ∧ wx.cell? ⟨g, 0, none⟩ = some (.int .i64 ((q : Int) % F)) ∧ wx.cell? ⟨g, 1, none⟩ = some (.int .i64 ((q : Int) / F)) ∧ Below wr.heap.size wr wx)
      case first =>
        go_region_held3 (fun w' => w'.cell? ⟨w.heap.size, 0, none⟩ = some (.int .i64 F) ∧ w'.cell? ⟨w.heap.size, 1, none⟩ = some (.int .i64 R) ∧ w'.cell? (ad.add k) = some (.int .i64 (q : Int))) (((try dsimp only); refine ⟨?_, ?_, ?_⟩ <;> ((try simp only [World.cell?_drew]); (repeat (first | assumption | (exact (by assumption : _ ∧ _ ∧ _).1) | (exact (by assumption : _ ∧ _ ∧ _).2.1) | (exact (by assumption : _ ∧ _ ∧ _).2.2) | (refine alive _ ?_))))))
         (first
          | (go_at_call 29; refine (refPlace_ex _ _ _ hvat _).mono ?_; rintro e w1 ⟨rfl, rfl⟩))
        all_goals
          go_wp2_with fail
          go_meet
          refine ⟨_, rfl, ?_, ?_, ?_⟩
          · simp [go_sem]
          · simp [go_sem]
          · go_grown
      case rest =>
        obtain ⟨g, rfl, g0, g1, hBx⟩ := hcut
        have s3 := hBx.size
        have j0 := (hBx.cell (p := ⟨w.heap.size, 0, none⟩) (by simp; omega)).trans k0
        have j1 := (hBx.cell (p := ⟨w.heap.size, 1, none⟩) (by simp; omega)).trans k1
        have hown2 : wc.ownsRow w1.heap.size 3 1 u9 (shl F R df dr T).length (vnats (shl F R df dr T)) := hown.kept ⟨hBx.os, hBx.tape, hBx.output, hBx.size, fun k hk _ => hBx.block k hk⟩ (row := none) (by cases u9.ownBlock <;> simp)
        have hBc := chain hB hBx
        clear hown k0 k1 hc hadb
        by_cases hon : onb F R ((q : Int) % F + df) ((q : Int) / F + dr)
        · have HE := Lib.hid (shl_yes (l := T) hon)
          obtain ⟨o0, o1, o2, o3⟩ := id hon
          obtain ⟨n0, n1, n2, _, _⟩ := number_bd hvat.1 o0 o1 o2 o3
          have HO := Lib.hid hon
          have HN : Hid (((((q : Int) % F + df) + ((q : Int) / F + dr) * F).toNat : Int) = ((q : Int) / F + dr) * F + ((q : Int) % F + df)) := Lib.hid (by rw [Int.toNat_of_nonneg (by omega), Int.add_comm])
          have hnn : 0 ≤ ((q : Int) / F + dr) * F + ((q : Int) % F + df) := by omega
          clear hon
          go_wp2_with fail
          refine (refNumber_yes F R _ _ hvat.1 HO.out _).mono ?_
          rintro e w5 ⟨rfl, hb5⟩
          have hown3 : w5.ownsRow w1.heap.size 3 1 u9 (shl F R df dr T).length (vnats (shl F R df dr T)) := hown2.kept ⟨hb5.os, hb5.tape, hb5.output, hb5.size, fun k hk _ => hb5.block k hk⟩ (row := none) (by cases u9.ownBlock <;> simp)
          have hB5 := chain hBc hb5
          have s5 := hB5.size
          generalize ((q : Int) / F + dr) * F + ((q : Int) % F + df) = m at *
          clear hown2
          go_wp2_with (at_builtin; (refine wpList_append_own _ rfl _ _ 54 rfl w1.heap.size 3 i0 (.int .i64 0) 1 8 Tryd.underlying54 hi hz0 hz1 hz2 rfl (by decide) _ _ _ rfl (hown3.alloc _) ⟨w5.heap.size, 0, none⟩ 1 1 [.int .i64 m] rfl rfl ?c1 ?c2 ?c3 ?c4 ?c5 ?_))
          case c1 =>
            intro j u hj
            match j, hj with
            | 0, hj => simp at hj; subst hj; simp [Addr.add]
          case c2 => intro u hu; simp at hu; subst hu; rfl
          case c3 => unfold maxLen; omega
          case c4 => omega
          case c5 => simp; omega
          intro v' w6 hown' hgrow _
          go_wp2
          go_roundw
          case rel =>
            refine ⟨k + 1, by omega, by go_num, ?_, ?_⟩
            · rw [HT.out, HE.out, vnats_snoc, List.length_append, HN.out]; exact hown'
            · exact (hB5.alloc hB5.size _).grown hgrow (by simp; omega) (fun r e => (World.ownsRow.lt hown3 r e).1)
          case measure => simp [intOf]; omega
        · have HE := Lib.hid (shl_no (l := T) hon)
          have HO := Lib.hid hon
          clear hon
          go_wp2_with fail
          refine (refNumber_no F R _ _ HO.out _).mono ?_
          rintro e w5 ⟨rfl, hb5⟩
          have hown3 : w5.ownsRow w1.heap.size 3 1 u9 (shl F R df dr T).length (vnats (shl F R df dr T)) := hown2.kept ⟨hb5.os, hb5.tape, hb5.output, hb5.size, fun k hk _ => hb5.block k hk⟩ (row := none) (by cases u9.ownBlock <;> simp)
          have hB5 := chain hBc hb5
          go_wp2
          go_roundw
          case rel => exact ⟨k + 1, by omega, by go_num, by rw [HT.out, HE.out]; exact hown3, hB5⟩
          case measure => simp [intOf]; omega
    · have hkl : L.take k = L := List.take_of_length_le (by omega)
      rw [hkl] at hown
      obtain ⟨A2, c2, rfl, hA2⟩ := RdI.own hown
      have hlen2 : (shl F R df dr L).length = ((shl F R df dr L).map fun i : Nat => (i : Int)).length := by simp
      have HS : Hid (sqs ((shl F R df dr L).map fun i : Nat => (i : Int)) = shl F R df dr L) := Lib.hid (sqs_nat _)
      have HQ : Hid (∀ j, j < ((shl F R df dr L).map fun i : Nat => (i : Int)).length → 0 ≤ ((shl F R df dr L).map fun i : Nat => (i : Int))[j]?.getD 0 ∧ ((shl F R df dr L).map fun i : Nat => (i : Int))[j]?.getD 0 < 64) := Lib.hid (by
        intro j hj
        rw [List.length_map] at hj
        rw [List.getElem?_map, List.getElem?_eq_getElem hj]
        have := shl_lt hv (List.getElem_mem hj)
        simp
        omega)
      have hle := shl_len F R df dr L
      have hlm : ((shl F R df dr L).map fun i : Nat => (i : Int)).length ≤ 1000000 := by rw [List.length_map]; omega
      rw [hlen2]
      clear hown hkl hlen2 hA
      generalize ((shl F R df dr L).map fun i : Nat => (i : Int)) = l at *
      go_wp2_with fail
      refine (refOf_any l A2 c2 _ hlm hA2 HQ.out).mono ?_
      rintro e w5 ⟨rfl, rfl⟩
      go_wp2
      go_ret
      exact ⟨ret_int (by rw [HS.out, HLX.out]), chain hBB hB⟩

end Go.Proofs.YtidfefaakkpoaaaDoor
