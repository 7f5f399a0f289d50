/- The reference's list of all squares and its set of all squares. -/
import Derived.Test.YtidfefaakkpoaaaDoorSqJ
namespace Go.Proofs.YtidfefaakkpoaaaDoor
open Go.RowKit

theorem infoP : (Tryd.prog.info? 46).map (fun i => (i.zero, i.size, i.bytes)) = some (some (.agg #[.int .i64 0, .int .i64 0]), 2, 16) := by kernel_rfl

/-- a slice of so many elements is returned. -/
def SomeLen (m : Int) (e : Ending) : Prop := ∃ A n c, e = .returned (.slice A n c) ∧ (n : Int) = m

theorem sqs_nat (l : List Nat) : sqs (l.map fun i : Nat => (i : Int)) = l := by
  unfold sqs
  rw [List.map_map]
  conv => rhs; rw [← List.map_id l]
  apply List.map_congr_left
  intro a _
  simp

set_option maxRecDepth 100000 in
set_option maxHeartbeats 1000000 in
theorem refAll_any (F R : Int) (hv : vsz F R) (w : World) :
    Calls Tryd.prog 23 #[.agg #[.int .i64 F, .int .i64 R]] w fun e w' => e = .returned (.int .u64 (fullN (F * R).toNat : Int)) ∧ Below w.heap.size w w' := by
  obtain ⟨m0, m1⟩ := vsz_mul hv
  clear hv
  obtain ⟨i0, hi, hz0, hz1, hz2⟩ := info_parts ints3
  go_enter Tryd.func23, Tryd.ntmps23
  go_wp2
  go_loopw [3, 4] (fun v i wr => ∃ k : Nat, (k : Int) ≤ F * R ∧ i = .int .i64 k ∧ wr.ownsRow (w.heap.size + 1) 3 1 v (List.range k).length (vnats (List.range k)) ∧ Below (w.heap.size + 1) (w.alloc (.cells #[.int .i64 F, .int .i64 R] 23)) wr) (fun _ i _ => 64 - (intOf i).toNat)
  case atStart => exact ⟨0, by omega, rfl, World.ownsRow_nil _ _ _ _, Below.refl _ _⟩
  case round =>
    obtain ⟨k, hk, rfl, hown, hB⟩ := hrel
    have s1 := hB.size
    simp at s1
    have hc0 := hB.cell (p := ⟨w.heap.size, 0, none⟩) (by simp)
    have hc1 := hB.cell (p := ⟨w.heap.size, 1, none⟩) (by simp)
    simp [go_sem] at hc0 hc1
    by_cases hlt : (k : Int) < F * R
    · have HL : Hid ((List.range k).length = k) := Lib.hid (by simp)
      have hl64 : (List.range k).length ≤ 64 := by rw [HL.out]; omega
      have HS : Hid (vnats (List.range (k + 1)) = vnats (List.range k) ++ [.int .i64 (k : Int)]) := Lib.hid (by rw [List.range_succ, vnats_snoc])
      have HN : Hid ((List.range (k + 1)).length = (List.range k).length + 1) := Lib.hid (by simp)
      generalize hR : List.range k = l at *
      go_wp2_with (at_builtin; (refine wpList_append_own _ rfl _ _ 54 rfl (w.heap.size + 1) 3 i0 (.int .i64 0) 1 8 Tryd.underlying54 hi hz0 hz1 hz2 rfl (by decide) _ _ _ rfl (hown.alloc _) ⟨wr.heap.size, 0, none⟩ 1 1 [.int .i64 (k : Int)] rfl rfl ?c1 ?c2 ?c3 ?c4 ?c5 ?_))
      case c1 =>
        intro j u hj
        match j, hj with
        | 0, hj => simp at hj; subst hj; simp [Addr.add]
      case c2 => intro u hu; simp at hu; subst hu; rfl
      case c3 => unfold maxLen; omega
      case c4 => omega
      case c5 => simp; omega
      intro v' w2 hown' hgrow _
      go_wp2
      go_roundw
      case rel =>
        refine ⟨k + 1, by omega, by go_num, ?_, ?_⟩
        · rw [HS.out, HN.out]; exact hown'
        · exact (hB.alloc (by omega) _).grown hgrow (by simp; omega) (fun r e => (World.ownsRow.lt hown r e).1)
      case measure => simp [intOf]; omega
    · have hk2 : (k : Int) = F * R := by omega
      have HK : Hid (fullN (F * R).toNat = ofL (sqs ((List.range k).map fun i : Nat => (i : Int)))) := Lib.hid (by rw [sqs_nat, ofL_range, ← hk2, Int.toNat_natCast])
      obtain ⟨A, c, rfl, hA⟩ := RdI.own hown
      have hb64 : k ≤ 64 := by omega
      have hl : (List.range k).length = ((List.range k).map fun i : Nat => (i : Int)).length := by simp
      rw [hl]
      have HM : Hid (∀ j, j < ((List.range k).map fun i : Nat => (i : Int)).length → 0 ≤ ((List.range k).map fun i : Nat => (i : Int))[j]?.getD 0 ∧ ((List.range k).map fun i : Nat => (i : Int))[j]?.getD 0 < 64) := Lib.hid (by
        intro j hj
        simp at hj
        simp [hj]
        omega)
      have hlen : ((List.range k).map fun i : Nat => (i : Int)).length ≤ 1000000 := by simp; omega
      clear hk2 hl hown
      generalize ((List.range k).map fun i : Nat => (i : Int)) = l at *
      go_wp2_with fail
      refine (refOf_any l A c _ hlen hA HM.out).mono ?_
      rintro e w1 ⟨rfl, rfl⟩
      go_wp2
      go_ret
      exact ⟨ret_int (by rw [HK.out]), (box1 _ _).trans (hB.mono (by omega))⟩

set_option maxRecDepth 100000 in
set_option maxHeartbeats 2000000 in
theorem refPoints_any (F R : Int) (hv : vsz F R) (w : World) :
    Calls Tryd.prog 22 #[.agg #[.int .i64 F, .int .i64 R]] w fun e w' => SomeLen (F * R) e ∧ Below w.heap.size w w' := by
  obtain ⟨m0, m1⟩ := vsz_mul hv
  obtain ⟨f1, f2, r1, r2⟩ := hv
  obtain ⟨i0, hi, hz0, hz1, hz2⟩ := info_parts infoP
  go_enter Tryd.func22, Tryd.ntmps22
  go_wp2
  go_loopw [3, 4, 5] (fun v r _ wr => ∃ (i n : Nat) (xs : List Value), (i : Int) ≤ R ∧ r = .int .i64 i ∧ (n : Int) = i * F ∧ wr.ownsRow (w.heap.size + 1) 46 2 v n xs ∧ Below (w.heap.size + 1) (w.alloc (.cells #[.int .i64 F, .int .i64 R] 23)) wr) (fun _ r _ _ => 8 - (intOf r).toNat)
  case atStart => exact ⟨0, 0, [], by omega, rfl, by simp, World.ownsRow_nil _ _ _ _, Below.refl _ _⟩
  case round =>
    obtain ⟨i, n, xs, hik, rfl, hn, hown, hB⟩ := hrel
    have s1 := hB.size
    simp at s1
    have hc0 := hB.cell (p := ⟨w.heap.size, 0, none⟩) (by simp)
    have hc1 := hB.cell (p := ⟨w.heap.size, 1, none⟩) (by simp)
    simp [go_sem] at hc0 hc1
    have HN := Lib.hid hn
    clear hn
    by_cases hlt : (i : Int) < R
    · obtain ⟨wo, rfl⟩ : ∃ wo : World, wo = wr := ⟨_, rfl⟩
      go_wp2
      go_loopw [3, 5] (fun v f wr => ∃ (j n : Nat) (xs : List Value), (j : Int) ≤ F ∧ f = .int .i64 j ∧ (n : Int) = i * F + j ∧ wr.ownsRow (w.heap.size + 1) 46 2 v n xs ∧ Below (w.heap.size + 1) (w.alloc (.cells #[.int .i64 F, .int .i64 R] 23)) wr) (fun _ f _ => 8 - (intOf f).toNat)
      case atStart => exact ⟨0, n, xs, by omega, rfl, by rw [HN.out]; simp, hown, hB⟩
      case round =>
        clear hown hB hc0 hc1 s1
        obtain ⟨j, n2, ys, hj, rfl, hn2, hown, hB⟩ := hrel
        have s1 := hB.size
        simp at s1
        have hc0 := hB.cell (p := ⟨w.heap.size, 0, none⟩) (by simp)
        have hc1 := hB.cell (p := ⟨w.heap.size, 1, none⟩) (by simp)
        simp [go_sem] at hc0 hc1
        have hi8 : i ≤ 7 := by omega
        have hn64 : n2 ≤ 64 := by
          have : F = 3 ∨ F = 4 ∨ F = 5 ∨ F = 6 ∨ F = 7 ∨ F = 8 := by omega
          rcases this with h | h | h | h | h | h <;> rw [h] at hn2 hj <;> omega
        have HN2 := Lib.hid hn2
        clear hn2
        by_cases hjt : (j : Int) < F
        · go_wp2_with (at_builtin; (refine wpList_append_own _ rfl _ _ 34 rfl (w.heap.size + 1) 46 i0 (.agg #[.int .i64 0, .int .i64 0]) 2 16 Tryd.underlying34 hi hz0 hz1 hz2 rfl (by decide) _ _ _ rfl (hown.alloc _) ⟨wr.heap.size, 0, none⟩ 1 1 [.int .i64 (j : Int), .int .i64 (i : Int)] rfl rfl ?c1 ?c2 ?c3 ?c4 ?c5 ?_))
          case c1 =>
            intro q u hq
            match q, hq with
            | 0, hq => simp at hq; subst hq; simp [Addr.add]
            | 1, hq => simp at hq; subst hq; simp [Addr.add]
          case c2 => intro u hu; simp at hu; rcases hu with rfl | rfl <;> rfl
          case c3 => unfold maxLen; omega
          case c4 => omega
          case c5 => simp; omega
          intro v' w2 hown' hgrow _
          go_wp2
          go_roundw
          case rel => exact ⟨j + 1, n2 + 1, _, by omega, by go_num, by have := HN2.out; omega, hown', (hB.alloc (by omega) _).grown hgrow (by simp; omega) (fun r e => (World.ownsRow.lt hown r e).1)⟩
          case measure => simp [intOf]; omega
        · have hjF : (j : Int) = F := by omega
          have HJ : Hid ((n2 : Int) = ((i + 1 : Nat) : Int) * F) := Lib.hid (by rw [HN2.out, hjF, Int.natCast_add, Int.add_mul]; omega)
          clear hjF
          go_wp2
          go_roundw
          case rel => exact ⟨i + 1, n2, ys, by omega, by go_num, HJ.out, hown, hB⟩
          case measure => simp [intOf]; omega
    · have hiR : (i : Int) = R := by omega
      have HE : Hid ((n : Int) = F * R) := Lib.hid (by rw [HN.out, hiR, Int.mul_comm])
      clear hiR
      obtain ⟨hl, ⟨rfl, h0⟩ | ⟨g, cap, cur, rfl, hg, hh, hx⟩⟩ := hown
      · exact absurd HE.out (by omega)
      · go_wp2
        go_ret
        exact ⟨⟨_, _, _, rfl, HE.out⟩, (box1 _ _).trans (hB.mono (by omega))⟩

end Go.Proofs.YtidfefaakkpoaaaDoor
