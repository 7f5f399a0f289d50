/- The reference's list of all squares and its set of all squares. -/
import Derived.Test.YtolohfkenglpcaaDoorSqJ
namespace Go.Proofs.YtolohfkenglpcaaDoor
open Go.RowKit

/-- a slice of so many elements is returned. -/
def SomeLen (m : Int) (e : Ending) : Prop := ∃ A n c, e = .returned (.slice A n c) ∧ (n : Int) = m

theorem sqs_nat (l : List Nat) : sqs (l.map fun i : Nat => (i : Int)) = l := by
  unfold sqs
  rw [List.map_map]
  conv => rhs; rw [← List.map_id l]
  apply List.map_congr_left
  intro a _
  simp

set_option maxRecDepth 100000 in
set_option maxHeartbeats 1000000 in
theorem refAll_any (F R : Int) (hv : vsz F R) (w : World) :
    Calls Tryd.prog 35 #[.agg #[.int .i64 F, .int .i64 R]] w fun e w' => e = .returned (.int .u64 (fullN (F * R).toNat : Int)) ∧ Below w.heap.size w w' := by
  obtain ⟨m0, m1⟩ := vsz_mul hv
  clear hv
  obtain ⟨i0, hi, hz0, hz1, hz2⟩ := info_parts ints3
  go_enter Tryd.func35, Tryd.ntmps35
  go_wp2
  go_loopw [3, 4] (fun v i wr => ∃ k : Nat, (k : Int) ≤ F * R ∧ i = .int .i64 k ∧ wr.ownsRow (w.heap.size + 1) 3 1 v (List.range k).length (vnats (List.range k)) ∧ Below (w.heap.size + 1) (w.alloc (.cells #[.int .i64 F, .int .i64 R] 23)) wr) (fun _ i _ => 64 - (intOf i).toNat)
  case atStart => exact ⟨0, by omega, rfl, World.ownsRow_nil _ _ _ _, Below.refl _ _⟩
  case round =>
    obtain ⟨k, hk, rfl, hown, hB⟩ := hrel
    have s1 := hB.size
    simp at s1
    have hc0 := hB.cell (p := ⟨w.heap.size, 0, none⟩) (by simp)
    have hc1 := hB.cell (p := ⟨w.heap.size, 1, none⟩) (by simp)
    simp [go_sem] at hc0 hc1
    by_cases hlt : (k : Int) < F * R
    · have HL : Hid ((List.range k).length = k) := Lib.hid (by simp)
      have hl64 : (List.range k).length ≤ 64 := by rw [HL.out]; omega
      have HS : Hid (vnats (List.range (k + 1)) = vnats (List.range k) ++ [.int .i64 (k : Int)]) := Lib.hid (by rw [List.range_succ, vnats_snoc])
      have HN : Hid ((List.range (k + 1)).length = (List.range k).length + 1) := Lib.hid (by simp)
      generalize hR : List.range k = l at *
      go_wp2_with (at_builtin; (refine wpList_append_own _ rfl _ _ 52 rfl (w.heap.size + 1) 3 i0 (.int .i64 0) 1 8 Tryd.underlying52 hi hz0 hz1 hz2 rfl (by decide) _ _ _ rfl (hown.alloc _) ⟨wr.heap.size, 0, none⟩ 1 1 [.int .i64 (k : Int)] rfl rfl ?c1 ?c2 ?c3 ?c4 ?c5 ?_))
      case c1 =>
        intro j u hj
        match j, hj with
        | 0, hj => simp at hj; subst hj; simp [Addr.add]
      case c2 => intro u hu; simp at hu; subst hu; rfl
      case c3 => unfold maxLen; omega
      case c4 => omega
      case c5 => simp; omega
      intro v' w2 hown' hgrow _
      go_wp2
      go_roundw
      case rel =>
        refine ⟨k + 1, by omega, by go_num, ?_, ?_⟩
        · rw [HS.out, HN.out]; exact hown'
        · exact (hB.alloc (by omega) _).grown hgrow (by simp; omega) (fun r e => (World.ownsRow.lt hown r e).1)
      case measure => simp [intOf]; omega
    · have hk2 : (k : Int) = F * R := by omega
      have HK : Hid (fullN (F * R).toNat = ofL (sqs ((List.range k).map fun i : Nat => (i : Int)))) := Lib.hid (by rw [sqs_nat, ofL_range, ← hk2, Int.toNat_natCast])
      obtain ⟨A, c, rfl, hA⟩ := RdI.own hown
      have hb64 : k ≤ 64 := by omega
      have hl : (List.range k).length = ((List.range k).map fun i : Nat => (i : Int)).length := by simp
      rw [hl]
      have HM : Hid (∀ j, j < ((List.range k).map fun i : Nat => (i : Int)).length → 0 ≤ ((List.range k).map fun i : Nat => (i : Int))[j]?.getD 0 ∧ ((List.range k).map fun i : Nat => (i : Int))[j]?.getD 0 < 64) := Lib.hid (by
        intro j hj
        simp at hj
        simp [hj]
        omega)
      have hlen : ((List.range k).map fun i : Nat => (i : Int)).length ≤ 1000000 := by simp; omega
      clear hk2 hl hown
      generalize ((List.range k).map fun i : Nat => (i : Int)) = l at *
      go_wp2_with fail
      refine (refOf_any l A c _ hlen hA HM.out).mono ?_
      rintro e w1 ⟨rfl, rfl⟩
      go_wp2
      go_ret
      exact ⟨ret_int (by rw [HK.out]), (box1 _ _).trans (hB.mono (by omega))⟩

end Go.Proofs.YtolohfkenglpcaaDoor
