/- The reference's list of the squares of a set, and the set of a list. -/
import Derived.Test.YtejlbjbmpdddkaaDoorSqD
namespace Go.Proofs.YtejlbjbmpdddkaaDoor
open Go.RowKit

theorem ints3 : (Tryd.prog.info? 3).map (fun i => (i.zero, i.size, i.bytes)) = some (some (.int .i64 0), 1, 8) := by kernel_rfl

/-- the squares of a set among the first k. -/
def listTo (X k : Nat) : List Nat := (List.range k).filter (fun i => X.testBit i)
theorem listTo_yes (X k : Nat) (h : X.testBit k = true) : listTo X (k + 1) = listTo X k ++ [k] := by
  unfold listTo; rw [List.range_succ, List.filter_append]; simp [h]
theorem listTo_no (X k : Nat) (h : X.testBit k = false) : listTo X (k + 1) = listTo X k := by
  unfold listTo; rw [List.range_succ, List.filter_append]; simp [h]
theorem listTo_le (X k : Nat) : (listTo X k).length ≤ k := by
  unfold listTo
  have := List.length_filter_le (fun i => X.testBit i) (List.range k)
  simpa using this
theorem listTo_64 (X : Nat) : listTo X 64 = listOf X := rfl
def vnat (i : Nat) : Value := .int .i64 (i : Int)
def vnats (l : List Nat) : List Value := l.map vnat
theorem vnats_snoc (l : List Nat) (i : Nat) : vnats (l ++ [i]) = vnats l ++ [.int .i64 (i : Int)] := by simp [vnats, vnat]
theorem vnats_len (l : List Nat) : (vnats l).length = l.length := by simp [vnats]

set_option maxRecDepth 100000 in
set_option maxHeartbeats 1000000 in
theorem refList_any (X : Nat) (hX : X < 18446744073709551616) (w : World) :
    Calls Tryd.prog 41 #[.int .u64 X] w fun e w' => ∃ v, e = .returned v ∧ w'.ownsRow w.heap.size 3 1 v (listOf X).length (vnats (listOf X)) ∧ Below w.heap.size w w' := by
  obtain ⟨i0, hi, hz0, hz1, hz2⟩ := info_parts ints3
  go_enter Tryd.func41, Tryd.ntmps41
  go_wp2
  go_loopw [3, 4] (fun v i wr => ∃ k : Nat, k ≤ 64 ∧ i = .int .i64 k ∧ wr.ownsRow w.heap.size 3 1 v (listTo X k).length (vnats (listTo X k)) ∧ Below w.heap.size w wr) (fun _ i _ => 64 - (intOf i).toNat)
  case atStart => exact ⟨0, by omega, rfl, World.ownsRow_nil _ _ _ _, Below.refl _ _⟩
  case round =>
    obtain ⟨k, hk, rfl, hown, hB⟩ := hrel
    by_cases hlt : k < 64
    · have hle := listTo_le X k
      cases hb : X.testBit k
      · have hs := listTo_no X k hb
        have HS := Lib.hid hs
        have HB := Lib.hid hb
        clear hs hb
        go_wp2_with fail
        refine (refHas_in X _ hX (by omega) (by omega) _).mono ?_
        rintro e w1 ⟨rfl, rfl⟩
        rw [show ((k : Int)).toNat = k from by omega, HB.out]
        go_wp2
        go_roundw
        case rel => exact ⟨k + 1, by omega, by go_num, by rw [HS.out]; exact hown, hB⟩
        case measure => simp [intOf]; omega
      · have hs := listTo_yes X k hb
        have HS := Lib.hid hs
        have HB := Lib.hid hb
        clear hs hb
        go_wp2_with fail
        refine (refHas_in X _ hX (by omega) (by omega) _).mono ?_
        rintro e w1 ⟨rfl, rfl⟩
        rw [show ((k : Int)).toNat = k from by omega, HB.out]
        go_wp2_with (at_builtin; (refine wpList_append_own _ rfl _ _ 24 rfl w.heap.size 3 i0 (.int .i64 0) 1 8 Tryd.underlying24 hi hz0 hz1 hz2 rfl (by decide) _ _ _ rfl (hown.alloc _) ⟨wr.heap.size, 0, none⟩ 1 1 [.int .i64 (k : Int)] rfl rfl ?c1 ?c2 ?c3 ?c4 ?c5 ?_))
        case c1 =>
          intro j u hj
          match j, hj with
          | 0, hj => simp at hj; subst hj; simp [Addr.add]
        case c2 => intro u hu; simp at hu; subst hu; rfl
        case c3 => unfold maxLen; omega
        case c4 => omega
        case c5 => have := hB.size; simp; omega
        intro v' w2 hown' hgrow _
        go_wp2
        go_roundw
        case rel =>
          refine ⟨k + 1, by omega, by go_num, ?_, ?_⟩
          · rw [HS.out, vnats_snoc, List.length_append]; exact hown'
          · exact (hB.alloc hB.size _).grown hgrow (by have := hB.size; simp; omega) (fun r e => (World.ownsRow.lt hown r e).1)
        case measure => simp [intOf]; omega
    · have hk64 : k = 64 := by omega
      subst hk64
      go_wp2
      go_ret
      exact ⟨_, rfl, by rw [← listTo_64]; exact hown, hB⟩

end Go.Proofs.YtejlbjbmpdddkaaDoor
