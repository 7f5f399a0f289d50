/- Lines and leaps: the reach of a piece, by the document's own function. -/
import Derived.Test.YtejlbjbmpdddkaaDoorRyE
namespace Go.Proofs.YtejlbjbmpdddkaaDoor
open Go.RowKit

/-- the squares of a board that a Bool function picks, in order. -/
def pickTo (P : Nat → Bool) (k : Nat) : List Nat := (List.range k).filter P
theorem pickTo_yes (P : Nat → Bool) (k : Nat) (h : P k = true) : pickTo P (k + 1) = pickTo P k ++ [k] := by
  unfold pickTo; rw [List.range_succ, List.filter_append]; simp [h]
theorem pickTo_no (P : Nat → Bool) (k : Nat) (h : P k = false) : pickTo P (k + 1) = pickTo P k := by
  unfold pickTo; rw [List.range_succ, List.filter_append]; simp [h]
theorem pickTo_le (P : Nat → Bool) (k : Nat) : (pickTo P k).length ≤ k := by
  unfold pickTo
  have := List.length_filter_le P (List.range k)
  simpa using this
def reachL (F R k a : Int) (X : Nat) : List Nat := pickTo (fun b => reachB F R k a (b : Int) X) (F * R).toNat

set_option maxRecDepth 100000 in
set_option maxHeartbeats 2000000 in
theorem rReach_any (F R k a : Int) (hk : k = 2 ∨ k = 3 ∨ k = 4 ∨ k = 5 ∨ k = 6) (ha : vat F R a) (X : Nat) (hX : X < 18446744073709551616) (w : World) :
    Calls Tryd.prog 19 #[.agg #[.int .i64 F, .int .i64 R], .int .i8 k, .int .i64 a, .int .u64 X] w fun e w' => ∃ v, e = .returned v ∧ w'.ownsRow w.heap.size 3 1 v (reachL F R k a X).length (vnats (reachL F R k a X)) ∧ Below w.heap.size w w' := by
  obtain ⟨i0, hi, hz0, hz1, hz2⟩ := info_parts ints3
  obtain ⟨m0, m1⟩ := vsz_mul ha.1
  have HRC := Lib.hid (fun b (hb : vat F R b) => reaches_any F R k a b hk ha hb X hX)
  have hv := Lib.hid ha.1
  obtain ⟨P, hP⟩ : ∃ P : Nat → Bool, (fun b : Nat => reachB F R k a (b : Int) X) = P := ⟨_, rfl⟩
  have HP := Lib.hid hP
  unfold reachL
  rw [hP]
  clear hP hk ha
  go_enter Tryd.func19, Tryd.ntmps19
  go_wp2
  go_loopw [9, 10] (fun v i wr => ∃ b : Nat, (b : Int) ≤ F * R ∧ i = .int .i64 b ∧ wr.ownsRow (w.heap.size + 1) 3 1 v (pickTo P b).length (vnats (pickTo P b)) ∧ Below (w.heap.size + 1) (w.alloc (.cells #[.int .i64 F, .int .i64 R] 23)) wr) (fun _ i _ => 64 - (intOf i).toNat)
  case atStart => exact ⟨0, by omega, rfl, World.ownsRow_nil _ _ _ _, Below.refl _ _⟩
  case round =>
    obtain ⟨b, hb, rfl, hown, hB⟩ := hrel
    have s1 := hB.size
    simp at s1
    have hc0 := hB.cell (p := ⟨w.heap.size, 0, none⟩) (by simp)
    have hc1 := hB.cell (p := ⟨w.heap.size, 1, none⟩) (by simp)
    simp [go_sem] at hc0 hc1
    by_cases hlt : (b : Int) < F * R
    · have hat : vat F R (b : Int) := ⟨hv.out, by omega, hlt⟩
      have hcl := HRC.out _ hat
      have e : reachB F R k a (b : Int) X = P b := congrFun HP.out b
      rw [e] at hcl
      have HCL := Lib.hid hcl
      have hle := pickTo_le P b
      clear hcl e hat
      cases hbit : P b
      · have HS := Lib.hid (pickTo_no P b hbit)
        have HB := Lib.hid hbit
        clear hbit
        go_wp2_with fail
        refine (HCL.out _).mono ?_
        rintro e w2 ⟨rfl, hb2⟩
        rw [HB.out]
        have hown2 := own_below hown hb2
        have hB2 := hB.trans (hb2.mono s1)
        clear hown hB hb2 hc0 hc1
        go_wp2
        go_roundw
        case rel => exact ⟨b + 1, by omega, by go_num, by rw [HS.out]; exact hown2, hB2⟩
        case measure => simp [intOf]; omega
      · have HS := Lib.hid (pickTo_yes P b hbit)
        have HL : Hid ((pickTo P (b + 1)).length = (pickTo P b).length + 1) := Lib.hid (by rw [HS.out]; simp)
        have HB := Lib.hid hbit
        clear hbit
        generalize pickTo P b = q at *
        go_wp2_with fail
        refine (HCL.out _).mono ?_
        rintro e w2 ⟨rfl, hb2⟩
        rw [HB.out]
        have hown2 := own_below hown hb2
        have hB2 := hB.trans (hb2.mono s1)
        have s2 := hb2.size
        clear hown hB hb2 hc0 hc1
        go_wp2_with (at_builtin; (refine wpList_append_own _ rfl _ _ 24 rfl (w.heap.size + 1) 3 i0 (.int .i64 0) 1 8 Tryd.underlying24 hi hz0 hz1 hz2 rfl (by decide) _ _ _ rfl (hown2.alloc _) ⟨w2.heap.size, 0, none⟩ 1 1 [.int .i64 (b : Int)] rfl rfl ?c1 ?c2 ?c3 ?c4 ?c5 ?_))
        case c1 =>
          intro j u hj
          match j, hj with
          | 0, hj => simp at hj; subst hj; simp [Addr.add]
        case c2 => intro u hu; simp at hu; subst hu; rfl
        case c3 => unfold maxLen; omega
        case c4 => omega
        case c5 => simp; omega
        intro v' w3 hown' hgrow _
        go_wp2
        go_roundw
        case rel =>
          refine ⟨b + 1, by omega, by go_num, ?_, ?_⟩
          · rw [HL.out, HS.out, vnats_snoc]; exact hown'
          · exact (hB2.alloc (by omega) _).grown hgrow (by simp; omega) (fun r e => (World.ownsRow.lt hown2 r e).1)
        case measure => simp [intOf]; omega
    · have hbe : b = (F * R).toNat := by omega
      have HE : Hid (pickTo P (F * R).toNat = pickTo P b) := Lib.hid (by rw [hbe])
      clear hbe
      go_wp2
      go_ret
      exact ⟨_, rfl, by rw [HE.out]; exact World.ownsRow.mono hown (by omega), (box1 _ _).trans (hB.mono (by omega))⟩

end Go.Proofs.YtejlbjbmpdddkaaDoor
