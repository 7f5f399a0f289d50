/- Texts of boards: a rank's text, as the program reads it. -/
import Derived.Test.YtolohfkenglpcaaDoorBpI
import Derived.Test.YtolohfkenglpcaaDoorBpN
import Derived.Test.YtolohfkenglpcaaDoorBdG
import Derived.Test.YtolohfkenglpcaaDoorPcC
namespace Go.Proofs.YtolohfkenglpcaaDoor
open Go.RowKit

theorem groupSize_yes (m : Nat) (w : World) (h0 : 1 ≤ m) (h1 : m ≤ 8) :
    Calls Tryd.prog 67 #[.int .u8 ((m + 48 : Nat) : Int)] w fun e w' => e = .returned (.tuple #[.int .i64 (m : Int), .bool true]) ∧ w' = w := by
  have hw : IntKind.i64.wrap (((m + 48 : Nat) : Int) - 48) = (m : Int) := by rw [IntWalk.i64_in _ (by omega)]; omega
  have hw2 : IntKind.i64.wrap ((m + 48 : Nat) : Int) = ((m + 48 : Nat) : Int) := IntWalk.i64_in _ (by omega)
  have h0' : decide ((1 : Int) ≤ (m : Int)) = true := decide_eq_true (by omega)
  have h1' : decide ((m : Int) ≤ 8) = true := decide_eq_true (by omega)
  generalize ((m + 48 : Nat) : Int) = C at *
  go_enter Tryd.func67, Tryd.ntmps67
  go_wp2
  go_ret2
  exact ⟨rfl, rfl⟩
theorem groupSize_no (c : Nat) (w : World) (hc : c < 256) (h : ¬ (49 ≤ c ∧ c ≤ 56)) :
    Calls Tryd.prog 67 #[.int .u8 (c : Int)] w fun e w' => e = .returned (.tuple #[.int .i64 ((c : Int) - 48), .bool false]) ∧ w' = w := by
  have hw : IntKind.i64.wrap ((c : Int) - 48) = (c : Int) - 48 := IntWalk.i64_in _ (by omega)
  have hw2 : IntKind.i64.wrap (c : Int) = (c : Int) := IntWalk.i64_in _ (by omega)
  by_cases h0 : 49 ≤ c
  · have h0' : decide ((1 : Int) ≤ (c : Int) - 48) = true := decide_eq_true (by omega)
    have h1' : decide ((c : Int) - 48 ≤ 8) = false := decide_eq_false (by omega)
    clear h
    go_enter Tryd.func67, Tryd.ntmps67
    go_wp2
    go_ret2
    exact ⟨rfl, rfl⟩
  · have h0' : decide ((1 : Int) ≤ (c : Int) - 48) = false := decide_eq_false (by omega)
    clear h
    go_enter Tryd.func67, Tryd.ntmps67
    go_wp2
    go_ret2
    exact ⟨rfl, rfl⟩

/-- a rank of at most eight squares. -/
def prow8 (t : List UInt8) : Option (List Int) := match prow t with
  | some row => if row.length ≤ 8 then some row else none
  | none => none
theorem prS_grows : ∀ (t : List UInt8) (row r : List Int) (d e : Bool), t.foldl prS (some (row, d)) = some (r, e) → row.length ≤ r.length
  | [], row, r, d, e, h => by simp at h; rw [h.1]; exact Nat.le_refl _
  | c :: t, row, r, d, e, h => by
    rw [List.foldl_cons] at h
    cases hp : prS (some (row, d)) c with
    | none => rw [hp, prS_none] at h; cases h
    | some st =>
      obtain ⟨r2, d2⟩ := st
      rw [hp] at h
      have h1 := prS_grows t r2 r d2 e h
      have h2 : row.length ≤ r2.length := by
        simp only [prS] at hp
        split at hp
        · split at hp
          · cases hp
          · simp at hp; rw [← hp.1]; simp
        · split at hp
          · cases hp
          · simp at hp; rw [← hp.1]; simp
      omega
theorem prow8_long (t : List UInt8) (k : Nat) {row : List Int} {d : Bool} (h : prT t k = some (row, d)) (h8 : 8 < row.length) : prow8 t = none := by
  unfold prow8
  cases hp : prow t with
  | none => rfl
  | some r =>
    have : row.length ≤ r.length := by
      unfold prow prT at hp
      rw [List.take_length, ← List.take_append_drop k t, List.foldl_append] at hp
      unfold prT at h
      rw [h] at hp
      cases hq : (t.drop k).foldl prS (some (row, d)) with
      | none => rw [hq] at hp; cases hp
      | some st =>
        rw [hq] at hp
        simp at hp
        have := prS_grows _ _ _ _ _ (show _ = some (st.1, st.2) from hq)
        rw [hp] at this
        exact this
    simp; omega
theorem prow8_dead (t : List UInt8) (k : Nat) (h : prT t k = none) : prow8 t = none := by
  unfold prow8; rw [prT_dead t k h]
theorem piP_digit {c : Nat} (h0 : c ≤ 56) : piP c = 0 := by
  apply Classical.byContradiction
  intro h
  obtain ⟨h1, h2⟩ := piP_ok h
  have := (lt_rng h1 h).1
  omega

/-- what reading a rank gives. -/
def RankR (w : World) (o : Option (List Int)) (e : Ending) (w' : World) : Prop :=
  match o with
  | some row => ∃ v, e = .returned (.tuple #[v, .bool true]) ∧ w'.ownsRow w.heap.size 32 1 v row.length (vpcs row) ∧ Below w.heap.size w w'
  | none => e = .returned (.tuple #[.slice none 0 0, .bool false]) ∧ Below w.heap.size w w'
theorem RankR.no {w w' : World} {o : Option (List Int)} (h : o = none) (hb : Below w.heap.size w w') : RankR w o (.returned (.tuple #[.slice none 0 0, .bool false])) w' := by
  subst h
  exact ⟨rfl, hb⟩
theorem RankR.yes {w w' : World} {o : Option (List Int)} {row : List Int} {v : Value} (h : o = some row) (ho : w'.ownsRow w.heap.size 32 1 v row.length (vpcs row)) (hb : Below w.heap.size w w') : RankR w o (.returned (.tuple #[v, .bool true])) w' := by
  subst h
  exact ⟨_, rfl, ho, hb⟩

set_option maxRecDepth 100000 in
set_option maxHeartbeats 1000000 in
theorem parseRank_any (t : ByteArray) (w : World) (ht : t.size ≤ 1000) (hK : Kinds w) :
    Calls Tryd.prog 55 #[.string t] w (RankR w (prow8 t.data.toList)) := by
  have hts : t.data.toList.length = t.size := by rw [Array.length_toList]; rfl
  obtain ⟨i0, hi, hz0, hz1, hz2⟩ := info_parts infoPc
  have HT := Lib.hid hts
  clear hts
  go_enter Tryd.func55, Tryd.ntmps55
  go_wp2_with fail
  go_loopw [4, 5, 6, 7, 8, 9, 10, 13] (fun v a _ _ _ _ _ i wr => ∃ (k : Nat) (row : List Int) (d : Bool), k ≤ t.size ∧ i = .int .i64 k ∧ a = .bool d ∧ prT t.data.toList k = some (row, d) ∧ row.length ≤ 8 ∧ wr.ownsRow w.heap.size 32 1 v row.length (vpcs row) ∧ Below w.heap.size w wr) (fun _ _ _ _ _ _ _ i _ => t.size - (intOf i).toNat)
  case atStart => exact ⟨0, [], false, by omega, rfl, rfl, rfl, by simp, World.ownsRow_nil _ _ _ _, Below.refl _ _⟩
  case round =>
    obtain ⟨k, row, d, hk, rfl, rfl, hpr, h8, hown, hB⟩ := hrel
    by_cases hlt : k < t.size
    · have hkl : k < t.data.toList.length := by rw [HT.out]; exact hlt
      have HS := Lib.hid (prT_succ t.data.toList k hkl)
      have HP := Lib.hid hpr
      clear hpr
      have hce : t.data.toList[k] = t[k] := rfl
      have hc256 : t[k].toNat < 256 := t[k].toNat_lt
      have HC : Hid (prT t.data.toList (k + 1) = prS (some (row, d)) t[k]) := Lib.hid (by rw [HS.out, HP.out, hce])
      clear hce
      generalize hb : t[k] = b at *
      by_cases hdg : 49 ≤ b.toNat ∧ b.toNat ≤ 56
      · obtain ⟨m, hm⟩ : ∃ m, b.toNat = m + 48 := ⟨b.toNat - 48, by omega⟩
        have hp0 : piP (m + 48) = 0 := piP_digit (by omega)
        have hm1 : 1 ≤ m := by omega
        have hm8 : m ≤ 8 := by omega
        have HDG := Lib.hid hdg
        have HM := Lib.hid hm
        clear hdg
        cases d with
        | true =>
          have hN : Hid (prow8 t.data.toList = none) := Lib.hid (prow8_dead _ (k + 1) (by rw [HC.out]; simp only [prS]; rw [if_pos HDG.out]; simp))
          go_wp2_with fail
          rw [show ((m : Int) + 48) = ((m + 48 : Nat) : Int) by omega]
          refine (groupSize_yes m _ hm1 hm8).mono ?_
          rintro e w2 ⟨rfl, rfl⟩
          go_wp2_with fail
          rw [show ((m : Int) + 48) = ((m + 48 : Nat) : Int) by omega]
          refine (parse_any (m + 48) _ (hK.below hB hK.1)).mono ?_
          rintro e w2 ⟨rfl, rfl⟩
          rw [hp0, show perr 0 = 6 from rfl]
          go_wp2
          go_ret2
          exact RankR.no hN.out hB
        | false =>
          have hnew : Hid (prT t.data.toList (k + 1) = some (row ++ List.replicate m 0, true)) := Lib.hid (by rw [HC.out]; simp only [prS]; rw [if_pos HDG.out, HM.out]; simp)
          obtain ⟨v', w3, hrun, hown', hgrow⟩ := run_append_own_zeros (P := Tryd.prog) wr w.heap.size 24 3 24 32 i0 (.int .i8 0) .i64 .i64 Tryd.underlying24 Tryd.underlying3 hi hz0 hz1 hz2 rfl rfl u4 row.length (vpcs row) hown m (by omega) (by omega) hB.size
          obtain ⟨g, cap, rfl⟩ := Joins.ownsRow_form hown' (by omega)
          have hB3 : Below w.heap.size w w3 := hB.grown hgrow hB.size (fun r e => (World.ownsRow.lt hown r e).1)
          have hown3 : Hid (w3.ownsRow w.heap.size 32 1 (.slice (some ⟨g, 0, none⟩) (row.length + m) cap) (row ++ List.replicate m 0).length (vpcs (row ++ List.replicate m 0))) := Lib.hid (by
            have e : vpcs (row ++ List.replicate m 0) = vpcs row ++ List.replicate m (.int .i8 0) := by simp [vpcs, vpc]
            rw [e, List.length_append, List.length_replicate]
            exact hown')
          have hrun := hrun
          clear hown hown' hgrow
          go_wp2_with fail
          rw [show ((m : Int) + 48) = ((m + 48 : Nat) : Int) by omega]
          refine (groupSize_yes m _ hm1 hm8).mono ?_
          rintro e w2 ⟨rfl, rfl⟩
          go_wp2_with fail
          rw [show ((m : Int) + 48) = ((m + 48 : Nat) : Int) by omega]
          refine (parse_any (m + 48) _ (hK.below hB hK.1)).mono ?_
          rintro e w2 ⟨rfl, rfl⟩
          rw [hp0, show perr 0 = 6 from rfl]
          by_cases h9 : row.length + m ≤ 8
          · have h9' : ¬ (8 : Int) < (row.length : Int) + (m : Int) := by omega
            go_wp2_with (at_builtin; (refine Lib.wpList_append_run _ rfl _ _ 24 3 rfl _ _ rfl rfl _ _ hrun ?_))
            go_roundw
            case rel => exact ⟨k + 1, _, true, by omega, by go_num, rfl, hnew.out, by simp; omega, hown3.out, hB3⟩
            case measure => simp [intOf]; omega
          · have h9' : (8 : Int) < (row.length : Int) + (m : Int) := by omega
            have hN : Hid (prow8 t.data.toList = none) := Lib.hid (prow8_long _ (k + 1) hnew.out (by simp; omega))
            go_wp2_with (at_builtin; (refine Lib.wpList_append_run _ rfl _ _ 24 3 rfl _ _ rfl rfl _ _ hrun ?_))
            go_ret2
            exact RankR.no hN.out hB3
      · have HDG := Lib.hid hdg
        have hg := fun W => groupSize_no b.toNat W hc256 HDG.out
        clear hdg
        by_cases hp0 : piP b.toNat = 0
        · have hN : Hid (prow8 t.data.toList = none) := Lib.hid (prow8_dead _ (k + 1) (by rw [HC.out]; simp only [prS]; rw [if_neg HDG.out, if_pos hp0]))
          have hpe : perr (piP b.toNat) = 6 := by rw [hp0]; rfl
          go_wp2_with fail
          refine (hg _).mono ?_
          rintro e w2 ⟨rfl, rfl⟩
          go_wp2_with fail
          refine (parse_any b.toNat _ (hK.below hB hK.1)).mono ?_
          rintro e w2 ⟨rfl, rfl⟩
          rw [hpe]
          go_wp2
          go_ret2
          exact RankR.no hN.out hB
        · have hpe : perr (piP b.toNat) = 0 := by unfold perr; rw [if_neg hp0]
          have hnew : Hid (prT t.data.toList (k + 1) = some (row ++ [piP b.toNat], false)) := Lib.hid (by rw [HC.out]; simp only [prS]; rw [if_neg HDG.out, if_neg hp0])
          generalize hpv : piP b.toNat = p at *
          clear hp0
          go_wp2_with fail
          refine (hg _).mono ?_
          rintro e w2 ⟨rfl, rfl⟩
          go_wp2_with fail
          refine (parse_any b.toNat _ (hK.below hB hK.1)).mono ?_
          rintro e w2 ⟨rfl, rfl⟩
          rw [hpv, hpe]
          go_wp2_with (at_builtin; (refine wpList_append_own _ rfl _ _ 24 rfl w.heap.size 32 i0 (.int .i8 0) 1 1 Tryd.underlying24 hi hz0 hz1 hz2 rfl (by decide) _ _ _ rfl (hown.alloc _) ⟨w2.heap.size, 0, none⟩ 1 1 [.int .i8 p] rfl rfl ?c1 ?c2 ?c3 ?c4 ?c5 ?_))
          case c1 =>
            intro j u hj
            match j, hj with
            | 0, hj => simp at hj; subst hj; simp [Addr.add]
          case c2 => intro u hu; simp at hu; subst hu; rfl
          case c3 => unfold maxLen; omega
          case c4 => omega
          case c5 => have := hB.size; simp; omega
          intro v' w3 hown' hgrow _
          obtain ⟨g, cap, rfl⟩ := Joins.ownsRow_form hown' (by omega)
          have hB3 : Below w.heap.size w w3 := (hB.alloc hB.size _).grown hgrow (by have := hB.size; simp; omega) (fun r e => (World.ownsRow.lt hown r e).1)
          have hown3 : Hid (w3.ownsRow w.heap.size 32 1 (.slice (some ⟨g, 0, none⟩) (row.length + 1) cap) (row ++ [p]).length (vpcs (row ++ [p]))) := Lib.hid (by
            have e : vpcs (row ++ [p]) = vpcs row ++ [.int .i8 p] := by simp [vpcs, vpc]
            rw [e, List.length_append, List.length_singleton]
            exact hown')
          clear hown hown' hgrow
          by_cases h9 : row.length + 1 ≤ 8
          · have h9' : ¬ (8 : Int) < (row.length : Int) + 1 := by omega
            go_wp2
            go_roundw
            case rel => exact ⟨k + 1, _, false, by omega, by go_num, rfl, hnew.out, by simp; omega, hown3.out, hB3⟩
            case measure => simp [intOf]; omega
          · have h9' : (8 : Int) < (row.length : Int) + 1 := by omega
            have hN : Hid (prow8 t.data.toList = none) := Lib.hid (prow8_long _ (k + 1) hnew.out (by simp; omega))
            go_wp2
            go_ret2
            exact RankR.no hN.out hB3
    · have hkl : k = t.size := by omega
      have hN : Hid (prow8 t.data.toList = some row) := Lib.hid (by
        unfold prow8 prow
        rw [HT.out, ← hkl, hpr]
        simp; omega)
      subst hkl
      go_wp2
      go_ret2
      exact RankR.yes hN.out hown hB

end Go.Proofs.YtolohfkenglpcaaDoor
