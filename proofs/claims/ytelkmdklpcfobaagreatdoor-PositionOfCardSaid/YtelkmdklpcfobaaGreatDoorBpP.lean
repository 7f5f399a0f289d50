/- 'append(s, make([]T, m)...)' to a row of one's own, m at least one, elements of one cell: a law of no program. -/
import Derived.Lib.AppendZerosOnto
import Derived.Laws.OwnMore
import Derived.Test.YtelkmdklpcfobaaGreatDoorBdD
import Derived.Test.YtelkmdklpcfobaaGreatDoorBpI
import Derived.Test.YtelkmdklpcfobaaGreatDoorBdG

namespace Go.Proofs.YtelkmdklpcfobaaGreatDoor
open Go Go.Lib

theorem zeros_one (z : Value) (m : Nat) : (Builtin.zeroCells #[z] m).toList = List.replicate m z := by
  apply List.ext_getElem
  · simp [Builtin.zeroCells]
  · intro j h1 h2
    simp [Builtin.zeroCells, Nat.mod_one]

theorem run_append_room_zeros {P : Program} (w : World) (t tn ty e : TypeId) (i : TypeInfo) (z : Value) (kq kn : IntKind) (ht : P.underlying t = some (.slice e)) (htn : P.underlying tn = some (.int kn)) (hi : P.info? e = some i) (hz : i.zero = some z) (hs1 : i.size = 1) (hzc : z.cells = #[z]) (hz1 : z.oneCell' = true)
    (g sLen sCap : Nat) (cur : Array Value) (hg : w.heap[g]? = some (.cells cur e (0, 0))) (m : Nat) (h0 : 0 < m) (hm : (m : Int) ≤ 9223372036854775807) (h48 : m * i.bytes ≤ 281474976710656)
    (hroom : sLen + m ≤ sCap) (hfit : sLen + m ≤ cur.size) :
    (Builtin.append_ #[t, tn] ty #[.slice (some ⟨g, 0, none⟩) sLen sCap, .int kq m]).run P w =
      .ok (.slice (some ⟨g, 0, none⟩) (sLen + m) sCap) (w.setRow g (cur.toList.take sLen ++ List.replicate m z ++ cur.toList.drop (sLen + m)).toArray) := by
  have hst := run_storeCells_at P g sLen e (List.replicate m z) 0 cur w hg (by simpa using hfit) (fun u hu => by rw [List.eq_of_mem_replicate hu]; exact hz1)
  simp only [Nat.add_zero, List.length_replicate] at hst
  have hw : IntKind.i64.wrap (m : Int) = m := by rw [IntKind.wrap_i64]; omega
  have hneg : ¬ ((m : Int) < 0) := by omega
  have hns : ¬ (m = 0) := by omega
  have h48i : ¬ (281474976710656 < (m : Int) * (i.bytes : Int)) := by
    rw [← Int.natCast_mul]
    omega
  have hzz := zeros_one z m
  simp [Builtin.append_, run_underlying ht, run_underlying htn, sizeOf, typeInfo, zeroValue, hi, hz, hs1, asInt, asIntOf, hw, hneg, hns, h48i, hroom, hzc, hzz, Addr.add_lit, hst]

theorem run_append_own_zeros {P : Program} (w : World) (base : Nat) (t tn ty e : TypeId) (i : TypeInfo) (z : Value) (kq kn : IntKind) (ht : P.underlying t = some (.slice e)) (htn : P.underlying tn = some (.int kn)) (hi : P.info? e = some i) (hz : i.zero = some z) (hs1 : i.size = 1) (hb1 : i.bytes = 1) (hzc : z.cells = #[z]) (hz1 : z.oneCell' = true)
    (v : Value) (n : Nat) (xs : List Value) (hown : w.ownsRow base e 1 v n xs) (m : Nat) (h0 : 0 < m) (h63 : n + m ≤ 100000) (hbase : base ≤ w.heap.size) :
    ∃ v' w', (Builtin.append_ #[t, tn] ty #[v, .int kq m]).run P w = .ok v' w' ∧ w'.ownsRow base e 1 v' (n + m) (xs ++ List.replicate m z) ∧ w.grownBy w' v.ownBlock := by
  have hl0 := hown.1
  have hlen : (xs ++ List.replicate m z).length = (n + m) * 1 := by simp [hl0]
  have grown : ∀ (old : Nat), old < n + m → ∀ (row : Option Nat),
      (w.drew.alloc (.cells (xs.toArray ++ Builtin.zeroCells z.cells m ++ Builtin.zeroCells z.cells (grownCap w (n + m) old e - (n + m))) e)).ownsRow base e 1
        (.slice (some ⟨w.heap.size, 0, none⟩) (n + m) (grownCap w (n + m) old e)) (n + m) (xs ++ List.replicate m z) ∧
      w.grownBy (w.drew.alloc (.cells (xs.toArray ++ Builtin.zeroCells z.cells m ++ Builtin.zeroCells z.cells (grownCap w (n + m) old e - (n + m))) e)) row := by
    intro old ho row
    have hge := grownCap_ge w (n + m) old e
    have hcm : grownCap w (n + m) old e ≤ maxLen := grownCap_le_maxLen w (n + m) old e (by unfold maxLen; omega)
    refine ⟨⟨hlen, .inr ⟨w.heap.size, _, _, rfl, hbase, heap_alloc_new w.drew _, hge, hcm, ?_, ?_⟩⟩, ⟨rfl, rfl, rfl, by simp, fun k hk _ => heap_alloc_old w.drew _ hk⟩⟩
    · simp only [Array.size_append, List.size_toArray, size_zeroCells, hzc, hl0, List.size_toArray, List.length_cons, List.length_nil]
      omega
    · rw [hzc]
      simp only [Array.toList_append, zeros_one]
      rw [← hlen]
      exact List.take_left
  rcases hown.2 with ⟨rfl, rfl⟩ | ⟨g, cap, cur, rfl, hbg, hg, hnc, hcm, hcs, htake⟩
  · have hx : xs = [] := List.eq_nil_of_length_eq_zero (by simpa using hl0)
    subst hx
    have hr := run_append_nil_zeros (P := P) w t tn ty e i z kq kn ht htn hi hz m h0 (by omega) (by omega) (by rw [hb1]; omega)
    have hgr := grown 0 (by omega) (Value.ownBlock (.slice none 0 0))
    simp only [Nat.zero_add, List.nil_append, Array.empty_append] at hgr ⊢
    exact ⟨_, _, hr, hgr.1, hgr.2⟩
  · by_cases hroom : n + m ≤ cap
    · have hr := run_append_room_zeros (P := P) w t tn ty e i z kq kn ht htn hi hz hs1 hzc hz1 g n cap cur hg m h0 (by omega) (by rw [hb1]; omega) hroom (by omega)
      refine ⟨_, _, hr, ⟨hlen, .inr ⟨g, cap, _, rfl, hbg, setRow_heap w g cur _ e _ hg, hroom, hcm, ?_, ?_⟩⟩, ⟨rfl, rfl, rfl, by simp, fun k _ hk => setRow_other w g k _ (fun e => hk (by simp [Value.ownBlock, e]))⟩⟩
      · simp only [List.size_toArray, List.length_append, List.length_take, List.length_drop, Array.length_toList, List.length_replicate]
        omega
      · rw [Nat.mul_one] at htake
        rw [htake, ← hlen]
        exact List.take_left
    · have holds : ∀ j u, xs[j]? = some u → w.cell? ((⟨g, 0, none⟩ : Addr).add j) = some u := hown.cells (g := g) rfl
      have hfc : (Builtin.firstCells i.size n (.slice (some ⟨g, 0, none⟩) n cap)).run P w.drew = .ok xs.toArray w.drew := by
        rw [hs1]
        exact run_firstCells_some (P := P) w.drew 1 n ⟨g, 0, none⟩ n cap xs hl0 holds
      have hr := run_append_grow_zeros (P := P) w t tn ty e i z kq kn ht htn hi hz (some ⟨g, 0, none⟩) n cap xs hfc m h0 (by omega) (by omega) (by omega) (by rw [hb1]; omega) (growslice_fits (by omega) (by rw [hb1]; omega))
      have hgr := grown cap (by omega) (Value.ownBlock (.slice (some ⟨g, 0, none⟩) n cap))
      exact ⟨_, _, hr, hgr.1, hgr.2⟩

end Go.Proofs.YtelkmdklpcfobaaGreatDoor

/- Texts of boards: a rank's text, as the program reads it. -/
namespace Go.Proofs.YtelkmdklpcfobaaGreatDoor
open Go.RowKit

theorem groupSize_yes (m : Nat) (w : World) (h0 : 1 ≤ m) (h1 : m ≤ 8) :
    Calls Tryz.prog 127 #[.int .u8 ((m + 48 : Nat) : Int)] w fun e w' => e = .returned (.tuple #[.int .i64 (m : Int), .bool true]) ∧ w' = w := by
  have hw : IntKind.i64.wrap (((m + 48 : Nat) : Int) - 48) = (m : Int) := by rw [IntWalk.i64_in _ (by omega)]; omega
  have hw2 : IntKind.i64.wrap ((m + 48 : Nat) : Int) = ((m + 48 : Nat) : Int) := IntWalk.i64_in _ (by omega)
  have h0' : decide ((1 : Int) ≤ (m : Int)) = true := decide_eq_true (by omega)
  have h1' : decide ((m : Int) ≤ 8) = true := decide_eq_true (by omega)
  generalize ((m + 48 : Nat) : Int) = C at *
  go_enter Tryz.func127, Tryz.ntmps127
  go_wp2
  go_ret2
  exact ⟨rfl, rfl⟩
theorem groupSize_no (c : Nat) (w : World) (hc : c < 256) (h : ¬ (49 ≤ c ∧ c ≤ 56)) :
    Calls Tryz.prog 127 #[.int .u8 (c : Int)] w fun e w' => e = .returned (.tuple #[.int .i64 ((c : Int) - 48), .bool false]) ∧ w' = w := by
  have hw : IntKind.i64.wrap ((c : Int) - 48) = (c : Int) - 48 := IntWalk.i64_in _ (by omega)
  have hw2 : IntKind.i64.wrap (c : Int) = (c : Int) := IntWalk.i64_in _ (by omega)
  by_cases h0 : 49 ≤ c
  · have h0' : decide ((1 : Int) ≤ (c : Int) - 48) = true := decide_eq_true (by omega)
    have h1' : decide ((c : Int) - 48 ≤ 8) = false := decide_eq_false (by omega)
    clear h
    go_enter Tryz.func127, Tryz.ntmps127
    go_wp2
    go_ret2
    exact ⟨rfl, rfl⟩
  · have h0' : decide ((1 : Int) ≤ (c : Int) - 48) = false := decide_eq_false (by omega)
    clear h
    go_enter Tryz.func127, Tryz.ntmps127
    go_wp2
    go_ret2
    exact ⟨rfl, rfl⟩

/-- a rank of at most eight squares. -/
def prow8 (t : List UInt8) : Option (List Int) := match prow t with
  | some row => if row.length ≤ 8 then some row else none
  | none => none
theorem prS_grows : ∀ (t : List UInt8) (row r : List Int) (d e : Bool), t.foldl prS (some (row, d)) = some (r, e) → row.length ≤ r.length
  | [], row, r, d, e, h => by simp at h; rw [h.1]; exact Nat.le_refl _
  | c :: t, row, r, d, e, h => by
    rw [List.foldl_cons] at h
    cases hp : prS (some (row, d)) c with
    | none => rw [hp, prS_none] at h; cases h
    | some st =>
      obtain ⟨r2, d2⟩ := st
      rw [hp] at h
      have h1 := prS_grows t r2 r d2 e h
      have h2 : row.length ≤ r2.length := by
        simp only [prS] at hp
        split at hp
        · split at hp
          · cases hp
          · simp at hp; rw [← hp.1]; simp
        · split at hp
          · cases hp
          · simp at hp; rw [← hp.1]; simp
      omega
theorem prow8_long (t : List UInt8) (k : Nat) {row : List Int} {d : Bool} (h : prT t k = some (row, d)) (h8 : 8 < row.length) : prow8 t = none := by
  unfold prow8
  cases hp : prow t with
  | none => rfl
  | some r =>
    have : row.length ≤ r.length := by
      unfold prow prT at hp
      rw [List.take_length, ← List.take_append_drop k t, List.foldl_append] at hp
      unfold prT at h
      rw [h] at hp
      cases hq : (t.drop k).foldl prS (some (row, d)) with
      | none => rw [hq] at hp; cases hp
      | some st =>
        rw [hq] at hp
        simp at hp
        have := prS_grows _ _ _ _ _ (show _ = some (st.1, st.2) from hq)
        rw [hp] at this
        exact this
    simp; omega
theorem prow8_dead (t : List UInt8) (k : Nat) (h : prT t k = none) : prow8 t = none := by
  unfold prow8; rw [prT_dead t k h]
theorem piP_digit {c : Nat} (h0 : c ≤ 56) : piP c = 0 := by
  apply Classical.byContradiction
  intro h
  obtain ⟨h1, h2⟩ := piP_ok h
  have := (lt_rng h1 h).1
  omega

/-- what reading a rank gives. -/
def RankR (w : World) (o : Option (List Int)) (e : Ending) (w' : World) : Prop :=
  match o with
  | some row => ∃ v, e = .returned (.tuple #[v, .bool true]) ∧ w'.ownsRow w.heap.size 41 1 v row.length (vpcs row) ∧ Below w.heap.size w w'
  | none => e = .returned (.tuple #[.slice none 0 0, .bool false]) ∧ Below w.heap.size w w'
theorem RankR.no {w w' : World} {o : Option (List Int)} (h : o = none) (hb : Below w.heap.size w w') : RankR w o (.returned (.tuple #[.slice none 0 0, .bool false])) w' := by
  subst h
  exact ⟨rfl, hb⟩
theorem RankR.yes {w w' : World} {o : Option (List Int)} {row : List Int} {v : Value} (h : o = some row) (ho : w'.ownsRow w.heap.size 41 1 v row.length (vpcs row)) (hb : Below w.heap.size w w') : RankR w o (.returned (.tuple #[v, .bool true])) w' := by
  subst h
  exact ⟨_, rfl, ho, hb⟩

set_option maxRecDepth 100000 in
set_option maxHeartbeats 1000000 in
theorem parseRank_any (t : ByteArray) (w : World) (ht : t.size ≤ 1000) (hK : Kinds w) :
    Calls Tryz.prog 96 #[.string t] w (RankR w (prow8 t.data.toList)) := by
  have hts : t.data.toList.length = t.size := by rw [Array.length_toList]; rfl
  obtain ⟨i0, hi, hz0, hz1, hz2⟩ := info_parts infoPc
  have HT := Lib.hid hts
  clear hts
  go_enter Tryz.func96, Tryz.ntmps96
  go_wp2_with fail
  go_loopw [4, 5, 6, 7, 8, 9, 10, 13] (fun v a _ _ _ _ _ i wr => ∃ (k : Nat) (row : List Int) (d : Bool), k ≤ t.size ∧ i = .int .i64 k ∧ a = .bool d ∧ prT t.data.toList k = some (row, d) ∧ row.length ≤ 8 ∧ wr.ownsRow w.heap.size 41 1 v row.length (vpcs row) ∧ Below w.heap.size w wr) (fun _ _ _ _ _ _ _ i _ => t.size - (intOf i).toNat)
  case atStart => exact ⟨0, [], false, by omega, rfl, rfl, rfl, by simp, World.ownsRow_nil _ _ _ _, Below.refl _ _⟩
  case round =>
    obtain ⟨k, row, d, hk, rfl, rfl, hpr, h8, hown, hB⟩ := hrel
    by_cases hlt : k < t.size
    · have hkl : k < t.data.toList.length := by rw [HT.out]; exact hlt
      have HS := Lib.hid (prT_succ t.data.toList k hkl)
      have HP := Lib.hid hpr
      clear hpr
      have hce : t.data.toList[k] = t[k] := rfl
      have hc256 : t[k].toNat < 256 := t[k].toNat_lt
      have HC : Hid (prT t.data.toList (k + 1) = prS (some (row, d)) t[k]) := Lib.hid (by rw [HS.out, HP.out, hce])
      clear hce
      generalize hb : t[k] = b at *
      by_cases hdg : 49 ≤ b.toNat ∧ b.toNat ≤ 56
      · obtain ⟨m, hm⟩ : ∃ m, b.toNat = m + 48 := ⟨b.toNat - 48, by omega⟩
        have hp0 : piP (m + 48) = 0 := piP_digit (by omega)
        have hm1 : 1 ≤ m := by omega
        have hm8 : m ≤ 8 := by omega
        have HDG := Lib.hid hdg
        have HM := Lib.hid hm
        clear hdg
        cases d with
        | true =>
          have hN : Hid (prow8 t.data.toList = none) := Lib.hid (prow8_dead _ (k + 1) (by rw [HC.out]; simp only [prS]; rw [if_pos HDG.out]; simp))
          go_wp2_with fail
          rw [show ((m : Int) + 48) = ((m + 48 : Nat) : Int) by omega]
          refine (groupSize_yes m _ hm1 hm8).mono ?_
          rintro e w2 ⟨rfl, rfl⟩
          go_wp2_with fail
          rw [show ((m : Int) + 48) = ((m + 48 : Nat) : Int) by omega]
          refine (parse_any (m + 48) _ (hK.below hB hK.1)).mono ?_
          rintro e w2 ⟨rfl, rfl⟩
          rw [hp0, show perr 0 = 6 from rfl]
          go_wp2
          go_ret2
          exact RankR.no hN.out hB
        | false =>
          have hnew : Hid (prT t.data.toList (k + 1) = some (row ++ List.replicate m 0, true)) := Lib.hid (by rw [HC.out]; simp only [prS]; rw [if_pos HDG.out, HM.out]; simp)
          obtain ⟨v', w3, hrun, hown', hgrow⟩ := run_append_own_zeros (P := Tryz.prog) wr w.heap.size 24 3 24 41 i0 (.int .i8 0) .i64 .i64 Tryz.underlying24 Tryz.underlying3 hi hz0 hz1 hz2 rfl rfl u4 row.length (vpcs row) hown m (by omega) (by omega) hB.size
          obtain ⟨g, cap, rfl⟩ := Joins.ownsRow_form hown' (by omega)
          have hB3 : Below w.heap.size w w3 := hB.grown hgrow hB.size (fun r e => (World.ownsRow.lt hown r e).1)
          have hown3 : Hid (w3.ownsRow w.heap.size 41 1 (.slice (some ⟨g, 0, none⟩) (row.length + m) cap) (row ++ List.replicate m 0).length (vpcs (row ++ List.replicate m 0))) := Lib.hid (by
            have e : vpcs (row ++ List.replicate m 0) = vpcs row ++ List.replicate m (.int .i8 0) := by simp [vpcs, vpc]
            rw [e, List.length_append, List.length_replicate]
            exact hown')
          have hrun := hrun
          clear hown hown' hgrow
          go_wp2_with fail
          rw [show ((m : Int) + 48) = ((m + 48 : Nat) : Int) by omega]
          refine (groupSize_yes m _ hm1 hm8).mono ?_
          rintro e w2 ⟨rfl, rfl⟩
          go_wp2_with fail
          rw [show ((m : Int) + 48) = ((m + 48 : Nat) : Int) by omega]
          refine (parse_any (m + 48) _ (hK.below hB hK.1)).mono ?_
          rintro e w2 ⟨rfl, rfl⟩
          rw [hp0, show perr 0 = 6 from rfl]
          by_cases h9 : row.length + m ≤ 8
          · have h9' : ¬ (8 : Int) < (row.length : Int) + (m : Int) := by omega
            go_wp2_with (at_builtin; (refine Lib.wpList_append_run _ rfl _ _ 24 3 rfl _ _ rfl rfl _ _ hrun ?_))
            go_roundw
            case rel => exact ⟨k + 1, _, true, by omega, by go_num, rfl, hnew.out, by simp; omega, hown3.out, hB3⟩
            case measure => simp [intOf]; omega
          · have h9' : (8 : Int) < (row.length : Int) + (m : Int) := by omega
            have hN : Hid (prow8 t.data.toList = none) := Lib.hid (prow8_long _ (k + 1) hnew.out (by simp; omega))
            go_wp2_with (at_builtin; (refine Lib.wpList_append_run _ rfl _ _ 24 3 rfl _ _ rfl rfl _ _ hrun ?_))
            go_ret2
            exact RankR.no hN.out hB3
      · have HDG := Lib.hid hdg
        have hg := fun W => groupSize_no b.toNat W hc256 HDG.out
        clear hdg
        by_cases hp0 : piP b.toNat = 0
        · have hN : Hid (prow8 t.data.toList = none) := Lib.hid (prow8_dead _ (k + 1) (by rw [HC.out]; simp only [prS]; rw [if_neg HDG.out, if_pos hp0]))
          have hpe : perr (piP b.toNat) = 6 := by rw [hp0]; rfl
          go_wp2_with fail
          refine (hg _).mono ?_
          rintro e w2 ⟨rfl, rfl⟩
          go_wp2_with fail
          refine (parse_any b.toNat _ (hK.below hB hK.1)).mono ?_
          rintro e w2 ⟨rfl, rfl⟩
          rw [hpe]
          go_wp2
          go_ret2
          exact RankR.no hN.out hB
        · have hpe : perr (piP b.toNat) = 0 := by unfold perr; rw [if_neg hp0]
          have hnew : Hid (prT t.data.toList (k + 1) = some (row ++ [piP b.toNat], false)) := Lib.hid (by rw [HC.out]; simp only [prS]; rw [if_neg HDG.out, if_neg hp0])
          generalize hpv : piP b.toNat = p at *
          clear hp0
          go_wp2_with fail
          refine (hg _).mono ?_
          rintro e w2 ⟨rfl, rfl⟩
          go_wp2_with fail
          refine (parse_any b.toNat _ (hK.below hB hK.1)).mono ?_
          rintro e w2 ⟨rfl, rfl⟩
          rw [hpv, hpe]
          go_wp2_with (at_builtin; (refine wpList_append_own _ rfl _ _ 24 rfl w.heap.size 41 i0 (.int .i8 0) 1 1 Tryz.underlying24 hi hz0 hz1 hz2 rfl (by decide) _ _ _ rfl (hown.alloc _) ⟨w2.heap.size, 0, none⟩ 1 1 [.int .i8 p] rfl rfl ?c1 ?c2 ?c3 ?c4 ?c5 ?_))
          case c1 =>
            intro j u hj
            match j, hj with
            | 0, hj => simp at hj; subst hj; simp [Addr.add]
          case c2 => intro u hu; simp at hu; subst hu; rfl
          case c3 => unfold maxLen; omega
          case c4 => omega
          case c5 => have := hB.size; simp; omega
          intro v' w3 hown' hgrow _
          obtain ⟨g, cap, rfl⟩ := Joins.ownsRow_form hown' (by omega)
          have hB3 : Below w.heap.size w w3 := (hB.alloc hB.size _).grown hgrow (by have := hB.size; simp; omega) (fun r e => (World.ownsRow.lt hown r e).1)
          have hown3 : Hid (w3.ownsRow w.heap.size 41 1 (.slice (some ⟨g, 0, none⟩) (row.length + 1) cap) (row ++ [p]).length (vpcs (row ++ [p]))) := Lib.hid (by
            have e : vpcs (row ++ [p]) = vpcs row ++ [.int .i8 p] := by simp [vpcs, vpc]
            rw [e, List.length_append, List.length_singleton]
            exact hown')
          clear hown hown' hgrow
          by_cases h9 : row.length + 1 ≤ 8
          · have h9' : ¬ (8 : Int) < (row.length : Int) + 1 := by omega
            go_wp2
            go_roundw
            case rel => exact ⟨k + 1, _, false, by omega, by go_num, rfl, hnew.out, by simp; omega, hown3.out, hB3⟩
            case measure => simp [intOf]; omega
          · have h9' : (8 : Int) < (row.length : Int) + 1 := by omega
            have hN : Hid (prow8 t.data.toList = none) := Lib.hid (prow8_long _ (k + 1) hnew.out (by simp; omega))
            go_wp2
            go_ret2
            exact RankR.no hN.out hB3
    · have hkl : k = t.size := by omega
      have hN : Hid (prow8 t.data.toList = some row) := Lib.hid (by
        unfold prow8 prow
        rw [HT.out, ← hkl, hpr]
        simp; omega)
      subst hkl
      go_wp2
      go_ret2
      exact RankR.yes hN.out hown hB

end Go.Proofs.YtelkmdklpcfobaaGreatDoor

/- Texts of boards: what the program's reading computes is what the document's does. Plain mathematics. -/
namespace Go.Proofs.YtelkmdklpcfobaaGreatDoor
open Go.RowKit

/-- the program's reading, so many ranks of it, from the last part on. -/
def pgT (ts : List (List UInt8)) : Nat → Option (Nat × List Int)
  | 0 => some (0, [])
  | m + 1 => match pgT ts m with
    | none => none
    | some (f, ps) => match prow8 (ts[ts.length - 1 - m]?.getD []) with
      | none => none
      | some row => if 0 < m ∧ row.length ≠ f then none else some (row.length, ps ++ row)
def pgFin (n : Nat) (st : Option (Nat × List Int)) : Option (Nat × Nat × List Int) := match st with
  | none => none
  | some (f, ps) => if 3 ≤ f ∧ f ≤ 8 ∧ 3 ≤ n ∧ n ≤ 8 then some (f, n, ps) else none
def pgParse (L : List UInt8) : Option (Nat × Nat × List Int) := pgFin (parts9 L).length (pgT (parts9 L) (parts9 L).length)

theorem pgT_dead (ts : List (List UInt8)) (m : Nat) (h : pgT ts m = none) : ∀ j, pgT ts (m + j) = none
  | 0 => h
  | j + 1 => by
    show pgT ts ((m + j) + 1) = none
    unfold pgT
    rw [pgT_dead ts m h j]
theorem pgT_end (ts : List (List UInt8)) (m : Nat) (hm : m ≤ ts.length) (h : pgT ts m = none) : pgT ts ts.length = none := by
  have := pgT_dead ts m h (ts.length - m)
  rwa [show m + (ts.length - m) = ts.length by omega] at this
theorem prow8_len {t : List UInt8} {row : List Int} (h : prow8 t = some row) : row.length ≤ 8 := by
  unfold prow8 at h
  split at h
  · split at h
    · cases h; assumption
    · cases h
  · cases h

/-- where the program stands, there the document stands. -/
theorem pgT_brT (ts : List (List UInt8)) (m : Nat) (hm : m ≤ ts.length) : match pgT ts m with
    | none => brT ts m = none
    | some (f, ps) => f ≤ 8 ∧ (m = 0 → f = 0 ∧ ps = []) ∧ ps.length = m * f ∧ (m = 0 ∨ 3 ≤ f → brT ts m = some (f, ps)) ∧ (0 < m → f < 3 → brT ts m = none) := by
  induction m with
  | zero => simp [pgT, brT]
  | succ m ih =>
    have ih := ih (by omega)
    rw [brT_succ ts m (by omega)]
    unfold pgT
    cases hp : pgT ts m with
    | none =>
      rw [hp] at ih
      simp only at ih ⊢
      rw [ih]
      rfl
    | some st =>
      obtain ⟨f, ps⟩ := st
      rw [hp] at ih
      simp only at ih ⊢
      obtain ⟨h8, hz, hl, hy, hn⟩ := ih
      generalize ts[ts.length - 1 - m]?.getD [] = t
      cases hr : prow t with
      | none =>
        have hq : prow8 t = none := by unfold prow8; rw [hr]
        rw [hq]
        simp only
        unfold brS
        split
        · rfl
        · rw [hr]
      | some row =>
        by_cases hlen : row.length ≤ 8
        · have hq : prow8 t = some row := by unfold prow8; rw [hr]; simp [hlen]
          rw [hq]
          simp only
          by_cases hne : 0 < m ∧ row.length ≠ f
          · rw [if_pos hne]
            simp only
            by_cases h3 : 3 ≤ f
            · rw [hy (.inr h3)]
              simp only [brS, hr]
              rw [if_pos]
              refine .inr (.inr ⟨?_, hne.2⟩)
              rw [hl]
              exact Nat.mul_pos hne.1 (by omega)
            · rw [hn hne.1 (by omega)]
              rfl
          · rw [if_neg hne]
            simp only
            refine ⟨hlen, fun h => by omega, ?_, fun h => ?_, fun _ h => ?_⟩
            · rw [List.length_append, hl, Nat.add_mul, Nat.one_mul]
              by_cases hm0 : m = 0
              · subst hm0; simp
              · have : row.length = f := Classical.byContradiction fun hc => hne ⟨by omega, hc⟩
                rw [this]
            · have h3 : 3 ≤ row.length := by omega
              have hb : brT ts m = some (f, ps) := hy (by
                by_cases hm0 : m = 0
                · exact .inl hm0
                · have : row.length = f := Classical.byContradiction fun hc => hne ⟨by omega, hc⟩
                  exact .inr (by omega))
              rw [hb]
              simp only [brS, hr]
              rw [if_neg]
              rintro (hc | hc | ⟨hc, hc2⟩)
              · omega
              · omega
              · refine hne ⟨?_, hc2⟩
                by_cases hm0 : m = 0
                · rw [(hz hm0).2] at hc; simp at hc
                · omega
            · by_cases hm0 : m = 0
              · rw [hy (.inl hm0)]
                simp only [brS, hr]
                rw [if_pos (.inl h)]
              · have : row.length = f := Classical.byContradiction fun hc => hne ⟨by omega, hc⟩
                rw [hn (by omega) (by omega)]
                rfl
        · have hq : prow8 t = none := by unfold prow8; rw [hr]; simp; omega
          rw [hq]
          simp only
          unfold brS
          split
          · rfl
          · rw [hr]
            simp only
            rw [if_pos (.inr (.inl (by omega)))]

theorem pgParse_eq (L : List UInt8) : pgParse L = parseB L := by
  obtain ⟨h1, h2, h3⟩ := parts9_or L
  rcases h1 with h1 | ⟨h9, hn⟩
  · have hm := pgT_brT (parts9 L) (parts9 L).length (Nat.le_refl _)
    unfold pgParse parseB pgFin
    rw [← h1]
    by_cases hr : (parts9 L).length < 3 ∨ 8 < (parts9 L).length
    · rw [if_pos hr]
      split
      · rfl
      · rw [if_neg (by omega)]
    · rw [if_neg hr]
      cases hp : pgT (parts9 L) (parts9 L).length with
      | none =>
        rw [hp] at hm
        simp only at hm ⊢
        rw [hm]
        rfl
      | some st =>
        obtain ⟨f, ps⟩ := st
        rw [hp] at hm
        simp only at hm ⊢
        obtain ⟨h8, _, _, hy, hn⟩ := hm
        by_cases h3 : 3 ≤ f
        · rw [hy (.inr h3), if_pos ⟨h3, h8, by omega, by omega⟩]
          rfl
        · rw [hn (by omega) (by omega), if_neg (by omega)]
          rfl
  · rw [parts9_none hn]
    unfold pgParse pgFin
    rw [h9]
    split
    · rfl
    · rw [if_neg (by omega)]

end Go.Proofs.YtelkmdklpcfobaaGreatDoor
