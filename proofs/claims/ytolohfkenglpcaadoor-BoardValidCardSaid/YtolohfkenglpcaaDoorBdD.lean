/- Boards: the document's lists of the squares of a piece and of a side, and its sum of values. -/
import Derived.Test.YtolohfkenglpcaaDoorBdC
import Derived.Test.YtolohfkenglpcaaDoorSqX
namespace Go.Proofs.YtolohfkenglpcaaDoor
open Go.RowKit

/-- the places among the first k whose piece is such. -/
def idxTo (P : Int → Bool) (l : List Int) (k : Nat) : List Nat := (List.range k).filter (fun i => P (l[i]?.getD 0))
def idx (P : Int → Bool) (l : List Int) : List Nat := idxTo P l l.length
theorem idxTo_yes (P : Int → Bool) (l : List Int) (k : Nat) (h : P (l[k]?.getD 0) = true) : idxTo P l (k + 1) = idxTo P l k ++ [k] := by
  unfold idxTo; rw [List.range_succ, List.filter_append]; simp [h]
theorem idxTo_no (P : Int → Bool) (l : List Int) (k : Nat) (h : P (l[k]?.getD 0) = false) : idxTo P l (k + 1) = idxTo P l k := by
  unfold idxTo; rw [List.range_succ, List.filter_append]; simp [h]
theorem idxTo_le (P : Int → Bool) (l : List Int) (k : Nat) : (idxTo P l k).length ≤ k := by
  unfold idxTo
  have := List.length_filter_le (fun i => P (l[i]?.getD 0)) (List.range k)
  simpa using this
theorem idx_lt {P : Int → Bool} {l : List Int} {i : Nat} (h : i ∈ idx P l) : i < l.length ∧ P (l[i]?.getD 0) = true := by
  unfold idx idxTo at h
  rw [List.mem_filter, List.mem_range] at h
  exact h
def eqP (p x : Int) : Bool := x == p
def sgnP (p : Int) : Int := if p < 0 then -1 else if 0 < p then 1 else 0
def sdP (s x : Int) : Bool := sgnP x == s

theorem rSide_any (p : Int) (h : okP p) (w : World) : Calls Tryd.prog 47 #[.int .i8 p] w fun e w' => e = .returned (.int .i64 (sgnP p)) ∧ w = w' := by
  obtain ⟨h0, h1⟩ := h
  by_cases hn : p < 0
  · obtain ⟨i, rfl⟩ : ∃ i : Nat, p = -(i : Int) := ⟨(-p).toNat, by omega⟩
    have e : sgnP (-(i : Int)) = -1 := by unfold sgnP; rw [if_pos hn]
    rw [e]
    exact rSide_neg i (by omega) (by omega) w
  · by_cases hp : 0 < p
    · obtain ⟨i, rfl⟩ : ∃ i : Nat, p = (i : Int) := ⟨p.toNat, by omega⟩
      have e : sgnP (i : Int) = 1 := by unfold sgnP; rw [if_neg hn, if_pos hp]
      rw [e]
      exact rSide_pos i (by omega) (by omega) w
    · obtain rfl : p = 0 := by omega
      exact rSide_zero w
/-- the value of a piece. -/
def valP (p : Int) : Int := if p = 0 then 0 else vlu (p.natAbs - 1)
theorem vlu_le : ∀ i, vlu i ≤ 9 := by
  intro i
  by_cases h : i < 15
  · exact (show ∀ i, i < 15 → vlu i ≤ 9 by decide +kernel) i h
  · unfold vlu; rw [List.getD_eq_getElem?_getD, List.getElem?_eq_none (by simp; omega)]; simp
theorem valP_bd (p : Int) : 0 ≤ valP p ∧ valP p ≤ 9 := by
  unfold valP
  have := vlu_le (p.natAbs - 1)
  split <;> omega
theorem rValue_any (p : Int) (h : okP p) (w : World) : Calls Tryd.prog 48 #[.int .i8 p] w fun e w' => e = .returned (.int .i64 (valP p)) ∧ w = w' := by
  obtain ⟨h0, h1⟩ := h
  by_cases hn : p < 0
  · obtain ⟨i, rfl⟩ : ∃ i : Nat, p = -(i : Int) := ⟨(-p).toNat, by omega⟩
    have e : valP (-(i : Int)) = vlu (i - 1) := by unfold valP; rw [if_neg (by omega), Int.natAbs_neg, Int.natAbs_natCast]
    rw [e]
    exact rValue_neg i (by omega) (by omega) w
  · by_cases hp : 0 < p
    · obtain ⟨i, rfl⟩ : ∃ i : Nat, p = (i : Int) := ⟨p.toNat, by omega⟩
      have e : valP (i : Int) = vlu (i - 1) := by unfold valP; rw [if_neg (by omega), Int.natAbs_natCast]
      rw [e]
      exact rValue_pos i (by omega) (by omega) w
    · obtain rfl : p = 0 := by omega
      exact rValue_zero w

set_option maxRecDepth 100000 in
set_option maxHeartbeats 1000000 in
theorem rList_any (F R : Int) (l : List Int) (A : Option Addr) (c : Nat) (p : Int) (w : World) (hlen : l.length ≤ 100000) (hA : RdP w w.heap.size A l c) :
    Calls Tryd.prog 28 #[.agg #[.int .i64 F, .int .i64 R, .slice A l.length c], .int .i8 p] w fun e w' => ∃ v, e = .returned v ∧ w'.ownsRow w.heap.size 3 1 v (idx (eqP p) l).length (vnats (idx (eqP p) l)) ∧ Below w.heap.size w w' := by
  obtain ⟨i0, hi, hz0, hz1, hz2⟩ := info_parts ints3
  have W0 : Below w.heap.size w (w.alloc (.cells #[.int .i64 F, .int .i64 R, .slice A l.length c] 26)) := box1 _ _
  have A1 := (hA.below W0)
  clear hA
  go_enter Tryd.func28, Tryd.ntmps28
  go_wp2
  go_loopw [5, 6] (fun v i wr => ∃ k : Nat, k ≤ l.length ∧ i = .int .i64 k ∧ wr.ownsRow (w.heap.size + 1) 3 1 v (idxTo (eqP p) l k).length (vnats (idxTo (eqP p) l k)) ∧ Below (w.heap.size + 1) (w.alloc (.cells #[.int .i64 F, .int .i64 R, .slice A l.length c] 26)) wr) (fun _ i _ => l.length - (intOf i).toNat)
  case atStart => exact ⟨0, by omega, rfl, World.ownsRow_nil _ _ _ _, Below.refl _ _⟩
  case round =>
    obtain ⟨k, hk, rfl, hown, hB⟩ := hrel
    have s1 := hB.size
    simp at s1
    have hc2 := hB.cell (p := ⟨w.heap.size, 2, none⟩) (by simp)
    simp [go_sem] at hc2
    by_cases hlt : k < l.length
    · obtain ⟨ad, rfl, hb, hc⟩ := (A1.below (hB.mono (by omega))).at_ hlt
      have hle := idxTo_le (eqP p) l k
      clear A1
      cases hbq : eqP p (l[k]?.getD 0)
      · have HS := Lib.hid (idxTo_no (eqP p) l k hbq)
        have hq : (l[k]?.getD 0 == p) = false := hbq
        generalize hn : l[k]?.getD 0 = n at *
        clear hn hbq
        go_wp2
        go_roundw
        case rel => exact ⟨k + 1, by omega, by go_num, by rw [HS.out]; exact hown, hB⟩
        case measure => simp [intOf]; omega
      · have HS := Lib.hid (idxTo_yes (eqP p) l k hbq)
        have hq : (l[k]?.getD 0 == p) = true := hbq
        have HL : Hid ((idxTo (eqP p) l (k + 1)).length = (idxTo (eqP p) l k).length + 1) := Lib.hid (by rw [HS.out]; simp)
        generalize hn : l[k]?.getD 0 = n at *
        clear hn hbq
        generalize idxTo (eqP p) l k = q at *
        go_wp2_with (at_builtin; (refine wpList_append_own _ rfl _ _ 52 rfl (w.heap.size + 1) 3 i0 (.int .i64 0) 1 8 Tryd.underlying52 hi hz0 hz1 hz2 rfl (by decide) _ _ _ rfl (hown.alloc _) ⟨wr.heap.size, 0, none⟩ 1 1 [.int .i64 (k : Int)] rfl rfl ?c1 ?c2 ?c3 ?c4 ?c5 ?_))
        case c1 =>
          intro j u hj
          match j, hj with
          | 0, hj => simp at hj; subst hj; simp [Addr.add]
        case c2 => intro u hu; simp at hu; subst hu; rfl
        case c3 => unfold maxLen; omega
        case c4 => omega
        case c5 => simp; omega
        intro v' w2 hown' hgrow _
        go_wp2
        go_roundw
        case rel =>
          refine ⟨k + 1, by omega, by go_num, ?_, ?_⟩
          · rw [HL.out, HS.out, vnats_snoc]; exact hown'
          · exact (hB.alloc (by omega) _).grown hgrow (by simp; omega) (fun r e => (World.ownsRow.lt hown r e).1)
        case measure => simp [intOf]; omega
    · have hkl : k = l.length := by omega
      subst hkl
      go_wp2
      go_ret
      exact ⟨_, rfl, World.ownsRow.mono hown (by omega), W0.trans (hB.mono (by omega))⟩

set_option maxRecDepth 100000 in
set_option maxHeartbeats 1000000 in
theorem rSideL_any (F R : Int) (l : List Int) (A : Option Addr) (c : Nat) (s : Int) (w : World) (hlen : l.length ≤ 100000) (hp : ∀ j, j < l.length → okP (l[j]?.getD 0)) (hA : RdP w w.heap.size A l c) :
    Calls Tryd.prog 29 #[.agg #[.int .i64 F, .int .i64 R, .slice A l.length c], .int .i64 s] w fun e w' => ∃ v, e = .returned v ∧ w'.ownsRow w.heap.size 3 1 v (idx (sdP s) l).length (vnats (idx (sdP s) l)) ∧ Below w.heap.size w w' := by
  have HP := Lib.hid hp
  clear hp
  obtain ⟨i0, hi, hz0, hz1, hz2⟩ := info_parts ints3
  have W0 : Below w.heap.size w (w.alloc (.cells #[.int .i64 F, .int .i64 R, .slice A l.length c] 26)) := box1 _ _
  have A1 := (hA.below W0)
  clear hA
  go_enter Tryd.func29, Tryd.ntmps29
  go_wp2
  go_loopw [5, 6] (fun v i wr => ∃ k : Nat, k ≤ l.length ∧ i = .int .i64 k ∧ wr.ownsRow (w.heap.size + 1) 3 1 v (idxTo (sdP s) l k).length (vnats (idxTo (sdP s) l k)) ∧ Below (w.heap.size + 1) (w.alloc (.cells #[.int .i64 F, .int .i64 R, .slice A l.length c] 26)) wr) (fun _ i _ => l.length - (intOf i).toNat)
  case atStart => exact ⟨0, by omega, rfl, World.ownsRow_nil _ _ _ _, Below.refl _ _⟩
  case round =>
    obtain ⟨k, hk, rfl, hown, hB⟩ := hrel
    have s1 := hB.size
    simp at s1
    have hc2 := hB.cell (p := ⟨w.heap.size, 2, none⟩) (by simp)
    simp [go_sem] at hc2
    by_cases hlt : k < l.length
    · obtain ⟨ad, rfl, hb, hc⟩ := (A1.below (hB.mono (by omega))).at_ hlt
      have hle := idxTo_le (sdP s) l k
      clear A1
      have hV := HP.out k hlt
      cases hbq : sdP s (l[k]?.getD 0)
      · have HS := Lib.hid (idxTo_no (sdP s) l k hbq)
        have hq : (sgnP (l[k]?.getD 0) == s) = false := hbq
        generalize hn : l[k]?.getD 0 = n at *
        clear hn hbq
        go_wp2_with fail
        refine (rSide_any n hV _).mono ?_
        rintro e w2 ⟨rfl, rfl⟩
        go_wp2
        go_roundw
        case rel => exact ⟨k + 1, by omega, by go_num, by rw [HS.out]; exact hown, hB⟩
        case measure => simp [intOf]; omega
      · have HS := Lib.hid (idxTo_yes (sdP s) l k hbq)
        have hq : (sgnP (l[k]?.getD 0) == s) = true := hbq
        have HL : Hid ((idxTo (sdP s) l (k + 1)).length = (idxTo (sdP s) l k).length + 1) := Lib.hid (by rw [HS.out]; simp)
        generalize hn : l[k]?.getD 0 = n at *
        clear hn hbq
        generalize idxTo (sdP s) l k = q at *
        go_wp2_with fail
        refine (rSide_any n hV _).mono ?_
        rintro e w1 ⟨rfl, rfl⟩
        go_wp2_with (at_builtin; (refine wpList_append_own _ rfl _ _ 52 rfl (w.heap.size + 1) 3 i0 (.int .i64 0) 1 8 Tryd.underlying52 hi hz0 hz1 hz2 rfl (by decide) _ _ _ rfl (hown.alloc _) ⟨wr.heap.size, 0, none⟩ 1 1 [.int .i64 (k : Int)] rfl rfl ?c1 ?c2 ?c3 ?c4 ?c5 ?_))
        case c1 =>
          intro j u hj
          match j, hj with
          | 0, hj => simp at hj; subst hj; simp [Addr.add]
        case c2 => intro u hu; simp at hu; subst hu; rfl
        case c3 => unfold maxLen; omega
        case c4 => omega
        case c5 => simp; omega
        intro v' w2 hown' hgrow _
        go_wp2
        go_roundw
        case rel =>
          refine ⟨k + 1, by omega, by go_num, ?_, ?_⟩
          · rw [HL.out, HS.out, vnats_snoc]; exact hown'
          · exact (hB.alloc (by omega) _).grown hgrow (by simp; omega) (fun r e => (World.ownsRow.lt hown r e).1)
        case measure => simp [intOf]; omega
    · have hkl : k = l.length := by omega
      subst hkl
      go_wp2
      go_ret
      exact ⟨_, rfl, World.ownsRow.mono hown (by omega), W0.trans (hB.mono (by omega))⟩

/-- the values of the pieces on so many of the squares. -/
def sumV (l : List Int) (q : List Nat) : Int := (q.map fun i => valP (l[i]?.getD 0)).sum
theorem sumV_succ (l : List Int) (q : List Nat) (k : Nat) (h : k < q.length) : sumV l (q.take (k + 1)) = sumV l (q.take k) + valP (l[q[k]?.getD 0]?.getD 0) := by
  unfold sumV
  rw [List.take_succ_eq_append_getElem h, List.map_append, List.sum_append, List.getElem?_eq_getElem h]
  simp
theorem sumV_bd (l : List Int) (q : List Nat) (k : Nat) (hk : k ≤ q.length) : 0 ≤ sumV l (q.take k) ∧ sumV l (q.take k) ≤ 9 * k := by
  induction k with
  | zero => simp [sumV]
  | succ k ih =>
    have := ih (by omega)
    rw [sumV_succ l q k (by omega)]
    have := valP_bd (l[q[k]?.getD 0]?.getD 0)
    omega
def matP (s : Int) (l : List Int) : Int := sumV l (idx (sdP s) l)

set_option maxRecDepth 100000 in
set_option maxHeartbeats 1000000 in
theorem rMaterial_any (F R : Int) (l : List Int) (A : Option Addr) (c : Nat) (s : Int) (w : World) (hlen : l.length ≤ 100000) (hp : ∀ j, j < l.length → okP (l[j]?.getD 0)) (hA : RdP w w.heap.size A l c) :
    Calls Tryd.prog 30 #[.agg #[.int .i64 F, .int .i64 R, .slice A l.length c], .int .i64 s] w fun e w' => e = .returned (.int .i64 (matP s l)) ∧ Below w.heap.size w w' := by
  have HP := Lib.hid hp
  have W0 : Below w.heap.size w (w.alloc (.cells #[.int .i64 F, .int .i64 R, .slice A l.length c] 26)) := box1 _ _
  have A1 := (hA.below W0).grow W0.size
  clear hA
  go_enter Tryd.func30, Tryd.ntmps30
  go_wp2_with fail
  refine (rSideL_any F R l A c s _ hlen hp A1).mono ?_
  clear hp
  rintro e w1 ⟨v, rfl, hown, hb⟩
  obtain ⟨Q, cq, rfl, _, hQ⟩ := RdI.own' hown
  have hc2 := hb.cell (p := ⟨w.heap.size, 2, none⟩) (by simp)
  simp [go_sem] at hc2
  have A2 := (A1.below hb).grow hb.size
  have s1 := hb.size
  simp at s1
  have hle : (idx (sdP s) l).length ≤ l.length := idxTo_le _ _ _
  have HI : Hid (∀ k, k < (idx (sdP s) l).length → (idx (sdP s) l)[k]?.getD 0 < l.length) := Lib.hid fun k hk => by
    rw [List.getElem?_eq_getElem hk]
    exact (idx_lt (List.getElem_mem hk)).1
  have HM : Hid (matP s l = sumV l (idx (sdP s) l)) := Lib.hid rfl
  clear hown A1
  rw [show (idx (sdP s) l).length = ((idx (sdP s) l).map fun i : Nat => (i : Int)).length by simp]
  generalize idx (sdP s) l = q at *
  go_wp2
  go_loopw [5, 7] (fun v i wr => ∃ k : Nat, k ≤ q.length ∧ i = .int .i64 k ∧ v = .int .i64 (sumV l (q.take k)) ∧ Below w1.heap.size w1 wr) (fun _ i _ => q.length - (intOf i).toNat)
  case atStart => exact ⟨0, by omega, rfl, by simp [sumV], Below.refl _ _⟩
  case round =>
    obtain ⟨k, hk, rfl, rfl, hB⟩ := hrel
    have s2 := hB.size
    have d2 := (hB.cell (p := ⟨w.heap.size, 2, none⟩) (by simp; omega)).trans hc2
    by_cases hlt : k < q.length
    · obtain ⟨ad, rfl, hbq, hcq⟩ := (hQ.below hB).at_ (k := k) (by simpa using hlt)
      have hn := HI.out k hlt
      have HS := Lib.hid (sumV_succ l q k hlt)
      have hbd := sumV_bd l q k hk
      have e : (q.map fun i : Nat => (i : Int))[k]?.getD 0 = ((q[k]?.getD 0 : Nat) : Int) := by
        rw [List.getElem?_map, List.getElem?_eq_getElem hlt]; rfl
      rw [e] at hcq
      clear e
      generalize hnn : q[k]?.getD 0 = n at *
      clear hnn
      obtain ⟨ad2, rfl, hb2, hcl⟩ := (A2.below hB).at_ hn
      have hV := HP.out n hn
      clear A2 hQ
      generalize hx : l[n]?.getD 0 = x at *
      clear hx
      have hvb := valP_bd x
      generalize hS : sumV l (q.take k) = S at *
      clear hS
      have hwr : IntKind.i64.wrap (S + valP x) = S + valP x := IntWalk.i64_in _ (by omega)
      have hn' : (n : Int) < (l.length : Int) := by omega
      have hk' : (k : Int) < ((q.map fun i : Nat => (i : Int)).length : Int) := by simp; omega
      go_wp2
      go_quiet ((go_at_call 48; exact Calls.quiet_of_same ((rValue_any x hV _).mono fun _ _ h => ⟨h.1, h.2.symm⟩)))
      clear hwr
      go_wp2
      go_roundw
      case rel => exact ⟨k + 1, by omega, by go_num, by rw [HS.out], drawn hB _⟩
      case measure => simp [intOf]; omega
    · have hkl : k = q.length := by omega
      subst hkl
      have hlt' : ¬ ((q.length : Int) < ((q.map fun i : Nat => (i : Int)).length : Int)) := by simp
      go_wp2
      go_ret
      exact ⟨ret_int HM.out.symm, chain (chain W0 hb) hB⟩

end Go.Proofs.YtolohfkenglpcaaDoor
