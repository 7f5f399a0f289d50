/- Each: the iterator over the squares of a set gives them in order, as far as the loop takes them. Under the table of package math/bits as its text lays it. -/
import Derived.RangeFuncNested
import Derived.RangeFuncBound
import Derived.RangeFuncCalls
import Derived.RangeFuncLeaves
import Derived.Shelf.Abstract
import Derived.Shelf.RegionOpen
import Derived.WalkKit
import Derived.OwnWalkIn
import Derived.TacticsInMore
import Derived.LoopNIn
import Derived.LoopIn
import Derived.Shelf.Spec.TrailingZeros
import Derived.Test.YtidfefaakkpoaaaDoorSqD
namespace Go.Proofs.YtidfefaakkpoaaaDoor
open Go.RowKit Go.Shelf
attribute [local go_sem] Oper.semAt_some

/-- the table of math/bits lies in its variable. -/
def Tab (w : World) : Prop := 1 + 1 ≤ w.heap.size ∧ TabAt 1 Lib.deBruijn64tab w
theorem Tab.below {w w' : World} {B : Nat} (h : Tab w) (hb : Below B w w') (hB : 1 + 1 ≤ B) : Tab w' :=
  ⟨Nat.le_trans h.1 hb.size, fun j hj => (hb.cell (p := ⟨1, j, none⟩) hB).trans (h.2 j hj)⟩

set_option maxRecDepth 100000 in
set_option maxHeartbeats 1000000 in
theorem tz_core (x k idx : Nat) (w : World) (hx0 : ((x : Int) == 0) = false)
    (key : IntKind.u64.wrap (bits BinOp.and IntKind.u64 (x : Int) (IntKind.u64.wrap (-(x : Int))) * 285870213051353865) / 288230376151711744 = (idx : Int))
    (hi : idx < 64) (hk : k < 64) (hcell : w.cell? ⟨1, idx, none⟩ = some (.int .u8 k)) :
    Calls Tryd.prog 75 #[.int .u64 x] w fun e w' => e = .returned (.int .i64 k) ∧ w' = w := by
  go_enter Tryd.func75, Tryd.ntmps75
  go_wp2_with (simp only [key])
  go_ret
  exact ⟨rfl, rfl⟩

theorem tz_any (x : Nat) (hx0 : x ≠ 0) (hx : x < 18446744073709551616) (w : World) (hT : Tab w) :
    Calls Tryd.prog 75 #[.int .u64 x] w fun e w' => e = .returned (.int .i64 (Lib.ctz 64 x)) ∧ w' = w := by
  obtain ⟨hlow, hk⟩ := Lib.lowest_bit 64 x hx0 hx
  obtain ⟨hi, htab⟩ := Lib.deBruijn64_at _ hk
  have hcell := hT.2 _ hi
  rw [htab] at hcell
  exact tz_core x _ _ w (by simp; omega) (tz64_key x _ hx hx0 hlow) hi hk hcell

/-- a square of a set. -/
abbrev Sq (X : Nat) := { i : Nat // i ∈ listOf X }
def vals {X : Nat} (l : List (Sq X)) : List Nat := l.map (·.1)
theorem vals_snoc {X : Nat} (l : List (Sq X)) (x : Sq X) : vals (l ++ [x]) = vals l ++ [x.1] := by simp [vals]
theorem vals_len {X : Nat} (l : List (Sq X)) : (vals l).length = l.length := by simp [vals]

theorem and_pred (x : Nat) (h0 : x ≠ 0) (hx : x < 18446744073709551616) : bits .and .u64 (x : Int) ((x : Int) - 1) = ((x &&& (x - 1) : Nat) : Int) := by
  have e : ((x : Int) - 1) = ((x - 1 : Nat) : Int) := by omega
  rw [e, u64_and_nat x (x - 1) hx (by omega)]

set_option maxRecDepth 100000 in
set_option maxHeartbeats 1000000 in
theorem each1_in (n l Bn n₀ X : Nat) (hn : 1 ≤ n) (hX : X < 18446744073709551616) (J Jx : List (Sq X) → World → Prop)
    (hY : ∀ pre x W, J pre W → pre.length < (listOf X).length → YieldAt Fence.wide (n - 1) Tryd.prog l #[.int .i64 (x.1 : Int)] W fun e W' =>
      (e = .returned (.bool true) ∧ J (pre ++ [x]) W' ∧ Below n₀ W W') ∨ (e = .returned (.bool false) ∧ Jx (pre ++ [x]) W'))
    (W : World) (hBn : W.cell? ⟨Bn, 0, none⟩ = some (.int .u64 X)) (hT : Tab W) (h1 : 1 + 1 ≤ n₀) (h0 : J [] W) :
    CallsIn Fence.wide n Tryd.prog 74 #[.func (.yield l) #[] #[], .pointer (some ⟨Bn, 0, none⟩)] W fun e W' => (∃ v, e = .returned v) ∧
      ((∃ ys, vals ys = listOf X ∧ J ys W') ∨ (∃ pre, vals pre <+: listOf X ∧ Jx pre W')) := by
  refine callsIn_of_wp Tryd.func74 rfl trivial ?_ rfl
  simp only [Tryd.ntmps74, List.size_toArray, List.length_cons, List.length_nil, Nat.reduceAdd, Nat.reduceSub, Array.replicate_succ, Array.replicate_zero, List.push_toArray, List.append_toArray, List.nil_append, List.cons_append]
  gi_wp2
  gi_loopw [3] (fun p wr => ∃ (pre : List (Sq X)) (r : Nat), p = .int .u64 r ∧ r < 18446744073709551616 ∧ vals pre ++ listOf r = listOf X ∧ J pre wr ∧ Below n₀ W wr)
    (fun p _ => (intOf p).toNat)
  case atStart =>
    exact ⟨[], X, rfl, hX, rfl, h0, Below.refl _ _⟩
  case round =>
    obtain ⟨pre, r, rfl, hr, hl, hJs, hB⟩ := hrel
    have HL := Lib.hid hl
    clear hl
    by_cases hr0 : r = 0
    · subst hr0
      have HE : Hid (vals pre = listOf X) := Lib.hid (by have := HL.out; rw [listOf_zero, List.append_nil] at this; exact this)
      gi_wp2
      go_end0
      exact ⟨⟨_, rfl⟩, .inl ⟨pre, HE.out, hJs⟩⟩
    · have hstep := listOf_step hr0 (by simpa using hr)
      have hmem : Lib.ctz 64 r ∈ listOf X := by
        rw [← HL.out, hstep]
        simp
      have HN : Hid (vals (pre ++ [⟨Lib.ctz 64 r, hmem⟩]) ++ listOf (r &&& (r - 1)) = listOf X) := Lib.hid (by
        have e : vals (pre ++ [⟨Lib.ctz 64 r, hmem⟩]) = vals pre ++ [Lib.ctz 64 r] := vals_snoc pre ⟨_, hmem⟩
        rw [e, List.append_assoc]
        exact (congrArg (vals pre ++ ·) hstep.symm).trans HL.out)
      have hlen : pre.length < (listOf X).length := by
        rw [← HL.out, hstep, List.length_append, vals_len]
        simp
      have HP : Hid (vals (pre ++ [⟨Lib.ctz 64 r, hmem⟩]) <+: listOf X) := Lib.hid ⟨_, HN.out⟩
      have hAnd := and_pred r hr0 hr
      have hlt := and_pred_lt hr0
      have hz : ((r : Int) != 0) = true := by rw [bne_iff_ne]; omega
      have hr1 : (1 : Int) ≤ (r : Int) := by omega
      have hT' := Lib.hid (hT.below hB h1)
      have hYx := Lib.hid (hY pre ⟨Lib.ctz 64 r, hmem⟩ wr hJs hlen)
      clear hY hstep
      gi_wp2_with fail
      refine ⟨trivial, callsIn_wide.2 ((tz_any r hr0 hr _ hT'.out).mono ?_)⟩
      rintro e w1 ⟨rfl, rfl⟩
      obtain ⟨fn, tmps, assign, body, hy, hR⟩ := hYx.out
      gi_wp2
      refine hR.mono ?_
      rintro e W3 (⟨rfl, hJ3, hk3⟩ | ⟨rfl, hJx3⟩)
      · gi_wp2
        go_roundw
        case rel => exact ⟨_, r &&& (r - 1), rfl, by omega, HN.out, hJ3, hB.trans hk3⟩
        case measure => simp [intOf]; omega
      · gi_wp2
        refine bodyPost_ret (results_none rfl _ _ _) rfl ?_
        exact ⟨⟨_, rfl⟩, .inr ⟨_, HP.out, hJx3⟩⟩

theorem each_any (X : Nat) (w : World) :
    Calls Tryd.prog 38 #[.int .u64 X] w fun e w' => e = .returned (.func (.func 74) #[] #[.pointer (some ⟨w.heap.size, 0, none⟩)]) ∧ w' = w.alloc (.cells #[.int .u64 X] 28) := by
  go_enter Tryd.func38, Tryd.ntmps38
  go_wp2
  go_ret
  exact ⟨rfl, rfl⟩

theorem each_stops (n Bn n₀ X : Nat) (hn : 1 ≤ n) (hX : X < 18446744073709551616) (w : World) (hBn : Bn < w.heap.size) (h1 : 1 + 1 ≤ n₀)
    (hc : w.cell? ⟨Bn, 0, none⟩ = some (.int .u64 X)) (hT : Tab w) :
    SeqStopsK Fence.wide n Tryd.prog 74 #[.pointer (some ⟨Bn, 0, none⟩)] (fun x : Sq X => #[Value.int .i64 (x.1 : Int)]) (Below n₀) (fun ys => vals ys = listOf X) (fun pre => vals pre <+: listOf X) (listOf X).length w := fun l J Jx W hW _ _ hY h0 =>
  each1_in n l Bn n₀ X hn hX J Jx hY W ((hW.cell (p := ⟨Bn, 0, none⟩) hBn).trans hc) (hT.below hW hT.1) h1 h0

end Go.Proofs.YtidfefaakkpoaaaDoor
