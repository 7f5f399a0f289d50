/- Texts of boards: the iterator over the ranks of a board. -/
import Derived.RangeFuncNested
import Derived.RangeFuncBound
import Derived.RangeFuncCalls
import Derived.RangeFuncLeaves
import Derived.RangeFuncFrom
import Derived.RangeFuncBox
import Derived.Shelf.Abstract
import Derived.Shelf.RegionOpen
import Derived.WalkKit
import Derived.OwnWalkIn
import Derived.TacticsInMore
import Derived.LoopNIn
import Derived.LoopIn
import Derived.Sort.QuietTacIn
import Derived.Test.YtolohfkenglpcaaDoorBpG
namespace Go.Proofs.YtolohfkenglpcaaDoor
open Go.RowKit Go.Shelf
attribute [local go_sem] Oper.semAt_some

/-- the numbers of ranks. -/
def nums {R : Nat} (l : List (Fin R)) : List Nat := l.map (·.1)
theorem nums_snoc {R : Nat} (l : List (Fin R)) (x : Fin R) : nums (l ++ [x]) = nums l ++ [x.1] := by simp [nums]

/-- what a round keeps: all below n₀, and the two boxes that the iterator reads. -/
def KpC (n₀ Bs Bn : Nat) (W W' : World) : Prop := Below n₀ W W' ∧ W'.heap[Bs]? = W.heap[Bs]? ∧ W'.heap[Bn]? = W.heap[Bn]?
theorem KpC.trans {n₀ Bs Bn : Nat} {A B C : World} (h : KpC n₀ Bs Bn A B) (k : KpC n₀ Bs Bn B C) : KpC n₀ Bs Bn A C := ⟨h.1.trans k.1, k.2.1.trans h.2.1, k.2.2.trans h.2.2⟩
theorem KpC.refl (n₀ Bs Bn : Nat) (A : World) : KpC n₀ Bs Bn A A := ⟨Below.refl _ _, rfl, rfl⟩
theorem KpC.s {n₀ Bs Bn : Nat} {A B : World} (h : KpC n₀ Bs Bn A B) : B.cell? ⟨Bs, 0, none⟩ = A.cell? ⟨Bs, 0, none⟩ := World.cell?_of_block h.2.1
theorem KpC.n {n₀ Bs Bn : Nat} {A B : World} (h : KpC n₀ Bs Bn A B) : B.cell? ⟨Bn, 0, none⟩ = A.cell? ⟨Bn, 0, none⟩ := World.cell?_of_block h.2.2

set_option maxRecDepth 100000 in
set_option maxHeartbeats 1000000 in
theorem chunk1_in (n l Bs Bn n₀ F R len c : Nat) (ad : Addr) (hn : 1 ≤ n) (hF : 0 < F) (hF8 : F ≤ 8) (hR : R ≤ 8) (hlen : len = R * F) (hc : len ≤ c) (J Jx : List (Fin R) → World → Prop) (hJd : ∀ pre W q, J pre W → J pre (W.drewN q))
    (hY : ∀ pre x W, J pre W → pre.length < R → YieldAt Fence.wide (n - 1) Tryd.prog l #[.slice (some (ad.add (x.1 * F))) F F] W fun e W' =>
      (e = .returned (.bool true) ∧ J (pre ++ [x]) W' ∧ KpC n₀ Bs Bn W W') ∨ (e = .returned (.bool false) ∧ Jx (pre ++ [x]) W'))
    (W : World) (hBs : W.cell? ⟨Bs, 0, none⟩ = some (.slice (some ad) len c)) (hBn : W.cell? ⟨Bn, 0, none⟩ = some (.int .i64 F)) (h0 : J [] W) :
    CallsIn Fence.wide n Tryd.prog 60 #[.func (.yield l) #[] #[], .pointer (some ⟨Bs, 0, none⟩), .pointer (some ⟨Bn, 0, none⟩)] W fun e W' => (∃ v, e = .returned v) ∧
      ((∃ ys, nums ys = List.range R ∧ J ys W') ∨ (∃ pre, True ∧ Jx pre W')) := by
  refine callsIn_of_wp Tryd.func60 rfl trivial ?_ rfl
  simp only [Tryd.ntmps60, List.size_toArray, List.length_cons, List.length_nil, Nat.reduceAdd, Nat.reduceSub, Array.replicate_succ, Array.replicate_zero, List.push_toArray, List.append_toArray, List.nil_append, List.cons_append]
  gi_wp2
  gi_loopw [4, 5] (fun i _ wr => ∃ (r x : Nat) (pre : List (Fin R)), r ≤ R ∧ x = r * F ∧ i = .int .i64 x ∧ nums pre = List.range r ∧ J pre wr ∧ KpC n₀ Bs Bn W wr)
    (fun i _ _ => len - (intOf i).toNat)
  case atStart => exact ⟨0, 0, [], Nat.zero_le _, by simp, rfl, rfl, h0, KpC.refl _ _ _ _⟩
  case round =>
    obtain ⟨r, x, pre, hr, hx, rfl, hpre, hJs, hB⟩ := hrel
    have hpl : pre.length = r := by have := congrArg List.length hpre; simpa [nums] using this
    have HPR := Lib.hid hpre
    clear hpre
    have hcs : wr.cell? ⟨Bs, 0, none⟩ = some (.slice (some ad) len c) := hB.s.trans hBs
    have hcn : wr.cell? ⟨Bn, 0, none⟩ = some (.int .i64 F) := hB.n.trans hBn
    have hl64 : len ≤ 64 := by rw [hlen]; exact Nat.mul_le_mul hR hF8
    by_cases hlt : r < R
    · have hxF : x + F ≤ len := by
        rw [hlen, hx]
        have : (r + 1) * F ≤ R * F := Nat.mul_le_mul_right F hlt
        rwa [Nat.add_mul, Nat.one_mul] at this
      have hYr := Lib.hid (fun q => hY pre ⟨r, hlt⟩ (wr.drewN q) (hJd _ _ q hJs) (by omega))
      have HX := Lib.hid hx
      have HL := Lib.hid hlen
      clear hx hlen hY
      have hmin : min (F : Int) (((len - x : Nat) : Int)) = F := by omega
      have hxl : x ≤ len := by omega
      have hcx : ¬ c = x := by omega
      have hF0 : ¬ F = 0 := by omega
      have hxc : (x : Int) + (F : Int) ≤ (c : Int) := by omega
      have hxc' : x + F ≤ c := by omega
      have hwx : IntKind.i64.wrap ((x : Int) + (F : Int)) = (x : Int) + (F : Int) := IntWalk.i64_in _ (by omega)
      have hq1 : ∀ w, (Instr.sliceAt 24 (.slice (some ad) len c) (some (.int .i64 (x : Int))) none none).run Tryd.prog w = .ok (.slice (some (ad.add x)) (len - x) (c - x)) w := by
        intro w
        simp [go_sem, hxl, hcx]
      gi_wp2
      gi_quiet_th (fail)
      have hq2 : ∀ w, (Instr.sliceAt 24 (.slice (some ad) len c) (some (.int .i64 (x : Int))) (some (.int .i64 ((x : Int) + (F : Int)))) (some (.int .i64 ((x : Int) + (F : Int))))).run Tryd.prog w = .ok (.slice (some (ad.add x)) F F) w := by
        intro w
        have e : (((x : Int) + (F : Int)).toNat) = x + F := by omega
        have hF0' : ¬ x + F = x := by omega
        have h0' : (0 : Int) ≤ (x : Int) + (F : Int) := by omega
        simp [go_sem, hxc, e, hF0, h0']
      have hcs2 : (wr.drewN nq).cell? ⟨Bs, 0, none⟩ = some (.slice (some ad) len c) := hcs
      have hcn2 : (wr.drewN nq).cell? ⟨Bn, 0, none⟩ = some (.int .i64 F) := hcn
      obtain ⟨fn, tmps, assign, body, hy, hR⟩ := hYr.out nq
      rw [← HX.out] at hy
      have hBq : KpC n₀ Bs Bn W (wr.drewN nq) := ⟨⟨hB.1.os, hB.1.tape, hB.1.output, hB.1.size, hB.1.block⟩, hB.2.1, hB.2.2⟩
      clear hYr
      generalize wr.drewN nq = wq at *
      gi_wp2
      refine hR.mono ?_
      rintro e W3 (⟨rfl, hJ3, hk3⟩ | ⟨rfl, hJx3⟩)
      · have hcn3 : W3.cell? ⟨Bn, 0, none⟩ = some (.int .i64 F) := hk3.n.trans hcn2
        gi_wp2
        go_roundw
        case rel => exact ⟨r + 1, x + F, _, by omega, by rw [HX.out, Nat.add_mul, Nat.one_mul], by go_num, by rw [nums_snoc, HPR.out, List.range_succ], hJ3, hBq.trans hk3⟩
        case measure => simp [intOf]; omega
      · gi_wp2
        refine bodyPost_ret (results_none rfl _ _ _) rfl ?_
        exact ⟨⟨_, rfl⟩, .inr ⟨_, trivial, hJx3⟩⟩
    · have hrR : r = R := by omega
      have HPR2 : Hid (nums pre = List.range R) := Lib.hid (by rw [HPR.out, hrR])
      have hxl : ¬ x < len := by rw [hlen, hx, hrR]; omega
      gi_wp2
      go_end0
      exact ⟨⟨_, rfl⟩, .inl ⟨_, HPR2.out, hJs⟩⟩

theorem chunk_any (A : Option Addr) (n c F : Nat) (h : 0 < F) (w : World) :
    Calls Tryd.prog 49 #[.slice A n c, .int .i64 F] w fun e w' => e = .returned (.func (.func 60) #[] #[.pointer (some ⟨w.heap.size, 0, none⟩), .pointer (some ⟨w.heap.size + 1, 0, none⟩)]) ∧ w' = (w.alloc (.cells #[.slice A n c] 24)).alloc (.cells #[.int .i64 F] 3) := by
  have h' : ¬ (F : Int) < 1 := by omega
  go_enter Tryd.func49, Tryd.ntmps49
  go_wp2
  go_ret
  exact ⟨rfl, rfl⟩

theorem chunk_stops (n Bs Bn n₀ F R len c : Nat) (ad : Addr) (hn : 1 ≤ n) (hF : 0 < F) (hF8 : F ≤ 8) (hR : R ≤ 8) (hlen : len = R * F) (hc : len ≤ c) (w : World) (hBs1 : Bs < w.heap.size) (hBn1 : Bn < w.heap.size)
    (hBs : w.cell? ⟨Bs, 0, none⟩ = some (.slice (some ad) len c)) (hBn : w.cell? ⟨Bn, 0, none⟩ = some (.int .i64 F)) :
    SeqStopsK Fence.wide n Tryd.prog 60 #[.pointer (some ⟨Bs, 0, none⟩), .pointer (some ⟨Bn, 0, none⟩)] (fun x : Fin R => #[.slice (some (ad.add (x.1 * F))) F F]) (KpC n₀ Bs Bn) (fun ys => nums ys = List.range R) (fun _ => True) R w := fun l J Jx W hW hJ _ hY h0 =>
  chunk1_in n l Bs Bn n₀ F R len c ad hn hF hF8 hR hlen hc J Jx (fun pre W q hj => hJ pre W (W.drewN q) none hj ⟨rfl, rfl, rfl, Nat.le_refl _, fun _ _ _ => rfl⟩ (fun r e => by cases e)) hY W ((hW.cell (p := ⟨Bs, 0, none⟩) hBs1).trans hBs) ((hW.cell (p := ⟨Bn, 0, none⟩) hBn1).trans hBn) h0

end Go.Proofs.YtolohfkenglpcaaDoor
