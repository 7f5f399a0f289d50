/- The program's own functions of lines: single squares, sets of the board, directions of pawns; its ray, an iterator that gives the squares of the document's ray, as far as the loop takes them. -/
import Derived.RangeFuncNested
import Derived.RangeFuncBound
import Derived.RangeFuncCalls
import Derived.RangeFuncLeaves
import Derived.Shelf.Abstract
import Derived.WalkKit
import Derived.OwnWalkIn
import Derived.TacticsInMore
import Derived.LoopNIn
import Derived.LoopIn
import Derived.Sort.QuietThIn
import Derived.Sort.QuietTacIn
import Derived.Sort.BigQuietIn
import Derived.Test.YtejlbjbmpdddkaaDoorSqT
import Derived.Test.YtejlbjbmpdddkaaDoorRyA
namespace Go.Proofs.YtejlbjbmpdddkaaDoor
open Go.RowKit Go.Shelf
attribute [local go_sem] Oper.semAt_some

set_option maxRecDepth 100000 in
set_option maxHeartbeats 400000 in
theorem pSingle_any (n : Int) (h0 : 0 ≤ n) (h1 : n < 64) (w : World) :
    Calls Tryd.prog 32 #[.int .i64 n] w fun e w' => e = .returned (.int .u64 (bitN n.toNat : Int)) ∧ w = w' := by
  have E := Lib.hid (pow_wrap n h1)
  go_enter Tryd.func32, Tryd.ntmps32
  go_wp2
  go_ret
  exact ⟨ret_int E.out, rfl⟩

set_option maxRecDepth 100000 in
set_option maxHeartbeats 400000 in
theorem pIsSet_yes (F R : Int) (X : Nat) (hX : X < 18446744073709551616) (hv : vsz F R) (w : World) :
    Calls Tryd.prog 38 #[.agg #[.int .i64 F, .int .i64 R], .int .u64 X] w fun e w' => e = .returned (.bool (decide (X < 2 ^ (F * R).toNat))) ∧ Below w.heap.size w w' := by
  obtain ⟨m0, m1⟩ := vsz_mul hv
  have hn := andNot_full X (F * R).toNat hX (by omega)
  have hq : (bits .andNot .u64 (X : Int) (fullN (F * R).toNat : Int) == 0) = decide (X < 2 ^ (F * R).toNat) := by
    rw [bne] at hn
    cases h : (bits .andNot .u64 (X : Int) (fullN (F * R).toNat : Int) == 0)
    · rw [h] at hn; revert hn; cases decide (X < 2 ^ (F * R).toNat) <;> simp
    · rw [h] at hn; revert hn; cases decide (X < 2 ^ (F * R).toNat) <;> simp
  have HQ := Lib.hid hq
  clear hq hn
  go_enter Tryd.func38, Tryd.ntmps38
  go_wp2_with fail
  refine (all_yes _ _ hv _).mono ?_
  rintro e w1 ⟨rfl, hb⟩
  go_wp2
  go_ret
  exact ⟨ret_bool HQ.out, after1 hb⟩

theorem pForward_any (b : Bool) (w : World) : Calls Tryd.prog 43 #[.bool b] w fun e w' => e = .returned (.int .i64 (fwd b)) ∧ w = w' := by
  cases b
  all_goals
    go_enter Tryd.func43, Tryd.ntmps43
    go_wp2
    go_ret
    exact ⟨rfl, rfl⟩
theorem pSecond_any (F R : Int) (b : Bool) (hR : 3 ≤ R ∧ R ≤ 8) (w : World) : Calls Tryd.prog 44 #[.agg #[.int .i64 F, .int .i64 R], .bool b] w fun e w' => e = .returned (.int .i64 (scd R b)) ∧ Below w.heap.size w w' := by
  obtain ⟨r0, r1⟩ := hR
  cases b
  all_goals
    go_enter Tryd.func44, Tryd.ntmps44
    go_wp2
    go_ret
    exact ⟨rfl, box1 _ _⟩

theorem pRay_any (F R a f r : Int) (w : World) :
    Calls Tryd.prog 9 #[.agg #[.int .i64 F, .int .i64 R], .int .i64 a, .int .i64 f, .int .i64 r] w fun e w' => e = .returned (.func (.func 26) #[] #[.pointer (some ⟨w.heap.size, 0, none⟩), .pointer (some ⟨w.heap.size + 1, 0, none⟩), .pointer (some ⟨w.heap.size + 1 + 1, 0, none⟩), .pointer (some ⟨w.heap.size + 1 + 1 + 1, 0, none⟩)]) ∧ w' = (((w.alloc (.cells #[.int .i64 F, .int .i64 R] 23)).alloc (.cells #[.int .i64 a] 3)).alloc (.cells #[.int .i64 f] 3)).alloc (.cells #[.int .i64 r] 3) := by
  go_enter Tryd.func9, Tryd.ntmps9
  go_wp2
  go_ret
  exact ⟨rfl, rfl⟩

/-- the list of a ray's squares: the document's ray, or nothing. -/
def RayIs (F R a f r : Int) (L : List Nat) : Prop := (vat F R a ∧ ¬ (f = 0 ∧ r = 0) ∧ L = rayL F R (a % F) (a / F) f r) ∨ (vat F R a ∧ f = 0 ∧ r = 0 ∧ L = []) ∨ (¬ vat F R a ∧ L = [])
abbrev El (L : List Nat) := { i : Nat // i ∈ L }
def vl {L : List Nat} (l : List (El L)) : List Nat := l.map (·.1)
theorem vl_snoc {L : List Nat} (l : List (El L)) (x : El L) : vl (l ++ [x]) = vl l ++ [x.1] := by simp [vl]
theorem vl_len {L : List Nat} (l : List (El L)) : (vl l).length = l.length := by simp [vl]
theorem vl_nil {L : List Nat} : vl ([] : List (El L)) = [] := rfl

theorem tw_pre (P : Nat → Bool) (m n : Nat) (hm : m ≤ n) (h : ∀ j, j < m → P j = true) : List.range m <+: (List.range n).takeWhile P := by
  have e : List.range n = List.range' 0 m ++ List.range' m (n - m) := by
    rw [List.range_eq_range']
    have := List.range'_append (s := 0) (m := m) (n := n - m) (step := 1)
    simp at this
    rw [this]
    congr 1
    omega
  rw [e, List.takeWhile_append, tw_all P m 0 (fun j hj => by simpa using h j hj)]
  simp
  rw [List.range_eq_range']
  exact ⟨_, rfl⟩
theorem rayL_pre {F R x y f r : Int} {m : Nat} (hm : m ≤ 8) (h : ∀ j, j < m → rayP F R x y f r j = true) : (List.range m).map (rayNum F x y f r) <+: rayL F R x y f r := by
  obtain ⟨t, ht⟩ := tw_pre (rayP F R x y f r) m 8 hm h
  unfold rayL
  rw [← ht, List.map_append]
  exact ⟨_, rfl⟩
theorem rayL_mem {F R x y f r : Int} {k : Nat} (hk : k < 8) (h : ∀ j, j < k + 1 → rayP F R x y f r j = true) : rayNum F x y f r k ∈ rayL F R x y f r := by
  refine (rayL_pre (m := k + 1) (by omega) h).subset ?_
  rw [List.mem_map]
  exact ⟨k, by simp, rfl⟩
theorem step_le {k x f F : Int} (hF : F ≤ 8) (x0 : 0 ≤ x) (x1 : x < F) (h0 : 0 ≤ x + k * f) (h1 : x + k * f < F) (hf : f ≠ 0) : k ≤ 7 := by
  apply Int.not_lt.1
  intro hk
  rcases Int.lt_or_gt_of_ne hf with h | h
  · have := Int.mul_le_mul_of_nonneg_left (a := f) (b := -1) (c := k) (by omega) (by omega)
    omega
  · have := Int.mul_le_mul_of_nonneg_left (a := 1) (b := f) (c := k) (by omega) (by omega)
    omega
theorem wrap_on {F c f : Int} (hF : F ≤ 8) (c0 : 0 ≤ c) (c1 : c < F) (f0 : -9223372036854775808 ≤ f) (f1 : f ≤ 9223372036854775807) : (0 ≤ c + f ∧ c + f < F) ↔ (0 ≤ IntKind.i64.wrap (c + f) ∧ IntKind.i64.wrap (c + f) < F) := by
  rw [IntKind.wrap_i64]; omega
theorem below_grown {w w' : World} (h : Below w.heap.size w w') : w.grownBy w' none := ⟨h.os, h.tape, h.output, h.size, fun k hk _ => h.block k hk⟩

end Go.Proofs.YtejlbjbmpdddkaaDoor
