/- Lines and leaps: the document's ray, as a list; signs, directions of pawns, free squares. -/
import Derived.Test.YtejlbjbmpdddkaaDoorSqX
import Derived.Test.YtejlbjbmpdddkaaDoorSqF
import Derived.Deep.Onto
namespace Go.Proofs.YtejlbjbmpdddkaaDoor
open Go.RowKit

def sg (n : Int) : Int := if n < 0 then -1 else if 0 < n then 1 else 0
theorem sign_any (n : Int) (w : World) : Calls Tryd.prog 35 #[.int .i64 n] w fun e w' => e = .returned (.int .i64 (sg n)) ∧ w = w' := by
  unfold sg
  by_cases h : n < 0
  · rw [if_pos h]
    go_enter Tryd.func35, Tryd.ntmps35
    go_wp2
    go_ret
    exact ⟨rfl, rfl⟩
  · rw [if_neg h]
    by_cases h2 : 0 < n
    · rw [if_pos h2]
      go_enter Tryd.func35, Tryd.ntmps35
      go_wp2
      go_ret
      exact ⟨rfl, rfl⟩
    · rw [if_neg h2]
      go_enter Tryd.func35, Tryd.ntmps35
      go_wp2
      go_ret
      exact ⟨rfl, rfl⟩
def fwd (b : Bool) : Int := if b then -1 else 1
theorem forward_any (b : Bool) (w : World) : Calls Tryd.prog 46 #[.bool b] w fun e w' => e = .returned (.int .i64 (fwd b)) ∧ w = w' := by
  cases b
  all_goals
    go_enter Tryd.func46, Tryd.ntmps46
    go_wp2
    go_ret
    exact ⟨rfl, rfl⟩
def scd (R : Int) (b : Bool) : Int := if b then R - 2 else 1
theorem second_any (F R : Int) (b : Bool) (hR : 3 ≤ R ∧ R ≤ 8) (w : World) : Calls Tryd.prog 47 #[.agg #[.int .i64 F, .int .i64 R], .bool b] w fun e w' => e = .returned (.int .i64 (scd R b)) ∧ Below w.heap.size w w' := by
  obtain ⟨r0, r1⟩ := hR
  cases b
  all_goals
    go_enter Tryd.func47, Tryd.ntmps47
    go_wp2
    go_ret
    exact ⟨rfl, box1 _ _⟩

/-- no square of a list is in a set. -/
def freeB (l : List Int) (X : Nat) : Bool := l.all fun n => !(X.testBit n.toNat)
theorem free_stop {l : List Int} {X k : Nat} (h : k < l.length) (hb : X.testBit (l[k]?.getD 0).toNat = true) : freeB l X = false := by
  unfold freeB
  rw [List.all_eq_false]
  rw [List.getElem?_eq_getElem h] at hb
  exact ⟨l[k], List.getElem_mem h, by simpa using hb⟩
theorem free_all {l : List Int} {X : Nat} (h : ∀ j, j < l.length → X.testBit (l[j]?.getD 0).toNat = false) : freeB l X = true := by
  unfold freeB
  rw [List.all_eq_true]
  intro n hn
  obtain ⟨j, hj, rfl⟩ := List.mem_iff_getElem.1 hn
  have := h j hj
  rw [List.getElem?_eq_getElem hj] at this
  simpa using this

set_option maxRecDepth 100000 in
set_option maxHeartbeats 1000000 in
theorem free_any (l : List Int) (A : Option Addr) (c X : Nat) (hX : X < 18446744073709551616) (w : World) (hlen : l.length ≤ 100000) (hl : ∀ j, j < l.length → 0 ≤ l[j]?.getD 0 ∧ l[j]?.getD 0 < 64) (hA : RdI w w.heap.size A l) :
    Calls Tryd.prog 56 #[.slice A l.length c, .int .u64 X] w fun e w' => e = .returned (.bool (freeB l X)) ∧ w = w' := by
  have H := Lib.hid hl
  clear hl
  go_enter Tryd.func56, Tryd.ntmps56
  go_wp2
  go_loop [5] (fun i => ∃ k : Nat, k ≤ l.length ∧ i = .int .i64 k ∧ Hid (∀ j, j < k → X.testBit (l[j]?.getD 0).toNat = false)) (fun i => l.length - (intOf i).toNat)
  case atStart => exact ⟨0, by omega, rfl, Lib.hid (fun j hj => by omega)⟩
  case round =>
    obtain ⟨k, hk, rfl, HF⟩ := hrel
    by_cases hlt : k < l.length
    · obtain ⟨ad, rfl, hb, hc⟩ := hA.at_ hlt
      obtain ⟨b0, b1⟩ := H.out k hlt
      cases hbit : X.testBit (l[k]?.getD 0).toNat
      · have HF' : Hid (∀ j, j < k + 1 → X.testBit (l[j]?.getD 0).toNat = false) := Lib.hid (fun j hj => by
          by_cases e : j = k
          · rw [e]; exact hbit
          · exact HF.out j (by omega))
        have HB := Lib.hid hbit
        clear hA hbit
        generalize hn : l[k]?.getD 0 = n at *
        clear hn
        go_wp2_with fail
        refine (refHas_in X n hX b0 b1 _).mono ?_
        rintro e w1 ⟨rfl, rfl⟩
        rw [HB.out]
        go_wp2
        go_round
        case rel => exact ⟨k + 1, by omega, by go_num, HF'⟩
        case measure => simp [intOf]; omega
      · have HE := Lib.hid (free_stop hlt hbit)
        have HB := Lib.hid hbit
        clear hA hbit
        generalize hn : l[k]?.getD 0 = n at *
        clear hn
        go_wp2_with fail
        refine (refHas_in X n hX b0 b1 _).mono ?_
        rintro e w1 ⟨rfl, rfl⟩
        rw [HB.out]
        go_wp2
        go_ret
        exact ⟨ret_bool HE.out.symm, rfl⟩
    · have hkl : k = l.length := by omega
      subst hkl
      have HE := Lib.hid (free_all HF.out)
      go_wp2
      go_ret
      exact ⟨ret_bool HE.out.symm, rfl⟩

/-- the squares of a ray: from the place (x, y), by f files and r ranks a step. -/
def onB (F R f r : Int) : Bool := decide (0 ≤ f) && decide (f < F) && decide (0 ≤ r) && decide (r < R)
theorem onB_iff {F R f r : Int} : onB F R f r = true ↔ onb F R f r := by unfold onB onb; simp [and_assoc]
def rayP (F R x y f r : Int) (j : Nat) : Bool := onB F R (x + ((j : Int) + 1) * f) (y + ((j : Int) + 1) * r)
def rayNum (F x y f r : Int) (j : Nat) : Nat := ((y + ((j : Int) + 1) * r) * F + (x + ((j : Int) + 1) * f)).toNat
def rayL (F R x y f r : Int) : List Nat := ((List.range 8).takeWhile (rayP F R x y f r)).map (rayNum F x y f r)
theorem tw_all (P : Nat → Bool) (n : Nat) : ∀ m, (∀ j, j < n → P (m + j) = true) → (List.range' m n).takeWhile P = List.range' m n := by
  induction n with
  | zero => intro m _; rfl
  | succ n ih =>
    intro m h
    rw [List.range'_succ, List.takeWhile_cons, if_pos (by have := h 0 (by omega); simpa using this), ih (m + 1) (fun j hj => by have := h (j + 1) (by omega); rwa [show m + 1 + j = m + (j + 1) by omega])]
theorem tw_stop (P : Nat → Bool) (k n : Nat) (hk : k < n) (h : ∀ j, j < k → P j = true) (hs : P k = false) : (List.range n).takeWhile P = List.range k := by
  have e : List.range n = List.range' 0 k ++ List.range' k (n - k) := by
    rw [List.range_eq_range']
    have := List.range'_append (s := 0) (m := k) (n := n - k) (step := 1)
    simp at this
    rw [this]
    congr 1
    omega
  rw [e, List.takeWhile_append, tw_all P k 0 (fun j hj => by simpa using h j hj)]
  simp
  obtain ⟨m, hm⟩ : ∃ m, n - k = m + 1 := ⟨n - k - 1, by omega⟩
  rw [hm, List.range'_succ, List.takeWhile_cons]
  simp [hs, List.range_eq_range']
theorem rayL_stop {F R x y f r : Int} {k : Nat} (hk : k < 8) (h : ∀ j, j < k → rayP F R x y f r j = true) (hs : rayP F R x y f r k = false) : rayL F R x y f r = (List.range k).map (rayNum F x y f r) := by
  unfold rayL; rw [tw_stop _ k 8 hk h hs]
theorem rayL_all {F R x y f r : Int} (h : ∀ j, j < 8 → rayP F R x y f r j = true) : rayL F R x y f r = (List.range 8).map (rayNum F x y f r) := by
  unfold rayL
  rw [List.range_eq_range', tw_all _ 8 0 (fun j hj => by simpa using h j hj)]

end Go.Proofs.YtejlbjbmpdddkaaDoor
