/- Boards: which are the same, by the document's own function. -/
import Derived.Test.YtolohfkenglpcaaDoorBdA
namespace Go.Proofs.YtolohfkenglpcaaDoor
open Go.RowKit

set_option maxRecDepth 100000 in
set_option maxHeartbeats 1000000 in
theorem same_yes (F R : Int) (l : List Int) (A A' : Option Addr) (c c' : Nat) (w : World) (hlen : l.length ≤ 100000) (hA : RdP w w.heap.size A l c) (hA' : RdP w w.heap.size A' l c') :
    Calls Tryd.prog 15 #[.agg #[.int .i64 F, .int .i64 R, .slice A l.length c], .agg #[.int .i64 F, .int .i64 R, .slice A' l.length c']] w fun e w' => e = .returned (.bool true) ∧ Below w.heap.size w w' := by
  go_enter Tryd.func15, Tryd.ntmps15
  go_wp2_with fail
  have hB0 : Below w.heap.size w ((w.alloc (.cells #[.int .i64 F, .int .i64 R, .slice A l.length c] 26)).alloc (.cells #[.int .i64 F, .int .i64 R, .slice A' l.length c'] 26)) := after1 (box1 _ _)
  have hc2 : ((w.alloc (.cells #[.int .i64 F, .int .i64 R, .slice A l.length c] 26)).alloc (.cells #[.int .i64 F, .int .i64 R, .slice A' l.length c'] 26)).cell? ⟨w.heap.size, 2, none⟩ = some (.slice A l.length c) := by simp [go_sem]
  have hd2 : ((w.alloc (.cells #[.int .i64 F, .int .i64 R, .slice A l.length c] 26)).alloc (.cells #[.int .i64 F, .int .i64 R, .slice A' l.length c'] 26)).cell? ⟨w.heap.size + 1, 2, none⟩ = some (.slice A' l.length c') := by simp [go_sem]
  generalize hW : ((w.alloc (.cells #[.int .i64 F, .int .i64 R, .slice A l.length c] 26)).alloc (.cells #[.int .i64 F, .int .i64 R, .slice A' l.length c'] 26)) = W at *
  have A1 := (hA.below hB0)
  have A2 := (hA'.below hB0)
  have s0 := hB0.size
  have sz : W.heap.size = w.heap.size + 2 := by rw [← hW]; simp
  have sz' : w.heap.size + 2 ≤ W.heap.size := by omega
  clear hA hA' hW sz
  go_loopw [5] (fun i wr => ∃ k : Nat, k ≤ l.length ∧ i = .int .i64 k ∧ Below W.heap.size W wr) (fun i _ => l.length - (intOf i).toNat)
  case atStart => exact ⟨0, by omega, rfl, Below.refl _ _⟩
  case round =>
    obtain ⟨k, hk, rfl, hB⟩ := hrel
    have d2 := (hB.cell (p := ⟨w.heap.size, 2, none⟩) (by simp; omega)).trans hc2
    have e2 := (hB.cell (p := ⟨w.heap.size + 1, 2, none⟩) (by simp; omega)).trans hd2
    by_cases hlt : k < l.length
    · obtain ⟨ad, rfl, hb, hc⟩ := (A1.below (hB.mono s0)).at_ hlt
      obtain ⟨ad', rfl, hb', hc'⟩ := (A2.below (hB.mono s0)).at_ hlt
      clear A1 A2
      generalize hn : l[k]?.getD 0 = n at *
      clear hn
      go_wp2
      go_quiet (fail)
      go_wp2
      go_roundw
      case rel => exact ⟨k + 1, by omega, by go_num, drawn hB _⟩
      case measure => simp [intOf]; omega
    · have hkl : k = l.length := by omega
      subst hkl
      go_wp2
      go_ret
      exact ⟨rfl, chain hB0 hB⟩

theorem first_diff {l l' : List Int} (hl : l.length = l'.length) (h : l ≠ l') : ∃ m, m < l.length ∧ l[m]?.getD 0 ≠ l'[m]?.getD 0 ∧ ∀ j, j < m → l[j]?.getD 0 = l'[j]?.getD 0 := by
  have h' : ∃ m, m < l.length ∧ l[m]?.getD 0 ≠ l'[m]?.getD 0 := by
    apply Classical.byContradiction
    intro hc
    apply h
    apply List.ext_getElem hl
    intro j h1 h2
    have : l[j]?.getD 0 = l'[j]?.getD 0 := Classical.byContradiction fun hb => hc ⟨j, h1, hb⟩
    rw [List.getElem?_eq_getElem h1, List.getElem?_eq_getElem h2] at this
    exact this
  obtain ⟨n, hn⟩ := h'
  obtain ⟨m, hm, hp, hq⟩ := least (P := fun m => m < l.length ∧ l[m]?.getD 0 ≠ l'[m]?.getD 0) n hn
  exact ⟨m, hp.1, hp.2, fun j hj => Classical.byContradiction fun hb => hq j hj ⟨by omega, hb⟩⟩

set_option maxRecDepth 100000 in
set_option maxHeartbeats 1000000 in
theorem same_diff (F R : Int) (l l' : List Int) (A A' : Option Addr) (c c' : Nat) (w : World) (hlen : l.length ≤ 100000) (hA : RdP w w.heap.size A l c) (hA' : RdP w w.heap.size A' l' c') (hll : l.length = l'.length)
    (m : Nat) (hm : m < l.length) (hd : l[m]?.getD 0 ≠ l'[m]?.getD 0) (he : ∀ j, j < m → l[j]?.getD 0 = l'[j]?.getD 0) :
    Calls Tryd.prog 15 #[.agg #[.int .i64 F, .int .i64 R, .slice A l.length c], .agg #[.int .i64 F, .int .i64 R, .slice A' l'.length c']] w fun e w' => e = .returned (.bool false) ∧ Below w.heap.size w w' := by
  have HD := Lib.hid hd
  have HE := Lib.hid he
  rw [← hll]
  have HL := Lib.hid hll
  clear hd he hll
  go_enter Tryd.func15, Tryd.ntmps15
  go_wp2_with fail
  have hB0 : Below w.heap.size w ((w.alloc (.cells #[.int .i64 F, .int .i64 R, .slice A l.length c] 26)).alloc (.cells #[.int .i64 F, .int .i64 R, .slice A' l.length c'] 26)) := after1 (box1 _ _)
  have hc2 : ((w.alloc (.cells #[.int .i64 F, .int .i64 R, .slice A l.length c] 26)).alloc (.cells #[.int .i64 F, .int .i64 R, .slice A' l.length c'] 26)).cell? ⟨w.heap.size, 2, none⟩ = some (.slice A l.length c) := by simp [go_sem]
  have hd2 : ((w.alloc (.cells #[.int .i64 F, .int .i64 R, .slice A l.length c] 26)).alloc (.cells #[.int .i64 F, .int .i64 R, .slice A' l.length c'] 26)).cell? ⟨w.heap.size + 1, 2, none⟩ = some (.slice A' l.length c') := by simp [go_sem]
  generalize hW : ((w.alloc (.cells #[.int .i64 F, .int .i64 R, .slice A l.length c] 26)).alloc (.cells #[.int .i64 F, .int .i64 R, .slice A' l.length c'] 26)) = W at *
  have A1 := (hA.below hB0)
  have A2 := (hA'.below hB0)
  have s0 := hB0.size
  have sz : W.heap.size = w.heap.size + 2 := by rw [← hW]; simp
  have sz' : w.heap.size + 2 ≤ W.heap.size := by omega
  clear hA hA' hW sz
  go_loopw [5] (fun i wr => ∃ k : Nat, k ≤ m ∧ i = .int .i64 k ∧ Below W.heap.size W wr) (fun i _ => l.length - (intOf i).toNat)
  case atStart => exact ⟨0, by omega, rfl, Below.refl _ _⟩
  case round =>
    obtain ⟨k, hk, rfl, hB⟩ := hrel
    have d2 := (hB.cell (p := ⟨w.heap.size, 2, none⟩) (by simp; omega)).trans hc2
    have e2 := (hB.cell (p := ⟨w.heap.size + 1, 2, none⟩) (by simp; omega)).trans hd2
    obtain ⟨ad, rfl, hb, hc⟩ := (A1.below (hB.mono s0)).at_ (show k < l.length by omega)
    obtain ⟨ad', rfl, hb', hc'⟩ := (A2.below (hB.mono s0)).at_ (show k < l'.length by have := HL.out; omega)
    clear A1 A2
    by_cases hlt : k < m
    · have hlt' : k < l.length := by omega
      have hq := HE.out k hlt
      rw [← hq] at hc'
      clear hq
      generalize hn : l[k]?.getD 0 = n at *
      clear hn
      go_wp2
      go_quiet (fail)
      go_wp2
      go_roundw
      case rel => exact ⟨k + 1, by omega, by go_num, drawn hB _⟩
      case measure => simp [intOf]; omega
    · have hkl : k = m := by omega
      subst hkl
      have hq := HD.out
      generalize hn : l[k]?.getD 0 = n at *
      generalize hn' : l'[k]?.getD 0 = n' at *
      clear hn hn'
      have hbq : (n != n') = true := bne_iff_ne.2 hq
      clear hq
      go_wp2
      go_quiet (fail)
      go_wp2
      go_ret
      exact ⟨rfl, chain hB0 (drawn hB _)⟩

set_option maxRecDepth 100000 in
set_option maxHeartbeats 1000000 in
theorem same_no (F R F' R' : Int) (l l' : List Int) (A A' : Option Addr) (c c' : Nat) (w : World) (hlen : l.length ≤ 100000) (hA : RdP w w.heap.size A l c) (hA' : RdP w w.heap.size A' l' c') (h : ¬ (F = F' ∧ R = R' ∧ l = l')) :
    Calls Tryd.prog 15 #[.agg #[.int .i64 F, .int .i64 R, .slice A l.length c], .agg #[.int .i64 F', .int .i64 R', .slice A' l'.length c']] w fun e w' => e = .returned (.bool false) ∧ Below w.heap.size w w' := by
  by_cases hF : F = F'
  · subst hF
    by_cases hR : R = R'
    · subst hR
      by_cases hl : l.length = l'.length
      · obtain ⟨m, h1, h2, h3⟩ := first_diff hl (fun e => h ⟨rfl, rfl, e⟩)
        exact same_diff F R l l' A A' c c' w hlen hA hA' hl m h1 h2 h3
      · have hne : ((l.length : Int) != (l'.length : Int)) = true := bne_iff_ne.2 (by omega)
        clear h hl hA hA'
        go_enter Tryd.func15, Tryd.ntmps15
        go_wp2
        go_ret
        exact ⟨rfl, after1 (box1 _ _)⟩
    · clear h hA hA'
      go_enter Tryd.func15, Tryd.ntmps15
      go_wp2
      go_ret
      exact ⟨rfl, after1 (box1 _ _)⟩
  · clear h hA hA'
    go_enter Tryd.func15, Tryd.ntmps15
    go_wp2
    go_ret
    exact ⟨rfl, after1 (box1 _ _)⟩

end Go.Proofs.YtolohfkenglpcaaDoor
