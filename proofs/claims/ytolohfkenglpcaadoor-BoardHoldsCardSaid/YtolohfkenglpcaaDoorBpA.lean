/- Boards: the program's own validity. -/
import Derived.Test.YtolohfkenglpcaaDoorBdA
namespace Go.Proofs.YtolohfkenglpcaaDoor
open Go.RowKit

set_option maxRecDepth 100000 in
set_option maxHeartbeats 1000000 in
theorem bValid_yes (F R : Int) (l : List Int) (A : Option Addr) (c : Nat) (h :  vbd F R l) (w : World) (hA : RdP w w.heap.size A l c) :
    Calls Tryd.prog 12 #[.agg #[.int .i64 F, .int .i64 R, .slice A l.length c]] w fun e w' => e = .returned (.bool true) ∧ Below w.heap.size w w' := by
  obtain ⟨hv, hl, hp⟩ := h
  obtain ⟨m0, m1⟩ := vsz_mul hv
  have hne : ((l.length : Int) != F * R) = false := by simp [hl]
  have HP := Lib.hid hp
  have hlen : l.length ≤ 64 := by omega
  clear hl hp
  go_enter Tryd.func12, Tryd.ntmps12
  go_wp2_with fail
  refine (count_yes _ _ hv _).mono ?_
  rintro e w1 ⟨rfl, hb⟩
  have s1 := hb.size
  simp at s1
  have hc0 := hb.cell (p := ⟨w.heap.size, 0, none⟩) (by simp)
  have hc1 := hb.cell (p := ⟨w.heap.size, 1, none⟩) (by simp)
  have hc2 := hb.cell (p := ⟨w.heap.size, 2, none⟩) (by simp)
  simp [go_sem] at hc0 hc1 hc2
  have hB1 := after1 hb
  have A1 := hA.below hB1
  clear hA hb
  go_wp2
  go_loopw [6, 25] (fun _ i wr => ∃ k : Nat, k ≤ l.length ∧ i = .int .i64 k ∧ Below w1.heap.size w1 wr) (fun _ i _ => l.length - (intOf i).toNat)
  case atStart => exact ⟨0, by omega, rfl, Below.refl _ _⟩
  case round =>
    obtain ⟨k, hk, rfl, hB⟩ := hrel
    have s2 := hB.size
    by_cases hlt : k < l.length
    · obtain ⟨ad, rfl, hb, hc⟩ := (A1.below (hB.mono (by omega))).at_ hlt
      have hV := HP.out k hlt
      clear A1
      generalize hn : l[k]?.getD 0 = n at *
      clear hn
      go_wp2_with fail
      refine (pValid_yes n hV _).mono ?_
      rintro e w2 ⟨rfl, rfl⟩
      go_wp2
      go_roundw
      case rel => exact ⟨k + 1, by omega, by go_num, hB⟩
      case measure => simp [intOf]; omega
    · have hkl : k = l.length := by omega
      subst hkl
      go_wp2
      go_ret
      exact ⟨rfl, chain hB1 hB⟩

set_option maxRecDepth 100000 in
set_option maxHeartbeats 1000000 in
theorem bValid_no (F R : Int) (l : List Int) (A : Option Addr) (c : Nat) (h : ¬ vbd F R l) (w : World) (hlen : l.length ≤ 100000) (hA : RdP w w.heap.size A l c) :
    Calls Tryd.prog 12 #[.agg #[.int .i64 F, .int .i64 R, .slice A l.length c]] w fun e w' => e = .returned (.bool false) ∧ Below w.heap.size w w' := by
  by_cases hv : vsz F R
  · obtain ⟨m0, m1⟩ := vsz_mul hv
    by_cases hl : (l.length : Int) = F * R
    · obtain ⟨m, hm, hbad, hgood⟩ := first_bad (fun hp => h ⟨hv, hl, hp⟩)
      have hne : ((l.length : Int) != F * R) = false := by simp [hl]
      have HP := Lib.hid hgood
      have HB := Lib.hid hbad
      clear hl hgood hbad h
      go_enter Tryd.func12, Tryd.ntmps12
      go_wp2_with fail
      refine (count_yes _ _ hv _).mono ?_
      rintro e w1 ⟨rfl, hb⟩
      have s1 := hb.size
      simp at s1
      have hc0 := hb.cell (p := ⟨w.heap.size, 0, none⟩) (by simp)
      have hc1 := hb.cell (p := ⟨w.heap.size, 1, none⟩) (by simp)
      have hc2 := hb.cell (p := ⟨w.heap.size, 2, none⟩) (by simp)
      simp [go_sem] at hc0 hc1 hc2
      have hB1 := after1 hb
      have A1 := hA.below hB1
      clear hA hb
      go_wp2
      go_loopw [6, 25] (fun _ i wr => ∃ k : Nat, k ≤ m ∧ i = .int .i64 k ∧ Below w1.heap.size w1 wr) (fun _ i _ => l.length - (intOf i).toNat)
      case atStart => exact ⟨0, by omega, rfl, Below.refl _ _⟩
      case round =>
        obtain ⟨k, hk, rfl, hB⟩ := hrel
        have s2 := hB.size
        obtain ⟨ad, rfl, hb, hc⟩ := (A1.below (hB.mono (by omega))).at_ (show k < l.length by omega)
        by_cases hlt : k < m
        · have hV := HP.out k hlt
          clear A1
          generalize hn : l[k]?.getD 0 = n at *
          clear hn
          have hlt' : k < l.length := by omega
          go_wp2_with fail
          refine (pValid_yes n hV _).mono ?_
          rintro e w2 ⟨rfl, rfl⟩
          go_wp2
          go_roundw
          case rel => exact ⟨k + 1, by omega, by go_num, hB⟩
          case measure => simp [intOf]; omega
        · have hkl : k = m := by omega
          subst hkl
          have hV := HB.out
          clear A1
          generalize hn : l[k]?.getD 0 = n at *
          clear hn
          go_wp2_with fail
          refine (pValid_no n hV _).mono ?_
          rintro e w2 ⟨rfl, rfl⟩
          go_wp2
          go_ret
          exact ⟨rfl, chain hB1 hB⟩
    · have hne : ((l.length : Int) != F * R) = true := by simp [hl]
      clear h hl
      go_enter Tryd.func12, Tryd.ntmps12
      go_wp2_with fail
      refine (count_yes _ _ hv _).mono ?_
      rintro e w1 ⟨rfl, hb⟩
      have s1 := hb.size
      simp at s1
      have hc0 := hb.cell (p := ⟨w.heap.size, 0, none⟩) (by simp)
      have hc1 := hb.cell (p := ⟨w.heap.size, 1, none⟩) (by simp)
      have hc2 := hb.cell (p := ⟨w.heap.size, 2, none⟩) (by simp)
      simp [go_sem] at hc0 hc1 hc2
      have hB1 := after1 hb
      have A1 := hA.below hB1
      clear hA hb
      go_wp2
      go_ret
      exact ⟨rfl, hB1⟩
  · clear h
    go_enter Tryd.func12, Tryd.ntmps12
    go_wp2_with fail
    refine (count_no _ _ hv _).mono ?_
    rintro e w1 ⟨rfl, hb⟩
    go_wp2
    go_ret
    exact ⟨rfl, after1 hb⟩

end Go.Proofs.YtolohfkenglpcaaDoor
