/- Boards: rows of pieces in memory; which boards are valid, by the document's own functions. -/
import Derived.Test.YtolohfkenglpcaaDoorSqI
import Derived.Test.YtolohfkenglpcaaDoorPcB
namespace Go.Proofs.YtolohfkenglpcaaDoor
open Go.RowKit

/-- a slice value that reads, below block B, as the list l of pieces. -/
def RdP (w : World) (B : Nat) (A : Option Addr) (l : List Int) (c : Nat) : Prop :=
  (A = none → l.length = 0 ∧ c = 0) ∧ (0 < l.length → ∃ ad, A = some ad ∧ ad.block < B ∧ ∀ j u, l[j]? = some u → w.cell? (ad.add j) = some (.int .i8 u))
theorem RdP.at_ {w : World} {B : Nat} {A : Option Addr} {l : List Int} {c : Nat} (h : RdP w B A l c) {k : Nat} (hk : k < l.length) : ∃ ad, A = some ad ∧ ad.block < B ∧ w.cell? (ad.add k) = some (.int .i8 (l[k]?.getD 0)) := by
  obtain ⟨ad, e, hb, hc⟩ := h.2 (by omega)
  exact ⟨ad, e, hb, hc k _ (by rw [List.getElem?_eq_getElem hk]; rfl)⟩
theorem RdP.below {w w' : World} {B : Nat} {A : Option Addr} {l : List Int} {c : Nat} (h : RdP w B A l c) (hb : Below B w w') : RdP w' B A l c := ⟨h.1, fun hl => by
  obtain ⟨ad, e, h1, hc⟩ := h.2 hl
  exact ⟨ad, e, h1, fun j u hu => (hb.cell (by rw [blk_add]; exact h1)).trans (hc j u hu)⟩⟩
theorem RdP.grow {w : World} {B B' : Nat} {A : Option Addr} {l : List Int} {c : Nat} (h : RdP w B A l c) (hB : B ≤ B') : RdP w B' A l c := ⟨h.1, fun hl => by
  obtain ⟨ad, e, h1, hc⟩ := h.2 hl
  exact ⟨ad, e, by omega, hc⟩⟩

/-- a valid board. -/
def vbd (F R : Int) (l : List Int) : Prop := vsz F R ∧ (l.length : Int) = F * R ∧ ∀ j, j < l.length → okP (l[j]?.getD 0)

set_option maxRecDepth 100000 in
set_option maxHeartbeats 400000 in
theorem small_yes (F R : Int) (l : List Int) (A : Option Addr) (c : Nat) (h : l.length ≤ 70) (w : World) :
    Calls Tryd.prog 9 #[.agg #[.int .i64 F, .int .i64 R, .slice A l.length c]] w fun e w' => e = .returned (.bool true) ∧ Below w.heap.size w w' := by
  have h' : decide ((l.length : Int) ≤ 70) = true := decide_eq_true (by omega)
  go_enter Tryd.func9, Tryd.ntmps9
  go_wp2
  go_ret
  exact ⟨rfl, box1 _ _⟩

set_option maxRecDepth 100000 in
set_option maxHeartbeats 400000 in
theorem small_no (F R : Int) (l : List Int) (A : Option Addr) (c : Nat) (h : 70 < l.length) (w : World) :
    Calls Tryd.prog 9 #[.agg #[.int .i64 F, .int .i64 R, .slice A l.length c]] w fun e w' => e = .returned (.bool false) ∧ Below w.heap.size w w' := by
  have h' : decide ((l.length : Int) ≤ 70) = false := decide_eq_false (by omega)
  go_enter Tryd.func9, Tryd.ntmps9
  go_wp2
  go_ret
  exact ⟨rfl, box1 _ _⟩

set_option maxRecDepth 100000 in
set_option maxHeartbeats 1000000 in
theorem rbValid_yes (F R : Int) (l : List Int) (A : Option Addr) (c : Nat) (h : vbd F R l) (w : World) (hA : RdP w w.heap.size A l c) :
    Calls Tryd.prog 13 #[.agg #[.int .i64 F, .int .i64 R, .slice A l.length c]] w fun e w' => e = .returned (.bool true) ∧ Below w.heap.size w w' := by
  obtain ⟨hv, hl, hp⟩ := h
  obtain ⟨m0, m1⟩ := vsz_mul hv
  have hne : ((l.length : Int) != F * R) = false := by simp [hl]
  have HL := Lib.hid hl
  have HP := Lib.hid hp
  have hlen : l.length ≤ 64 := by omega
  clear hl hp
  go_enter Tryd.func13, Tryd.ntmps13
  go_wp2_with fail
  refine (refSize_yes _ _ hv _).mono ?_
  rintro e w1 ⟨rfl, hb⟩
  have s1 := hb.size
  simp at s1
  have hc0 := hb.cell (p := ⟨w.heap.size, 0, none⟩) (by simp)
  have hc1 := hb.cell (p := ⟨w.heap.size, 1, none⟩) (by simp)
  have hc2 := hb.cell (p := ⟨w.heap.size, 2, none⟩) (by simp)
  simp [go_sem] at hc0 hc1 hc2
  have hB1 := after1 hb
  have A1 := hA.below hB1
  clear hA hb
  go_wp2
  go_loopw [3] (fun i wr => ∃ k : Nat, k ≤ l.length ∧ i = .int .i64 k ∧ Below w1.heap.size w1 wr) (fun i _ => l.length - (intOf i).toNat)
  case atStart => exact ⟨0, by omega, rfl, Below.refl _ _⟩
  case round =>
    obtain ⟨k, hk, rfl, hB⟩ := hrel
    have s2 := hB.size
    have d2 := (hB.cell (p := ⟨w.heap.size, 2, none⟩) (by simp; omega)).trans hc2
    by_cases hlt : k < l.length
    · obtain ⟨ad, rfl, hb, hc⟩ := (A1.below (hB.mono (by omega))).at_ hlt
      have hV := HP.out k hlt
      clear A1
      generalize hn : l[k]?.getD 0 = n at *
      clear hn
      go_wp2_with fail
      refine (rpValid_yes n hV _).mono ?_
      rintro e w2 ⟨rfl, rfl⟩
      go_wp2
      go_roundw
      case rel => exact ⟨k + 1, by omega, by go_num, hB⟩
      case measure => simp [intOf]; omega
    · have hkl : k = l.length := by omega
      subst hkl
      go_wp2
      go_ret
      exact ⟨rfl, chain hB1 hB⟩

theorem least {P : Nat → Prop} (n : Nat) : P n → ∃ m, m ≤ n ∧ P m ∧ ∀ j, j < m → ¬ P j := by
  induction n using Nat.strongRecOn with
  | ind n ih =>
    intro h
    by_cases hx : ∃ j, j < n ∧ P j
    · obtain ⟨j, hj, hp⟩ := hx
      obtain ⟨m, hm, h1, h2⟩ := ih j hj hp
      exact ⟨m, by omega, h1, h2⟩
    · exact ⟨n, Nat.le_refl _, h, fun j hj hp => hx ⟨j, hj, hp⟩⟩
/-- the first number of a list that is no piece. -/
theorem first_bad {l : List Int} (h : ¬ ∀ j, j < l.length → okP (l[j]?.getD 0)) : ∃ m, m < l.length ∧ ¬ okP (l[m]?.getD 0) ∧ ∀ j, j < m → okP (l[j]?.getD 0) := by
  have h' : ∃ m, m < l.length ∧ ¬ okP (l[m]?.getD 0) := by
    apply Classical.byContradiction
    intro hc
    exact h fun j hj => Classical.byContradiction fun hb => hc ⟨j, hj, hb⟩
  obtain ⟨n, hn⟩ := h'
  obtain ⟨m, hm, hp, hl⟩ := least (P := fun m => m < l.length ∧ ¬ okP (l[m]?.getD 0)) n hn
  exact ⟨m, hp.1, hp.2, fun j hj => Classical.byContradiction fun hb => hl j hj ⟨by omega, hb⟩⟩

set_option maxRecDepth 100000 in
set_option maxHeartbeats 1000000 in
theorem rbValid_no (F R : Int) (l : List Int) (A : Option Addr) (c : Nat) (h : ¬ vbd F R l) (w : World) (hlen : l.length ≤ 100000) (hA : RdP w w.heap.size A l c) :
    Calls Tryd.prog 13 #[.agg #[.int .i64 F, .int .i64 R, .slice A l.length c]] w fun e w' => e = .returned (.bool false) ∧ Below w.heap.size w w' := by
  by_cases hv : vsz F R
  · obtain ⟨m0, m1⟩ := vsz_mul hv
    by_cases hl : (l.length : Int) = F * R
    · obtain ⟨m, hm, hbad, hgood⟩ := first_bad (fun hp => h ⟨hv, hl, hp⟩)
      have hne : ((l.length : Int) != F * R) = false := by simp [hl]
      have HL := Lib.hid hl
      have HP := Lib.hid hgood
      have HB := Lib.hid hbad
      clear hl hgood hbad h
      go_enter Tryd.func13, Tryd.ntmps13
      go_wp2_with fail
      refine (refSize_yes _ _ hv _).mono ?_
      rintro e w1 ⟨rfl, hb⟩
      have s1 := hb.size
      simp at s1
      have hc0 := hb.cell (p := ⟨w.heap.size, 0, none⟩) (by simp)
      have hc1 := hb.cell (p := ⟨w.heap.size, 1, none⟩) (by simp)
      have hc2 := hb.cell (p := ⟨w.heap.size, 2, none⟩) (by simp)
      simp [go_sem] at hc0 hc1 hc2
      have hB1 := after1 hb
      have A1 := hA.below hB1
      clear hA hb
      go_wp2
      go_loopw [3] (fun i wr => ∃ k : Nat, k ≤ m ∧ i = .int .i64 k ∧ Below w1.heap.size w1 wr) (fun i _ => l.length - (intOf i).toNat)
      case atStart => exact ⟨0, by omega, rfl, Below.refl _ _⟩
      case round =>
        obtain ⟨k, hk, rfl, hB⟩ := hrel
        have s2 := hB.size
        have d2 := (hB.cell (p := ⟨w.heap.size, 2, none⟩) (by simp; omega)).trans hc2
        obtain ⟨ad, rfl, hb, hc⟩ := (A1.below (hB.mono (by omega))).at_ (show k < l.length by omega)
        by_cases hlt : k < m
        · have hV := HP.out k hlt
          clear A1
          generalize hn : l[k]?.getD 0 = n at *
          clear hn
          have hlt' : k < l.length := by omega
          go_wp2_with fail
          refine (rpValid_yes n hV _).mono ?_
          rintro e w2 ⟨rfl, rfl⟩
          go_wp2
          go_roundw
          case rel => exact ⟨k + 1, by omega, by go_num, hB⟩
          case measure => simp [intOf]; omega
        · have hkl : k = m := by omega
          subst hkl
          have hV := HB.out
          clear A1
          generalize hn : l[k]?.getD 0 = n at *
          clear hn
          go_wp2_with fail
          refine (rpValid_no n hV _).mono ?_
          rintro e w2 ⟨rfl, rfl⟩
          go_wp2
          go_ret
          exact ⟨rfl, chain hB1 hB⟩
    · have hne : ((l.length : Int) != F * R) = true := by simp [hl]
      clear h hl
      go_enter Tryd.func13, Tryd.ntmps13
      go_wp2_with fail
      refine (refSize_yes _ _ hv _).mono ?_
      rintro e w1 ⟨rfl, hb⟩
      have hc0 := hb.cell (p := ⟨w.heap.size, 0, none⟩) (by simp)
      have hc1 := hb.cell (p := ⟨w.heap.size, 1, none⟩) (by simp)
      have hc2 := hb.cell (p := ⟨w.heap.size, 2, none⟩) (by simp)
      simp [go_sem] at hc0 hc1 hc2
      go_wp2
      go_ret
      exact ⟨rfl, after1 hb⟩
  · clear h
    go_enter Tryd.func13, Tryd.ntmps13
    go_wp2_with fail
    refine (refSize_no _ _ hv _).mono ?_
    rintro e w1 ⟨rfl, hb⟩
    go_wp2
    go_ret
    exact ⟨rfl, after1 hb⟩

end Go.Proofs.YtolohfkenglpcaaDoor
