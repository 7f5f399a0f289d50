/- Boards: the program's own comparison, copies and empty boards. -/
import Derived.Test.YtolohfkenglpcaaDoorBdC
import Derived.Test.YtolohfkenglpcaaDoorBpA
import Derived.Lib.SliceRun
namespace Go.Proofs.YtolohfkenglpcaaDoor
open Go.RowKit

theorem liv {w : World} (o : Obj) {p : Addr} {v : Value} (h : w.cell? p = some v) : (w.alloc o).cell? p = some v :=
  (World.cell?_alloc_lt w o p (World.block_lt_of_cell? w p h)).trans h

set_option maxRecDepth 100000 in
set_option maxHeartbeats 1000000 in
theorem sEqual_yes (l : List Int) (A A' : Option Addr) (c c' : Nat) (w : World) (hlen : l.length ≤ 100000) (hA : RdP w w.heap.size A l c) (hA' : RdP w w.heap.size A' l c') :
    Calls Tryd.prog 39 #[.slice A l.length c, .slice A' l.length c'] w fun e w' => e = .returned (.bool true) ∧ Below w.heap.size w w' := by
  go_enter Tryd.func39, Tryd.ntmps39
  go_wp2_with fail
  go_loopw [5, 13] (fun _ i wr => ∃ k : Nat, k ≤ l.length ∧ i = .int .i64 k ∧ Below w.heap.size w wr) (fun _ i _ => l.length - (intOf i).toNat)
  case atStart => exact ⟨0, by omega, rfl, Below.refl _ _⟩
  case round =>
    obtain ⟨k, hk, rfl, hB⟩ := hrel
    by_cases hlt : k < l.length
    · obtain ⟨ad, rfl, hb, hc⟩ := (hA.below hB).at_ hlt
      obtain ⟨ad', rfl, hb', hc'⟩ := (hA'.below hB).at_ hlt
      clear hA hA'
      generalize hn : l[k]?.getD 0 = n at *
      clear hn
      go_wp2
      go_quiet (fail)
      go_wp2
      go_roundw
      case rel => exact ⟨k + 1, by omega, by go_num, drawn hB _⟩
      case measure => simp [intOf]; omega
    · have hkl : k = l.length := by omega
      subst hkl
      go_wp2
      go_ret
      exact ⟨rfl, hB⟩

set_option maxRecDepth 100000 in
set_option maxHeartbeats 1000000 in
theorem sEqual_diff (l l' : List Int) (A A' : Option Addr) (c c' : Nat) (w : World) (hlen : l.length ≤ 100000) (hA : RdP w w.heap.size A l c) (hA' : RdP w w.heap.size A' l' c') (hll : l.length = l'.length)
    (m : Nat) (hm : m < l.length) (hd : l[m]?.getD 0 ≠ l'[m]?.getD 0) (he : ∀ j, j < m → l[j]?.getD 0 = l'[j]?.getD 0) :
    Calls Tryd.prog 39 #[.slice A l.length c, .slice A' l'.length c'] w fun e w' => e = .returned (.bool false) ∧ Below w.heap.size w w' := by
  have HD := Lib.hid hd
  have HE := Lib.hid he
  rw [← hll]
  have HL := Lib.hid hll
  clear hd he hll
  go_enter Tryd.func39, Tryd.ntmps39
  go_wp2_with fail
  go_loopw [5, 13] (fun _ i wr => ∃ k : Nat, k ≤ m ∧ i = .int .i64 k ∧ Below w.heap.size w wr) (fun _ i _ => l.length - (intOf i).toNat)
  case atStart => exact ⟨0, by omega, rfl, Below.refl _ _⟩
  case round =>
    obtain ⟨k, hk, rfl, hB⟩ := hrel
    obtain ⟨ad, rfl, hb, hc⟩ := (hA.below hB).at_ (show k < l.length by omega)
    obtain ⟨ad', rfl, hb', hc'⟩ := (hA'.below hB).at_ (show k < l'.length by have := HL.out; omega)
    clear hA hA'
    by_cases hlt : k < m
    · have hlt' : k < l.length := by omega
      have hq := HE.out k hlt
      rw [← hq] at hc'
      clear hq
      generalize hn : l[k]?.getD 0 = n at *
      clear hn
      go_wp2
      go_quiet (fail)
      go_wp2
      go_roundw
      case rel => exact ⟨k + 1, by omega, by go_num, drawn hB _⟩
      case measure => simp [intOf]; omega
    · have hkl : k = m := by omega
      subst hkl
      have hq := HD.out
      generalize hn : l[k]?.getD 0 = n at *
      generalize hn' : l'[k]?.getD 0 = n' at *
      clear hn hn'
      have hbq : (n != n') = true := bne_iff_ne.2 hq
      clear hq
      go_wp2
      go_quiet (fail)
      go_wp2
      go_ret
      exact ⟨rfl, drawn hB _⟩

set_option maxRecDepth 100000 in
set_option maxHeartbeats 1000000 in
theorem sEqual_no (l l' : List Int) (A A' : Option Addr) (c c' : Nat) (w : World) (hlen : l.length ≤ 100000) (hA : RdP w w.heap.size A l c) (hA' : RdP w w.heap.size A' l' c') (h : l ≠ l') :
    Calls Tryd.prog 39 #[.slice A l.length c, .slice A' l'.length c'] w fun e w' => e = .returned (.bool false) ∧ Below w.heap.size w w' := by
  by_cases hl : l.length = l'.length
  · obtain ⟨m, h1, h2, h3⟩ := first_diff hl h
    exact sEqual_diff l l' A A' c c' w hlen hA hA' hl m h1 h2 h3
  · have hne : ((l.length : Int) != (l'.length : Int)) = true := bne_iff_ne.2 (by omega)
    clear h hl hA hA'
    go_enter Tryd.func39, Tryd.ntmps39
    go_wp2
    go_ret
    exact ⟨rfl, Below.refl _ _⟩

set_option maxRecDepth 100000 in
set_option maxHeartbeats 1000000 in
theorem equal_yes (F R : Int) (l : List Int) (A A' : Option Addr) (c c' : Nat) (w : World) (hlen : l.length ≤ 100000) (hA : RdP w w.heap.size A l c) (hA' : RdP w w.heap.size A' l c') :
    Calls Tryd.prog 14 #[.agg #[.int .i64 F, .int .i64 R, .slice A l.length c], .agg #[.int .i64 F, .int .i64 R, .slice A' l.length c']] w fun e w' => e = .returned (.bool true) ∧ Below w.heap.size w w' := by
  have hB0 : Below w.heap.size w ((w.alloc (.cells #[.int .i64 F, .int .i64 R, .slice A l.length c] 26)).alloc (.cells #[.int .i64 F, .int .i64 R, .slice A' l.length c'] 26)) := after1 (box1 _ _)
  have A1 := (hA.below hB0).grow hB0.size
  have A2 := (hA'.below hB0).grow hB0.size
  clear hA hA'
  go_enter Tryd.func14, Tryd.ntmps14
  go_wp2_with fail
  refine (sEqual_yes l A A' c c' _ hlen A1 A2).mono ?_
  rintro e w1 ⟨rfl, hb⟩
  go_wp2
  go_ret
  exact ⟨rfl, chain hB0 hb⟩

set_option maxRecDepth 100000 in
set_option maxHeartbeats 1000000 in
theorem equal_no (F R F' R' : Int) (l l' : List Int) (A A' : Option Addr) (c c' : Nat) (w : World) (hlen : l.length ≤ 100000) (hA : RdP w w.heap.size A l c) (hA' : RdP w w.heap.size A' l' c') (h : ¬ (F = F' ∧ R = R' ∧ l = l')) :
    Calls Tryd.prog 14 #[.agg #[.int .i64 F, .int .i64 R, .slice A l.length c], .agg #[.int .i64 F', .int .i64 R', .slice A' l'.length c']] w fun e w' => e = .returned (.bool false) ∧ Below w.heap.size w w' := by
  by_cases hF : F = F'
  · subst hF
    by_cases hR : R = R'
    · subst hR
      have hne : l ≠ l' := fun e => h ⟨rfl, rfl, e⟩
      have hB0 : Below w.heap.size w ((w.alloc (.cells #[.int .i64 F, .int .i64 R, .slice A l.length c] 26)).alloc (.cells #[.int .i64 F, .int .i64 R, .slice A' l'.length c'] 26)) := after1 (box1 _ _)
      have A1 := (hA.below hB0).grow hB0.size
      have A2 := (hA'.below hB0).grow hB0.size
      clear hA hA' h
      go_enter Tryd.func14, Tryd.ntmps14
      go_wp2_with fail
      refine (sEqual_no l l' A A' c c' _ hlen A1 A2 hne).mono ?_
      rintro e w1 ⟨rfl, hb⟩
      go_wp2
      go_ret
      exact ⟨rfl, chain hB0 hb⟩
    · clear h hA hA'
      go_enter Tryd.func14, Tryd.ntmps14
      go_wp2
      go_ret
      exact ⟨rfl, after1 (box1 _ _)⟩
  · clear h hA hA'
    go_enter Tryd.func14, Tryd.ntmps14
    go_wp2
    go_ret
    exact ⟨rfl, after1 (box1 _ _)⟩

set_option maxRecDepth 100000 in
set_option maxHeartbeats 1000000 in
theorem clone_any (l : List Int) (A : Option Addr) (c : Nat) (w : World) (hlen : l.length ≤ 100000) (hA : RdP w w.heap.size A l c) :
    Calls Tryd.prog 36 #[.slice A l.length c] w fun e w' => ∃ v, e = .returned v ∧ w'.ownsRow w.heap.size 32 1 v l.length (vpcs l) ∧ Below w.heap.size w w' := by
  obtain ⟨i0, hi, hz0, hz1, hz2⟩ := info_parts infoPc
  have q22 : ∀ (w : World) (a : Option Addr) (n c n' c' : Nat), (binOp .eql 24 (.slice a n c) (.slice none n' c')).run Tryd.prog w = .ok (.bool a.isNone) w := fun w a n c n' c' => Lib.run_eql_slice_nil w _ _ a n c n' c' Tryd.underlying24
  go_enter Tryd.func36, Tryd.ntmps36
  cases A with
  | none =>
    obtain ⟨h0, rfl⟩ := hA.1 rfl
    go_wp2
    go_ret
    exact ⟨_, rfl, by rw [h0, List.eq_nil_of_length_eq_zero h0]; exact World.ownsRow_nil _ _ _ _, Below.refl _ _⟩
  | some ad =>
    have hW : Below w.heap.size w (w.alloc (.cells #[] 32)) := box1 _ _
    have hcells := (hA.below hW).cells ad rfl
    have hown0 : (w.alloc (.cells #[] 32)).ownsRow w.heap.size 32 1 (.slice (some ⟨w.heap.size, 0, none⟩) 0 0) 0 [] := World.ownsRow_lit w #[] 0 (by simp) (by unfold maxLen; omega) (by simp)
    clear hA
    go_wp2_with (at_builtin; (refine wpList_append_own _ rfl _ _ 24 rfl w.heap.size 32 i0 (.int .i8 0) 1 1 Tryd.underlying24 hi hz0 hz1 hz2 rfl (by decide) _ _ _ rfl hown0 ad l.length c (vpcs l) rfl (by simp [vpcs_len]) ?c1 ?c2 ?c3 ?c4 ?c5 ?_))
    case c1 => exact hcells
    case c2 => exact vpcs_one
    case c3 => unfold maxLen; omega
    case c4 => omega
    case c5 => simp
    intro v' w2 hown' hgrow _
    go_wp2
    go_ret
    try simp only [Nat.zero_add, List.nil_append] at hown'
    exact ⟨_, rfl, hown', hW.grown hgrow (by simp) (fun r e => (World.ownsRow.lt hown0 r e).1)⟩

set_option maxRecDepth 100000 in
set_option maxHeartbeats 1000000 in
theorem bEmpty_yes (F R : Int) (hv : vsz F R) (w : World) :
    Calls Tryd.prog 17 #[.agg #[.int .i64 F, .int .i64 R]] w fun e w' => ∃ v, e = .returned (.tuple #[.agg #[.int .i64 F, .int .i64 R, v], .int .i64 0]) ∧ w'.ownsRow w.heap.size 32 1 v (F * R).toNat (vpcs (List.replicate (F * R).toNat 0)) ∧ Below w.heap.size w w' := by
  obtain ⟨m0, m1⟩ := vsz_mul hv
  obtain ⟨i0, hi, hz0, hz1, hz2⟩ := info_parts infoPc
  have hn : (((F * R).toNat : Nat) : Int) = F * R := by omega
  have hmk : ∀ W : World, (Instr.makeSlice 24 (.int .i64 (F * R)) (.int .i64 (F * R))).run Tryd.prog W = .ok (.slice (some ⟨W.heap.size, 0, none⟩) (F * R).toNat (F * R).toNat) (W.alloc (.cells (madeCells #[.int .i8 0] (F * R).toNat) 32)) := by
    intro W
    have h := run_make_row (P := Tryd.prog) 24 32 i0 (.int .i8 0) Tryd.underlying24 hi hz0 hz1 rfl .i64 .i64 (F * R).toNat (by rw [hz2]; omega) (by omega) W
    rw [hn] at h
    exact h
  have hml : (F * R).toNat ≤ maxLen := by unfold maxLen; omega
  have hml := Lib.hid hml
  have HZ := Lib.hid (made_zero (F * R).toNat)
  clear hi hz0 hz1 hz2 hn
  go_enter Tryd.func17, Tryd.ntmps17
  go_wp2_with fail
  refine (count_yes _ _ hv _).mono ?_
  rintro e w1 ⟨rfl, hb⟩
  have s1 := hb.size
  simp at s1
  have hc0 := hb.cell (p := ⟨w.heap.size, 0, none⟩) (by simp; omega)
  have hc1 := hb.cell (p := ⟨w.heap.size, 1, none⟩) (by simp; omega)
  have m0 : w1.cell? ⟨w.heap.size + 1, 0, none⟩ = some (.int .i64 0) := (hb.cell (by simp)).trans (by simp [go_sem])
  have m1 : w1.cell? ⟨w.heap.size + 1, 1, none⟩ = some (.int .i64 0) := (hb.cell (by simp)).trans (by simp [go_sem])
  have m2 : w1.cell? ⟨w.heap.size + 1, 2, none⟩ = some (.slice none 0 0) := (hb.cell (by simp)).trans (by simp [go_sem])
  have f0 : ∀ o, w1.frozen? ⟨w.heap.size + 1, o, none⟩ = false := fun o => (hb.frozen (p := ⟨w.heap.size + 1, o, none⟩) (by simp)).trans (by simp [go_sem])
  simp [go_sem] at hc0 hc1
  have hB1 : Below w.heap.size w w1 := after2 hb
  clear hb
  have sz : w.heap.size + 1 < w1.heap.size := by omega
  have a0 : ∀ o, (w1.alloc o).cell? ⟨w.heap.size, 0, none⟩ = some (.int .i64 F) := fun o => liv _ hc0
  have a1 : ∀ o, (w1.alloc o).cell? ⟨w.heap.size, 1, none⟩ = some (.int .i64 R) := fun o => liv _ hc1
  have b0 : ∀ o, (w1.alloc o).cell? ⟨w.heap.size + 1, 0, none⟩ = some (.int .i64 0) := fun o => liv _ m0
  have b1 : ∀ o, (w1.alloc o).cell? ⟨w.heap.size + 1, 1, none⟩ = some (.int .i64 0) := fun o => liv _ m1
  have b2 : ∀ o, (w1.alloc o).cell? ⟨w.heap.size + 1, 2, none⟩ = some (.slice none 0 0) := fun o => liv _ m2
  have g0 : ∀ o k, (w1.alloc o).frozen? ⟨w.heap.size + 1, k, none⟩ = false := fun o k => ((box1 w1 o).frozen (p := ⟨w.heap.size + 1, k, none⟩) sz).trans (f0 k)
  have hB := Lib.hid hB1
  clear hB1
  go_wp2
  go_region
  go_wp2
  have m0' : w1.cell? ⟨w.heap.size + 1, 0, none⟩ = some (.int .i64 0) := m0
  refine bodyPost_ret (v := .tuple #[.agg #[.int .i64 F, .int .i64 R, .slice (some ⟨w1.heap.size, 0, none⟩) (F * R).toNat (F * R).toNat], .int .i64 0]) ?_ rfl ?_
  · simp [results, Tryd.results17, go_sem, m0, m1, m2, sz]
  · refine ⟨_, rfl, ?_, ?_⟩
    · have ho := World.ownsRow_lit (base := w.heap.size) (e := 32) (size := 1) (((w1.setCell ⟨w.heap.size + 1, 0, none⟩ (.int .i64 F)).setCell ⟨w.heap.size + 1, 1, none⟩ (.int .i64 R)).setCell ⟨w.heap.size + 1, 2, none⟩ (.slice (some ⟨w1.heap.size, 0, none⟩) (F * R).toNat (F * R).toNat)) (madeCells #[.int .i8 0] (F * R).toNat) (F * R).toNat (by simp; omega) hml.out (by rw [size_madeCells]; simp)
      rw [HZ.out] at ho
      exact World.ownsRow.drew (by simpa using ho)
    · exact ((((hB.out.setCell (p := ⟨w.heap.size + 1, 0, none⟩) (by simp) _).setCell (p := ⟨w.heap.size + 1, 1, none⟩) (by simp) _).setCell (p := ⟨w.heap.size + 1, 2, none⟩) (by simp) _).alloc (by simp; omega) _).drew
end Go.Proofs.YtolohfkenglpcaaDoor
