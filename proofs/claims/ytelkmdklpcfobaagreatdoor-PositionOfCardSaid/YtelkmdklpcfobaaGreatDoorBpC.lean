/- Boards: the program's own validity. -/
import Derived.Test.YtelkmdklpcfobaaGreatDoorBdA
import Derived.Test.YtelkmdklpcfobaaGreatDoorBdD
import Derived.Lib.SliceRun
import Derived.Shelf.RegionOpen
import Derived.Sort.BigQuietIn
import Derived.Lib.QuietBelow

namespace Go.Proofs.YtelkmdklpcfobaaGreatDoor
open Go.RowKit

set_option maxRecDepth 100000 in
set_option maxHeartbeats 1000000 in
theorem bValid_yes (F R : Int) (l : List Int) (A : Option Addr) (c : Nat) (h :  vbd F R l) (w : World) (hA : RdP w w.heap.size A l c) :
    Calls Tryz.prog 87 #[.agg #[.int .i64 F, .int .i64 R, .slice A l.length c]] w fun e w' => e = .returned (.bool true) ∧ Below w.heap.size w w' := by
  obtain ⟨hv, hl, hp⟩ := h
  obtain ⟨m0, m1⟩ := vsz_mul hv
  have hne : ((l.length : Int) != F * R) = false := by simp [hl]
  have HP := Lib.hid hp
  have hlen : l.length ≤ 64 := by omega
  clear hl hp
  go_enter Tryz.func87, Tryz.ntmps87
  go_wp2_with fail
  refine (count_yes _ _ hv _).mono ?_
  rintro e w1 ⟨rfl, hb⟩
  have s1 := hb.size
  simp at s1
  have hc0 := hb.cell (p := ⟨w.heap.size, 0, none⟩) (by simp)
  have hc1 := hb.cell (p := ⟨w.heap.size, 1, none⟩) (by simp)
  have hc2 := hb.cell (p := ⟨w.heap.size, 2, none⟩) (by simp)
  simp [go_sem] at hc0 hc1 hc2
  have hB1 := after1 hb
  have A1 := hA.below hB1
  clear hA hb
  go_wp2
  go_loopw [6, 25] (fun _ i wr => ∃ k : Nat, k ≤ l.length ∧ i = .int .i64 k ∧ Below w1.heap.size w1 wr) (fun _ i _ => l.length - (intOf i).toNat)
  case atStart => exact ⟨0, by omega, rfl, Below.refl _ _⟩
  case round =>
    obtain ⟨k, hk, rfl, hB⟩ := hrel
    have s2 := hB.size
    by_cases hlt : k < l.length
    · obtain ⟨ad, rfl, hb, hc⟩ := (A1.below (hB.mono (by omega))).at_ hlt
      have hV := HP.out k hlt
      clear A1
      generalize hn : l[k]?.getD 0 = n at *
      clear hn
      go_wp2_with fail
      refine (pValid_yes n hV _).mono ?_
      rintro e w2 ⟨rfl, rfl⟩
      go_wp2
      go_roundw
      case rel => exact ⟨k + 1, by omega, by go_num, hB⟩
      case measure => simp [intOf]; omega
    · have hkl : k = l.length := by omega
      subst hkl
      go_wp2
      go_ret
      exact ⟨rfl, chain hB1 hB⟩

set_option maxRecDepth 100000 in
set_option maxHeartbeats 1000000 in
theorem bValid_no (F R : Int) (l : List Int) (A : Option Addr) (c : Nat) (h : ¬ vbd F R l) (w : World) (hlen : l.length ≤ 100000) (hA : RdP w w.heap.size A l c) :
    Calls Tryz.prog 87 #[.agg #[.int .i64 F, .int .i64 R, .slice A l.length c]] w fun e w' => e = .returned (.bool false) ∧ Below w.heap.size w w' := by
  by_cases hv : vsz F R
  · obtain ⟨m0, m1⟩ := vsz_mul hv
    by_cases hl : (l.length : Int) = F * R
    · obtain ⟨m, hm, hbad, hgood⟩ := first_bad (fun hp => h ⟨hv, hl, hp⟩)
      have hne : ((l.length : Int) != F * R) = false := by simp [hl]
      have HP := Lib.hid hgood
      have HB := Lib.hid hbad
      clear hl hgood hbad h
      go_enter Tryz.func87, Tryz.ntmps87
      go_wp2_with fail
      refine (count_yes _ _ hv _).mono ?_
      rintro e w1 ⟨rfl, hb⟩
      have s1 := hb.size
      simp at s1
      have hc0 := hb.cell (p := ⟨w.heap.size, 0, none⟩) (by simp)
      have hc1 := hb.cell (p := ⟨w.heap.size, 1, none⟩) (by simp)
      have hc2 := hb.cell (p := ⟨w.heap.size, 2, none⟩) (by simp)
      simp [go_sem] at hc0 hc1 hc2
      have hB1 := after1 hb
      have A1 := hA.below hB1
      clear hA hb
      go_wp2
      go_loopw [6, 25] (fun _ i wr => ∃ k : Nat, k ≤ m ∧ i = .int .i64 k ∧ Below w1.heap.size w1 wr) (fun _ i _ => l.length - (intOf i).toNat)
      case atStart => exact ⟨0, by omega, rfl, Below.refl _ _⟩
      case round =>
        obtain ⟨k, hk, rfl, hB⟩ := hrel
        have s2 := hB.size
        obtain ⟨ad, rfl, hb, hc⟩ := (A1.below (hB.mono (by omega))).at_ (show k < l.length by omega)
        by_cases hlt : k < m
        · have hV := HP.out k hlt
          clear A1
          generalize hn : l[k]?.getD 0 = n at *
          clear hn
          have hlt' : k < l.length := by omega
          go_wp2_with fail
          refine (pValid_yes n hV _).mono ?_
          rintro e w2 ⟨rfl, rfl⟩
          go_wp2
          go_roundw
          case rel => exact ⟨k + 1, by omega, by go_num, hB⟩
          case measure => simp [intOf]; omega
        · have hkl : k = m := by omega
          subst hkl
          have hV := HB.out
          clear A1
          generalize hn : l[k]?.getD 0 = n at *
          clear hn
          go_wp2_with fail
          refine (pValid_no n hV _).mono ?_
          rintro e w2 ⟨rfl, rfl⟩
          go_wp2
          go_ret
          exact ⟨rfl, chain hB1 hB⟩
    · have hne : ((l.length : Int) != F * R) = true := by simp [hl]
      clear h hl
      go_enter Tryz.func87, Tryz.ntmps87
      go_wp2_with fail
      refine (count_yes _ _ hv _).mono ?_
      rintro e w1 ⟨rfl, hb⟩
      have s1 := hb.size
      simp at s1
      have hc0 := hb.cell (p := ⟨w.heap.size, 0, none⟩) (by simp)
      have hc1 := hb.cell (p := ⟨w.heap.size, 1, none⟩) (by simp)
      have hc2 := hb.cell (p := ⟨w.heap.size, 2, none⟩) (by simp)
      simp [go_sem] at hc0 hc1 hc2
      have hB1 := after1 hb
      have A1 := hA.below hB1
      clear hA hb
      go_wp2
      go_ret
      exact ⟨rfl, hB1⟩
  · clear h
    go_enter Tryz.func87, Tryz.ntmps87
    go_wp2_with fail
    refine (count_no _ _ hv _).mono ?_
    rintro e w1 ⟨rfl, hb⟩
    go_wp2
    go_ret
    exact ⟨rfl, after1 hb⟩

end Go.Proofs.YtelkmdklpcfobaaGreatDoor

/- Boards: the program's own comparison, copies and empty boards. -/
namespace Go.Proofs.YtelkmdklpcfobaaGreatDoor
open Go.RowKit

theorem liv {w : World} (o : Obj) {p : Addr} {v : Value} (h : w.cell? p = some v) : (w.alloc o).cell? p = some v :=
  (World.cell?_alloc_lt w o p (World.block_lt_of_cell? w p h)).trans h

set_option maxRecDepth 100000 in
set_option maxHeartbeats 1000000 in
theorem sEqual_yes (l : List Int) (A A' : Option Addr) (c c' : Nat) (w : World) (hlen : l.length ≤ 100000) (hA : RdP w w.heap.size A l c) (hA' : RdP w w.heap.size A' l c') :
    Calls Tryz.prog 86 #[.slice A l.length c, .slice A' l.length c'] w fun e w' => e = .returned (.bool true) ∧ Below w.heap.size w w' := by
  go_enter Tryz.func86, Tryz.ntmps86
  go_wp2_with fail
  go_loopw [5, 13] (fun _ i wr => ∃ k : Nat, k ≤ l.length ∧ i = .int .i64 k ∧ Below w.heap.size w wr) (fun _ i _ => l.length - (intOf i).toNat)
  case atStart => exact ⟨0, by omega, rfl, Below.refl _ _⟩
  case round =>
    obtain ⟨k, hk, rfl, hB⟩ := hrel
    by_cases hlt : k < l.length
    · obtain ⟨ad, rfl, hb, hc⟩ := (hA.below hB).at_ hlt
      obtain ⟨ad', rfl, hb', hc'⟩ := (hA'.below hB).at_ hlt
      clear hA hA'
      generalize hn : l[k]?.getD 0 = n at *
      clear hn
      go_wp2
      go_quiet (fail)
      go_wp2
      go_roundw
      case rel => exact ⟨k + 1, by omega, by go_num, drawn hB _⟩
      case measure => simp [intOf]; omega
    · have hkl : k = l.length := by omega
      subst hkl
      go_wp2
      go_ret
      exact ⟨rfl, hB⟩

set_option maxRecDepth 100000 in
set_option maxHeartbeats 1000000 in
theorem sEqual_diff (l l' : List Int) (A A' : Option Addr) (c c' : Nat) (w : World) (hlen : l.length ≤ 100000) (hA : RdP w w.heap.size A l c) (hA' : RdP w w.heap.size A' l' c') (hll : l.length = l'.length)
    (m : Nat) (hm : m < l.length) (hd : l[m]?.getD 0 ≠ l'[m]?.getD 0) (he : ∀ j, j < m → l[j]?.getD 0 = l'[j]?.getD 0) :
    Calls Tryz.prog 86 #[.slice A l.length c, .slice A' l'.length c'] w fun e w' => e = .returned (.bool false) ∧ Below w.heap.size w w' := by
  have HD := Lib.hid hd
  have HE := Lib.hid he
  rw [← hll]
  have HL := Lib.hid hll
  clear hd he hll
  go_enter Tryz.func86, Tryz.ntmps86
  go_wp2_with fail
  go_loopw [5, 13] (fun _ i wr => ∃ k : Nat, k ≤ m ∧ i = .int .i64 k ∧ Below w.heap.size w wr) (fun _ i _ => l.length - (intOf i).toNat)
  case atStart => exact ⟨0, by omega, rfl, Below.refl _ _⟩
  case round =>
    obtain ⟨k, hk, rfl, hB⟩ := hrel
    obtain ⟨ad, rfl, hb, hc⟩ := (hA.below hB).at_ (show k < l.length by omega)
    obtain ⟨ad', rfl, hb', hc'⟩ := (hA'.below hB).at_ (show k < l'.length by have := HL.out; omega)
    clear hA hA'
    by_cases hlt : k < m
    · have hlt' : k < l.length := by omega
      have hq := HE.out k hlt
      rw [← hq] at hc'
      clear hq
      generalize hn : l[k]?.getD 0 = n at *
      clear hn
      go_wp2
      go_quiet (fail)
      go_wp2
      go_roundw
      case rel => exact ⟨k + 1, by omega, by go_num, drawn hB _⟩
      case measure => simp [intOf]; omega
    · have hkl : k = m := by omega
      subst hkl
      have hq := HD.out
      generalize hn : l[k]?.getD 0 = n at *
      generalize hn' : l'[k]?.getD 0 = n' at *
      clear hn hn'
      have hbq : (n != n') = true := bne_iff_ne.2 hq
      clear hq
      go_wp2
      go_quiet (fail)
      go_wp2
      go_ret
      exact ⟨rfl, drawn hB _⟩

set_option maxRecDepth 100000 in
set_option maxHeartbeats 1000000 in
theorem sEqual_no (l l' : List Int) (A A' : Option Addr) (c c' : Nat) (w : World) (hlen : l.length ≤ 100000) (hA : RdP w w.heap.size A l c) (hA' : RdP w w.heap.size A' l' c') (h : l ≠ l') :
    Calls Tryz.prog 86 #[.slice A l.length c, .slice A' l'.length c'] w fun e w' => e = .returned (.bool false) ∧ Below w.heap.size w w' := by
  by_cases hl : l.length = l'.length
  · obtain ⟨m, h1, h2, h3⟩ := first_diff hl h
    exact sEqual_diff l l' A A' c c' w hlen hA hA' hl m h1 h2 h3
  · have hne : ((l.length : Int) != (l'.length : Int)) = true := bne_iff_ne.2 (by omega)
    clear h hl hA hA'
    go_enter Tryz.func86, Tryz.ntmps86
    go_wp2
    go_ret
    exact ⟨rfl, Below.refl _ _⟩

set_option maxRecDepth 100000 in
set_option maxHeartbeats 1000000 in
theorem equal_yes (F R : Int) (l : List Int) (A A' : Option Addr) (c c' : Nat) (w : World) (hlen : l.length ≤ 100000) (hA : RdP w w.heap.size A l c) (hA' : RdP w w.heap.size A' l c') :
    Calls Tryz.prog 51 #[.agg #[.int .i64 F, .int .i64 R, .slice A l.length c], .agg #[.int .i64 F, .int .i64 R, .slice A' l.length c']] w fun e w' => e = .returned (.bool true) ∧ Below w.heap.size w w' := by
  have hB0 : Below w.heap.size w ((w.alloc (.cells #[.int .i64 F, .int .i64 R, .slice A l.length c] 30)).alloc (.cells #[.int .i64 F, .int .i64 R, .slice A' l.length c'] 30)) := after1 (box1 _ _)
  have A1 := (hA.below hB0).grow hB0.size
  have A2 := (hA'.below hB0).grow hB0.size
  clear hA hA'
  go_enter Tryz.func51, Tryz.ntmps51
  go_wp2_with fail
  refine (sEqual_yes l A A' c c' _ hlen A1 A2).mono ?_
  rintro e w1 ⟨rfl, hb⟩
  go_wp2
  go_ret
  exact ⟨rfl, chain hB0 hb⟩

set_option maxRecDepth 100000 in
set_option maxHeartbeats 1000000 in
theorem equal_no (F R F' R' : Int) (l l' : List Int) (A A' : Option Addr) (c c' : Nat) (w : World) (hlen : l.length ≤ 100000) (hA : RdP w w.heap.size A l c) (hA' : RdP w w.heap.size A' l' c') (h : ¬ (F = F' ∧ R = R' ∧ l = l')) :
    Calls Tryz.prog 51 #[.agg #[.int .i64 F, .int .i64 R, .slice A l.length c], .agg #[.int .i64 F', .int .i64 R', .slice A' l'.length c']] w fun e w' => e = .returned (.bool false) ∧ Below w.heap.size w w' := by
  by_cases hF : F = F'
  · subst hF
    by_cases hR : R = R'
    · subst hR
      have hne : l ≠ l' := fun e => h ⟨rfl, rfl, e⟩
      have hB0 : Below w.heap.size w ((w.alloc (.cells #[.int .i64 F, .int .i64 R, .slice A l.length c] 30)).alloc (.cells #[.int .i64 F, .int .i64 R, .slice A' l'.length c'] 30)) := after1 (box1 _ _)
      have A1 := (hA.below hB0).grow hB0.size
      have A2 := (hA'.below hB0).grow hB0.size
      clear hA hA' h
      go_enter Tryz.func51, Tryz.ntmps51
      go_wp2_with fail
      refine (sEqual_no l l' A A' c c' _ hlen A1 A2 hne).mono ?_
      rintro e w1 ⟨rfl, hb⟩
      go_wp2
      go_ret
      exact ⟨rfl, chain hB0 hb⟩
    · clear h hA hA'
      go_enter Tryz.func51, Tryz.ntmps51
      go_wp2
      go_ret
      exact ⟨rfl, after1 (box1 _ _)⟩
  · clear h hA hA'
    go_enter Tryz.func51, Tryz.ntmps51
    go_wp2
    go_ret
    exact ⟨rfl, after1 (box1 _ _)⟩

set_option maxRecDepth 100000 in
set_option maxHeartbeats 1000000 in
theorem clone_any (l : List Int) (A : Option Addr) (c : Nat) (w : World) (hlen : l.length ≤ 100000) (hA : RdP w w.heap.size A l c) :
    Calls Tryz.prog 50 #[.slice A l.length c] w fun e w' => ∃ v, e = .returned v ∧ w'.ownsRow w.heap.size 41 1 v l.length (vpcs l) ∧ Below w.heap.size w w' := by
  obtain ⟨i0, hi, hz0, hz1, hz2⟩ := info_parts infoPc
  have q22 : ∀ (w : World) (a : Option Addr) (n c n' c' : Nat), (binOp .eql 24 (.slice a n c) (.slice none n' c')).run Tryz.prog w = .ok (.bool a.isNone) w := fun w a n c n' c' => Lib.run_eql_slice_nil w _ _ a n c n' c' Tryz.underlying24
  go_enter Tryz.func50, Tryz.ntmps50
  cases A with
  | none =>
    obtain ⟨h0, rfl⟩ := hA.1 rfl
    go_wp2
    go_ret
    exact ⟨_, rfl, by rw [h0, List.eq_nil_of_length_eq_zero h0]; exact World.ownsRow_nil _ _ _ _, Below.refl _ _⟩
  | some ad =>
    have hW : Below w.heap.size w (w.alloc (.cells #[] 41)) := box1 _ _
    have hcells := (hA.below hW).cells ad rfl
    have hown0 : (w.alloc (.cells #[] 41)).ownsRow w.heap.size 41 1 (.slice (some ⟨w.heap.size, 0, none⟩) 0 0) 0 [] := World.ownsRow_lit w #[] 0 (by simp) (by unfold maxLen; omega) (by simp)
    clear hA
    go_wp2_with (at_builtin; (refine wpList_append_own _ rfl _ _ 24 rfl w.heap.size 41 i0 (.int .i8 0) 1 1 Tryz.underlying24 hi hz0 hz1 hz2 rfl (by decide) _ _ _ rfl hown0 ad l.length c (vpcs l) rfl (by simp [vpcs_len]) ?c1 ?c2 ?c3 ?c4 ?c5 ?_))
    case c1 => exact hcells
    case c2 => exact vpcs_one
    case c3 => unfold maxLen; omega
    case c4 => omega
    case c5 => simp
    intro v' w2 hown' hgrow _
    go_wp2
    go_ret
    try simp only [Nat.zero_add, List.nil_append] at hown'
    exact ⟨_, rfl, hown', hW.grown hgrow (by simp) (fun r e => (World.ownsRow.lt hown0 r e).1)⟩

end Go.Proofs.YtelkmdklpcfobaaGreatDoor

/- Boards: the program's own copy, and a piece put on a square. -/
namespace Go.Proofs.YtelkmdklpcfobaaGreatDoor
open Go.RowKit

set_option maxRecDepth 100000 in
set_option maxHeartbeats 1000000 in
theorem copy_any (F R : Int) (l : List Int) (A : Option Addr) (c : Nat) (w : World) (hlen : l.length ≤ 100000) (hA : RdP w w.heap.size A l c) :
    Calls Tryz.prog 49 #[.agg #[.int .i64 F, .int .i64 R, .slice A l.length c]] w (NewB w F R l) := by
  have W0 : Below w.heap.size w ((w.alloc (.cells #[.int .i64 F, .int .i64 R, .slice A l.length c] 30)).alloc (.cells #[.int .i64 0, .int .i64 0, .slice none 0 0] 30)) := after1 (box1 _ _)
  have A1 := (hA.below W0.drew).grow W0.drew.size
  have hcl := clone_any l A c ((w.alloc (.cells #[.int .i64 F, .int .i64 R, .slice A l.length c] 30)).alloc (.cells #[.int .i64 0, .int .i64 0, .slice none 0 0] 30)).drew hlen A1
  have HF : ∀ w1, Below ((w.alloc (.cells #[.int .i64 F, .int .i64 R, .slice A l.length c] 30)).alloc (.cells #[.int .i64 0, .int .i64 0, .slice none 0 0] 30)).drew.heap.size ((w.alloc (.cells #[.int .i64 F, .int .i64 R, .slice A l.length c] 30)).alloc (.cells #[.int .i64 0, .int .i64 0, .slice none 0 0] 30)).drew w1 →
      (w1.cell? ⟨w.heap.size, 0, none⟩ = some (.int .i64 F) ∧ w1.cell? ⟨w.heap.size, 1, none⟩ = some (.int .i64 R)) ∧ (w1.cell? ⟨w.heap.size + 1, 0, none⟩ = some (.int .i64 0) ∧ w1.cell? ⟨w.heap.size + 1, 1, none⟩ = some (.int .i64 0) ∧ w1.cell? ⟨w.heap.size + 1, 2, none⟩ = some (.slice none 0 0)) ∧ ∀ o, w1.frozen? ⟨w.heap.size + 1, o, none⟩ = false := by
    intro w1 hb
    refine ⟨⟨?_, ?_⟩, ⟨?_, ?_, ?_⟩, fun o => ?_⟩
    · exact (hb.cell (p := ⟨w.heap.size, 0, none⟩) (by simp; omega)).trans (by simp [go_sem])
    · exact (hb.cell (p := ⟨w.heap.size, 1, none⟩) (by simp; omega)).trans (by simp [go_sem])
    · exact (hb.cell (p := ⟨w.heap.size + 1, 0, none⟩) (by simp)).trans (by simp [go_sem])
    · exact (hb.cell (p := ⟨w.heap.size + 1, 1, none⟩) (by simp)).trans (by simp [go_sem])
    · exact (hb.cell (p := ⟨w.heap.size + 1, 2, none⟩) (by simp)).trans (by simp [go_sem])
    · exact (hb.frozen (p := ⟨w.heap.size + 1, o, none⟩) (by simp)).trans (by simp [go_sem])
  have HF := Lib.hid HF
  have HW := Lib.hid W0.drew
  clear hA A1 W0
  go_enter Tryz.func49, Tryz.ntmps49
  go_wp2_with fail
  go_region_with (go_at_call 50; refine hcl.mono ?_; rintro e w1 ⟨v, rfl, hown, hb⟩; obtain ⟨A', c', rfl, _⟩ := RdP.own hown; obtain ⟨⟨c0, c1⟩, ⟨m0, m1, m2⟩, f0⟩ := HF.out w1 hb; have hb := Lib.hid hb)
  all_goals
    have hown2 := ownsRow_setCell_below (ownsRow_setCell_below (ownsRow_setCell_below hown (a := ⟨w.heap.size + 1, 0, none⟩) (by simp) (.int .i64 F)) (a := ⟨w.heap.size + 1, 1, none⟩) (by simp) (.int .i64 R)) (a := ⟨w.heap.size + 1, 2, none⟩) (by simp) (.slice A' l.length c')
    have hB := (((chain HW.out (hb.out.mono (by simp))).setCell (p := ⟨w.heap.size + 1, 0, none⟩) (by simp) (.int .i64 F)).setCell (p := ⟨w.heap.size + 1, 1, none⟩) (by simp) (.int .i64 R)).setCell (p := ⟨w.heap.size + 1, 2, none⟩) (by simp) (.slice A' l.length c')
    have HN : NewB w F R l (.returned (.agg #[.int .i64 F, .int .i64 R, .slice A' l.length c'])) (((w1.setCell ⟨w.heap.size + 1, 0, none⟩ (.int .i64 F)).setCell ⟨w.heap.size + 1, 1, none⟩ (.int .i64 R)).setCell ⟨w.heap.size + 1, 2, none⟩ (.slice A' l.length c')) := ⟨_, rfl, hown2.mono (by simp; omega), hB⟩
    have HN := Lib.hid HN
    clear hown hown2 hB hcl HF
    go_wp2
    refine bodyPost_ret (v := .agg #[.int .i64 F, .int .i64 R, .slice A' l.length c']) ?_ rfl HN.out
    simp [results, Tryz.results49, go_sem, m0, m1, m2]

end Go.Proofs.YtelkmdklpcfobaaGreatDoor
