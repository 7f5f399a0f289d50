/- Boards: the program's own copy, and a piece put on a square. -/
import Derived.Test.YtolohfkenglpcaaDoorBpB
import Derived.Shelf.RegionOpen
import Derived.Sort.BigQuietIn
import Derived.Lib.QuietBelow
namespace Go.Proofs.YtolohfkenglpcaaDoor
open Go.RowKit

set_option maxRecDepth 100000 in
set_option maxHeartbeats 1000000 in
theorem bEmpty_no (F R : Int) (hv : ¬ vsz F R) (w : World) :
    Calls Tryd.prog 17 #[.agg #[.int .i64 F, .int .i64 R]] w fun e w' => e = .returned (.tuple #[.agg #[.int .i64 0, .int .i64 0, .slice none 0 0], .int .i64 2]) ∧ Below w.heap.size w w' := by
  go_enter Tryd.func17, Tryd.ntmps17
  go_wp2_with fail
  refine (count_no _ _ hv _).mono ?_
  rintro e w1 ⟨rfl, hb⟩
  have s1 := hb.size
  simp at s1
  have m0 : w1.cell? ⟨w.heap.size + 1, 0, none⟩ = some (.int .i64 0) := (hb.cell (by simp)).trans (by simp [go_sem])
  have m1 : w1.cell? ⟨w.heap.size + 1, 1, none⟩ = some (.int .i64 0) := (hb.cell (by simp)).trans (by simp [go_sem])
  have m2 : w1.cell? ⟨w.heap.size + 1, 2, none⟩ = some (.slice none 0 0) := (hb.cell (by simp)).trans (by simp [go_sem])
  have f0 : ∀ o, w1.frozen? ⟨w.heap.size + 1, o, none⟩ = false := fun o => (hb.frozen (p := ⟨w.heap.size + 1, o, none⟩) (by simp)).trans (by simp [go_sem])
  have hB1 := Lib.hid (after2 hb)
  clear hb
  go_wp2
  refine bodyPost_ret (v := .tuple #[.agg #[.int .i64 0, .int .i64 0, .slice none 0 0], .int .i64 2]) ?_ rfl ⟨rfl, ?_⟩
  · simp [results, Tryd.results17, go_sem, m0, m1, m2]
  · exact ((hB1.out.setCell (p := ⟨w.heap.size + 1, 0, none⟩) (by simp) _).setCell (p := ⟨w.heap.size + 1, 1, none⟩) (by simp) _).setCell (p := ⟨w.heap.size + 1, 2, none⟩) (by simp) _

set_option maxRecDepth 100000 in
set_option maxHeartbeats 1000000 in
theorem copy_any (F R : Int) (l : List Int) (A : Option Addr) (c : Nat) (w : World) (hlen : l.length ≤ 100000) (hA : RdP w w.heap.size A l c) :
    Calls Tryd.prog 11 #[.agg #[.int .i64 F, .int .i64 R, .slice A l.length c]] w (NewB w F R l) := by
  have W0 : Below w.heap.size w ((w.alloc (.cells #[.int .i64 F, .int .i64 R, .slice A l.length c] 26)).alloc (.cells #[.int .i64 0, .int .i64 0, .slice none 0 0] 26)) := after1 (box1 _ _)
  have A1 := (hA.below W0.drew).grow W0.drew.size
  have hcl := clone_any l A c ((w.alloc (.cells #[.int .i64 F, .int .i64 R, .slice A l.length c] 26)).alloc (.cells #[.int .i64 0, .int .i64 0, .slice none 0 0] 26)).drew hlen A1
  have HF : ∀ w1, Below ((w.alloc (.cells #[.int .i64 F, .int .i64 R, .slice A l.length c] 26)).alloc (.cells #[.int .i64 0, .int .i64 0, .slice none 0 0] 26)).drew.heap.size ((w.alloc (.cells #[.int .i64 F, .int .i64 R, .slice A l.length c] 26)).alloc (.cells #[.int .i64 0, .int .i64 0, .slice none 0 0] 26)).drew w1 →
      (w1.cell? ⟨w.heap.size, 0, none⟩ = some (.int .i64 F) ∧ w1.cell? ⟨w.heap.size, 1, none⟩ = some (.int .i64 R)) ∧ (w1.cell? ⟨w.heap.size + 1, 0, none⟩ = some (.int .i64 0) ∧ w1.cell? ⟨w.heap.size + 1, 1, none⟩ = some (.int .i64 0) ∧ w1.cell? ⟨w.heap.size + 1, 2, none⟩ = some (.slice none 0 0)) ∧ ∀ o, w1.frozen? ⟨w.heap.size + 1, o, none⟩ = false := by
    intro w1 hb
    refine ⟨⟨?_, ?_⟩, ⟨?_, ?_, ?_⟩, fun o => ?_⟩
    · exact (hb.cell (p := ⟨w.heap.size, 0, none⟩) (by simp; omega)).trans (by simp [go_sem])
    · exact (hb.cell (p := ⟨w.heap.size, 1, none⟩) (by simp; omega)).trans (by simp [go_sem])
    · exact (hb.cell (p := ⟨w.heap.size + 1, 0, none⟩) (by simp)).trans (by simp [go_sem])
    · exact (hb.cell (p := ⟨w.heap.size + 1, 1, none⟩) (by simp)).trans (by simp [go_sem])
    · exact (hb.cell (p := ⟨w.heap.size + 1, 2, none⟩) (by simp)).trans (by simp [go_sem])
    · exact (hb.frozen (p := ⟨w.heap.size + 1, o, none⟩) (by simp)).trans (by simp [go_sem])
  have HF := Lib.hid HF
  have HW := Lib.hid W0.drew
  clear hA A1 W0
  go_enter Tryd.func11, Tryd.ntmps11
  go_wp2_with fail
  go_region_with (go_at_call 36; refine hcl.mono ?_; rintro e w1 ⟨v, rfl, hown, hb⟩; obtain ⟨A', c', rfl, _⟩ := RdP.own hown; obtain ⟨⟨c0, c1⟩, ⟨m0, m1, m2⟩, f0⟩ := HF.out w1 hb; have hb := Lib.hid hb)
  all_goals
    have hown2 := ownsRow_setCell_below (ownsRow_setCell_below (ownsRow_setCell_below hown (a := ⟨w.heap.size + 1, 0, none⟩) (by simp) (.int .i64 F)) (a := ⟨w.heap.size + 1, 1, none⟩) (by simp) (.int .i64 R)) (a := ⟨w.heap.size + 1, 2, none⟩) (by simp) (.slice A' l.length c')
    have hB := (((chain HW.out (hb.out.mono (by simp))).setCell (p := ⟨w.heap.size + 1, 0, none⟩) (by simp) (.int .i64 F)).setCell (p := ⟨w.heap.size + 1, 1, none⟩) (by simp) (.int .i64 R)).setCell (p := ⟨w.heap.size + 1, 2, none⟩) (by simp) (.slice A' l.length c')
    have HN : NewB w F R l (.returned (.agg #[.int .i64 F, .int .i64 R, .slice A' l.length c'])) (((w1.setCell ⟨w.heap.size + 1, 0, none⟩ (.int .i64 F)).setCell ⟨w.heap.size + 1, 1, none⟩ (.int .i64 R)).setCell ⟨w.heap.size + 1, 2, none⟩ (.slice A' l.length c')) := ⟨_, rfl, hown2.mono (by simp; omega), hB⟩
    have HN := Lib.hid HN
    clear hown hown2 hB hcl HF
    go_wp2
    refine bodyPost_ret (v := .agg #[.int .i64 F, .int .i64 R, .slice A' l.length c']) ?_ rfl HN.out
    simp [results, Tryd.results11, go_sem, m0, m1, m2]

set_option maxRecDepth 100000 in
set_option maxHeartbeats 1000000 in
theorem put_yes (F R : Int) (l : List Int) (A : Option Addr) (c : Nat) (a p : Int) (w : World) (hv : vbd F R l) (ha : vat F R a) (hp : okP p) (hA : RdP w w.heap.size A l c) :
    Calls Tryd.prog 18 #[.agg #[.int .i64 F, .int .i64 R, .slice A l.length c], .int .i64 a, .int .i8 p] w fun e w' => ∃ v, e = .returned (.tuple #[.agg #[.int .i64 F, .int .i64 R, v], .int .i64 0]) ∧ w'.ownsRow w.heap.size 32 1 v l.length (vpcs (l.set a.toNat p)) ∧ Below w.heap.size w w' := by
  have W0 : Below w.heap.size w ((w.alloc (.cells #[.int .i64 F, .int .i64 R, .slice A l.length c] 26)).alloc (.cells #[.int .i64 0, .int .i64 0, .slice none 0 0] 26)) := after1 (box1 _ _)
  have A1 := (hA.below W0).grow W0.size
  clear hA
  have hn : a.toNat < l.length := by have := hv.2.1; have := ha.2; omega
  obtain ⟨N, rfl⟩ : ∃ N : Nat, a = (N : Int) := ⟨a.toNat, by have := ha.2.1; omega⟩
  simp only [Int.toNat_natCast] at hn ⊢
  have hlen : l.length ≤ 64 := by have := vsz_mul hv.1; have := hv.2.1; omega
  have HV := Lib.hid hv
  have HA := Lib.hid ha
  have HP := Lib.hid hp
  clear hv ha hp
  go_enter Tryd.func18, Tryd.ntmps18
  go_wp2_with fail
  refine (bValid_yes F R l A c HV.out _ A1).mono ?_
  rintro e w1 ⟨rfl, hb1⟩
  have s1 := hb1.size
  simp at s1
  have c0 := hb1.cell (p := ⟨w.heap.size, 0, none⟩) (by simp; omega)
  have c1 := hb1.cell (p := ⟨w.heap.size, 1, none⟩) (by simp; omega)
  have c2 := hb1.cell (p := ⟨w.heap.size, 2, none⟩) (by simp; omega)
  simp [go_sem] at c0 c1 c2
  go_wp2_with fail
  refine (valid_yes F R N HA.out _).mono ?_
  rintro e w2 ⟨rfl, hb2⟩
  go_wp2_with fail
  refine (pValid_yes p HP.out _).mono ?_
  rintro e w3 ⟨rfl, rfl⟩
  have s2 := hb2.size
  have d0 := (hb2.cell (p := ⟨w.heap.size, 0, none⟩) (by simp; omega)).trans c0
  have d1 := (hb2.cell (p := ⟨w.heap.size, 1, none⟩) (by simp; omega)).trans c1
  have d2 := (hb2.cell (p := ⟨w.heap.size, 2, none⟩) (by simp; omega)).trans c2
  have A2 := ((A1.below hb1).grow hb1.size).below hb2 |>.grow hb2.size
  have hB2 := chain (chain W0 hb1) hb2
  have m0 : w2.cell? ⟨w.heap.size + 1, 0, none⟩ = some (.int .i64 0) := (hb2.cell (by simp; omega)).trans ((hb1.cell (by simp)).trans (by simp [go_sem]))
  have m1 : w2.cell? ⟨w.heap.size + 1, 1, none⟩ = some (.int .i64 0) := (hb2.cell (by simp; omega)).trans ((hb1.cell (by simp)).trans (by simp [go_sem]))
  have m2 : w2.cell? ⟨w.heap.size + 1, 2, none⟩ = some (.slice none 0 0) := (hb2.cell (by simp; omega)).trans ((hb1.cell (by simp)).trans (by simp [go_sem]))
  have f0 : ∀ o, w2.frozen? ⟨w.heap.size + 1, o, none⟩ = false := fun o => (hb2.frozen (p := ⟨w.heap.size + 1, o, none⟩) (by simp; omega)).trans ((hb1.frozen (p := ⟨w.heap.size + 1, o, none⟩) (by simp)).trans (by simp [go_sem]))
  clear hb1 hb2 W0 A1
  go_wp2_with fail
  refine (copy_any F R l A c _ (by omega) A2).mono ?_
  rintro e w3 ⟨v, rfl, hown, hb⟩
  obtain ⟨g, cap, rfl⟩ := Joins.ownsRow_form hown (by omega)
  obtain ⟨hg0, hg1⟩ := World.ownsRow.lt hown g rfl
  have hcell : w3.cell? ⟨g, N, none⟩ = some (.int .i8 (l[N]?.getD 0)) := by
    rw [hown.cellAt N (by omega)]
    simp [vpcs, vpc, List.getElem?_eq_getElem hn]
  have hfz := hown.frozenAt N
  have s3 := hb.size
  have n0 := (hb.cell (p := ⟨w.heap.size + 1, 0, none⟩) (by simp; omega)).trans m0
  have n1 := (hb.cell (p := ⟨w.heap.size + 1, 1, none⟩) (by simp; omega)).trans m1
  have n2 := (hb.cell (p := ⟨w.heap.size + 1, 2, none⟩) (by simp; omega)).trans m2
  have k0 : ∀ o, w3.frozen? ⟨w.heap.size + 1, o, none⟩ = false := fun o => (hb.frozen (p := ⟨w.heap.size + 1, o, none⟩) (by simp; omega)).trans (f0 o)
  have ho2 := hown.stored N (.int .i8 p)
  rw [set_vpcs] at ho2
  obtain ⟨ho3, hgb⟩ := ho2
  have hB3 := chain hB2 hb
  have q1 : ¬ g = w.heap.size + 1 := by omega
  have q2 : ¬ w.heap.size + 1 = g := by omega
  have q3 : w.heap.size + 1 < w3.heap.size := by omega
  have ho4 := ownsRow_setCell_below (ownsRow_setCell_below (ownsRow_setCell_below (World.ownsRow.mono ho3 (base' := w.heap.size + 2) (by omega)) (a := ⟨w.heap.size + 1, 0, none⟩) (by simp) (.int .i64 F)) (a := ⟨w.heap.size + 1, 1, none⟩) (by simp) (.int .i64 R)) (a := ⟨w.heap.size + 1, 2, none⟩) (by simp) (.slice (some ⟨g, 0, none⟩) l.length cap)
  have HN : (∃ v, (Ending.returned (.tuple #[.agg #[.int .i64 F, .int .i64 R, .slice (some ⟨g, 0, none⟩) l.length cap], .int .i64 0])) = .returned (.tuple #[.agg #[.int .i64 F, .int .i64 R, v], .int .i64 0]) ∧ (((((w3.setCell ⟨g, N, none⟩ (.int .i8 p)).setCell ⟨w.heap.size + 1, 0, none⟩ (.int .i64 F)).setCell ⟨w.heap.size + 1, 1, none⟩ (.int .i64 R)).setCell ⟨w.heap.size + 1, 2, none⟩ (.slice (some ⟨g, 0, none⟩) l.length cap)).alloc (.cells #[.int .i64 F, .int .i64 R, .slice (some ⟨g, 0, none⟩) l.length cap] 26)).ownsRow w.heap.size 32 1 v l.length (vpcs (l.set N p)) ∧ Below w.heap.size w (((((w3.setCell ⟨g, N, none⟩ (.int .i8 p)).setCell ⟨w.heap.size + 1, 0, none⟩ (.int .i64 F)).setCell ⟨w.heap.size + 1, 1, none⟩ (.int .i64 R)).setCell ⟨w.heap.size + 1, 2, none⟩ (.slice (some ⟨g, 0, none⟩) l.length cap)).alloc (.cells #[.int .i64 F, .int .i64 R, .slice (some ⟨g, 0, none⟩) l.length cap] 26))) :=
    ⟨_, rfl, (World.ownsRow.mono ho4 (base' := w.heap.size) (by omega)).alloc _, ((((hB3.setCell (p := ⟨g, N, none⟩) (by simp; omega) _).setCell (p := ⟨w.heap.size + 1, 0, none⟩) (by simp) _).setCell (p := ⟨w.heap.size + 1, 1, none⟩) (by simp) _).setCell (p := ⟨w.heap.size + 1, 2, none⟩) (by simp) _).alloc (by simp; omega) _⟩
  have HN := Lib.hid HN
  clear hown ho3 hgb ho4 hB3 m0 m1 m2 f0 A2 hb hB2
  go_wp2
  refine bodyPost_ret (v := .tuple #[.agg #[.int .i64 F, .int .i64 R, .slice (some ⟨g, 0, none⟩) l.length cap], .int .i64 0]) ?_ rfl HN.out
  simp [results, Tryd.results18, go_sem, n0, n1, n2, q3]

set_option maxRecDepth 100000 in
set_option maxHeartbeats 1000000 in
theorem put_no (F R : Int) (l : List Int) (A : Option Addr) (c : Nat) (a p : Int) (w : World) (hlen : l.length ≤ 100000) (h : ¬ (vbd F R l ∧ vat F R a ∧ okP p)) (hA : RdP w w.heap.size A l c) :
    Calls Tryd.prog 18 #[.agg #[.int .i64 F, .int .i64 R, .slice A l.length c], .int .i64 a, .int .i8 p] w fun e w' => e = .returned (.tuple #[.agg #[.int .i64 0, .int .i64 0, .slice none 0 0], .int .i64 2]) ∧ Below w.heap.size w w' := by
  have W0 : Below w.heap.size w ((w.alloc (.cells #[.int .i64 F, .int .i64 R, .slice A l.length c] 26)).alloc (.cells #[.int .i64 0, .int .i64 0, .slice none 0 0] 26)) := after1 (box1 _ _)
  have A1 := (hA.below W0).grow W0.size
  clear hA
  by_cases hv : vbd F R l
  · by_cases ha : vat F R a
    · have hp : ¬ okP p := fun hp => h ⟨hv, ha, hp⟩
      clear h
      go_enter Tryd.func18, Tryd.ntmps18
      go_wp2_with fail
      refine (bValid_yes F R l A c hv _ A1).mono ?_
      rintro e w1 ⟨rfl, hb1⟩
      have s1 := hb1.size
      simp at s1
      have c0 := hb1.cell (p := ⟨w.heap.size, 0, none⟩) (by simp; omega)
      have c1 := hb1.cell (p := ⟨w.heap.size, 1, none⟩) (by simp; omega)
      simp [go_sem] at c0 c1
      go_wp2_with fail
      refine (valid_yes F R a ha _).mono ?_
      rintro e w2 ⟨rfl, hb2⟩
      go_wp2_with fail
      refine (pValid_no p hp _).mono ?_
      rintro e w3 ⟨rfl, rfl⟩
      have m0 : w2.cell? ⟨w.heap.size + 1, 0, none⟩ = some (.int .i64 0) := (hb2.cell (by simp; omega)).trans ((hb1.cell (by simp)).trans (by simp [go_sem]))
      have m1 : w2.cell? ⟨w.heap.size + 1, 1, none⟩ = some (.int .i64 0) := (hb2.cell (by simp; omega)).trans ((hb1.cell (by simp)).trans (by simp [go_sem]))
      have m2 : w2.cell? ⟨w.heap.size + 1, 2, none⟩ = some (.slice none 0 0) := (hb2.cell (by simp; omega)).trans ((hb1.cell (by simp)).trans (by simp [go_sem]))
      have f0 : ∀ o, w2.frozen? ⟨w.heap.size + 1, o, none⟩ = false := fun o => (hb2.frozen (p := ⟨w.heap.size + 1, o, none⟩) (by simp; omega)).trans ((hb1.frozen (p := ⟨w.heap.size + 1, o, none⟩) (by simp)).trans (by simp [go_sem]))
      have hB := Lib.hid (chain (chain W0 hb1) hb2)
      clear hb1 hb2 W0 A1
      go_wp2
      refine bodyPost_ret (v := .tuple #[.agg #[.int .i64 0, .int .i64 0, .slice none 0 0], .int .i64 2]) ?_ rfl ⟨rfl, ?_⟩
      · simp [results, Tryd.results18, go_sem, m0, m1, m2]
      · exact ((hB.out.setCell (p := ⟨w.heap.size + 1, 0, none⟩) (by simp) _).setCell (p := ⟨w.heap.size + 1, 1, none⟩) (by simp) _).setCell (p := ⟨w.heap.size + 1, 2, none⟩) (by simp) _
    · clear h
      go_enter Tryd.func18, Tryd.ntmps18
      go_wp2_with fail
      refine (bValid_yes F R l A c hv _ A1).mono ?_
      rintro e w1 ⟨rfl, hb1⟩
      have s1 := hb1.size
      simp at s1
      have c0 := hb1.cell (p := ⟨w.heap.size, 0, none⟩) (by simp; omega)
      have c1 := hb1.cell (p := ⟨w.heap.size, 1, none⟩) (by simp; omega)
      simp [go_sem] at c0 c1
      go_wp2_with fail
      refine (valid_no F R a ha _).mono ?_
      rintro e w2 ⟨rfl, hb2⟩
      have m0 : w2.cell? ⟨w.heap.size + 1, 0, none⟩ = some (.int .i64 0) := (hb2.cell (by simp; omega)).trans ((hb1.cell (by simp)).trans (by simp [go_sem]))
      have m1 : w2.cell? ⟨w.heap.size + 1, 1, none⟩ = some (.int .i64 0) := (hb2.cell (by simp; omega)).trans ((hb1.cell (by simp)).trans (by simp [go_sem]))
      have m2 : w2.cell? ⟨w.heap.size + 1, 2, none⟩ = some (.slice none 0 0) := (hb2.cell (by simp; omega)).trans ((hb1.cell (by simp)).trans (by simp [go_sem]))
      have f0 : ∀ o, w2.frozen? ⟨w.heap.size + 1, o, none⟩ = false := fun o => (hb2.frozen (p := ⟨w.heap.size + 1, o, none⟩) (by simp; omega)).trans ((hb1.frozen (p := ⟨w.heap.size + 1, o, none⟩) (by simp)).trans (by simp [go_sem]))
      have hB := Lib.hid (chain (chain W0 hb1) hb2)
      clear hb1 hb2 W0 A1
      go_wp2
      refine bodyPost_ret (v := .tuple #[.agg #[.int .i64 0, .int .i64 0, .slice none 0 0], .int .i64 2]) ?_ rfl ⟨rfl, ?_⟩
      · simp [results, Tryd.results18, go_sem, m0, m1, m2]
      · exact ((hB.out.setCell (p := ⟨w.heap.size + 1, 0, none⟩) (by simp) _).setCell (p := ⟨w.heap.size + 1, 1, none⟩) (by simp) _).setCell (p := ⟨w.heap.size + 1, 2, none⟩) (by simp) _
  · clear h
    go_enter Tryd.func18, Tryd.ntmps18
    go_wp2_with fail
    refine (bValid_no F R l A c hv _ hlen A1).mono ?_
    rintro e w1 ⟨rfl, hb1⟩
    have s1 := hb1.size
    simp at s1
    have m0 : w1.cell? ⟨w.heap.size + 1, 0, none⟩ = some (.int .i64 0) := (hb1.cell (by simp)).trans (by simp [go_sem])
    have m1 : w1.cell? ⟨w.heap.size + 1, 1, none⟩ = some (.int .i64 0) := (hb1.cell (by simp)).trans (by simp [go_sem])
    have m2 : w1.cell? ⟨w.heap.size + 1, 2, none⟩ = some (.slice none 0 0) := (hb1.cell (by simp)).trans (by simp [go_sem])
    have f0 : ∀ o, w1.frozen? ⟨w.heap.size + 1, o, none⟩ = false := fun o => (hb1.frozen (p := ⟨w.heap.size + 1, o, none⟩) (by simp)).trans (by simp [go_sem])
    have hB := Lib.hid (chain W0 hb1)
    clear hb1 W0 A1
    go_wp2
    refine bodyPost_ret (v := .tuple #[.agg #[.int .i64 0, .int .i64 0, .slice none 0 0], .int .i64 2]) ?_ rfl ⟨rfl, ?_⟩
    · simp [results, Tryd.results18, go_sem, m0, m1, m2]
    · exact ((hB.out.setCell (p := ⟨w.heap.size + 1, 0, none⟩) (by simp) _).setCell (p := ⟨w.heap.size + 1, 1, none⟩) (by simp) _).setCell (p := ⟨w.heap.size + 1, 2, none⟩) (by simp) _

end Go.Proofs.YtolohfkenglpcaaDoor
