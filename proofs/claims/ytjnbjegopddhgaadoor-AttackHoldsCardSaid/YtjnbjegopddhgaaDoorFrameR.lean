/- The reach of a piece, by the program: under the tables of directions as its text lays them. -/
import Derived.Test.YtjnbjegopddhgaaDoorRpE
import Derived.Lib.QuietBelow
import Derived.Test.YtjnbjegopddhgaaDoorSqZ
import Derived.Test.YtjnbjegopddhgaaDoorFrameS
import Derived.Deep.Strs
import Derived.Lay

namespace Go.Proofs.YtjnbjegopddhgaaDoor
open Go.RowKit Go.Shelf Go.Sort

def linesL : List Int := [0, 1, 1, 0, 0, -1, -1, 0, 1, 1, 1, -1, -1, -1, -1, 1]
def jumpsL : List Int := [1, 2, 2, 1, 2, -1, 1, -2, -1, -2, -2, -1, -2, 1, -1, 2]
/-- the tables lie in their variables. -/
def Tb (w : World) : Prop := (∀ j, j < 16 → w.cell? ⟨1, j, none⟩ = some (.int .i64 (linesL[j]?.getD 0))) ∧ (∀ j, j < 16 → w.cell? ⟨2, j, none⟩ = some (.int .i64 (jumpsL[j]?.getD 0)))
theorem Tb.below {w w' : World} (h : Tb w) (hb : Below w.heap.size w w') : Tb w' :=
  ⟨fun j hj => (hb.cell (p := ⟨1, j, none⟩) (World.block_lt_of_cell? _ _ (h.1 j hj))).trans (h.1 j hj), fun j hj => (hb.cell (p := ⟨2, j, none⟩) (World.block_lt_of_cell? _ _ (h.2 j hj))).trans (h.2 j hj)⟩

theorem slide_any (F R a : Int) (ha : vat F R a) (X : Nat) (hX : X < 18446744073709551616) (ds : List (Int × Int)) (hds : ∀ d ∈ ds, (-2 ≤ d.1 ∧ d.1 ≤ 2 ∧ -2 ≤ d.2 ∧ d.2 ≤ 2) ∧ ¬ (d.1 = 0 ∧ d.2 = 0)) (hl8 : ds.length ≤ 8) (A : Option Addr) (c : Nat) (w : World) (hA : RdS w w.heap.size A ds) :
    Calls Tryd.prog 86 #[.agg #[.int .i64 F, .int .i64 R], .int .i64 a, .int .u64 X, .slice A ds.length c] w fun e w' => e = .returned (.int .u64 (ofL (slideL F R a ds X) : Int)) ∧ Below w.heap.size w w' :=
  callsIn_wide.1 (slide_in F R a ha X hX ds hds hl8 A c w hA)

def ones : Nat := 18446744073709551615
set_option maxRecDepth 100000 in
set_option maxHeartbeats 1000000 in
theorem leap_any (F R a : Int) (ha : vat F R a) (ds : List (Int × Int)) (hds : ∀ d ∈ ds, (-2 ≤ d.1 ∧ d.1 ≤ 2 ∧ -2 ≤ d.2 ∧ d.2 ≤ 2) ∧ ¬ (d.1 = 0 ∧ d.2 = 0)) (hl8 : ds.length ≤ 8) (A : Option Addr) (c : Nat) (w : World) (hA : RdS w w.heap.size A ds) :
    Calls Tryd.prog 84 #[.agg #[.int .i64 F, .int .i64 R], .int .i64 a, .slice A ds.length c] w fun e w' => e = .returned (.int .u64 (ofL (slideL F R a ds ones) : Int)) ∧ Below w.heap.size w w' := by
  have HS := Lib.hid (slide_any F R a ha ones (by decide) ds hds hl8 A c (w.alloc (.cells #[.int .i64 F, .int .i64 R] 23)) (fun hl => by
    obtain ⟨ad, e, hb, h⟩ := hA hl
    exact ⟨ad, e, by simp; omega, fun k hk => ⟨alive _ (h k hk).1, alive _ (h k hk).2⟩⟩))
  clear hA hds
  go_enter Tryd.func84, Tryd.ntmps84
  go_wp2_with fail
  refine (HS.out).mono ?_
  rintro e w1 ⟨rfl, hb⟩
  go_wp2
  go_ret
  exact ⟨rfl, after1 hb⟩


theorem add_off (B o n : Nat) : (⟨B, o, none⟩ : Addr).add n = ⟨B, o + n, none⟩ := by
  unfold Addr.add
  by_cases h : n = 0
  · rw [if_pos h, h]; rfl
  · rw [if_neg h]
theorem rds_of {W : World} {n B o : Nat} {l : List Int} {ds : List (Int × Int)} (h : ∀ j, j < 16 → W.cell? ⟨B, j, none⟩ = some (.int .i64 (l[j]?.getD 0))) (hB : B < n) (hd : ∀ k, k < ds.length → o + k * 2 + 1 < 16 ∧ (l[o + k * 2]?.getD 0) = (ds[k]?.getD (0, 0)).1 ∧ (l[o + k * 2 + 1]?.getD 0) = (ds[k]?.getD (0, 0)).2) : RdS W n (some ⟨B, o, none⟩) ds := fun _ => by
  refine ⟨_, rfl, hB, fun k hk => ?_⟩
  obtain ⟨h1, h2, h3⟩ := hd k hk
  rw [add_off, ← h2, ← h3]
  exact ⟨h _ (by omega), h _ (by omega)⟩
def rookD : List (Int × Int) := [(0, 1), (1, 0), (0, -1), (-1, 0)]
def bishopD : List (Int × Int) := [(1, 1), (1, -1), (-1, -1), (-1, 1)]
def knightD : List (Int × Int) := [(1, 2), (2, 1), (2, -1), (1, -2), (-1, -2), (-2, -1), (-2, 1), (-1, 2)]
def dirsOf (k : Int) : List (Int × Int) := if k = 2 then knightD else if k = 3 then bishopD else if k = 4 then rookD else rookD ++ bishopD
def stopOf (k : Int) (X : Nat) : Nat := if k = 2 ∨ k = 6 then ones else X

set_option maxRecDepth 100000 in
set_option maxHeartbeats 4000000 in
theorem pReach_sl (F R a k : Int) (hk : k = 2 ∨ k = 3 ∨ k = 4 ∨ k = 5 ∨ k = 6) (ha : vat F R a) (X : Nat) (hX : X < 2 ^ (F * R).toNat) (w : World) (hT : Tb w) :
    Calls Tryd.prog 68 #[.agg #[.int .i64 F, .int .i64 R], .int .i8 k, .int .i64 a, .int .u64 X] w fun e w' => e = .returned (.tuple #[.int .u64 (ofL (slideL F R a (dirsOf k) (stopOf k X)) : Int), .int .i64 0]) ∧ Below w.heap.size w w' := by
  have hX64 := x64 ha.1 hX
  have HS := Lib.hid (pIsSet_yes F R X hX64 ha.1)
  have HV := Lib.hid (valid_yes F R a ha)
  have HB : decide (X < 2 ^ (F * R).toNat) = true := by simp [hX]
  rw [HB] at HS
  go_enter Tryd.func68, Tryd.ntmps68
  go_wp2_with fail
  refine (HV.out _).mono ?_
  rintro e w1 ⟨rfl, hb1⟩
  have s1 := hb1.size
  simp at s1
  have c0 := hb1.cell (p := ⟨w.heap.size, 0, none⟩) (by simp)
  have c1 := hb1.cell (p := ⟨w.heap.size, 1, none⟩) (by simp)
  simp [go_sem] at c0 c1
  have hB1 := after1 hb1
  go_wp2_with fail
  refine (HS.out _).mono ?_
  rintro e w2 ⟨rfl, hb2⟩
  have d0 := (hb2.cell (p := ⟨w.heap.size, 0, none⟩) (by simp; omega)).trans c0
  have d1 := (hb2.cell (p := ⟨w.heap.size, 1, none⟩) (by simp; omega)).trans c1
  have hB2 := chain hB1 hb2
  have hT2 := hT.below hB2
  clear hb1 hb2 c0 c1 hB1
  have l0 := hT2.1 0 (by omega)
  have l1 := hT2.1 1 (by omega)
  have l2 := hT2.1 2 (by omega)
  have l3 := hT2.1 3 (by omega)
  have l4 := hT2.1 4 (by omega)
  have l5 := hT2.1 5 (by omega)
  have l6 := hT2.1 6 (by omega)
  have l7 := hT2.1 7 (by omega)
  have l8 := hT2.1 8 (by omega)
  have l9 := hT2.1 9 (by omega)
  have l10 := hT2.1 10 (by omega)
  have l11 := hT2.1 11 (by omega)
  have l12 := hT2.1 12 (by omega)
  have l13 := hT2.1 13 (by omega)
  have l14 := hT2.1 14 (by omega)
  have l15 := hT2.1 15 (by omega)
  have j0 := hT2.2 0 (by omega)
  have j1 := hT2.2 1 (by omega)
  have j2 := hT2.2 2 (by omega)
  have j3 := hT2.2 3 (by omega)
  have j4 := hT2.2 4 (by omega)
  have j5 := hT2.2 5 (by omega)
  have j6 := hT2.2 6 (by omega)
  have j7 := hT2.2 7 (by omega)
  have j8 := hT2.2 8 (by omega)
  have j9 := hT2.2 9 (by omega)
  have j10 := hT2.2 10 (by omega)
  have j11 := hT2.2 11 (by omega)
  have j12 := hT2.2 12 (by omega)
  have j13 := hT2.2 13 (by omega)
  have j14 := hT2.2 14 (by omega)
  have j15 := hT2.2 15 (by omega)
  simp [linesL] at l0 l1 l2 l3 l4 l5 l6 l7 l8 l9 l10 l11 l12 l13 l14 l15
  simp [jumpsL] at j0 j1 j2 j3 j4 j5 j6 j7 j8 j9 j10 j11 j12 j13 j14 j15
  go_upto_region 5 with fail
  obtain ⟨V, hV⟩ : ∃ V, (w2.alloc (.cells #[.int .i64 0, .int .i64 1, .int .i64 1, .int .i64 0, .int .i64 0, .int .i64 (-1), .int .i64 (-1), .int .i64 0, .int .i64 1, .int .i64 1, .int .i64 1, .int .i64 (-1), .int .i64 (-1), .int .i64 (-1), .int .i64 (-1), .int .i64 1] 121)).alloc (.cells #[.int .i64 1, .int .i64 2, .int .i64 2, .int .i64 1, .int .i64 2, .int .i64 (-1), .int .i64 1, .int .i64 (-2), .int .i64 (-1), .int .i64 (-2), .int .i64 (-2), .int .i64 (-1), .int .i64 (-2), .int .i64 1, .int .i64 (-1), .int .i64 2] 121) = V := ⟨_, rfl⟩
  have k0 : V.cell? ⟨w.heap.size, 0, none⟩ = some (.int .i64 F) := by rw [← hV]; exact alive _ (alive _ d0)
  have k1 : V.cell? ⟨w.heap.size, 1, none⟩ = some (.int .i64 R) := by rw [← hV]; exact alive _ (alive _ d1)
  have hB3 : Below w.heap.size w V := by rw [← hV]; exact (hB2.alloc hB2.size _).alloc (by have := hB2.size; simp; omega) _
  have hl : ∀ j, j < 16 → V.cell? ⟨w2.heap.size, j, none⟩ = some (.int .i64 (linesL[j]?.getD 0)) := by
    intro j hj
    rw [← hV]
    refine alive _ ?_
    have : j = 0 ∨ j = 1 ∨ j = 2 ∨ j = 3 ∨ j = 4 ∨ j = 5 ∨ j = 6 ∨ j = 7 ∨ j = 8 ∨ j = 9 ∨ j = 10 ∨ j = 11 ∨ j = 12 ∨ j = 13 ∨ j = 14 ∨ j = 15 := by omega
    rcases this with rfl | rfl | rfl | rfl | rfl | rfl | rfl | rfl | rfl | rfl | rfl | rfl | rfl | rfl | rfl | rfl <;> rw [World.cell?_alloc_new] <;> rfl
  have hj : ∀ j, j < 16 → V.cell? ⟨w2.heap.size + 1, j, none⟩ = some (.int .i64 (jumpsL[j]?.getD 0)) := by
    intro j hj
    rw [← hV]
    have e : w2.heap.size + 1 = (w2.alloc (.cells #[.int .i64 0, .int .i64 1, .int .i64 1, .int .i64 0, .int .i64 0, .int .i64 (-1), .int .i64 (-1), .int .i64 0, .int .i64 1, .int .i64 1, .int .i64 1, .int .i64 (-1), .int .i64 (-1), .int .i64 (-1), .int .i64 (-1), .int .i64 1] 121)).heap.size := by simp
    rw [e]
    have : j = 0 ∨ j = 1 ∨ j = 2 ∨ j = 3 ∨ j = 4 ∨ j = 5 ∨ j = 6 ∨ j = 7 ∨ j = 8 ∨ j = 9 ∨ j = 10 ∨ j = 11 ∨ j = 12 ∨ j = 13 ∨ j = 14 ∨ j = 15 := by omega
    rcases this with rfl | rfl | rfl | rfl | rfl | rfl | rfl | rfl | rfl | rfl | rfl | rfl | rfl | rfl | rfl | rfl <;> rw [World.cell?_alloc_new] <;> rfl
  have hVs : V.heap.size = w2.heap.size + 2 := by rw [← hV]; simp
  rw [hV]
  clear hV l0 l1 l2 l3 l4 l5 l6 l7 l8 l9 l10 l11 l12 l13 l14 l15 j0 j1 j2 j3 j4 j5 j6 j7 j8 j9 j10 j11 j12 j13 j14 j15 d0 d1 hB2 hT hT2
  have q0 := cell_regrown k0
  have q1 := cell_regrown k1
  rcases hk with rfl | rfl | rfl | rfl | rfl
  · have HC : Hid (∀ d os, Calls Tryd.prog 84 #[.agg #[.int .i64 F, .int .i64 R], .int .i64 a, .slice (some ⟨w2.heap.size + 1, 0, none⟩) 8 8] (grow (redrawn V d) os) fun e w'' => e = .returned (.int .u64 (ofL (slideL F R a (dirsOf 2) (stopOf 2 X)) : Int)) ∧ ∃ p : Regrown, w'' = grow (redrawn V p.d) p.os) := Lib.hid (fun d os => Calls.regrown_of (leap_any F R a ha (dirsOf 2) (by decide) (by decide) _ 8 _ (rds_of (o := 0) (fun j hj2 => cell_regrown (hj j hj2) d os) (by simp [grow, redrawn]; omega) (by decide))))
    clear hl hj
    go_wp2
    refine wp_region_quiet_below (by kernel_rfl) (by kernel_rfl) ?_
    repeat (go_big_quiet_step ((go_at_call 84; exact HC.out _ _)))
    refine wpQuiet_nil ?_
    intro _ hw'
    obtain ⟨⟨dq, osq⟩, hw''⟩ := hw'
    subst hw''
    go_wp2
    go_ret2
    exact ⟨rfl, chain hB3 (below_regrown V dq osq)⟩
  · have HC : Hid (∀ d os, Calls Tryd.prog 86 #[.agg #[.int .i64 F, .int .i64 R], .int .i64 a, .int .u64 X, .slice (some ⟨w2.heap.size, 8, none⟩) 4 4] (grow (redrawn V d) os) fun e w'' => e = .returned (.int .u64 (ofL (slideL F R a (dirsOf 3) (stopOf 3 X)) : Int)) ∧ ∃ p : Regrown, w'' = grow (redrawn V p.d) p.os) := Lib.hid (fun d os => Calls.regrown_of (slide_any F R a ha X hX64 (dirsOf 3) (by decide) (by decide) _ 4 _ (rds_of (o := 8) (fun j hj2 => cell_regrown (hl j hj2) d os) (by simp [grow, redrawn]; omega) (by decide))))
    clear hl hj
    go_wp2
    refine wp_region_quiet_below (by kernel_rfl) (by kernel_rfl) ?_
    repeat (go_big_quiet_step ((go_at_call 86; exact HC.out _ _)))
    refine wpQuiet_nil ?_
    intro _ hw'
    obtain ⟨⟨dq, osq⟩, hw''⟩ := hw'
    subst hw''
    go_wp2
    go_ret2
    exact ⟨rfl, chain hB3 (below_regrown V dq osq)⟩
  · have HC : Hid (∀ d os, Calls Tryd.prog 86 #[.agg #[.int .i64 F, .int .i64 R], .int .i64 a, .int .u64 X, .slice (some ⟨w2.heap.size, 0, none⟩) 4 8] (grow (redrawn V d) os) fun e w'' => e = .returned (.int .u64 (ofL (slideL F R a (dirsOf 4) (stopOf 4 X)) : Int)) ∧ ∃ p : Regrown, w'' = grow (redrawn V p.d) p.os) := Lib.hid (fun d os => Calls.regrown_of (slide_any F R a ha X hX64 (dirsOf 4) (by decide) (by decide) _ 8 _ (rds_of (o := 0) (fun j hj2 => cell_regrown (hl j hj2) d os) (by simp [grow, redrawn]; omega) (by decide))))
    clear hl hj
    go_wp2
    refine wp_region_quiet_below (by kernel_rfl) (by kernel_rfl) ?_
    repeat (go_big_quiet_step ((go_at_call 86; exact HC.out _ _)))
    refine wpQuiet_nil ?_
    intro _ hw'
    obtain ⟨⟨dq, osq⟩, hw''⟩ := hw'
    subst hw''
    go_wp2
    go_ret2
    exact ⟨rfl, chain hB3 (below_regrown V dq osq)⟩
  · have HC : Hid (∀ d os, Calls Tryd.prog 86 #[.agg #[.int .i64 F, .int .i64 R], .int .i64 a, .int .u64 X, .slice (some ⟨w2.heap.size, 0, none⟩) 8 8] (grow (redrawn V d) os) fun e w'' => e = .returned (.int .u64 (ofL (slideL F R a (dirsOf 5) (stopOf 5 X)) : Int)) ∧ ∃ p : Regrown, w'' = grow (redrawn V p.d) p.os) := Lib.hid (fun d os => Calls.regrown_of (slide_any F R a ha X hX64 (dirsOf 5) (by decide) (by decide) _ 8 _ (rds_of (o := 0) (fun j hj2 => cell_regrown (hl j hj2) d os) (by simp [grow, redrawn]; omega) (by decide))))
    clear hl hj
    go_wp2
    refine wp_region_quiet_below (by kernel_rfl) (by kernel_rfl) ?_
    repeat (go_big_quiet_step ((go_at_call 86; exact HC.out _ _)))
    refine wpQuiet_nil ?_
    intro _ hw'
    obtain ⟨⟨dq, osq⟩, hw''⟩ := hw'
    subst hw''
    go_wp2
    go_ret2
    exact ⟨rfl, chain hB3 (below_regrown V dq osq)⟩
  · have HC : Hid (∀ d os, Calls Tryd.prog 84 #[.agg #[.int .i64 F, .int .i64 R], .int .i64 a, .slice (some ⟨w2.heap.size, 0, none⟩) 8 8] (grow (redrawn V d) os) fun e w'' => e = .returned (.int .u64 (ofL (slideL F R a (dirsOf 6) (stopOf 6 X)) : Int)) ∧ ∃ p : Regrown, w'' = grow (redrawn V p.d) p.os) := Lib.hid (fun d os => Calls.regrown_of (leap_any F R a ha (dirsOf 6) (by decide) (by decide) _ 8 _ (rds_of (o := 0) (fun j hj2 => cell_regrown (hl j hj2) d os) (by simp [grow, redrawn]; omega) (by decide))))
    clear hl hj
    go_wp2
    refine wp_region_quiet_below (by kernel_rfl) (by kernel_rfl) ?_
    repeat (go_big_quiet_step ((go_at_call 84; exact HC.out _ _)))
    refine wpQuiet_nil ?_
    intro _ hw'
    obtain ⟨⟨dq, osq⟩, hw''⟩ := hw'
    subst hw''
    go_wp2
    go_ret2
    exact ⟨rfl, chain hB3 (below_regrown V dq osq)⟩

end Go.Proofs.YtjnbjegopddhgaaDoor

/- What the rows of package ray share: the tables of directions out of the row's condition. -/
namespace Go.Proofs.YtjnbjegopddhgaaDoor
open Go.ChangeShapes Go.WideShapes Go.ChangeAt Go.RowKit

theorem gLin : Tryd.prog.globalNamed "caissa/ray.lines" = some 1 := by kernel_rfl
theorem gJum : Tryd.prog.globalNamed "caissa/ray.jumps" = some 2 := by kernel_rfl
theorem tLin : (Tryd.prog.globals[1]?).map (·.type) = some 121 := by kernel_rfl
theorem tJum : (Tryd.prog.globals[2]?).map (·.type) = some 121 := by kernel_rfl
theorem tStp : ∃ e, Tryd.prog.underlying 121 = some (.array 8 e) ∧ Tryd.prog.cellsOf e = 2 ∧
    ∃ f0 f1 : Field, Tryd.prog.underlying e = some (.struct #[f0, f1]) ∧ (f0.offset = 0 ∧ f1.offset = 1) ∧ (Tryd.prog.underlying f0.type = some (.int .i64) ∧ Tryd.prog.underlying f1.type = some (.int .i64)) ∧ (Tryd.prog.cellsOf f0.type = 1 ∧ Tryd.prog.cellsOf f1.type = 1) :=
  ⟨119, Tryd.underlying121, by kernel_rfl, _, _, Tryd.underlying119, ⟨rfl, rfl⟩, ⟨Tryd.underlying3, Tryd.underlying3⟩, ⟨by kernel_rfl, by kernel_rfl⟩⟩

def stepsD (l : List Int) : DataW Unit := .agg ((List.range 8).map fun i => .agg [.lit (.int .i64 (l[i * 2]?.getD 0)), .lit (.int .i64 (l[i * 2 + 1]?.getD 0))])
theorem laid_lines : (Rows.laid_caissa_ray_lines : DataW Unit) = stepsD linesL := by kernel_rfl
theorem laid_jumps : (Rows.laid_caissa_ray_jumps : DataW Unit) = stepsD jumpsL := by kernel_rfl

def laid4 : List (String × DataW Unit) := [("caissa/ray.lines", Rows.laid_caissa_ray_lines), ("caissa/ray.jumps", Rows.laid_caissa_ray_jumps)]
/-- A heap in which both lie meets the condition. -/
theorem steps_met (os : Os) (args : Array Value) : laidMetH Tryd.prog laid4 ((World.doorLaid Tryd.prog 400 os).forCall (fun _ _ => 0) ⟨#[], args, []⟩).memory :=
  laidMetH_of_parts3 (fuel := 8) (laidMet_of_run' 8 (by kernel_rfl) (by kernel_rfl)) (by kernel_rfl) (by kernel_rfl)

theorem one_of2 {l : List Value} {a j : Nat} {v : Value} (hj : j < 2) (h : (((l.drop a).take 2).drop j).take 1 = [v]) : l[a + j]? = some v := by
  have := congrArg (fun q : List Value => q[0]?) h
  simpa [List.getElem?_take, List.getElem?_drop, hj] using this
theorem tb_one {W : World} {nm : String} {G : Nat} {l : List Int} {rest : List (String × DataW Unit)} {ps : List MemPlace} (hg : Tryd.prog.globalNamed nm = some G) (hty : (Tryd.prog.globals[G]?).map (·.type) = some 121)
    (h : DataW.LaidVars Tryd.prog W ((nm, stepsD l) :: rest) ps) : (∀ j, j < 16 → W.cell? ⟨G, j, none⟩ = some (.int .i64 (l[j]?.getD 0))) ∧ ∃ ps', DataW.LaidVars Tryd.prog W rest ps' := by
  obtain ⟨g', t', cs, fuel, p, q, hg', ht', hvar, hd, hr, _⟩ := h
  refine ⟨?_, _, hr⟩
  obtain ⟨e, he, hce, f0, f1, hs, ⟨o0, o1⟩, ⟨y0, y1⟩, ⟨c0, c1⟩⟩ := tStp
  obtain rfl := Option.some.inj (hg.symm.trans hg')
  obtain rfl := Option.some.inj (hty.symm.trans ht')
  obtain ⟨xs, m, _, hx, hl, hxl, hel⟩ := DataW.trod_array he hd
  have hxs : xs.map (·.1) = (List.range 8).map fun i => (.agg [.lit (.int .i64 (l[i * 2]?.getD 0)), .lit (.int .i64 (l[i * 2 + 1]?.getD 0))] : DataW Unit) := by
    have := congrArg Prod.fst hx
    simp only [stepsD, DataW.agg.injEq] at this
    exact this.symm
  have hc : ∀ i, i < 8 → cs.toList[i * 2 + 0]? = some (.int .i64 (l[i * 2]?.getD 0)) ∧ cs.toList[i * 2 + 1]? = some (.int .i64 (l[i * 2 + 1]?.getD 0)) := by
    intro i hi
    have h1 := hel i hi
    rw [hce] at h1
    obtain ⟨x, hxi⟩ : ∃ x, xs[i]? = some x := ⟨xs[i]'(by omega), List.getElem?_eq_getElem (by omega)⟩
    rw [hxi] at h1
    obtain ⟨z0, z1, n, rfl, _, k0, k1⟩ := trod_struct2 hs h1
    rw [c0, o0] at k0
    rw [c1, o1] at k1
    obtain ⟨m0, hc0, rfl, _⟩ := DataW.trod_int y0 k0
    obtain ⟨m1, hc1, rfl, _⟩ := DataW.trod_int y1 k1
    have h2 := congrArg (·[i]?) hxs
    simp [hxi, hi] at h2
    obtain ⟨e0, e1⟩ := h2
    exact ⟨by rw [one_of2 (by omega) hc0, e0], by rw [one_of2 (by omega) hc1, e1]⟩
  intro j hj
  have := World.var?_cell hg hvar j
  rw [this]
  have h3 := hc (j / 2) (by omega)
  rcases Nat.mod_two_eq_zero_or_one j with hm | hm
  · have : j / 2 * 2 = j := by omega
    have h4 := h3.1
    rw [Nat.add_zero, this] at h4
    simpa using h4
  · have : j / 2 * 2 + 1 = j := by omega
    have h4 := h3.2
    rw [this] at h4
    simpa using h4
/-- The row's condition gives the walks their tables. -/
theorem tb_of_laid {W : World} (h : laidMetH Tryd.prog laid4 W) : Tb W := by
  unfold laid4 at h
  rw [MakeChecks.laidMetH_plain _ _ _ (by kernel_rfl)] at h
  rw [laid_lines, laid_jumps] at h
  obtain ⟨ps, h, _⟩ := h
  obtain ⟨h1, ps2, h2⟩ := tb_one gLin tLin h
  obtain ⟨h3, _⟩ := tb_one gJum tJum h2
  exact ⟨h1, h3⟩

end Go.Proofs.YtjnbjegopddhgaaDoor
