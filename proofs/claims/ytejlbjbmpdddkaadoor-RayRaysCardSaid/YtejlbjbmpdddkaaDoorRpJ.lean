/- The reach of a piece by the program is the document's; inputs that it refuses. -/
import Derived.Test.YtejlbjbmpdddkaaDoorRpG
namespace Go.Proofs.YtejlbjbmpdddkaaDoor
open Go.RowKit Go.Shelf Go.Sort

/-- the reach of a piece, by the program. -/
theorem pReach_yes (F R a k : Int) (hk : k = 2 ∨ k = 3 ∨ k = 4 ∨ k = 5 ∨ k = 6) (ha : vat F R a) (X : Nat) (hX : X < 2 ^ (F * R).toNat) (w : World) (hT : Tb w) :
    Calls Tryd.prog 17 #[.agg #[.int .i64 F, .int .i64 R], .int .i8 k, .int .i64 a, .int .u64 X] w fun e w' => e = .returned (.tuple #[.int .u64 (ofL (reachL F R k a X) : Int), .int .i64 0]) ∧ Below w.heap.size w w' := by
  rw [← reach_eq hk ha X]
  exact pReach_sl F R a k hk ha X hX w hT

set_option maxRecDepth 100000 in
set_option maxHeartbeats 1000000 in
theorem pReach_off (F R a k : Int) (ha : ¬ vat F R a) (X : Nat) (w : World) :
    Calls Tryd.prog 17 #[.agg #[.int .i64 F, .int .i64 R], .int .i8 k, .int .i64 a, .int .u64 X] w fun e w' => e = .returned (.tuple #[.int .u64 0, .int .i64 2]) ∧ Below w.heap.size w w' := by
  have HV := Lib.hid (valid_no F R a ha)
  go_enter Tryd.func17, Tryd.ntmps17
  go_wp2_with fail
  refine (HV.out _).mono ?_
  rintro e w1 ⟨rfl, hb1⟩
  go_wp2
  go_ret2
  exact ⟨rfl, after1 hb1⟩

set_option maxRecDepth 100000 in
set_option maxHeartbeats 1000000 in
theorem pReach_set (F R a k : Int) (ha : vat F R a) (X : Nat) (hX64 : X < 18446744073709551616) (hX : ¬ X < 2 ^ (F * R).toNat) (w : World) :
    Calls Tryd.prog 17 #[.agg #[.int .i64 F, .int .i64 R], .int .i8 k, .int .i64 a, .int .u64 X] w fun e w' => e = .returned (.tuple #[.int .u64 0, .int .i64 2]) ∧ Below w.heap.size w w' := by
  have HS := Lib.hid (pIsSet_yes F R X hX64 ha.1)
  have HV := Lib.hid (valid_yes F R a ha)
  have HB : decide (X < 2 ^ (F * R).toNat) = false := by simp; omega
  rw [HB] at HS
  clear HB hX
  go_enter Tryd.func17, Tryd.ntmps17
  go_wp2_with fail
  refine (HV.out _).mono ?_
  rintro e w1 ⟨rfl, hb1⟩
  have s1 := hb1.size
  simp at s1
  have c0 := hb1.cell (p := ⟨w.heap.size, 0, none⟩) (by simp)
  have c1 := hb1.cell (p := ⟨w.heap.size, 1, none⟩) (by simp)
  simp [go_sem] at c0 c1
  have hB1 := after1 hb1
  go_wp2_with fail
  refine (HS.out _).mono ?_
  rintro e w2 ⟨rfl, hb2⟩
  go_wp2
  go_ret2
  exact ⟨rfl, chain hB1 hb2⟩

set_option maxRecDepth 100000 in
set_option maxHeartbeats 4000000 in
theorem pReach_kind (F R a k : Int) (hk : k < 2 ∨ 6 < k) (ha : vat F R a) (X : Nat) (hX : X < 2 ^ (F * R).toNat) (w : World) (hT : Tb w) :
    Calls Tryd.prog 17 #[.agg #[.int .i64 F, .int .i64 R], .int .i8 k, .int .i64 a, .int .u64 X] w fun e w' => e = .returned (.tuple #[.int .u64 0, .int .i64 2]) ∧ Below w.heap.size w w' := by
  have n2 : (k == 2) = false := beq_eq_false_iff_ne.2 (by omega)
  have n3 : (k == 3) = false := beq_eq_false_iff_ne.2 (by omega)
  have n4 : (k == 4) = false := beq_eq_false_iff_ne.2 (by omega)
  have n5 : (k == 5) = false := beq_eq_false_iff_ne.2 (by omega)
  have n6 : (k == 6) = false := beq_eq_false_iff_ne.2 (by omega)
  clear hk
  have hX64 := x64 ha.1 hX
  have HS := Lib.hid (pIsSet_yes F R X hX64 ha.1)
  have HV := Lib.hid (valid_yes F R a ha)
  have HB : decide (X < 2 ^ (F * R).toNat) = true := by simp [hX]
  rw [HB] at HS
  go_enter Tryd.func17, Tryd.ntmps17
  go_wp2_with fail
  refine (HV.out _).mono ?_
  rintro e w1 ⟨rfl, hb1⟩
  have s1 := hb1.size
  simp at s1
  have c0 := hb1.cell (p := ⟨w.heap.size, 0, none⟩) (by simp)
  have c1 := hb1.cell (p := ⟨w.heap.size, 1, none⟩) (by simp)
  simp [go_sem] at c0 c1
  have hB1 := after1 hb1
  go_wp2_with fail
  refine (HS.out _).mono ?_
  rintro e w2 ⟨rfl, hb2⟩
  have d0 := (hb2.cell (p := ⟨w.heap.size, 0, none⟩) (by simp; omega)).trans c0
  have d1 := (hb2.cell (p := ⟨w.heap.size, 1, none⟩) (by simp; omega)).trans c1
  have hB2 := chain hB1 hb2
  have hT2 := hT.below hB2
  clear hb1 hb2 c0 c1 hB1
  have l0 := hT2.1 0 (by omega)
  have l1 := hT2.1 1 (by omega)
  have l2 := hT2.1 2 (by omega)
  have l3 := hT2.1 3 (by omega)
  have l4 := hT2.1 4 (by omega)
  have l5 := hT2.1 5 (by omega)
  have l6 := hT2.1 6 (by omega)
  have l7 := hT2.1 7 (by omega)
  have l8 := hT2.1 8 (by omega)
  have l9 := hT2.1 9 (by omega)
  have l10 := hT2.1 10 (by omega)
  have l11 := hT2.1 11 (by omega)
  have l12 := hT2.1 12 (by omega)
  have l13 := hT2.1 13 (by omega)
  have l14 := hT2.1 14 (by omega)
  have l15 := hT2.1 15 (by omega)
  have j0 := hT2.2 0 (by omega)
  have j1 := hT2.2 1 (by omega)
  have j2 := hT2.2 2 (by omega)
  have j3 := hT2.2 3 (by omega)
  have j4 := hT2.2 4 (by omega)
  have j5 := hT2.2 5 (by omega)
  have j6 := hT2.2 6 (by omega)
  have j7 := hT2.2 7 (by omega)
  have j8 := hT2.2 8 (by omega)
  have j9 := hT2.2 9 (by omega)
  have j10 := hT2.2 10 (by omega)
  have j11 := hT2.2 11 (by omega)
  have j12 := hT2.2 12 (by omega)
  have j13 := hT2.2 13 (by omega)
  have j14 := hT2.2 14 (by omega)
  have j15 := hT2.2 15 (by omega)
  simp [linesL] at l0 l1 l2 l3 l4 l5 l6 l7 l8 l9 l10 l11 l12 l13 l14 l15
  simp [jumpsL] at j0 j1 j2 j3 j4 j5 j6 j7 j8 j9 j10 j11 j12 j13 j14 j15
  clear d0 d1
  go_wp2
  go_ret2
  exact ⟨rfl, (hB2.alloc hB2.size _).alloc (by have := hB2.size; simp; omega) _⟩

end Go.Proofs.YtejlbjbmpdddkaaDoor
