/- Shift's other answers: errors, and too many steps. -/
import Derived.Test.YtidfefaakkpoaaaDoorSqT
namespace Go.Proofs.YtidfefaakkpoaaaDoor
open Go.RowKit

theorem x64 {F R : Int} {X : Nat} (hv : vsz F R) (hX : X < 2 ^ (F * R).toNat) : X < 18446744073709551616 := by
  have h := (vsz_mul hv).2
  have : 2 ^ (F * R).toNat ≤ 2 ^ 64 := Nat.pow_le_pow_right (by decide) (by omega)
  simp at this
  omega

set_option maxRecDepth 100000 in
set_option maxHeartbeats 1000000 in
theorem shift_no (F R df dr : Int) (X : Nat) (hv : ¬ vsz F R) (w : World) :
    Calls Tryd.prog 41 #[.agg #[.int .i64 F, .int .i64 R], .int .u64 X, .int .i64 df, .int .i64 dr] w fun e w' => e = .returned (.tuple #[.int .u64 0, .int .i64 2]) ∧ Below w.heap.size w w' := by
  go_enter Tryd.func41, Tryd.ntmps41
  go_wp2_with fail
  refine (all_no F R hv _).mono ?_
  rintro e w1 ⟨rfl, hb1⟩
  go_wp2
  go_ret2
  exact ⟨rfl, after1 (after1 (after1 hb1))⟩

set_option maxRecDepth 100000 in
set_option maxHeartbeats 1000000 in
theorem shift_bad (F R df dr : Int) (X : Nat) (hX64 : X < 18446744073709551616) (hv : vsz F R) (hX : ¬ X < 2 ^ (F * R).toNat) (w : World) :
    Calls Tryd.prog 41 #[.agg #[.int .i64 F, .int .i64 R], .int .u64 X, .int .i64 df, .int .i64 dr] w fun e w' => e = .returned (.tuple #[.int .u64 0, .int .i64 2]) ∧ Below w.heap.size w w' := by
  obtain ⟨m0, m1⟩ := vsz_mul hv
  have hnot : (bits BinOp.andNot IntKind.u64 (X : Int) (fullN (F * R).toNat : Int) != 0) = true := by rw [andNot_full X _ hX64 (by omega)]; simpa using hX
  go_enter Tryd.func41, Tryd.ntmps41
  go_wp2_with fail
  refine (all_yes F R hv _).mono ?_
  rintro e w1 ⟨rfl, hb1⟩
  go_wp2
  go_ret2
  exact ⟨rfl, after1 (after1 (after1 hb1))⟩

set_option maxRecDepth 100000 in
set_option maxHeartbeats 1000000 in
theorem shift_far (F R df dr : Int) (X : Nat) (hv : vsz F R) (hX : X < 2 ^ (F * R).toNat) (fd : ¬ (-F < df ∧ df < F ∧ -R < dr ∧ dr < R)) (w : World) :
    Calls Tryd.prog 41 #[.agg #[.int .i64 F, .int .i64 R], .int .u64 X, .int .i64 df, .int .i64 dr] w fun e w' => e = .returned (.tuple #[.int .u64 0, .int .i64 0]) ∧ Below w.heap.size w w' := by
  obtain ⟨m0, m1⟩ := vsz_mul hv
  have hX64 := x64 hv hX
  have hnot : (bits BinOp.andNot IntKind.u64 (X : Int) (fullN (F * R).toNat : Int) != 0) = false := by rw [andNot_full X _ hX64 (by omega)]; simp [hX]
  have hf8 := hv.2.1
  have hr8 := hv.2.2.2
  have hf3 := hv.1
  have hr3 := hv.2.2.1
  by_cases h1 : df ≤ -F ∨ F ≤ df
  · go_enter Tryd.func41, Tryd.ntmps41
    go_wp2_with fail
    refine (all_yes F R hv _).mono ?_
    rintro e w1 ⟨rfl, hb1⟩
    have a0 := hb1.cell (p := ⟨w.heap.size, 0, none⟩) (by simp; omega)
    have a1 := hb1.cell (p := ⟨w.heap.size, 1, none⟩) (by simp; omega)
    have a2 := hb1.cell (p := ⟨w.heap.size + 1, 0, none⟩) (by simp)
    have a3 := hb1.cell (p := ⟨w.heap.size + 1 + 1, 0, none⟩) (by simp)
    simp [go_sem] at a0 a1 a2 a3
    have hB1 := after1 (after1 (after1 hb1))
    clear hb1 fd
    have H1 := Lib.hid h1
    clear h1
    go_wp2_with fail
    refine (tooFar_yes F df (by omega) (by omega) H1.out _).mono ?_
    rintro e w2 ⟨rfl, rfl⟩
    go_wp2
    go_ret2
    exact ⟨rfl, hB1⟩
  · have h2 : dr ≤ -R ∨ R ≤ dr := by omega
    go_enter Tryd.func41, Tryd.ntmps41
    go_wp2_with fail
    refine (all_yes F R hv _).mono ?_
    rintro e w1 ⟨rfl, hb1⟩
    have a0 := hb1.cell (p := ⟨w.heap.size, 0, none⟩) (by simp; omega)
    have a1 := hb1.cell (p := ⟨w.heap.size, 1, none⟩) (by simp; omega)
    have a2 := hb1.cell (p := ⟨w.heap.size + 1, 0, none⟩) (by simp)
    have a3 := hb1.cell (p := ⟨w.heap.size + 1 + 1, 0, none⟩) (by simp)
    simp [go_sem] at a0 a1 a2 a3
    have hB1 := after1 (after1 (after1 hb1))
    have h1' : -F < df ∧ df < F := by omega
    clear hb1 fd h1
    have H2 := Lib.hid h2
    clear h2
    go_wp2_with fail
    refine (tooFar_no F df (by omega) (by omega) h1'.1 h1'.2 _).mono ?_
    rintro e w2 ⟨rfl, rfl⟩
    go_wp2_with fail
    refine (tooFar_yes R dr (by omega) (by omega) H2.out _).mono ?_
    rintro e w2 ⟨rfl, rfl⟩
    go_wp2
    go_ret2
    exact ⟨rfl, hB1⟩

end Go.Proofs.YtidfefaakkpoaaaDoor
