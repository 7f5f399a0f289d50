/- Contracts of All, Has, Distance, of their references and of what they call: which answer each gives, and that nothing that lay before is changed. -/
import Derived.Test.YtejlbjbmpdddkaaDoorSqC
import Derived.Test.YtejlbjbmpdddkaaDoorSqP
import Derived.Laws.ShiftsVar
import Derived.Lib.Hide
namespace Go.Proofs.YtejlbjbmpdddkaaDoor
open Go.RowKit

set_option maxRecDepth 100000 in
set_option maxHeartbeats 400000 in
theorem single_any (n : Int) (h0 : 0 ≤ n) (h1 : n < 64) (w : World) :
    Calls Tryd.prog 57 #[.int .i64 n] w fun e w' => e = .returned (.int .u64 (bitN n.toNat : Int)) ∧ w = w' := by
  have E := Lib.hid (pow_wrap n h1)
  go_enter Tryd.func57, Tryd.ntmps57
  go_wp2
  go_ret
  exact ⟨ret_int E.out, rfl⟩

set_option maxRecDepth 100000 in
set_option maxHeartbeats 400000 in
theorem refHas_in (X : Nat) (n : Int) (_hX : X < 18446744073709551616) (h0 : 0 ≤ n) (h1 : n < 64) (w : World) :
    Calls Tryd.prog 36 #[.int .u64 X, .int .i64 n] w fun e w' => e = .returned (.bool (X.testBit n.toNat)) ∧ w = w' := by
  have E := Lib.hid (shr_bit X n.toNat)
  go_enter Tryd.func36, Tryd.ntmps36
  go_wp2
  go_ret
  exact ⟨ret_bool E.out, rfl⟩

set_option maxRecDepth 100000 in
set_option maxHeartbeats 400000 in
theorem refHas_out (X : Nat) (n : Int) (h : n < 0 ∨ 64 ≤ n) (w : World) :
    Calls Tryd.prog 36 #[.int .u64 X, .int .i64 n] w fun e w' => e = .returned (.bool false) ∧ w = w' := by
  rcases h with h | h
  · go_enter Tryd.func36, Tryd.ntmps36
    go_wp2
    go_ret
    exact ⟨rfl, rfl⟩
  · have h' : 0 ≤ n := by omega
    have hd : decide (n < 64) = false := decide_eq_false (by omega)
    go_enter Tryd.func36, Tryd.ntmps36
    go_wp2
    go_ret
    exact ⟨rfl, rfl⟩

set_option maxRecDepth 100000 in
set_option maxHeartbeats 400000 in
theorem has_in (X : Nat) (n : Int) (hX : X < 18446744073709551616) (h0 : 0 ≤ n) (h1 : n < 64) (w : World) :
    Calls Tryd.prog 45 #[.int .u64 X, .int .i64 n] w fun e w' => e = .returned (.bool (X.testBit n.toNat)) ∧ w = w' := by
  have E := Lib.hid (and_bit X n.toNat hX (by omega))
  go_enter Tryd.func45, Tryd.ntmps45
  go_wp2_with fail
  refine (single_any n h0 h1 _).mono ?_
  rintro e w1 ⟨rfl, rfl⟩
  go_wp2
  go_ret
  exact ⟨ret_bool E.out, rfl⟩

set_option maxRecDepth 100000 in
set_option maxHeartbeats 400000 in
theorem has_out (X : Nat) (n : Int) (h : n < 0 ∨ 64 ≤ n) (w : World) :
    Calls Tryd.prog 45 #[.int .u64 X, .int .i64 n] w fun e w' => e = .returned (.bool false) ∧ w = w' := by
  rcases h with h | h
  · go_enter Tryd.func45, Tryd.ntmps45
    go_wp2
    go_ret
    exact ⟨rfl, rfl⟩
  · have h' : 0 ≤ n := by omega
    have hd : decide (n < 64) = false := decide_eq_false (by omega)
    go_enter Tryd.func45, Tryd.ntmps45
    go_wp2
    go_ret
    exact ⟨rfl, rfl⟩

set_option maxRecDepth 100000 in
set_option maxHeartbeats 400000 in
theorem all_yes (F R : Int) (hv : vsz F R) (w : World) :
    Calls Tryd.prog 54 #[.agg #[.int .i64 F, .int .i64 R]] w fun e w' => e = .returned (.tuple #[.int .u64 (fullN (F * R).toNat : Int), .int .i64 0]) ∧ Below w.heap.size w w' := by
  obtain ⟨m0, m1⟩ := vsz_mul hv
  have E := Lib.hid (full_wrap (F * R) (by omega) m1)
  go_enter Tryd.func54, Tryd.ntmps54
  go_wp2_with fail
  refine (validSize_yes _ _ hv _).mono ?_
  rintro e w1 ⟨rfl, hb⟩
  have hc0 := hb.cell (p := ⟨w.heap.size, 0, none⟩) (by simp)
  have hc1 := hb.cell (p := ⟨w.heap.size, 1, none⟩) (by simp)
  go_wp2
  go_ret2
  exact ⟨ret2 (vint E.out) rfl, after1 hb⟩

set_option maxRecDepth 100000 in
set_option maxHeartbeats 400000 in
theorem all_no (F R : Int) (hv : ¬ vsz F R) (w : World) :
    Calls Tryd.prog 54 #[.agg #[.int .i64 F, .int .i64 R]] w fun e w' => e = .returned (.tuple #[.int .u64 0, .int .i64 2]) ∧ Below w.heap.size w w' := by
  go_enter Tryd.func54, Tryd.ntmps54
  go_wp2_with fail
  refine (validSize_no _ _ hv _).mono ?_
  rintro e w1 ⟨rfl, hb⟩
  go_wp2
  go_ret2
  exact ⟨rfl, after1 hb⟩

set_option maxRecDepth 100000 in
set_option maxHeartbeats 400000 in
theorem refAbs_any (n : Int) (h0 : -100 ≤ n) (h1 : n ≤ 100) (w : World) :
    Calls Tryd.prog 60 #[.int .i64 n] w fun e w' => e = .returned (.int .i64 (max n (-n))) ∧ w' = w := by
  go_enter Tryd.func60, Tryd.ntmps60
  go_wp2
  all_goals
    go_ret
    exact ⟨ret_int (by omega), rfl⟩

/-- the distance of two squares. -/
def dist (F a b : Int) : Int := max (max (a % F - b % F) (b % F - a % F)) (max (a / F - b / F) (b / F - a / F))

set_option maxRecDepth 100000 in
set_option maxHeartbeats 400000 in
theorem distance_yes (F R a b : Int) (ha : vat F R a) (hb : vat F R b) (w : World) :
    Calls Tryd.prog 33 #[.agg #[.int .i64 F, .int .i64 R], .int .i64 a, .int .i64 b] w fun e w' => e = .returned (.tuple #[.int .i64 (dist F a b), .int .i64 0]) ∧ Below w.heap.size w w' := by
  obtain ⟨p0, p1, p2, p3⟩ := place_bd ha.1 ha.2.1 ha.2.2
  obtain ⟨q0, q1, q2, q3⟩ := place_bd hb.1 hb.2.1 hb.2.2
  have f2 := ha.1.2.1
  have r2 := ha.1.2.2.2
  have E : Hid (∀ x y, x = max (a % F - b % F) (b % F - a % F) → y = max (a / F - b / F) (b / F - a / F) → dist F a b = max x y) := Lib.hid (by intro x y hx hy; rw [hx, hy]; rfl)
  go_enter Tryd.func33, Tryd.ntmps33
  go_wp2_with fail
  refine (valid_yes _ _ _ ha _).mono ?_
  rintro e w1 ⟨rfl, b1⟩
  have hc0 := b1.cell (p := ⟨w.heap.size, 0, none⟩) (by simp)
  have hc1 := b1.cell (p := ⟨w.heap.size, 1, none⟩) (by simp)
  go_wp2_with fail
  refine (valid_yes _ _ _ hb _).mono ?_
  rintro e w2 ⟨rfl, b2⟩
  have s1 := b1.size
  simp at s1
  have hd0 := (b2.cell (p := ⟨w.heap.size, 0, none⟩) (by simp; omega)).trans hc0
  have hd1 := (b2.cell (p := ⟨w.heap.size, 1, none⟩) (by simp; omega)).trans hc1
  clear hc0 hc1
  go_wp2_with fail
  refine (place_any _ _ _ ha _).mono ?_
  rintro e w3 ⟨rfl, b3⟩
  have s2 := b2.size
  have he0 := (b3.cell (p := ⟨w.heap.size, 0, none⟩) (by simp; omega)).trans hd0
  have he1 := (b3.cell (p := ⟨w.heap.size, 1, none⟩) (by simp; omega)).trans hd1
  clear hd0 hd1
  go_wp2_with fail
  refine (place_any _ _ _ hb _).mono ?_
  rintro e w4 ⟨rfl, b4⟩
  go_wp2_with fail
  refine (apart_any _ _ (by omega) (by omega) _).mono ?_
  rintro e w5 ⟨rfl, rfl⟩
  go_wp2_with fail
  refine (apart_any _ _ (by omega) (by omega) _).mono ?_
  rintro e w6 ⟨rfl, rfl⟩
  generalize hx : max (a % F - b % F) (b % F - a % F) = x
  generalize hy : max (a / F - b / F) (b / F - a / F) = y
  have E2 := Lib.hid (E.out x y hx.symm hy.symm)
  clear hx hy E
  go_wp2
  all_goals
    go_ret2
    exact ⟨ret2 (vint (by rw [E2.out]; omega)) rfl, after1 (chain (chain (chain b1 b2) b3) b4)⟩

set_option maxRecDepth 100000 in
set_option maxHeartbeats 400000 in
theorem distance_no (F R a b : Int) (h : ¬ (vat F R a ∧ vat F R b)) (w : World) :
    Calls Tryd.prog 33 #[.agg #[.int .i64 F, .int .i64 R], .int .i64 a, .int .i64 b] w fun e w' => e = .returned (.tuple #[.int .i64 0, .int .i64 2]) ∧ Below w.heap.size w w' := by
  by_cases ha : vat F R a
  · have hb : ¬ vat F R b := fun hb => h ⟨ha, hb⟩
    clear h
    go_enter Tryd.func33, Tryd.ntmps33
    go_wp2_with fail
    refine (valid_yes _ _ _ ha _).mono ?_
    rintro e w1 ⟨rfl, b1⟩
    have hc0 := b1.cell (p := ⟨w.heap.size, 0, none⟩) (by simp)
    have hc1 := b1.cell (p := ⟨w.heap.size, 1, none⟩) (by simp)
    go_wp2_with fail
    refine (valid_no _ _ _ hb _).mono ?_
    rintro e w2 ⟨rfl, b2⟩
    go_wp2
    go_ret2
    exact ⟨rfl, after1 (chain b1 b2)⟩
  · clear h
    go_enter Tryd.func33, Tryd.ntmps33
    go_wp2_with fail
    refine (valid_no _ _ _ ha _).mono ?_
    rintro e w1 ⟨rfl, b1⟩
    go_wp2
    go_ret2
    exact ⟨rfl, after1 b1⟩

end Go.Proofs.YtejlbjbmpdddkaaDoor
