/- The steps of a pawn by the program are the document's; inputs that it refuses. -/
import Derived.Test.YtejlbjbmpdddkaaDoorRpI
import Derived.Test.YtejlbjbmpdddkaaDoorRyH
namespace Go.Proofs.YtejlbjbmpdddkaaDoor
open Go.RowKit Go.Shelf Go.Sort

set_option maxRecDepth 100000 in
set_option maxHeartbeats 1000000 in
theorem pSteps_off (F R a : Int) (bl : Bool) (ha : ¬ vat F R a) (X : Nat) (w : World) :
    Calls Tryd.prog 21 #[.agg #[.int .i64 F, .int .i64 R], .bool bl, .int .i64 a, .int .u64 X] w fun e w' => e = .returned (.tuple #[.int .u64 0, .int .i64 2]) ∧ Below w.heap.size w w' := by
  have HV := Lib.hid (placeX_no F R a ha)
  go_enter Tryd.func21, Tryd.ntmps21
  go_wp2_with fail
  refine (HV.out _).mono ?_
  rintro e w1 ⟨rfl, hb1⟩
  go_wp2
  go_ret2
  exact ⟨rfl, after1 (after1 hb1)⟩

set_option maxRecDepth 100000 in
set_option maxHeartbeats 1000000 in
theorem pSteps_set (F R a : Int) (bl : Bool) (ha : vat F R a) (X : Nat) (hX64 : X < 18446744073709551616) (hX : ¬ X < 2 ^ (F * R).toNat) (w : World) :
    Calls Tryd.prog 21 #[.agg #[.int .i64 F, .int .i64 R], .bool bl, .int .i64 a, .int .u64 X] w fun e w' => e = .returned (.tuple #[.int .u64 0, .int .i64 2]) ∧ Below w.heap.size w w' := by
  have HS := Lib.hid (pIsSet_yes F R X hX64 ha.1)
  have HV := Lib.hid (placeX_yes F R a ha)
  have HB : decide (X < 2 ^ (F * R).toNat) = false := by simp; omega
  rw [HB] at HS
  clear HB hX
  generalize a % F = x at *
  generalize a / F = y at *
  go_enter Tryd.func21, Tryd.ntmps21
  go_wp2_with fail
  refine (HV.out _).mono ?_
  rintro e w1 ⟨rfl, hb1⟩
  have s1 := hb1.size
  simp at s1
  have c0 := hb1.cell (p := ⟨w.heap.size, 0, none⟩) (by simp; omega)
  have c1 := hb1.cell (p := ⟨w.heap.size, 1, none⟩) (by simp; omega)
  have c2 := hb1.cell (p := ⟨w.heap.size + 1, 0, none⟩) (by simp)
  simp [go_sem] at c0 c1 c2
  have hB1 := after1 (after1 hb1)
  go_wp2_with fail
  refine (HS.out _).mono ?_
  rintro e w2 ⟨rfl, hb2⟩
  go_wp2
  go_ret2
  exact ⟨rfl, chain hB1 hb2⟩

theorem ray_cons {F R x y f r : Int} : rayL F R x y f r = if rayP F R x y f r 0 = true then rayNum F x y f r 0 :: (if rayP F R x y f r 1 = true then rayNum F x y f r 1 :: ((List.range' 2 6).takeWhile (rayP F R x y f r)).map (rayNum F x y f r) else []) else [] := by
  unfold rayL
  have e : List.range 8 = 0 :: 1 :: List.range' 2 6 := by decide
  rw [e, List.takeWhile_cons, List.takeWhile_cons]
  cases rayP F R x y f r 0 <;> cases rayP F R x y f r 1 <;> simp

theorem num_ray {F R x y f r x' y' : Int} {j : Nat} (hv : vsz F R) (hx : x + ((j : Int) + 1) * f = x') (hy : y + ((j : Int) + 1) * r = y') (h : onB F R x' y' = true) : ((rayNum F x y f r j : Nat) : Int) = numV F R x' y' ∧ rayNum F x y f r j < 64 ∧ rayNum F x y f r j < (F * R).toNat := by
  have hP : rayP F R x y f r j = true := by unfold rayP; rw [hx, hy]; exact h
  obtain ⟨h1, h2, h3⟩ := ray_place hv hP
  obtain ⟨m0, m1⟩ := vsz_mul hv
  have hb := h3.2.2
  refine ⟨?_, by omega, by omega⟩
  unfold numV
  rw [if_pos h, ← hx, ← hy, ← h1, ← h2]
  have := place_eq (a := ((rayNum F x y f r j : Nat) : Int)) hv
  omega
theorem has_v {X N : Nat} (h : N < 64) : hasV X (N : Int) = X.testBit N := by
  unfold hasV
  rw [if_pos (by omega)]
  simp

theorem steps_eq {F R a : Int} (bl : Bool) (ha : vat F R a) (X : Nat) : ofL (stepsR (rayL F R (a % F) (a / F) 0 (fwd bl)) X (leftOf R (a / F) bl)) = ofL (stepL F R a bl X) := by
  apply ofL_ext
  intro n
  unfold stepL
  rw [mem_pick]
  obtain ⟨p0, p1, p2, p3⟩ := place_bd ha.1 ha.2.1 ha.2.2
  have f1 := ha.1.1
  have f2 := ha.1.2.1
  have r1 := ha.1.2.2.1
  have r2 := ha.1.2.2.2
  have hu := fwd_bd bl
  have hv := ha.1
  obtain ⟨m0, m1⟩ := vsz_mul hv
  have hs : scd R bl = if fwd bl = 1 then 1 else R - 2 := by cases bl <;> simp [scd, fwd]
  unfold leftOf stepB
  generalize scd R bl = sc at *
  generalize a % F = x at *
  generalize a / F = y at *
  generalize fwd bl = u at *
  have q0 : rayP F R x y 0 u 0 = onB F R x (y + u) := by unfold rayP; congr 1 <;> simp
  have q1 : rayP F R x y 0 u 1 = onB F R x (y + 2 * u) := by unfold rayP; congr 1; simp
  have k0 : onB F R x (y + u) = true → _ := num_ray (x := x) (y := y) (f := 0) (r := u) (j := 0) hv (by simp) (by simp)
  have k1 : onB F R x (y + 2 * u) = true → _ := num_ray (x := x) (y := y) (f := 0) (r := u) (j := 1) hv (by simp) (by simp)
  rw [ray_cons, q0, q1]
  generalize rayNum F x y 0 u 0 = N0 at *
  generalize rayNum F x y 0 u 1 = N1 at *
  generalize ((List.range' 2 6).takeWhile (rayP F R x y 0 u)).map (rayNum F x y 0 u) = T at *
  cases e0 : onB F R x (y + u)
  · have e1 : onB F R x (y + 2 * u) = false := by
      cases e1 : onB F R x (y + 2 * u)
      · rfl
      · rw [← Bool.not_eq_true, onB_iff] at e0
        rw [onB_iff] at e1
        exact absurd (show onb F R x (y + u) from ⟨e1.1, e1.2.1, by have := e1.2.2.1; omega, by have := e1.2.2.2; omega⟩) e0
    have z1 : numV F R x (y + u) = -1 := by unfold numV; simp [e0]
    have z2 : numV F R x (y + 2 * u) = -1 := by unfold numV; simp [e1]
    rw [z1, z2]
    have z3 : ((n : Int) == -1) = false := beq_eq_false_iff_ne.2 (by omega)
    simp [stepsR, z3]
  · obtain ⟨w0, l0, b0⟩ := k0 e0
    rw [if_pos rfl, ← w0, has_v l0]
    cases t0 : X.testBit N0
    · cases e1 : onB F R x (y + 2 * u)
      · have hl : ¬ (6 ≤ R ∧ y = sc) := by
          rintro ⟨h1, h2⟩
          rw [← Bool.not_eq_true, onB_iff] at e1
          apply e1
          rw [hs] at h2
          refine ⟨by omega, by omega, ?_, ?_⟩ <;> rcases hu with rfl | rfl <;> simp at h2 <;> omega
        have z2 : numV F R x (y + 2 * u) = -1 := by unfold numV; simp [e1]
        have z3 : ((n : Int) == -1) = false := beq_eq_false_iff_ne.2 (by omega)
        rw [if_neg (by simp), if_neg hl, z2, z3]
        simp [stepsR, t0]
        omega
      · obtain ⟨w1, l1, b1⟩ := k1 e1
        rw [if_pos rfl, ← w1, has_v l1]
        by_cases hl : 6 ≤ R ∧ y = sc
        · rw [if_pos hl]
          simp [stepsR, t0, hl.1, hl.2]
          cases t1 : X.testBit N1
          · simp [t1]
            omega
          · simp [t1]
            omega
        · rw [if_neg hl]
          have hl2 : (decide (6 ≤ R) && (y == sc)) = false := by
            by_cases h6 : 6 ≤ R
            · have : y ≠ sc := fun e => hl ⟨h6, e⟩
              simp [this]
            · simp [h6]
          simp [stepsR, t0]
          constructor
          · rintro rfl
            exact ⟨by omega, .inl rfl⟩
          · rintro ⟨_, h | h⟩
            · omega
            · exact absurd ⟨h.1.1.2, h.1.2⟩ hl
    · simp [stepsR, t0]

theorem pSteps_yes (F R a : Int) (bl : Bool) (ha : vat F R a) (X : Nat) (hX : X < 2 ^ (F * R).toNat) (w : World) :
    Calls Tryd.prog 21 #[.agg #[.int .i64 F, .int .i64 R], .bool bl, .int .i64 a, .int .u64 X] w fun e w' => e = .returned (.tuple #[.int .u64 (ofL (stepL F R a bl X) : Int), .int .i64 0]) ∧ Below w.heap.size w w' := by
  rw [← steps_eq bl ha X]
  exact callsIn_wide.1 (pSteps_in F R a bl ha X hX w)

end Go.Proofs.YtejlbjbmpdddkaaDoor
