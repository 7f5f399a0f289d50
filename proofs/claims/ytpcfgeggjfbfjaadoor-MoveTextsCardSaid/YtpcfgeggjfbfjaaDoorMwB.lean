/- Moves, by the program: their order. -/
import Derived.Test.YtpcfgeggjfbfjaaDoorMwA
import Derived.Deep.RegionHeld3
namespace Go.Proofs.YtpcfgeggjfbfjaaDoor
open Go.RowKit Go.Sort

/-- the order of two numbers, and of two moves. -/
def cmpI (x y : Int) : Int := if x < y then -1 else if y < x then 1 else 0
def cmpM (a b : Mv) : Int := if cmpI a.a b.a ≠ 0 then cmpI a.a b.a else if cmpI a.b b.b ≠ 0 then cmpI a.b b.b else cmpI a.p b.p
theorem cmpI_bd (x y : Int) : cmpI x y = -1 ∧ x < y ∨ cmpI x y = 1 ∧ y < x ∨ cmpI x y = 0 ∧ x = y := by
  unfold cmpI
  split
  · exact .inl ⟨rfl, by assumption⟩
  · split
    · exact .inr (.inl ⟨rfl, by assumption⟩)
    · exact .inr (.inr ⟨rfl, by omega⟩)

theorem nan_int (x : Int) (w : World) : Calls Tryd.prog 40 #[.int .i64 x] w fun e w' => e = .returned (.bool false) ∧ w = w' := by
  have hx : (x != x) = false := by simp
  go_enter Tryd.func40, Tryd.ntmps40
  go_wp2
  go_ret
  exact ⟨by simp, rfl⟩
theorem nan_pc (x : Int) (w : World) : Calls Tryd.prog 41 #[.int .i8 x] w fun e w' => e = .returned (.bool false) ∧ w = w' := by
  have hx : (x != x) = false := by simp
  go_enter Tryd.func41, Tryd.ntmps41
  go_wp2
  go_ret
  exact ⟨by simp, rfl⟩

set_option maxRecDepth 100000 in
set_option maxHeartbeats 1000000 in
theorem cmp_int (x y : Int) (w : World) : Calls Tryd.prog 28 #[.int .i64 x, .int .i64 y] w fun e w' => e = .returned (.int .i64 (cmpI x y)) ∧ w = w' := by
  obtain ⟨v, hv⟩ : ∃ v, cmpI x y = v := ⟨_, rfl⟩
  rw [hv]
  have HB := cmpI_bd x y
  rw [hv] at HB
  clear hv
  rcases HB with ⟨rfl, h⟩ | ⟨rfl, h⟩ | ⟨rfl, h⟩
  · go_enter Tryd.func28, Tryd.ntmps28
    go_wp2_with fail
    refine (nan_int x _).mono ?_
    rintro e w1 ⟨rfl, rfl⟩
    go_wp2_with fail
    refine (nan_int y _).mono ?_
    rintro e w1 ⟨rfl, rfl⟩
    go_wp2
    go_ret
    exact ⟨rfl, rfl⟩
  · have h2 : ¬ x < y := by omega
    go_enter Tryd.func28, Tryd.ntmps28
    go_wp2_with fail
    refine (nan_int x _).mono ?_
    rintro e w1 ⟨rfl, rfl⟩
    go_wp2_with fail
    refine (nan_int y _).mono ?_
    rintro e w1 ⟨rfl, rfl⟩
    go_wp2
    go_ret
    exact ⟨rfl, rfl⟩
  · subst h
    go_enter Tryd.func28, Tryd.ntmps28
    go_wp2_with fail
    refine (nan_int x _).mono ?_
    rintro e w1 ⟨rfl, rfl⟩
    go_wp2_with fail
    refine (nan_int x _).mono ?_
    rintro e w1 ⟨rfl, rfl⟩
    go_wp2
    go_ret
    exact ⟨rfl, rfl⟩

set_option maxRecDepth 100000 in
set_option maxHeartbeats 1000000 in
theorem cmp_pc (x y : Int) (w : World) : Calls Tryd.prog 29 #[.int .i8 x, .int .i8 y] w fun e w' => e = .returned (.int .i64 (cmpI x y)) ∧ w = w' := by
  obtain ⟨v, hv⟩ : ∃ v, cmpI x y = v := ⟨_, rfl⟩
  rw [hv]
  have HB := cmpI_bd x y
  rw [hv] at HB
  clear hv
  rcases HB with ⟨rfl, h⟩ | ⟨rfl, h⟩ | ⟨rfl, h⟩
  · go_enter Tryd.func29, Tryd.ntmps29
    go_wp2_with fail
    refine (nan_pc x _).mono ?_
    rintro e w1 ⟨rfl, rfl⟩
    go_wp2_with fail
    refine (nan_pc y _).mono ?_
    rintro e w1 ⟨rfl, rfl⟩
    go_wp2
    go_ret
    exact ⟨rfl, rfl⟩
  · have h2 : ¬ x < y := by omega
    go_enter Tryd.func29, Tryd.ntmps29
    go_wp2_with fail
    refine (nan_pc x _).mono ?_
    rintro e w1 ⟨rfl, rfl⟩
    go_wp2_with fail
    refine (nan_pc y _).mono ?_
    rintro e w1 ⟨rfl, rfl⟩
    go_wp2
    go_ret
    exact ⟨rfl, rfl⟩
  · subst h
    go_enter Tryd.func29, Tryd.ntmps29
    go_wp2_with fail
    refine (nan_pc x _).mono ?_
    rintro e w1 ⟨rfl, rfl⟩
    go_wp2_with fail
    refine (nan_pc x _).mono ?_
    rintro e w1 ⟨rfl, rfl⟩
    go_wp2
    go_ret
    exact ⟨rfl, rfl⟩

/-- the first number that is not 0. -/
def orV (x y z : Int) : Int := if x ≠ 0 then x else if y ≠ 0 then y else z

set_option maxRecDepth 100000 in
set_option maxHeartbeats 2000000 in
theorem or_any (x y z : Int) (g c : Nat) (w : World) (h0 : w.cell? ⟨g, 0, none⟩ = some (.int .i64 x)) (h1 : w.cell? ⟨g, 1, none⟩ = some (.int .i64 y)) (h2 : w.cell? ⟨g, 2, none⟩ = some (.int .i64 z)) :
    Calls Tryd.prog 27 #[.slice (some ⟨g, 0, none⟩) 3 c] w fun e w' => e = .returned (.int .i64 (orV x y z)) ∧ w = w' := by
  obtain ⟨v, hv⟩ : ∃ v, orV x y z = v := ⟨_, rfl⟩
  rw [hv]
  have HV := Lib.hid hv
  clear hv
  go_enter Tryd.func27, Tryd.ntmps27
  go_wp2
  go_loop [5, 8] (fun _ i => ∃ k : Nat, k ≤ 3 ∧ i = .int .i64 k ∧ (0 < k → Hid (x = 0)) ∧ (1 < k → Hid (y = 0)) ∧ (2 < k → Hid (z = 0))) (fun _ i => 3 - (intOf i).toNat)
  case atStart => exact ⟨0, by omega, rfl, fun h => absurd h (by omega), fun h => absurd h (by omega), fun h => absurd h (by omega)⟩
  case round =>
    obtain ⟨k, hk, rfl, k0, k1, k2⟩ := hrel
    rcases (show k = 0 ∨ k = 1 ∨ k = 2 ∨ k = 3 by omega) with rfl | rfl | rfl | rfl
    · by_cases hx : x = 0
      · have HX := Lib.hid hx
        have hq : (x != 0) = false := by simp [hx]
        clear hx k0 k1 k2
        go_wp2
        go_round
        case rel => exact ⟨1, by omega, by go_num, fun _ => HX, fun h => absurd h (by omega), fun h => absurd h (by omega)⟩
        case measure => simp [intOf]
      · have hq : (x != 0) = true := by simp [hx]
        have E : Hid (x = v) := Lib.hid (by rw [← HV.out]; unfold orV; rw [if_pos hx])
        clear k0 k1 k2
        go_wp2
        go_ret
        exact ⟨ret_int E.out, rfl⟩
    · by_cases hx : y = 0
      · have HX := Lib.hid hx
        have hq : (y != 0) = false := by simp [hx]
        have HX0 := k0 (by omega)
        clear hx k0 k1 k2
        go_wp2
        go_round
        case rel => exact ⟨2, by omega, by go_num, fun _ => HX0, fun _ => HX, fun h => absurd h (by omega)⟩
        case measure => simp [intOf]
      · have hq : (y != 0) = true := by simp [hx]
        have E : Hid (y = v) := Lib.hid (by rw [← HV.out]; unfold orV; rw [if_neg (by simpa using (k0 (by omega)).out), if_pos hx])
        clear k0 k1 k2
        go_wp2
        go_ret
        exact ⟨ret_int E.out, rfl⟩
    · by_cases hx : z = 0
      · have HX := Lib.hid hx
        have hq : (z != 0) = false := by simp [hx]
        have HX0 := k0 (by omega)
        have HX1 := k1 (by omega)
        clear hx k0 k1 k2
        go_wp2
        go_round
        case rel => exact ⟨3, by omega, by go_num, fun _ => HX0, fun _ => HX1, fun _ => HX⟩
        case measure => simp [intOf]
      · have hq : (z != 0) = true := by simp [hx]
        have E : Hid (z = v) := Lib.hid (by rw [← HV.out]; unfold orV; rw [if_neg (by simpa using (k0 (by omega)).out), if_neg (by simpa using (k1 (by omega)).out)])
        clear k0 k1 k2
        go_wp2
        go_ret
        exact ⟨ret_int E.out, rfl⟩
    · have E : Hid (0 = v) := Lib.hid (by rw [← HV.out]; unfold orV; rw [if_neg (by simpa using (k0 (by omega)).out), if_neg (by simpa using (k1 (by omega)).out), (k2 (by omega)).out])
      clear k0 k1 k2
      go_wp2
      go_ret
      exact ⟨ret_int E.out, rfl⟩

set_option maxRecDepth 100000 in
set_option maxHeartbeats 2000000 in
theorem mvCmp_any (a b c x y z : Int) (w : World) :
    Calls Tryd.prog 11 #[.agg #[.int .i64 a, .int .i64 b, .int .i8 c], .agg #[.int .i64 x, .int .i64 y, .int .i8 z]] w fun e w' => e = .returned (.int .i64 (cmpM ⟨a, b, c⟩ ⟨x, y, z⟩)) ∧ Below w.heap.size w w' := by
  have E : Hid (orV (cmpI a x) (cmpI b y) (cmpI c z) = cmpM ⟨a, b, c⟩ ⟨x, y, z⟩) := Lib.hid rfl
  go_enter Tryd.func11, Tryd.ntmps11
  go_wp2_with fail
  go_region_held3 (fun w' => w'.cell? ⟨w.heap.size, 0, none⟩ = some (.int .i64 a) ∧ w'.cell? ⟨w.heap.size, 1, none⟩ = some (.int .i64 b) ∧ w'.cell? ⟨w.heap.size, 2, none⟩ = some (.int .i8 c) ∧ w'.cell? ⟨w.heap.size + 1, 0, none⟩ = some (.int .i64 x) ∧ w'.cell? ⟨w.heap.size + 1, 1, none⟩ = some (.int .i64 y) ∧ w'.cell? ⟨w.heap.size + 1, 2, none⟩ = some (.int .i8 z)) (go_keep)
    (first
      | (go_at_call 28; refine (cmp_int _ _ _).mono ?_; rintro e w1 ⟨rfl, rfl⟩)
      | (go_at_call 29; refine (cmp_pc _ _ _).mono ?_; rintro e w1 ⟨rfl, rfl⟩)
      | (go_at_call 27; refine (or_any _ _ _ _ _ _ (by simp [go_sem]; rfl) (by simp [go_sem]; rfl) (by simp [go_sem]; rfl)).mono ?_; rintro e w1 ⟨rfl, rfl⟩))
  go_wp2
  go_ret
  exact ⟨ret_int E.out, after1 (after1 ((box1 _ _).drew))⟩

end Go.Proofs.YtpcfgeggjfbfjaaDoor
