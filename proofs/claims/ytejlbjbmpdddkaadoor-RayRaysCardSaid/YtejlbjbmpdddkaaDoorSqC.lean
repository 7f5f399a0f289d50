/- Contracts of At, Place, Light, Distance and of their references: which answer each gives, and that nothing that lay before is changed. -/
import Derived.Test.YtejlbjbmpdddkaaDoorSqB
import Derived.Handy
namespace Go.Proofs.YtejlbjbmpdddkaaDoor
open Go.RowKit

set_option maxRecDepth 100000 in
set_option maxHeartbeats 400000 in
theorem at_yes (F R f r : Int) (hv : vsz F R) (h : onb F R f r) (w : World) :
    Calls Tryd.prog 28 #[.agg #[.int .i64 F, .int .i64 R], .int .i64 f, .int .i64 r] w fun e w' => e = .returned (.tuple #[.int .i64 (f + r * F), .int .i64 0]) ∧ Below w.heap.size w w' := by
  go_enter Tryd.func28, Tryd.ntmps28
  go_wp2_with fail
  refine (validSize_yes _ _ hv _).mono ?_
  rintro e w1 ⟨rfl, hb⟩
  have hc0 := hb.cell (p := ⟨w.heap.size, 0, none⟩) (by simp)
  have hc1 := hb.cell (p := ⟨w.heap.size, 1, none⟩) (by simp)
  go_wp2_with fail
  refine (onBoard_yes _ _ _ _ h _).mono ?_
  rintro e w2 ⟨rfl, hb2⟩
  have hs := hb.size
  simp at hs
  have hd0 := hb2.cell (p := ⟨w.heap.size, 0, none⟩) (by simp; omega)
  have hd1 := hb2.cell (p := ⟨w.heap.size, 1, none⟩) (by simp; omega)
  go_wp2_with fail
  refine (number_any _ _ _ _ hv h _).mono ?_
  rintro e w3 ⟨rfl, hb3⟩
  go_wp2
  go_ret2
  exact ⟨rfl, after1 (chain (chain hb hb2) hb3)⟩

set_option maxRecDepth 100000 in
set_option maxHeartbeats 400000 in
theorem at_off (F R f r : Int) (hv : vsz F R) (h : ¬ onb F R f r) (w : World) :
    Calls Tryd.prog 28 #[.agg #[.int .i64 F, .int .i64 R], .int .i64 f, .int .i64 r] w fun e w' => e = .returned (.tuple #[.int .i64 0, .int .i64 3]) ∧ Below w.heap.size w w' := by
  go_enter Tryd.func28, Tryd.ntmps28
  go_wp2_with fail
  refine (validSize_yes _ _ hv _).mono ?_
  rintro e w1 ⟨rfl, hb⟩
  have hc0 := hb.cell (p := ⟨w.heap.size, 0, none⟩) (by simp)
  have hc1 := hb.cell (p := ⟨w.heap.size, 1, none⟩) (by simp)
  go_wp2_with fail
  refine (onBoard_no _ _ _ _ h _).mono ?_
  rintro e w2 ⟨rfl, hb2⟩
  go_wp2
  go_ret2
  exact ⟨rfl, after1 (chain hb hb2)⟩

set_option maxRecDepth 100000 in
set_option maxHeartbeats 400000 in
theorem at_no (F R f r : Int) (hv : ¬ vsz F R) (w : World) :
    Calls Tryd.prog 28 #[.agg #[.int .i64 F, .int .i64 R], .int .i64 f, .int .i64 r] w fun e w' => e = .returned (.tuple #[.int .i64 0, .int .i64 2]) ∧ Below w.heap.size w w' := by
  go_enter Tryd.func28, Tryd.ntmps28
  go_wp2_with fail
  refine (validSize_no _ _ hv _).mono ?_
  rintro e w1 ⟨rfl, hb⟩
  go_wp2
  go_ret2
  exact ⟨rfl, after1 hb⟩

set_option maxRecDepth 100000 in
set_option maxHeartbeats 400000 in
theorem placeX_yes (F R a : Int) (h : vat F R a) (w : World) :
    Calls Tryd.prog 27 #[.agg #[.int .i64 F, .int .i64 R], .int .i64 a] w fun e w' => e = .returned (.tuple #[.int .i64 (a % F), .int .i64 (a / F), .int .i64 0]) ∧ Below w.heap.size w w' := by
  go_enter Tryd.func27, Tryd.ntmps27
  go_wp2_with fail
  refine (valid_yes _ _ _ h _).mono ?_
  rintro e w1 ⟨rfl, hb⟩
  have hc0 := hb.cell (p := ⟨w.heap.size, 0, none⟩) (by simp)
  have hc1 := hb.cell (p := ⟨w.heap.size, 1, none⟩) (by simp)
  go_wp2_with fail
  refine (place_any _ _ _ h _).mono ?_
  rintro e w2 ⟨rfl, hb2⟩
  go_wp2
  go_ret3
  exact ⟨rfl, after1 (chain hb hb2)⟩

set_option maxRecDepth 100000 in
set_option maxHeartbeats 400000 in
theorem placeX_no (F R a : Int) (h : ¬ vat F R a) (w : World) :
    Calls Tryd.prog 27 #[.agg #[.int .i64 F, .int .i64 R], .int .i64 a] w fun e w' => e = .returned (.tuple #[.int .i64 0, .int .i64 0, .int .i64 2]) ∧ Below w.heap.size w w' := by
  go_enter Tryd.func27, Tryd.ntmps27
  go_wp2_with fail
  refine (valid_no _ _ _ h _).mono ?_
  rintro e w1 ⟨rfl, hb⟩
  go_wp2
  go_ret3
  exact ⟨rfl, after1 hb⟩

set_option maxRecDepth 100000 in
set_option maxHeartbeats 400000 in
theorem apart_any (a b : Int) (h1 : -100 ≤ a - b) (h2 : a - b ≤ 100) (w : World) :
    Calls Tryd.prog 53 #[.int .i64 a, .int .i64 b] w fun e w' => e = .returned (.int .i64 (max (a - b) (b - a))) ∧ w = w' := by
  go_enter Tryd.func53, Tryd.ntmps53
  go_wp2
  all_goals
    go_ret
    exact ⟨ret_int (by omega), rfl⟩

set_option maxRecDepth 100000 in
set_option maxHeartbeats 400000 in
theorem refNumber_yes (F R f r : Int) (hv : vsz F R) (h : onb F R f r) (w : World) :
    Calls Tryd.prog 25 #[.agg #[.int .i64 F, .int .i64 R], .int .i64 f, .int .i64 r] w fun e w' => e = .returned (.int .i64 (r * F + f)) ∧ Below w.heap.size w w' := by
  obtain ⟨a, b, c, d⟩ := h
  obtain ⟨n0, n1, n2, n3, n4⟩ := number_bd hv a b c d
  obtain ⟨m0, m1⟩ := vsz_mul hv
  clear n3 n4
  go_enter Tryd.func25, Tryd.ntmps25
  go_wp2
  go_ret
  exact ⟨rfl, box1 _ _⟩

set_option maxRecDepth 100000 in
set_option maxHeartbeats 400000 in
theorem refNumber_no (F R f r : Int) (h : ¬ onb F R f r) (w : World) :
    Calls Tryd.prog 25 #[.agg #[.int .i64 F, .int .i64 R], .int .i64 f, .int .i64 r] w fun e w' => e = .returned (.int .i64 (-1)) ∧ Below w.heap.size w w' := by
  unfold onb at h
  have h4 : f < 0 ∨ (0 ≤ f ∧ F ≤ f) ∨ (0 ≤ f ∧ f < F ∧ r < 0) ∨ (0 ≤ f ∧ f < F ∧ 0 ≤ r ∧ R ≤ r) := by omega
  clear h
  rcases h4 with h | ⟨h, k⟩ | ⟨h, k, l⟩ | ⟨h, k, l, m⟩
  all_goals
    go_enter Tryd.func25, Tryd.ntmps25
    go_wp2
    go_ret
    exact ⟨rfl, box1 _ _⟩

set_option maxRecDepth 100000 in
set_option maxHeartbeats 400000 in
theorem refPlace_any (F R a : Int) (h : vat F R a) (w : World) :
    Calls Tryd.prog 24 #[.agg #[.int .i64 F, .int .i64 R], .int .i64 a] w fun e w' => e = .returned (.agg #[.int .i64 (a % F), .int .i64 (a / F)]) ∧ Below w.heap.size w w' := by
  obtain ⟨hv, h0, h1⟩ := h
  obtain ⟨m0, m1⟩ := vsz_mul hv
  obtain ⟨p0, p1, p2, p3⟩ := place_bd hv h0 h1
  obtain ⟨f1, f2, r1, r2⟩ := hv
  have hne : ¬ F = 0 := by omega
  go_enter Tryd.func24, Tryd.ntmps24
  go_wp2
  go_region
  all_goals
    go_wp2
    exact bodyPost_ret (v := .agg #[.int .i64 (a % F), .int .i64 (a / F)]) (by simp [results, Tryd.results24, go_sem]) rfl ⟨rfl, by go_grown⟩

end Go.Proofs.YtejlbjbmpdddkaaDoor
