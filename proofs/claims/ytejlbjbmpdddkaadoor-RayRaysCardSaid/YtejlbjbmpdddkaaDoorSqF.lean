/- The reference's place, with the world that it leaves, and the reference's distance. -/
import Derived.Test.YtejlbjbmpdddkaaDoorSqD
import Derived.Deep.DeepCutAuto
import Derived.Deep.RegionHeld3
namespace Go.Proofs.YtejlbjbmpdddkaaDoor
open Go.RowKit

theorem alive {w : World} (o : Obj) {p : Addr} {v : Value} (h : w.cell? p = some v) : (w.alloc o).cell? p = some v :=
  (World.cell?_alloc_lt w o p (World.block_lt_of_cell? w p h)).trans h
theorem bcell {W w1 : World} (hb : Below W.heap.size W w1) : (∀ b o, b < W.heap.size → w1.cell? ⟨b, o, none⟩ = W.cell? ⟨b, o, none⟩) ∧ (∀ b o, b < W.heap.size → w1.frozen? ⟨b, o, none⟩ = W.frozen? ⟨b, o, none⟩) :=
  ⟨fun b o h => hb.cell (p := ⟨b, o, none⟩) h, fun b o h => hb.frozen (p := ⟨b, o, none⟩) h⟩

set_option maxRecDepth 100000 in
set_option maxHeartbeats 400000 in
theorem refPlace_ex (F R a : Int) (h : vat F R a) (w : World) :
    Calls Tryd.prog 24 #[.agg #[.int .i64 F, .int .i64 R], .int .i64 a] w fun e w' => e = .returned (.agg #[.int .i64 (a % F), .int .i64 (a / F)]) ∧
      ((w.alloc (.cells #[.int .i64 F, .int .i64 R] 23)).alloc (.cells #[.int .i64 (a % F), .int .i64 (a / F)] 57)).drew = w' := by
  obtain ⟨hv, h0, h1⟩ := h
  obtain ⟨m0, m1⟩ := vsz_mul hv
  obtain ⟨p0, p1, p2, p3⟩ := place_bd hv h0 h1
  obtain ⟨f1, f2, r1, r2⟩ := hv
  have hne : ¬ F = 0 := by omega
  go_enter Tryd.func24, Tryd.ntmps24
  go_wp2
  go_region
  all_goals
    go_wp2
    refine bodyPost_ret (v := .agg #[.int .i64 (a % F), .int .i64 (a / F)]) (by simp [results, Tryd.results24, go_sem]) rfl ⟨rfl, rfl⟩

set_option maxRecDepth 100000 in
set_option maxHeartbeats 2000000 in
theorem refDistance_any (F R a b : Int) (ha : vat F R a) (hb : vat F R b) (w : World) :
    Calls Tryd.prog 55 #[.agg #[.int .i64 F, .int .i64 R], .int .i64 a, .int .i64 b] w fun e w' => e = .returned (.int .i64 (dist F a b)) ∧ Below w.heap.size w w' := by
  obtain ⟨p0, p1, p2, p3⟩ := place_bd ha.1 ha.2.1 ha.2.2
  obtain ⟨q0, q1, q2, q3⟩ := place_bd hb.1 hb.2.1 hb.2.2
  have f2 := ha.1.2.1
  have r2 := ha.1.2.2.2
  go_enter Tryd.func55, Tryd.ntmps55
  go_upto_region 1 with fail
  go_cut [7, 8] (fun s7 s8 wx => ∃ g h : Nat, s7 = .pointer (some ⟨g, 0, none⟩) ∧ s8 = .pointer (some ⟨h, 0, none⟩) ∧ wx.cell? ⟨g, 0, none⟩ = some (.int .i64 (a % F)) ∧ wx.cell? ⟨g, 1, none⟩ = some (.int .i64 (a / F)) ∧ wx.cell? ⟨h, 0, none⟩ = some (.int .i64 (b % F)) ∧ wx.cell? ⟨h, 1, none⟩ = some (.int .i64 (b / F)) ∧ Below w.heap.size w wx)
  case first =>
    go_region_held3 (fun w' => w'.cell? ⟨w.heap.size, 0, none⟩ = some (.int .i64 F) ∧ w'.cell? ⟨w.heap.size, 1, none⟩ = some (.int .i64 R)) (((try dsimp only); refine ⟨?_, ?_⟩ <;> ((try simp only [World.cell?_drew]); (repeat (first | assumption | (rw [World.cell?_alloc_new]; rfl) | (exact (by assumption : _ ∧ _).1) | (exact (by assumption : _ ∧ _).2) | (refine alive _ ?_))))))
     (first
      | (go_at_call_of 24 (Value.int .i64 a); refine (refPlace_ex _ _ _ ha _).mono ?_; rintro e w1 ⟨rfl, rfl⟩)
      | (go_at_call_of 24 (Value.int .i64 b); refine (refPlace_ex _ _ _ hb _).mono ?_; rintro e w2 ⟨rfl, rfl⟩))
    all_goals
      go_wp2_with fail
      go_meet
      refine ⟨_, _, rfl, rfl, ?_, ?_, ?_, ?_, ?_⟩
      · simp [go_sem]
      · simp [go_sem]
      · simp [go_sem]
      · simp [go_sem]
      · go_grown
  case rest =>
    obtain ⟨g, h, rfl, rfl, g0, g1, h0, h1, hB⟩ := hcut
    go_wp2
    go_quiet ((go_at_call 60; exact Calls.quiet_of_same (refAbs_any _ (by omega) (by omega) _)))
    go_wp2_with fail
    all_goals
      refine (refAbs_any _ (by omega) (by omega) _).mono ?_
      rintro e w1 ⟨rfl, rfl⟩
      go_wp2
      go_ret
      exact ⟨ret_int (by unfold dist; omega), drawn hB _⟩

end Go.Proofs.YtejlbjbmpdddkaaDoor
