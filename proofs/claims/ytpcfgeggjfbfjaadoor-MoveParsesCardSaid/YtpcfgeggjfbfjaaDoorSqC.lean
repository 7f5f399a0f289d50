/- Contracts of At, Place, Light, Distance and of their references: which answer each gives, and that nothing that lay before is changed. -/
import Derived.Test.YtpcfgeggjfbfjaaDoorSqB
import Derived.Handy
namespace Go.Proofs.YtpcfgeggjfbfjaaDoor
open Go.RowKit

set_option maxRecDepth 100000 in
set_option maxHeartbeats 400000 in
theorem refPlace_any (F R a : Int) (h : vat F R a) (w : World) :
    Calls Tryd.prog 44 #[.agg #[.int .i64 F, .int .i64 R], .int .i64 a] w fun e w' => e = .returned (.agg #[.int .i64 (a % F), .int .i64 (a / F)]) ∧ Below w.heap.size w w' := by
  obtain ⟨hv, h0, h1⟩ := h
  obtain ⟨m0, m1⟩ := vsz_mul hv
  obtain ⟨p0, p1, p2, p3⟩ := place_bd hv h0 h1
  obtain ⟨f1, f2, r1, r2⟩ := hv
  have hne : ¬ F = 0 := by omega
  go_enter Tryd.func44, Tryd.ntmps44
  go_wp2
  go_region
  all_goals
    go_wp2
    exact bodyPost_ret (v := .agg #[.int .i64 (a % F), .int .i64 (a / F)]) (by simp [results, Tryd.results44, go_sem]) rfl ⟨rfl, by go_grown⟩

end Go.Proofs.YtpcfgeggjfbfjaaDoor
