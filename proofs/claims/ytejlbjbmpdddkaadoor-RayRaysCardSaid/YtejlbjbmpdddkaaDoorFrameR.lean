/- What the rows of package ray share: the tables of directions out of the row's condition. -/
import Derived.Test.YtejlbjbmpdddkaaDoorFrameS
import Derived.Test.YtejlbjbmpdddkaaDoorRpF
import Derived.Deep.Strs
import Derived.Lay
namespace Go.Proofs.YtejlbjbmpdddkaaDoor
open Go.ChangeShapes Go.WideShapes Go.ChangeAt Go.RowKit

theorem gLin : Tryd.prog.globalNamed "caissa/ray.lines" = some 0 := by kernel_rfl
theorem gJum : Tryd.prog.globalNamed "caissa/ray.jumps" = some 1 := by kernel_rfl
theorem tLin : (Tryd.prog.globals[0]?).map (·.type) = some 73 := by kernel_rfl
theorem tJum : (Tryd.prog.globals[1]?).map (·.type) = some 73 := by kernel_rfl
theorem tStp : ∃ e, Tryd.prog.underlying 73 = some (.array 8 e) ∧ Tryd.prog.cellsOf e = 2 ∧
    ∃ f0 f1 : Field, Tryd.prog.underlying e = some (.struct #[f0, f1]) ∧ (f0.offset = 0 ∧ f1.offset = 1) ∧ (Tryd.prog.underlying f0.type = some (.int .i64) ∧ Tryd.prog.underlying f1.type = some (.int .i64)) ∧ (Tryd.prog.cellsOf f0.type = 1 ∧ Tryd.prog.cellsOf f1.type = 1) :=
  ⟨72, Tryd.underlying73, by kernel_rfl, _, _, Tryd.underlying72, ⟨rfl, rfl⟩, ⟨Tryd.underlying3, Tryd.underlying3⟩, ⟨by kernel_rfl, by kernel_rfl⟩⟩

def stepsD (l : List Int) : DataW Unit := .agg ((List.range 8).map fun i => .agg [.lit (.int .i64 (l[i * 2]?.getD 0)), .lit (.int .i64 (l[i * 2 + 1]?.getD 0))])
theorem laid_lines : (Rows.laid_caissa_ray_lines : DataW Unit) = stepsD linesL := by kernel_rfl
theorem laid_jumps : (Rows.laid_caissa_ray_jumps : DataW Unit) = stepsD jumpsL := by kernel_rfl

def laid4 : List (String × DataW Unit) := [("caissa/ray.lines", Rows.laid_caissa_ray_lines), ("caissa/ray.jumps", Rows.laid_caissa_ray_jumps)]
/-- A heap in which both lie meets the condition. -/
theorem steps_met (os : Os) (args : Array Value) : laidMetH Tryd.prog laid4 ((World.doorLaid Tryd.prog 400 os).forCall (fun _ _ => 0) ⟨#[], args, []⟩).memory :=
  laidMetH_of_parts3 (fuel := 8) (laidMet_of_run' 8 (by kernel_rfl) (by kernel_rfl)) (by kernel_rfl) (by kernel_rfl)

theorem one_of2 {l : List Value} {a j : Nat} {v : Value} (hj : j < 2) (h : (((l.drop a).take 2).drop j).take 1 = [v]) : l[a + j]? = some v := by
  have := congrArg (fun q : List Value => q[0]?) h
  simpa [List.getElem?_take, List.getElem?_drop, hj] using this
theorem tb_one {W : World} {nm : String} {G : Nat} {l : List Int} {rest : List (String × DataW Unit)} {ps : List MemPlace} (hg : Tryd.prog.globalNamed nm = some G) (hty : (Tryd.prog.globals[G]?).map (·.type) = some 73)
    (h : DataW.LaidVars Tryd.prog W ((nm, stepsD l) :: rest) ps) : (∀ j, j < 16 → W.cell? ⟨G, j, none⟩ = some (.int .i64 (l[j]?.getD 0))) ∧ ∃ ps', DataW.LaidVars Tryd.prog W rest ps' := by
  obtain ⟨g', t', cs, fuel, p, q, hg', ht', hvar, hd, hr, _⟩ := h
  refine ⟨?_, _, hr⟩
  obtain ⟨e, he, hce, f0, f1, hs, ⟨o0, o1⟩, ⟨y0, y1⟩, ⟨c0, c1⟩⟩ := tStp
  obtain rfl := Option.some.inj (hg.symm.trans hg')
  obtain rfl := Option.some.inj (hty.symm.trans ht')
  obtain ⟨xs, m, _, hx, hl, hxl, hel⟩ := DataW.trod_array he hd
  have hxs : xs.map (·.1) = (List.range 8).map fun i => (.agg [.lit (.int .i64 (l[i * 2]?.getD 0)), .lit (.int .i64 (l[i * 2 + 1]?.getD 0))] : DataW Unit) := by
    have := congrArg Prod.fst hx
    simp only [stepsD, DataW.agg.injEq] at this
    exact this.symm
  have hc : ∀ i, i < 8 → cs.toList[i * 2 + 0]? = some (.int .i64 (l[i * 2]?.getD 0)) ∧ cs.toList[i * 2 + 1]? = some (.int .i64 (l[i * 2 + 1]?.getD 0)) := by
    intro i hi
    have h1 := hel i hi
    rw [hce] at h1
    obtain ⟨x, hxi⟩ : ∃ x, xs[i]? = some x := ⟨xs[i]'(by omega), List.getElem?_eq_getElem (by omega)⟩
    rw [hxi] at h1
    obtain ⟨z0, z1, n, rfl, _, k0, k1⟩ := trod_struct2 hs h1
    rw [c0, o0] at k0
    rw [c1, o1] at k1
    obtain ⟨m0, hc0, rfl, _⟩ := DataW.trod_int y0 k0
    obtain ⟨m1, hc1, rfl, _⟩ := DataW.trod_int y1 k1
    have h2 := congrArg (·[i]?) hxs
    simp [hxi, hi] at h2
    obtain ⟨e0, e1⟩ := h2
    exact ⟨by rw [one_of2 (by omega) hc0, e0], by rw [one_of2 (by omega) hc1, e1]⟩
  intro j hj
  have := World.var?_cell hg hvar j
  rw [this]
  have h3 := hc (j / 2) (by omega)
  rcases Nat.mod_two_eq_zero_or_one j with hm | hm
  · have : j / 2 * 2 = j := by omega
    have h4 := h3.1
    rw [Nat.add_zero, this] at h4
    simpa using h4
  · have : j / 2 * 2 + 1 = j := by omega
    have h4 := h3.2
    rw [this] at h4
    simpa using h4
/-- The row's condition gives the walks their tables. -/
theorem tb_of_laid {W : World} (h : laidMetH Tryd.prog laid4 W) : Tb W := by
  unfold laid4 at h
  rw [MakeChecks.laidMetH_plain _ _ _ (by kernel_rfl)] at h
  rw [laid_lines, laid_jumps] at h
  obtain ⟨ps, h, _⟩ := h
  obtain ⟨h1, ps2, h2⟩ := tb_one gLin tLin h
  obtain ⟨h3, _⟩ := tb_one gJum tJum h2
  exact ⟨h1, h3⟩

end Go.Proofs.YtejlbjbmpdddkaaDoor
