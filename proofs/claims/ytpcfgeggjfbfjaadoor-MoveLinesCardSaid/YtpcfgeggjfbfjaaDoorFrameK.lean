/- What the rows of package piece share: the table of kinds out of the row's condition. -/
import Derived.Test.YtpcfgeggjfbfjaaDoorFrame
import Derived.Test.YtpcfgeggjfbfjaaDoorPcA
import Derived.Deep.Strs
namespace Go.Proofs.YtpcfgeggjfbfjaaDoor
open Go.ChangeShapes Go.WideShapes Go.ChangeAt Go.RowKit

theorem gKin : Tryd.prog.globalNamed "caissa/piece.kinds" = some 0 := by kernel_rfl
theorem tKin : ∃ t, (Tryd.prog.globals[0]?).map (·.type) = some t ∧ ∃ e, Tryd.prog.underlying t = some (.array 15 e) ∧ Tryd.prog.cellsOf e = 3 ∧
    ∃ f0 f1 f2 : Field, Tryd.prog.underlying e = some (.struct #[f0, f1, f2]) ∧ (f0.offset = 0 ∧ f1.offset = 1 ∧ f2.offset = 2) ∧ (Tryd.prog.underlying f0.type = some (.int .u8) ∧ Tryd.prog.underlying f1.type = some (.int .i64) ∧ Tryd.prog.underlying f2.type = some .string) ∧
      (Tryd.prog.cellsOf f0.type = 1 ∧ Tryd.prog.cellsOf f1.type = 1 ∧ Tryd.prog.cellsOf f2.type = 1) :=
  ⟨91, by kernel_rfl, 90, Tryd.underlying91, by kernel_rfl, _, _, _, Tryd.underlying90,
    ⟨rfl, rfl, rfl⟩, ⟨Tryd.underlying5, Tryd.underlying3, Tryd.underlying9⟩, ⟨by kernel_rfl, by kernel_rfl, by kernel_rfl⟩⟩

def kindsD : DataW Unit := .agg ((List.range 15).map fun i => .agg [.lit (.int .u8 (ltr i)), .lit (.int .i64 (vlu i)), .lit (.string (knmL i))])
theorem laid_kinds : (Rows.laid_caissa_piece_kinds : DataW Unit) = kindsD := by kernel_rfl

theorem knm_of {s : ByteArray} {i : Nat} (h : s.data.toList = knmL i) : s = knm i := by
  obtain ⟨⟨l⟩⟩ := s
  unfold knm
  rw [← h]

theorem one_of {l : List Value} {a j : Nat} {v : Value} (hj : j < 3) (h : (((l.drop a).take 3).drop j).take 1 = [v]) : l[a + j]? = some v := by
  have := congrArg (fun q : List Value => q[0]?) h
  simpa [List.getElem?_take, List.getElem?_drop, hj] using this

/-- The row's condition gives the walks their table. -/
theorem kinds_of_laid {W : World} (h : laidMetH Tryd.prog [("caissa/piece.kinds", Rows.laid_caissa_piece_kinds)] W) : Kinds W := by
  rw [MakeChecks.laidMetH_plain _ _ _ (by kernel_rfl)] at h
  rw [laid_kinds] at h
  obtain ⟨ps, ⟨g', t', cs, fuel, p, q, hg', ht', hvar, hd, _, _⟩, _⟩ := h
  obtain ⟨t, ht, e, he, hce, f0, f1, f2, hs, ⟨o0, o1, o2⟩, ⟨y0, y1, y2⟩, ⟨c0, c1, c2⟩⟩ := tKin
  obtain rfl := Option.some.inj (gKin.symm.trans hg')
  obtain rfl := Option.some.inj (ht.symm.trans ht')
  obtain ⟨xs, m, _, hx, hl, hxl, hel⟩ := DataW.trod_array he hd
  have hxs : xs.map (·.1) = (List.range 15).map fun i => (.agg [.lit (.int .u8 (ltr i)), .lit (.int .i64 (vlu i)), .lit (.string (knmL i))] : DataW Unit) := by
    have := congrArg Prod.fst hx
    simp only [kindsD, DataW.agg.injEq] at this
    exact this.symm
  have hc : ∀ i, i < 15 → cs.toList[i * 3 + 0]? = some (.int .u8 (ltr i)) ∧ cs.toList[i * 3 + 1]? = some (.int .i64 (vlu i)) ∧ cs.toList[i * 3 + 2]? = some (.string (knm i)) := by
    intro i hi
    have h1 := hel i hi
    rw [hce] at h1
    obtain ⟨x, hxi⟩ : ∃ x, xs[i]? = some x := ⟨xs[i]'(by omega), List.getElem?_eq_getElem (by omega)⟩
    rw [hxi] at h1
    obtain ⟨z0, z1, z2, n, rfl, _, k0, k1, k2⟩ := Go.Deep.trod_struct3 hs h1
    rw [c0, o0] at k0
    rw [c1, o1] at k1
    rw [c2, o2] at k2
    obtain ⟨m0, hc0, rfl, _⟩ := DataW.trod_int y0 k0
    obtain ⟨m1, hc1, rfl, _⟩ := DataW.trod_int y1 k1
    obtain ⟨s2, hc2, rfl, _⟩ := DataW.trod_string y2 k2
    have h2 := congrArg (·[i]?) hxs
    simp [hxi, hi] at h2
    obtain ⟨e0, e1, e2⟩ := h2
    refine ⟨?_, ?_, ?_⟩
    · rw [one_of (by omega) hc0, e0]
    · rw [one_of (by omega) hc1, e1]
    · rw [one_of (by omega) hc2, knm_of e2]
  have hcell : ∀ i v, cs.toList[i]? = some v → W.cell? ⟨0, i, none⟩ = some v := by
    intro i v hv
    have := World.var?_cell gKin hvar i
    rw [this]
    simpa using hv
  refine ⟨?_, fun i hi => ⟨hcell _ _ (hc i hi).1, hcell _ _ (hc i hi).2.1, hcell _ _ (hc i hi).2.2⟩⟩
  exact World.block_lt_of_cell? W _ (hcell _ _ (hc 0 (by decide)).1)

/-- The door's own heap meets the condition. -/
theorem kinds_met (os : Os) (args : Array Value) : laidMetH Tryd.prog [("caissa/piece.kinds", Rows.laid_caissa_piece_kinds)] ((World.doorLaid Tryd.prog 400 os).forCall (fun _ _ => 0) ⟨#[], args, []⟩).memory :=
  laidMetH_of_parts3 (fuel := 8) (laidMet_of_run' 8 (by kernel_rfl) (by kernel_rfl)) (by kernel_rfl) (by kernel_rfl)

end Go.Proofs.YtpcfgeggjfbfjaaDoor
