/- What the rows of package board share: the table of kinds out of the row's condition, which lists two tables of utf8 too. -/
import Derived.Test.YtpcfgeggjfbfjaaDoorFrameK
import Derived.Test.YtpcfgeggjfbfjaaDoorFrameB
import Derived.Lay
namespace Go.Proofs.YtpcfgeggjfbfjaaDoor
open Go.ChangeShapes Go.WideShapes Go.ChangeAt Go.RowKit

/-- The row's condition gives the walks their table. -/
theorem kinds_of_laid3 {W : World} (h : laidMetH Tryd.prog [("caissa/piece.kinds", Rows.laid_caissa_piece_kinds), ("unicode/utf8.acceptRanges", Rows.laid_unicode_utf8_acceptRanges), ("unicode/utf8.first", Rows.laid_unicode_utf8_first)] W) : Kinds W := by
  rw [MakeChecks.laidMetH_plain _ _ _ (by kernel_rfl)] at h
  rw [laid_kinds] at h
  obtain ⟨ps, ⟨g', t', cs, fuel, p, q, hg', ht', hvar, hd, _, _⟩, _⟩ := h
  obtain ⟨t, ht, e, he, hce, f0, f1, f2, hs, ⟨o0, o1, o2⟩, ⟨y0, y1, y2⟩, ⟨c0, c1, c2⟩⟩ := tKin
  obtain rfl := Option.some.inj (gKin.symm.trans hg')
  obtain rfl := Option.some.inj (ht.symm.trans ht')
  obtain ⟨xs, m, _, hx, hl, hxl, hel⟩ := DataW.trod_array he hd
  have hxs : xs.map (·.1) = (List.range 15).map fun i => (.agg [.lit (.int .u8 (ltr i)), .lit (.int .i64 (vlu i)), .lit (.string (knmL i))] : DataW Unit) := by
    have := congrArg Prod.fst hx
    simp only [kindsD, DataW.agg.injEq] at this
    exact this.symm
  have hc : ∀ i, i < 15 → cs.toList[i * 3 + 0]? = some (.int .u8 (ltr i)) ∧ cs.toList[i * 3 + 1]? = some (.int .i64 (vlu i)) ∧ cs.toList[i * 3 + 2]? = some (.string (knm i)) := by
    intro i hi
    have h1 := hel i hi
    rw [hce] at h1
    obtain ⟨x, hxi⟩ : ∃ x, xs[i]? = some x := ⟨xs[i]'(by omega), List.getElem?_eq_getElem (by omega)⟩
    rw [hxi] at h1
    obtain ⟨z0, z1, z2, n, rfl, _, k0, k1, k2⟩ := Go.Deep.trod_struct3 hs h1
    rw [c0, o0] at k0
    rw [c1, o1] at k1
    rw [c2, o2] at k2
    obtain ⟨m0, hc0, rfl, _⟩ := DataW.trod_int y0 k0
    obtain ⟨m1, hc1, rfl, _⟩ := DataW.trod_int y1 k1
    obtain ⟨s2, hc2, rfl, _⟩ := DataW.trod_string y2 k2
    have h2 := congrArg (·[i]?) hxs
    simp [hxi, hi] at h2
    obtain ⟨e0, e1, e2⟩ := h2
    refine ⟨?_, ?_, ?_⟩
    · rw [one_of (by omega) hc0, e0]
    · rw [one_of (by omega) hc1, e1]
    · rw [one_of (by omega) hc2, knm_of e2]
  have hcell : ∀ i v, cs.toList[i]? = some v → W.cell? ⟨0, i, none⟩ = some v := by
    intro i v hv
    have := World.var?_cell gKin hvar i
    rw [this]
    simpa using hv
  refine ⟨?_, fun i hi => ⟨hcell _ _ (hc i hi).1, hcell _ _ (hc i hi).2.1, hcell _ _ (hc i hi).2.2⟩⟩
  exact World.block_lt_of_cell? W _ (hcell _ _ (hc 0 (by decide)).1)

def laid3 : List (String × DataW Unit) := [("caissa/piece.kinds", Rows.laid_caissa_piece_kinds), ("unicode/utf8.acceptRanges", Rows.laid_unicode_utf8_acceptRanges), ("unicode/utf8.first", Rows.laid_unicode_utf8_first)]
/-- A heap in which all three lie meets the condition. -/
theorem kinds_met3 (os : Os) (args : Array Value) : laidMetH Tryd.prog laid3 ((World.laidAll Tryd.prog os laid3).forCall (fun _ _ => 0) ⟨#[], args, []⟩).memory :=
  laidMetH_of_parts3 (fuel := 8) (laidMet_laidAll args (by kernel_rfl) (by kernel_rfl)) (by kernel_rfl) (by kernel_rfl)
theorem shaped3 (os : Os) : (World.laidAll Tryd.prog os laid3).Shaped Tryd.prog := World.shaped_of_ZipB (by kernel_rfl) (by kernel_rfl)

end Go.Proofs.YtpcfgeggjfbfjaaDoor
