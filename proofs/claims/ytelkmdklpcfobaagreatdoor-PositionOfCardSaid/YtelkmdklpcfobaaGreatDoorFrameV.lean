/- What the rows of package piece share: the table of kinds out of the row's condition. -/
import Derived.Test.YtelkmdklpcfobaaGreatDoorFrameU
import Derived.Test.YtelkmdklpcfobaaGreatDoorPcA
import Derived.Deep.Strs
import Derived.Lay
import Derived.Test.YtelkmdklpcfobaaGreatDoorRpF
import Derived.Test.YtelkmdklpcfobaaGreatDoorAuK
import Derived.Test.YtelkmdklpcfobaaGreatDoorPpF
import Derived.Stop.LaidErr
import Derived.Shelf.Strconv.ErrVarAll

namespace Go.Proofs.YtelkmdklpcfobaaGreatDoor
open Go.ChangeShapes Go.WideShapes Go.ChangeAt Go.RowKit

theorem gKin : Tryz.prog.globalNamed "caissa/piece.kinds" = some 1 := by kernel_rfl
theorem tKin : ∃ t, (Tryz.prog.globals[1]?).map (·.type) = some t ∧ ∃ e, Tryz.prog.underlying t = some (.array 15 e) ∧ Tryz.prog.cellsOf e = 3 ∧
    ∃ f0 f1 f2 : Field, Tryz.prog.underlying e = some (.struct #[f0, f1, f2]) ∧ (f0.offset = 0 ∧ f1.offset = 1 ∧ f2.offset = 2) ∧ (Tryz.prog.underlying f0.type = some (.int .u8) ∧ Tryz.prog.underlying f1.type = some (.int .i64) ∧ Tryz.prog.underlying f2.type = some .string) ∧
      (Tryz.prog.cellsOf f0.type = 1 ∧ Tryz.prog.cellsOf f1.type = 1 ∧ Tryz.prog.cellsOf f2.type = 1) :=
  ⟨177, by kernel_rfl, 176, Tryz.underlying177, by kernel_rfl, _, _, _, Tryz.underlying176,
    ⟨rfl, rfl, rfl⟩, ⟨Tryz.underlying5, Tryz.underlying3, Tryz.underlying9⟩, ⟨by kernel_rfl, by kernel_rfl, by kernel_rfl⟩⟩

def kindsD : DataW Unit := .agg ((List.range 15).map fun i => .agg [.lit (.int .u8 (ltr i)), .lit (.int .i64 (vlu i)), .lit (.string (knmL i))])
theorem laid_kinds : (Rows.laid_caissa_piece_kinds : DataW Unit) = kindsD := by kernel_rfl

theorem knm_of {s : ByteArray} {i : Nat} (h : s.data.toList = knmL i) : s = knm i := by
  obtain ⟨⟨l⟩⟩ := s
  unfold knm
  rw [← h]

theorem one_of {l : List Value} {a j : Nat} {v : Value} (hj : j < 3) (h : (((l.drop a).take 3).drop j).take 1 = [v]) : l[a + j]? = some v := by
  have := congrArg (fun q : List Value => q[0]?) h
  simpa [List.getElem?_take, List.getElem?_drop, hj] using this

/-- The row's condition gives the walks their table. -/
theorem kinds_of_laid {W : World} (h : laidMetH Tryz.prog [("caissa/piece.kinds", Rows.laid_caissa_piece_kinds)] W) : Kinds W := by
  rw [MakeChecks.laidMetH_plain _ _ _ (by kernel_rfl)] at h
  rw [laid_kinds] at h
  obtain ⟨ps, ⟨g', t', cs, fuel, p, q, hg', ht', hvar, hd, _, _⟩, _⟩ := h
  obtain ⟨t, ht, e, he, hce, f0, f1, f2, hs, ⟨o0, o1, o2⟩, ⟨y0, y1, y2⟩, ⟨c0, c1, c2⟩⟩ := tKin
  obtain rfl := Option.some.inj (gKin.symm.trans hg')
  obtain rfl := Option.some.inj (ht.symm.trans ht')
  obtain ⟨xs, m, _, hx, hl, hxl, hel⟩ := DataW.trod_array he hd
  have hxs : xs.map (·.1) = (List.range 15).map fun i => (.agg [.lit (.int .u8 (ltr i)), .lit (.int .i64 (vlu i)), .lit (.string (knmL i))] : DataW Unit) := by
    have := congrArg Prod.fst hx
    simp only [kindsD, DataW.agg.injEq] at this
    exact this.symm
  have hc : ∀ i, i < 15 → cs.toList[i * 3 + 0]? = some (.int .u8 (ltr i)) ∧ cs.toList[i * 3 + 1]? = some (.int .i64 (vlu i)) ∧ cs.toList[i * 3 + 2]? = some (.string (knm i)) := by
    intro i hi
    have h1 := hel i hi
    rw [hce] at h1
    obtain ⟨x, hxi⟩ : ∃ x, xs[i]? = some x := ⟨xs[i]'(by omega), List.getElem?_eq_getElem (by omega)⟩
    rw [hxi] at h1
    obtain ⟨z0, z1, z2, n, rfl, _, k0, k1, k2⟩ := Go.Deep.trod_struct3 hs h1
    rw [c0, o0] at k0
    rw [c1, o1] at k1
    rw [c2, o2] at k2
    obtain ⟨m0, hc0, rfl, _⟩ := DataW.trod_int y0 k0
    obtain ⟨m1, hc1, rfl, _⟩ := DataW.trod_int y1 k1
    obtain ⟨s2, hc2, rfl, _⟩ := DataW.trod_string y2 k2
    have h2 := congrArg (·[i]?) hxs
    simp [hxi, hi] at h2
    obtain ⟨e0, e1, e2⟩ := h2
    refine ⟨?_, ?_, ?_⟩
    · rw [one_of (by omega) hc0, e0]
    · rw [one_of (by omega) hc1, e1]
    · rw [one_of (by omega) hc2, knm_of e2]
  have hcell : ∀ i v, cs.toList[i]? = some v → W.cell? ⟨1, i, none⟩ = some v := by
    intro i v hv
    have := World.var?_cell gKin hvar i
    rw [this]
    simpa using hv
  refine ⟨?_, fun i hi => ⟨hcell _ _ (hc i hi).1, hcell _ _ (hc i hi).2.1, hcell _ _ (hc i hi).2.2⟩⟩
  exact World.block_lt_of_cell? W _ (hcell _ _ (hc 0 (by decide)).1)

/-- The door's own heap meets the condition. -/
theorem kinds_met (os : Os) (args : Array Value) : laidMetH Tryz.prog [("caissa/piece.kinds", Rows.laid_caissa_piece_kinds)] ((World.doorLaid Tryz.prog 400 os).forCall (fun _ _ => 0) ⟨#[], args, []⟩).memory :=
  laidMetH_of_parts3 (fuel := 8) (laidMet_of_run' 8 (by kernel_rfl) (by kernel_rfl)) (by kernel_rfl) (by kernel_rfl)

end Go.Proofs.YtelkmdklpcfobaaGreatDoor

/- What the rows of package board share: the table of kinds out of the row's condition, which lists two tables of utf8 too. -/
namespace Go.Proofs.YtelkmdklpcfobaaGreatDoor
open Go.ChangeShapes Go.WideShapes Go.ChangeAt Go.RowKit

/-- The row's condition gives the walks their table. -/
theorem kinds_of_laid3 {W : World} (h : laidMetH Tryz.prog [("caissa/piece.kinds", Rows.laid_caissa_piece_kinds), ("unicode/utf8.acceptRanges", Rows.laid_unicode_utf8_acceptRanges), ("unicode/utf8.first", Rows.laid_unicode_utf8_first)] W) : Kinds W := by
  rw [MakeChecks.laidMetH_plain _ _ _ (by kernel_rfl)] at h
  rw [laid_kinds] at h
  obtain ⟨ps, ⟨g', t', cs, fuel, p, q, hg', ht', hvar, hd, _, _⟩, _⟩ := h
  obtain ⟨t, ht, e, he, hce, f0, f1, f2, hs, ⟨o0, o1, o2⟩, ⟨y0, y1, y2⟩, ⟨c0, c1, c2⟩⟩ := tKin
  obtain rfl := Option.some.inj (gKin.symm.trans hg')
  obtain rfl := Option.some.inj (ht.symm.trans ht')
  obtain ⟨xs, m, _, hx, hl, hxl, hel⟩ := DataW.trod_array he hd
  have hxs : xs.map (·.1) = (List.range 15).map fun i => (.agg [.lit (.int .u8 (ltr i)), .lit (.int .i64 (vlu i)), .lit (.string (knmL i))] : DataW Unit) := by
    have := congrArg Prod.fst hx
    simp only [kindsD, DataW.agg.injEq] at this
    exact this.symm
  have hc : ∀ i, i < 15 → cs.toList[i * 3 + 0]? = some (.int .u8 (ltr i)) ∧ cs.toList[i * 3 + 1]? = some (.int .i64 (vlu i)) ∧ cs.toList[i * 3 + 2]? = some (.string (knm i)) := by
    intro i hi
    have h1 := hel i hi
    rw [hce] at h1
    obtain ⟨x, hxi⟩ : ∃ x, xs[i]? = some x := ⟨xs[i]'(by omega), List.getElem?_eq_getElem (by omega)⟩
    rw [hxi] at h1
    obtain ⟨z0, z1, z2, n, rfl, _, k0, k1, k2⟩ := Go.Deep.trod_struct3 hs h1
    rw [c0, o0] at k0
    rw [c1, o1] at k1
    rw [c2, o2] at k2
    obtain ⟨m0, hc0, rfl, _⟩ := DataW.trod_int y0 k0
    obtain ⟨m1, hc1, rfl, _⟩ := DataW.trod_int y1 k1
    obtain ⟨s2, hc2, rfl, _⟩ := DataW.trod_string y2 k2
    have h2 := congrArg (·[i]?) hxs
    simp [hxi, hi] at h2
    obtain ⟨e0, e1, e2⟩ := h2
    refine ⟨?_, ?_, ?_⟩
    · rw [one_of (by omega) hc0, e0]
    · rw [one_of (by omega) hc1, e1]
    · rw [one_of (by omega) hc2, knm_of e2]
  have hcell : ∀ i v, cs.toList[i]? = some v → W.cell? ⟨1, i, none⟩ = some v := by
    intro i v hv
    have := World.var?_cell gKin hvar i
    rw [this]
    simpa using hv
  refine ⟨?_, fun i hi => ⟨hcell _ _ (hc i hi).1, hcell _ _ (hc i hi).2.1, hcell _ _ (hc i hi).2.2⟩⟩
  exact World.block_lt_of_cell? W _ (hcell _ _ (hc 0 (by decide)).1)

def laid3 : List (String × DataW Unit) := [("caissa/piece.kinds", Rows.laid_caissa_piece_kinds), ("unicode/utf8.acceptRanges", Rows.laid_unicode_utf8_acceptRanges), ("unicode/utf8.first", Rows.laid_unicode_utf8_first)]
/-- A heap in which all three lie meets the condition. -/
theorem kinds_met3 (os : Os) (args : Array Value) : laidMetH Tryz.prog laid3 ((World.laidAll Tryz.prog os laid3).forCall (fun _ _ => 0) ⟨#[], args, []⟩).memory :=
  laidMetH_of_parts3 (fuel := 8) (laidMet_laidAll args (by kernel_rfl) (by kernel_rfl)) (by kernel_rfl) (by kernel_rfl)
theorem shaped3 (os : Os) : (World.laidAll Tryz.prog os laid3).Shaped Tryz.prog := World.shaped_of_ZipB (by kernel_rfl) (by kernel_rfl)

end Go.Proofs.YtelkmdklpcfobaaGreatDoor

/- What the rows of package ray share: the tables of directions out of the row's condition. -/
namespace Go.Proofs.YtelkmdklpcfobaaGreatDoor
open Go.ChangeShapes Go.WideShapes Go.ChangeAt Go.RowKit

theorem gLin : Tryz.prog.globalNamed "caissa/ray.lines" = some 7 := by kernel_rfl
theorem gJum : Tryz.prog.globalNamed "caissa/ray.jumps" = some 8 := by kernel_rfl
theorem tLin : (Tryz.prog.globals[7]?).map (·.type) = some 217 := by kernel_rfl
theorem tJum : (Tryz.prog.globals[8]?).map (·.type) = some 217 := by kernel_rfl
theorem tStp : ∃ e, Tryz.prog.underlying 217 = some (.array 8 e) ∧ Tryz.prog.cellsOf e = 2 ∧
    ∃ f0 f1 : Field, Tryz.prog.underlying e = some (.struct #[f0, f1]) ∧ (f0.offset = 0 ∧ f1.offset = 1) ∧ (Tryz.prog.underlying f0.type = some (.int .i64) ∧ Tryz.prog.underlying f1.type = some (.int .i64)) ∧ (Tryz.prog.cellsOf f0.type = 1 ∧ Tryz.prog.cellsOf f1.type = 1) :=
  ⟨215, Tryz.underlying217, by kernel_rfl, _, _, Tryz.underlying215, ⟨rfl, rfl⟩, ⟨Tryz.underlying3, Tryz.underlying3⟩, ⟨by kernel_rfl, by kernel_rfl⟩⟩

def stepsD (l : List Int) : DataW Unit := .agg ((List.range 8).map fun i => .agg [.lit (.int .i64 (l[i * 2]?.getD 0)), .lit (.int .i64 (l[i * 2 + 1]?.getD 0))])
theorem laid_lines : (Rows.laid_caissa_ray_lines : DataW Unit) = stepsD linesL := by kernel_rfl
theorem laid_jumps : (Rows.laid_caissa_ray_jumps : DataW Unit) = stepsD jumpsL := by kernel_rfl

def laid4 : List (String × DataW Unit) := [("caissa/ray.lines", Rows.laid_caissa_ray_lines), ("caissa/ray.jumps", Rows.laid_caissa_ray_jumps)]
/-- A heap in which both lie meets the condition. -/
theorem steps_met (os : Os) (args : Array Value) : laidMetH Tryz.prog laid4 ((World.doorLaid Tryz.prog 400 os).forCall (fun _ _ => 0) ⟨#[], args, []⟩).memory :=
  laidMetH_of_parts3 (fuel := 8) (laidMet_of_run' 8 (by kernel_rfl) (by kernel_rfl)) (by kernel_rfl) (by kernel_rfl)

theorem one_of2 {l : List Value} {a j : Nat} {v : Value} (hj : j < 2) (h : (((l.drop a).take 2).drop j).take 1 = [v]) : l[a + j]? = some v := by
  have := congrArg (fun q : List Value => q[0]?) h
  simpa [List.getElem?_take, List.getElem?_drop, hj] using this
theorem tb_one {W : World} {nm : String} {G : Nat} {l : List Int} {rest : List (String × DataW Unit)} {ps : List MemPlace} (hg : Tryz.prog.globalNamed nm = some G) (hty : (Tryz.prog.globals[G]?).map (·.type) = some 217)
    (h : DataW.LaidVars Tryz.prog W ((nm, stepsD l) :: rest) ps) : (∀ j, j < 16 → W.cell? ⟨G, j, none⟩ = some (.int .i64 (l[j]?.getD 0))) ∧ ∃ ps', DataW.LaidVars Tryz.prog W rest ps' := by
  obtain ⟨g', t', cs, fuel, p, q, hg', ht', hvar, hd, hr, _⟩ := h
  refine ⟨?_, _, hr⟩
  obtain ⟨e, he, hce, f0, f1, hs, ⟨o0, o1⟩, ⟨y0, y1⟩, ⟨c0, c1⟩⟩ := tStp
  obtain rfl := Option.some.inj (hg.symm.trans hg')
  obtain rfl := Option.some.inj (hty.symm.trans ht')
  obtain ⟨xs, m, _, hx, hl, hxl, hel⟩ := DataW.trod_array he hd
  have hxs : xs.map (·.1) = (List.range 8).map fun i => (.agg [.lit (.int .i64 (l[i * 2]?.getD 0)), .lit (.int .i64 (l[i * 2 + 1]?.getD 0))] : DataW Unit) := by
    have := congrArg Prod.fst hx
    simp only [stepsD, DataW.agg.injEq] at this
    exact this.symm
  have hc : ∀ i, i < 8 → cs.toList[i * 2 + 0]? = some (.int .i64 (l[i * 2]?.getD 0)) ∧ cs.toList[i * 2 + 1]? = some (.int .i64 (l[i * 2 + 1]?.getD 0)) := by
    intro i hi
    have h1 := hel i hi
    rw [hce] at h1
    obtain ⟨x, hxi⟩ : ∃ x, xs[i]? = some x := ⟨xs[i]'(by omega), List.getElem?_eq_getElem (by omega)⟩
    rw [hxi] at h1
    obtain ⟨z0, z1, n, rfl, _, k0, k1⟩ := trod_struct2 hs h1
    rw [c0, o0] at k0
    rw [c1, o1] at k1
    obtain ⟨m0, hc0, rfl, _⟩ := DataW.trod_int y0 k0
    obtain ⟨m1, hc1, rfl, _⟩ := DataW.trod_int y1 k1
    have h2 := congrArg (·[i]?) hxs
    simp [hxi, hi] at h2
    obtain ⟨e0, e1⟩ := h2
    exact ⟨by rw [one_of2 (by omega) hc0, e0], by rw [one_of2 (by omega) hc1, e1]⟩
  intro j hj
  have := World.var?_cell hg hvar j
  rw [this]
  have h3 := hc (j / 2) (by omega)
  rcases Nat.mod_two_eq_zero_or_one j with hm | hm
  · have : j / 2 * 2 = j := by omega
    have h4 := h3.1
    rw [Nat.add_zero, this] at h4
    simpa using h4
  · have : j / 2 * 2 + 1 = j := by omega
    have h4 := h3.2
    rw [this] at h4
    simpa using h4
/-- The row's condition gives the walks their tables. -/
theorem tb_of_laid {W : World} (h : laidMetH Tryz.prog laid4 W) : Tb W := by
  unfold laid4 at h
  rw [MakeChecks.laidMetH_plain _ _ _ (by kernel_rfl)] at h
  rw [laid_lines, laid_jumps] at h
  obtain ⟨ps, h, _⟩ := h
  obtain ⟨h1, ps2, h2⟩ := tb_one gLin tLin h
  obtain ⟨h3, _⟩ := tb_one gJum tJum h2
  exact ⟨h1, h3⟩

end Go.Proofs.YtelkmdklpcfobaaGreatDoor

/- What the rows of package attack share: the three tables out of the row's condition. -/
namespace Go.Proofs.YtelkmdklpcfobaaGreatDoor
open Go.ChangeShapes Go.WideShapes Go.ChangeAt Go.RowKit

def laid5 : List (String × DataW Unit) := [("math/bits.deBruijn64tab", Rows.laid_math_bits_deBruijn64tab), ("caissa/ray.lines", Rows.laid_caissa_ray_lines), ("caissa/ray.jumps", Rows.laid_caissa_ray_jumps)]
/-- A heap in which all three lie meets the condition. -/
theorem t5_met (os : Os) (args : Array Value) : laidMetH Tryz.prog laid5 ((World.doorLaid Tryz.prog 400 os).forCall (fun _ _ => 0) ⟨#[], args, []⟩).memory :=
  laidMetH_of_parts3 (fuel := 8) (laidMet_of_run' 8 (by kernel_rfl) (by kernel_rfl)) (by kernel_rfl) (by kernel_rfl)
/-- The row's condition gives the walks their tables. -/
theorem t5_of_laid {W : World} (h : laidMetH Tryz.prog laid5 W) : T5 W := by
  unfold laid5 at h
  rw [MakeChecks.laidMetH_plain _ _ _ (by kernel_rfl)] at h
  rw [laid_tab, laid_lines, laid_jumps] at h
  have h2 := Lib.tabIs_of_head gTab tTab Tryz.underlying194 Tryz.underlying5 (by kernel_rfl) (by kernel_rfl) h
  have hc : ∀ j, j < Lib.deBruijn64tab.length → W.cell? ⟨4, j, none⟩ = some (.int .u8 (Lib.deBruijn64tab.getD j 0)) := by
    intro j hj
    have := h2.cell gTab j (by simpa [tabZ] using hj)
    rw [this]
    congr 2
    simp [tabZ, List.getD, hj]
  obtain ⟨ps, ⟨g', t', cs, fuel, p, q, hg', ht', hvar, hd, hr, _⟩, _⟩ := h
  obtain ⟨h1, ps2, h2⟩ := tb_one gLin tLin hr
  obtain ⟨h3, _⟩ := tb_one gJum tJum h2
  exact ⟨⟨World.block_lt_of_cell? W _ (hc 0 (by decide)), hc⟩, h1, h3⟩

end Go.Proofs.YtelkmdklpcfobaaGreatDoor

/- What the rows of package position share: the walks' tables out of the row's condition. -/
namespace Go.Proofs.YtelkmdklpcfobaaGreatDoor
open Go.ChangeShapes Go.WideShapes Go.ChangeAt Go.RowKit

theorem kinds_of_head {W : World} {rest : List (String × DataW Unit)} (h : laidMet Tryz.prog (("caissa/piece.kinds", kindsD) :: rest) W) : Kinds W := by
  obtain ⟨ps, ⟨g', t', cs, fuel, p, q, hg', ht', hvar, hd, _, _⟩, _⟩ := h
  obtain ⟨t, ht, e, he, hce, f0, f1, f2, hs, ⟨o0, o1, o2⟩, ⟨y0, y1, y2⟩, ⟨c0, c1, c2⟩⟩ := tKin
  obtain rfl := Option.some.inj (gKin.symm.trans hg')
  obtain rfl := Option.some.inj (ht.symm.trans ht')
  obtain ⟨xs, m, _, hx, hl, hxl, hel⟩ := DataW.trod_array he hd
  have hxs : xs.map (·.1) = (List.range 15).map fun i => (.agg [.lit (.int .u8 (ltr i)), .lit (.int .i64 (vlu i)), .lit (.string (knmL i))] : DataW Unit) := by
    have := congrArg Prod.fst hx
    simp only [kindsD, DataW.agg.injEq] at this
    exact this.symm
  have hc : ∀ i, i < 15 → cs.toList[i * 3 + 0]? = some (.int .u8 (ltr i)) ∧ cs.toList[i * 3 + 1]? = some (.int .i64 (vlu i)) ∧ cs.toList[i * 3 + 2]? = some (.string (knm i)) := by
    intro i hi
    have h1 := hel i hi
    rw [hce] at h1
    obtain ⟨x, hxi⟩ : ∃ x, xs[i]? = some x := ⟨xs[i]'(by omega), List.getElem?_eq_getElem (by omega)⟩
    rw [hxi] at h1
    obtain ⟨z0, z1, z2, n, rfl, _, k0, k1, k2⟩ := Go.Deep.trod_struct3 hs h1
    rw [c0, o0] at k0
    rw [c1, o1] at k1
    rw [c2, o2] at k2
    obtain ⟨m0, hc0, rfl, _⟩ := DataW.trod_int y0 k0
    obtain ⟨m1, hc1, rfl, _⟩ := DataW.trod_int y1 k1
    obtain ⟨s2, hc2, rfl, _⟩ := DataW.trod_string y2 k2
    have h2 := congrArg (·[i]?) hxs
    simp [hxi, hi] at h2
    obtain ⟨e0, e1, e2⟩ := h2
    refine ⟨?_, ?_, ?_⟩
    · rw [one_of (by omega) hc0, e0]
    · rw [one_of (by omega) hc1, e1]
    · rw [one_of (by omega) hc2, knm_of e2]
  have hcell : ∀ i v, cs.toList[i]? = some v → W.cell? ⟨1, i, none⟩ = some v := by
    intro i v hv
    have := World.var?_cell gKin hvar i
    rw [this]
    simpa using hv
  refine ⟨?_, fun i hi => ⟨hcell _ _ (hc i hi).1, hcell _ _ (hc i hi).2.1, hcell _ _ (hc i hi).2.2⟩⟩
  exact World.block_lt_of_cell? W _ (hcell _ _ (hc 0 (by decide)).1)

theorem gRts : Tryz.prog.globalNamed "caissa/position.rights" = some 0 := by kernel_rfl
theorem tRts : (Tryz.prog.globals[0]?).map (·.type) = some 92 := by kernel_rfl
def rtD : DataW Unit := .agg ((List.range 4).map fun i => .agg [.lit (.int .u8 ([1, 2, 4, 8][i]?.getD 0)), .lit (.int .u8 ([75, 81, 107, 113][i]?.getD 0)), .lit (.int .i8 ([6, 6, -6, -6][i]?.getD 0)), .lit (.int .i8 ([4, 4, -4, -4][i]?.getD 0)), .lit (.int .i64 ([4, 4, 60, 60][i]?.getD 0)), .lit (.int .i64 ([7, 0, 63, 56][i]?.getD 0))])
theorem laid_rts : (Rows.laid_caissa_position_rights : DataW Unit) = rtD := by kernel_rfl
theorem tRtE : ∃ e, Tryz.prog.underlying 92 = some (.array 4 e) ∧ Tryz.prog.cellsOf e = 6 ∧
    ∃ f0 f1 f2 f3 f4 f5 : Field, Tryz.prog.underlying e = some (.struct #[f0, f1, f2, f3, f4, f5]) ∧ (f0.offset = 0 ∧ f1.offset = 1 ∧ f2.offset = 2 ∧ f3.offset = 3 ∧ f4.offset = 4 ∧ f5.offset = 5) ∧
    (Tryz.prog.underlying f0.type = some (.int .u8) ∧ Tryz.prog.underlying f1.type = some (.int .u8) ∧ Tryz.prog.underlying f2.type = some (.int .i8) ∧ Tryz.prog.underlying f3.type = some (.int .i8) ∧ Tryz.prog.underlying f4.type = some (.int .i64) ∧ Tryz.prog.underlying f5.type = some (.int .i64)) ∧
    (Tryz.prog.cellsOf f0.type = 1 ∧ Tryz.prog.cellsOf f1.type = 1 ∧ Tryz.prog.cellsOf f2.type = 1 ∧ Tryz.prog.cellsOf f3.type = 1 ∧ Tryz.prog.cellsOf f4.type = 1 ∧ Tryz.prog.cellsOf f5.type = 1) :=
  ⟨_, Tryz.underlying92, by kernel_rfl, _, _, _, _, _, _, Tryz.underlying91, ⟨rfl, rfl, rfl, rfl, rfl, rfl⟩, ⟨Tryz.underlying5, Tryz.underlying5, Tryz.underlying41, Tryz.underlying41, Tryz.underlying3, Tryz.underlying3⟩, ⟨by kernel_rfl, by kernel_rfl, by kernel_rfl, by kernel_rfl, by kernel_rfl, by kernel_rfl⟩⟩
theorem one_of6 {l : List Value} {a j : Nat} {v : Value} (hj : j < 6) (h : (((l.drop a).take 6).drop j).take 1 = [v]) : l[a + j]? = some v := by
  have := congrArg (fun q : List Value => q[0]?) h
  simpa [List.getElem?_take, List.getElem?_drop, hj] using this
theorem rts_of_head {W : World} {rest : List (String × DataW Unit)} (h : laidMet Tryz.prog (("caissa/position.rights", rtD) :: rest) W) : Rts W := by
  obtain ⟨ps, ⟨g', t', cs, fuel, p, q, hg', ht', hvar, hd, hr, _⟩, _⟩ := h
  obtain ⟨e, he, hce, f0, f1, f2, f3, f4, f5, hs, ⟨o0, o1, o2, o3, o4, o5⟩, ⟨y0, y1, y2, y3, y4, y5⟩, ⟨c0, c1, c2, c3, c4, c5⟩⟩ := tRtE
  obtain rfl := Option.some.inj (gRts.symm.trans hg')
  obtain rfl := Option.some.inj (tRts.symm.trans ht')
  obtain ⟨xs, m, _, hx, hl, hxl, hel⟩ := DataW.trod_array he hd
  have hxs : xs.map (·.1) = (List.range 4).map fun i => (.agg [.lit (.int .u8 ([1, 2, 4, 8][i]?.getD 0)), .lit (.int .u8 ([75, 81, 107, 113][i]?.getD 0)), .lit (.int .i8 ([6, 6, -6, -6][i]?.getD 0)), .lit (.int .i8 ([4, 4, -4, -4][i]?.getD 0)), .lit (.int .i64 ([4, 4, 60, 60][i]?.getD 0)), .lit (.int .i64 ([7, 0, 63, 56][i]?.getD 0))] : DataW Unit) := by
    have := congrArg Prod.fst hx
    simp only [rtD, DataW.agg.injEq] at this
    exact this.symm
  have hc : ∀ i, i < 4 → cs.toList[i * 6 + 0]? = some (.int .u8 ([1, 2, 4, 8][i]?.getD 0)) ∧ cs.toList[i * 6 + 1]? = some (.int .u8 ([75, 81, 107, 113][i]?.getD 0)) ∧ cs.toList[i * 6 + 2]? = some (.int .i8 ([6, 6, -6, -6][i]?.getD 0)) ∧
      cs.toList[i * 6 + 3]? = some (.int .i8 ([4, 4, -4, -4][i]?.getD 0)) ∧ cs.toList[i * 6 + 4]? = some (.int .i64 ([4, 4, 60, 60][i]?.getD 0)) ∧ cs.toList[i * 6 + 5]? = some (.int .i64 ([7, 0, 63, 56][i]?.getD 0)) := by
    intro i hi
    have h1 := hel i hi
    rw [hce] at h1
    obtain ⟨x, hxi⟩ : ∃ x, xs[i]? = some x := ⟨xs[i]'(by omega), List.getElem?_eq_getElem (by omega)⟩
    rw [hxi] at h1
    obtain ⟨z0, z1, z2, z3, z4, z5, n, hz, k0, k1, k2, k3, k4, k5⟩ := trod_struct6 hs h1
    rw [c0, o0] at k0
    rw [c1, o1] at k1
    rw [c2, o2] at k2
    rw [c3, o3] at k3
    rw [c4, o4] at k4
    rw [c5, o5] at k5
    obtain ⟨m0, hc0, rfl, _⟩ := DataW.trod_int y0 k0
    obtain ⟨m1, hc1, rfl, _⟩ := DataW.trod_int y1 k1
    obtain ⟨m2, hc2, rfl, _⟩ := DataW.trod_int y2 k2
    obtain ⟨m3, hc3, rfl, _⟩ := DataW.trod_int y3 k3
    obtain ⟨m4, hc4, rfl, _⟩ := DataW.trod_int y4 k4
    obtain ⟨m5, hc5, rfl, _⟩ := DataW.trod_int y5 k5
    have h2 := congrArg (·[i]?) hxs
    simp only [List.getElem?_map, hxi, Option.map_some, hz, List.getElem?_range hi] at h2
    simp only [Option.some.injEq, DataW.agg.injEq, List.cons.injEq, DataW.lit.injEq, Lit.int.injEq, true_and, and_true] at h2
    obtain ⟨e0, e1, e2, e3, e4, e5⟩ := h2
    exact ⟨by rw [one_of6 (by omega) hc0, e0], by rw [one_of6 (by omega) hc1, e1], by rw [one_of6 (by omega) hc2, e2], by rw [one_of6 (by omega) hc3, e3], by rw [one_of6 (by omega) hc4, e4], by rw [one_of6 (by omega) hc5, e5]⟩
  intro j hj
  have := World.var?_cell gRts hvar j
  rw [this]
  obtain ⟨i, k, hi, hk, rfl⟩ : ∃ i k, i < 4 ∧ k < 6 ∧ j = i * 6 + k := ⟨j / 6, j % 6, by omega, by omega, by omega⟩
  obtain ⟨p0, p1, p2, p3, p4, p5⟩ := hc i hi
  rw [← Array.getElem?_toList]
  match k, hk with
  | 0, _ => rw [p0]; match i, hi with | 0, _ => rfl | 1, _ => rfl | 2, _ => rfl | 3, _ => rfl
  | 1, _ => rw [p1]; match i, hi with | 0, _ => rfl | 1, _ => rfl | 2, _ => rfl | 3, _ => rfl
  | 2, _ => rw [p2]; match i, hi with | 0, _ => rfl | 1, _ => rfl | 2, _ => rfl | 3, _ => rfl
  | 3, _ => rw [p3]; match i, hi with | 0, _ => rfl | 1, _ => rfl | 2, _ => rfl | 3, _ => rfl
  | 4, _ => rw [p4]; match i, hi with | 0, _ => rfl | 1, _ => rfl | 2, _ => rfl | 3, _ => rfl
  | 5, _ => rw [p5]; match i, hi with | 0, _ => rfl | 1, _ => rfl | 2, _ => rfl | 3, _ => rfl

theorem gPow : Tryz.prog.globalNamed "internal/strconv.uint64pow10" = some 5 := by kernel_rfl
theorem tPow : (Tryz.prog.globals[5]?).map (·.type) = some 206 := by kernel_rfl
theorem laid_pow : (Rows.laid_internal_strconv_uint64pow10 : DataW Unit) = Lib.tabData .u64 Lib.pow10Tab := by kernel_rfl
def laid6 : List (String × DataW Unit) := [("caissa/piece.kinds", Rows.laid_caissa_piece_kinds), ("math/bits.deBruijn32tab", Rows.laid_math_bits_deBruijn32tab), ("math/bits.deBruijn64tab", Rows.laid_math_bits_deBruijn64tab), ("internal/strconv.uint64pow10", Rows.laid_internal_strconv_uint64pow10), ("unicode/utf8.acceptRanges", Rows.laid_unicode_utf8_acceptRanges), ("caissa/ray.lines", Rows.laid_caissa_ray_lines), ("caissa/ray.jumps", Rows.laid_caissa_ray_jumps), ("strconv.ErrRange", Rows.laid_strconv_ErrRange), ("strconv.ErrSyntax", Rows.laid_strconv_ErrSyntax), ("caissa/position.rights", Rows.laid_caissa_position_rights), ("unicode/utf8.first", Rows.laid_unicode_utf8_first)]
/-- A heap in which all lie meets the condition. -/
theorem t6_met (os : Os) (args : Array Value) : laidMetH Tryz.prog laid6 ((World.laidAll Tryz.prog os laid6).forCall (fun _ _ => 0) ⟨#[], args, []⟩).memory :=
  laidMetH_of_parts3 (fuel := 8) (laidMet_laidAll args (by kernel_rfl) (by kernel_rfl)) (by kernel_rfl) (by kernel_rfl)
theorem shaped6 (os : Os) : (World.laidAll Tryz.prog os laid6).Shaped Tryz.prog := World.shaped_of_ZipB (by kernel_rfl) (by kernel_rfl)
theorem tab_of_head {W : World} {rest : List (String × DataW Unit)} (h : laidMet Tryz.prog (("math/bits.deBruijn64tab", Lib.tabData .u8 tabZ) :: rest) W) : Tab W := by
  have h2 := Lib.tabIs_of_head gTab tTab Tryz.underlying194 Tryz.underlying5 (by kernel_rfl) (by kernel_rfl) h
  have hc : ∀ j, j < Lib.deBruijn64tab.length → W.cell? ⟨4, j, none⟩ = some (.int .u8 (Lib.deBruijn64tab.getD j 0)) := by
    intro j hj
    have := h2.cell gTab j (by simpa [tabZ] using hj)
    rw [this]
    congr 2
    simp [tabZ, List.getD, hj]
  exact ⟨World.block_lt_of_cell? W _ (hc 0 (by decide)), hc⟩
theorem gErR : Tryz.prog.globalNamed "strconv.ErrRange" = some 3 := by kernel_rfl
theorem gErS : Tryz.prog.globalNamed "strconv.ErrSyntax" = some 2 := by kernel_rfl
theorem tErR : (Tryz.prog.globals[3]?).map (·.type) = some 75 := by kernel_rfl
theorem tErS : (Tryz.prog.globals[2]?).map (·.type) = some 75 := by kernel_rfl
theorem sent_of_head {W : World} {n : String} {g : Nat} {text : List UInt8} {r : List (String × DataW Unit)} (hg : Tryz.prog.globalNamed n = some g) (ht : (Tryz.prog.globals[g]?).map (·.type) = some 75)
    (h : laidMet Tryz.prog ((n, .iface "*errors.errorString" (.ptr (.agg [.lit (.string text)]))) :: r) W) : ∃ tp p, W.var? Tryz.prog n = some #[.iface tp p] := by
  obtain ⟨ps, ⟨g', t', cs, fuel, p, q, hg', ht', hvar, hd, hr, _⟩, _⟩ := h
  obtain rfl := Option.some.inj (hg.symm.trans hg')
  obtain rfl := Option.some.inj (ht.symm.trans ht')
  obtain ⟨L⟩ := cs
  rcases trod_if Tryz.underlying75 hd with ⟨_, hx⟩ | ⟨u, v, hx⟩
  · simp at hx
  · simp at hx
    subst hx
    exact ⟨u, v, hvar⟩
/-- The row's condition gives the walks their tables. -/
theorem t6_of_laid {W : World} (h : laidMetH Tryz.prog laid6 W) : T6 W := by
  unfold laid6 at h
  rw [MakeChecks.laidMetH_plain _ _ _ (by kernel_rfl)] at h
  rw [laid_kinds, laid_tab, laid_pow, laid_lines, laid_jumps, laid_rts] at h
  have hk := kinds_of_head h
  replace h := h.tail.tail
  have ht := tab_of_head h
  replace h := h.tail
  have hp := Lib.tabIs_of_head gPow tPow Tryz.underlying206 Tryz.underlying86 (by kernel_rfl) (by kernel_rfl) h
  replace h := h.tail.tail
  have hl : (∀ j, j < 16 → W.cell? ⟨7, j, none⟩ = some (.int .i64 (linesL[j]?.getD 0))) := by
    obtain ⟨ps, h, _⟩ := h
    exact (tb_one gLin tLin h).1
  replace h := h.tail
  have hj : (∀ j, j < 16 → W.cell? ⟨8, j, none⟩ = some (.int .i64 (jumpsL[j]?.getD 0))) := by
    obtain ⟨ps, h, _⟩ := h
    exact (tb_one gJum tJum h).1
  replace h := h.tail
  have hr := sent_of_head (r := _) gErR tErR h
  replace h := h.tail
  have hs := sent_of_head (r := _) gErS tErS h
  replace h := h.tail
  exact ⟨⟨ht, hl, hj⟩, hk, rts_of_head h, hp, hs, hr⟩

end Go.Proofs.YtelkmdklpcfobaaGreatDoor
