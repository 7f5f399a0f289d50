/- What the rows of package move share: sizes, moves and rows of moves that come in. -/
import Derived.Test.YtpcfgeggjfbfjaaDoorFrameL
import Derived.Test.YtpcfgeggjfbfjaaDoorMvC
import Derived.Deep.Strs
namespace Go.Proofs.YtpcfgeggjfbfjaaDoor
open Go.ChangeShapes Go.WideShapes Go.ChangeAt Go.RowKit

section
variable {H : Type} {enc : TypeId × Value → H} {P : Program}

/-- A size that came in. -/
theorem open_size {r : Reach} {b0 : Nat} {t : TypeId} {g0 g1 : Field} {w : World} {v : Value} {d : DataW H} {ps : List MemPlace} (hz : P.underlying t = some (.struct #[g0, g1])) (hC : P.cellsOf t = 2) (hzo : g0.offset = 0) (hzc : P.cellsOf g0.type = 1) (hzo1 : g1.offset = 1) (hzc1 : P.cellsOf g1.type = 1)
    (hi0 : P.underlying g0.type = some (.int .i64)) (hi1 : P.underlying g1.type = some (.int .i64)) (hv : Value.okWide P w r b0 t v) (h : DataW.Trod enc P w 0 (fun _ => true) true t v d ps) : ∃ F R : Int, v = .agg #[.int .i64 F, .int .i64 R] := by
  obtain ⟨cs, rfl, hsz⟩ := okWide_struct hz hv
  obtain ⟨l⟩ := cs
  match l, hsz.trans hC with
  | [c0, c1], _ =>
    obtain ⟨fuel, hf⟩ := h
    obtain ⟨z0, z1, n2, hx2, _, k0, k1⟩ := trod_struct2 hz hf
    simp only [Value.cells, hzo, hzc, hzo1, hzc1, List.drop_zero, List.drop_succ_cons, List.take_succ_cons, List.take_zero] at k0 k1
    obtain ⟨F, e0, _, wF⟩ := DataW.trod_int hi0 k0
    obtain ⟨R, e1, _, wR⟩ := DataW.trod_int hi1 k1
    simp at e0 e1
    subst e0 e1
    exact ⟨F, R, rfl⟩

/-- The cells of a move. -/
theorem open_mv_cells {t : TypeId} {f0 f1 f2 : Field} {w : World} {fuel : Nat} {cs : List Value} {x : DataW H × List MemPlace} (hs : P.underlying t = some (.struct #[f0, f1, f2])) (hC : P.cellsOf t = 3) (o0 : f0.offset = 0) (c0 : P.cellsOf f0.type = 1) (o1 : f1.offset = 1) (c1 : P.cellsOf f1.type = 1) (o2 : f2.offset = 2) (c2 : P.cellsOf f2.type = 1)
    (i0 : P.underlying f0.type = some (.int .i64)) (i1 : P.underlying f1.type = some (.int .i64)) (i2 : P.underlying f2.type = some (.int .i8)) (h : DataW.trod enc P w 0 (fun _ => true) true fuel t cs = some x) :
    ∃ m : Mv, cs = m.cells ∧ -128 ≤ m.p ∧ m.p ≤ 127 := by
  obtain ⟨y0, y1, y2, n, _, hl, k0, k1, k2⟩ := Go.Deep.trod_struct3 hs h
  match cs, hl.trans hC with
  | [a, b, c], _ =>
    simp only [o0, c0, o1, c1, o2, c2, List.drop_zero, List.drop_succ_cons, List.take_succ_cons, List.take_zero] at k0 k1 k2
    obtain ⟨x, e0, _, _⟩ := DataW.trod_int i0 k0
    obtain ⟨y, e1, _, _⟩ := DataW.trod_int i1 k1
    obtain ⟨p, e2, _, wp⟩ := DataW.trod_int i2 k2
    simp at e0 e1 e2
    subst e0 e1 e2
    obtain ⟨q0, q1⟩ := bounds_i8 wp
    exact ⟨⟨x, y, p⟩, rfl, q0, q1⟩

/-- A move that came in. -/
theorem open_mv {r : Reach} {b0 : Nat} {t : TypeId} {f0 f1 f2 : Field} {w : World} {v : Value} {d : DataW H} {ps : List MemPlace} (hs : P.underlying t = some (.struct #[f0, f1, f2])) (hC : P.cellsOf t = 3) (o0 : f0.offset = 0) (c0 : P.cellsOf f0.type = 1) (o1 : f1.offset = 1) (c1 : P.cellsOf f1.type = 1) (o2 : f2.offset = 2) (c2 : P.cellsOf f2.type = 1)
    (i0 : P.underlying f0.type = some (.int .i64)) (i1 : P.underlying f1.type = some (.int .i64)) (i2 : P.underlying f2.type = some (.int .i8)) (hv : Value.okWide P w r b0 t v) (h : DataW.Trod enc P w 0 (fun _ => true) true t v d ps) :
    ∃ x y p : Int, v = .agg #[.int .i64 x, .int .i64 y, .int .i8 p] ∧ -128 ≤ p ∧ p ≤ 127 := by
  obtain ⟨cs, rfl, hsz⟩ := okWide_struct hs hv
  obtain ⟨fuel, hf⟩ := h
  obtain ⟨m, hm, h0, h1⟩ := open_mv_cells hs hC o0 c0 o1 c1 o2 c2 i0 i1 i2 hf
  refine ⟨m.a, m.b, m.p, ?_, h0, h1⟩
  obtain ⟨l⟩ := cs
  simp only [Value.cells] at hm
  rw [hm]
  rfl

theorem list_of {P : Nat → Mv → Prop} : ∀ n : Nat, (∀ i, i < n → ∃ m, P i m) → ∃ l : List Mv, l.length = n ∧ ∀ i m, l[i]? = some m → P i m
  | 0, _ => ⟨[], rfl, fun i m h => by simp at h⟩
  | n + 1, h => by
    obtain ⟨l, hl, hp⟩ := list_of n (fun i hi => h i (by omega))
    obtain ⟨m, hm⟩ := h n (by omega)
    refine ⟨l ++ [m], by simp [hl], fun i x hx => ?_⟩
    rcases Nat.lt_or_ge i n with hi | hi
    · rw [List.getElem?_append_left (by omega)] at hx
      exact hp i x hx
    · have hlt := (List.getElem?_eq_some_iff.1 hx).1
      simp [hl] at hlt
      have : i = n := by omega
      subst this
      rw [List.getElem?_append_right (by omega), hl] at hx
      simp at hx
      rw [← hx]
      exact hm
theorem vmvs_is {l : List Mv} {j : Nat} {u : Value} (h : (vmvs l)[j]? = some u) : ∃ m, l[j / 3]? = some m ∧ m.cells[j % 3]? = some u := by
  have hj := (List.getElem?_eq_some_iff.1 h).1
  rw [vmvs_len] at hj
  have hk : j / 3 < l.length := by omega
  obtain ⟨m, hm⟩ : ∃ m, l[j / 3]? = some m := ⟨_, List.getElem?_eq_getElem hk⟩
  obtain ⟨h0, h1, h2⟩ := vmvs_get hm
  refine ⟨m, hm, ?_⟩
  have e : j = j / 3 * 3 + j % 3 := by omega
  have h3 : j % 3 = 0 ∨ j % 3 = 1 ∨ j % 3 = 2 := by omega
  rw [e] at h
  rcases h3 with h3 | h3 | h3
  · rw [h3] at h ⊢; rw [Nat.add_zero, h0] at h; rw [← h]; rfl
  · rw [h3] at h ⊢; rw [h1] at h; rw [← h]; rfl
  · rw [h3] at h ⊢; rw [h2] at h; rw [← h]; rfl

/-- A slice of moves that came in. -/
theorem open_moves {r : Reach} {b0 : Nat} {t e : TypeId} {f0 f1 f2 : Field} {w : World} {v : Value} {d : DataW H} {ps : List MemPlace} (ht : P.underlying t = some (.slice e)) (hs : P.underlying e = some (.struct #[f0, f1, f2])) (hC : P.cellsOf e = 3) (o0 : f0.offset = 0) (c0 : P.cellsOf f0.type = 1) (o1 : f1.offset = 1) (c1 : P.cellsOf f1.type = 1) (o2 : f2.offset = 2) (c2 : P.cellsOf f2.type = 1)
    (i0 : P.underlying f0.type = some (.int .i64)) (i1 : P.underlying f1.type = some (.int .i64)) (i2 : P.underlying f2.type = some (.int .i8)) (hv : Value.okWide P w r b0 t v) (h : DataW.Trod enc P w 0 (fun _ => true) true t v d ps) :
    ∃ (A : Option Addr) (l : List Mv) (c : Nat), v = .slice A l.length c ∧ RdM w w.heap.size A l := by
  obtain ⟨a, len, cap, rfl⟩ := okWide_slice ht hv
  obtain ⟨fuel, hf⟩ := h
  rcases DataW.trod_slice ht hf with ⟨hcs, hx⟩ | ⟨a', len', cap', elems, rest, n, _, hcs, _, _, hle, _, hel, hcell, _, _⟩
  · simp [Value.cells] at hcs
    obtain ⟨rfl, rfl, rfl⟩ := hcs
    exact ⟨none, [], 0, rfl, rdM_nil _ _ _⟩
  · simp [Value.cells] at hcs
    obtain ⟨rfl, rfl, rfl⟩ := hcs
    have each : ∀ i, i < len → ∃ m : Mv, ∀ q u, m.cells[q]? = some u → w.cell? (a'.add (i * 3 + q)) = some u := by
      intro i hi
      have h1 := hcell i hi
      rw [hC] at h1
      obtain ⟨y, hy⟩ : ∃ y, elems[i]? = some y := ⟨_, List.getElem?_eq_getElem (by omega)⟩
      rw [hy, Option.bind_eq_some_iff] at h1
      obtain ⟨cs, hcs, hd⟩ := h1
      obtain ⟨m, rfl, _, _⟩ := open_mv_cells hs hC o0 c0 o1 c1 o2 c2 i0 i1 i2 hd
      refine ⟨m, fun q u hu => ?_⟩
      have hq : q < 3 := (List.getElem?_eq_some_iff.1 hu).1
      have := (World.cells?_some hcs).2.2 q hq
      rw [Addr.add_add, hu] at this
      exact this
    obtain ⟨l, hl, hp⟩ := list_of len each
    refine ⟨some a', l, cap, by rw [hl], fun h0 => ⟨a', rfl, ?_, fun j u hu => ?_⟩⟩
    · obtain ⟨m, hm⟩ : ∃ m, l[0]? = some m := ⟨_, List.getElem?_eq_getElem h0⟩
      have := World.block_lt_of_cell? w _ (hp 0 m hm 0 (.int .i64 m.a) rfl)
      rwa [blk_add] at this
    · obtain ⟨m, hm, hc⟩ := vmvs_is hu
      have := hp (j / 3) m hm (j % 3) u hc
      rwa [show j / 3 * 3 + j % 3 = j by omega] at this
end

end Go.Proofs.YtpcfgeggjfbfjaaDoor
