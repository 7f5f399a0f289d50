/- What the rows share whose arguments are boards: a struct of a size and a row of pieces that came in. -/
import Derived.Test.YtpcfgeggjfbfjaaDoorFrameS
import Derived.Test.YtpcfgeggjfbfjaaDoorBdC
namespace Go.Proofs.YtpcfgeggjfbfjaaDoor
open Go.ChangeShapes Go.WideShapes Go.ChangeAt Go.RowKit

section
variable {H : Type} {enc : TypeId × Value → H} {P : Program}

/-- A slice of pieces that came in, as the walks want it. -/
theorem open_pieces_at {t e : TypeId} {w : World} {fuel : Nat} {cs : List Value} {x : DataW H × List MemPlace} (ht : P.underlying t = some (.slice e)) (he : P.underlying e = some (.int .i8)) (hc : P.cellsOf e = 1)
    (h : DataW.trod enc P w 0 (fun _ => true) true fuel t cs = some x) :
    ∃ (A : Option Addr) (l : List Int) (c : Nat), cs = [.slice A l.length c] ∧ RdP w w.heap.size A l c ∧ l.length ≤ c ∧ ∀ n ∈ l, -128 ≤ n ∧ n ≤ 127 := by
  rcases open_ints ht he hc h with ⟨hcs, hx⟩ | ⟨a', len', cap', zs, hcs, _, hle, _, hz, hx, hcell, hwf⟩
  · exact ⟨none, [], 0, hcs, ⟨fun _ => ⟨rfl, rfl⟩, fun h => absurd h (by simp)⟩, by simp, fun n hn => by simp at hn⟩
  · simp at hz
    have hl : (zs.take len').length = len' := by rw [List.length_take]; omega
    refine ⟨some a', zs.take len', cap', by rw [hl]; exact hcs, ⟨(fun h => by cases h), fun h0 => ⟨a', rfl, ?_, ?_⟩⟩, ?_, ?_⟩
    · have := World.block_lt_of_cell? _ _ (hcell 0 (by omega))
      rwa [blk_add] at this
    · intro j u hu
      have hj : j < len' := by
        have := (List.getElem?_eq_some_iff.1 hu).1
        omega
      rw [List.getElem?_take, if_pos hj] at hu
      rw [hcell j (by omega)]
      simp [List.getD, hu]
    · rw [hl]; omega
    · intro n hn
      exact bounds_i8 (hwf n (List.mem_of_mem_take hn))

/-- A board that came in, as the walks want it. -/
theorem open_board {r : Reach} {b0 : Nat} {t e : TypeId} {f0 f1 g0 g1 : Field} {w : World} {v : Value} {d : DataW H} {ps : List MemPlace} (hs : P.underlying t = some (.struct #[f0, f1])) (hC : P.cellsOf t = 3) (ho0 : f0.offset = 0) (hc0 : P.cellsOf f0.type = 2) (ho1 : f1.offset = 2) (hc1 : P.cellsOf f1.type = 1)
    (hz : P.underlying f0.type = some (.struct #[g0, g1])) (hzo : g0.offset = 0) (hzc : P.cellsOf g0.type = 1) (hzo1 : g1.offset = 1) (hzc1 : P.cellsOf g1.type = 1) (hi0 : P.underlying g0.type = some (.int .i64)) (hi1 : P.underlying g1.type = some (.int .i64))
    (hsl : P.underlying f1.type = some (.slice e)) (he : P.underlying e = some (.int .i8)) (hce : P.cellsOf e = 1) (hv : Value.okWide P w r b0 t v) (h : DataW.Trod enc P w 0 (fun _ => true) true t v d ps) :
    ∃ (F R : Int) (A : Option Addr) (l : List Int) (c : Nat), v = .agg #[.int .i64 F, .int .i64 R, .slice A l.length c] ∧ (Lit.int .i64 F).wf = true ∧ (Lit.int .i64 R).wf = true ∧ RdP w w.heap.size A l c ∧ l.length ≤ c ∧ ∀ n ∈ l, -128 ≤ n ∧ n ≤ 127 := by
  obtain ⟨cs, rfl, hsz⟩ := okWide_struct hs hv
  obtain ⟨c0, c1, c2, rfl⟩ := Joins.array3 (hsz.trans hC)
  obtain ⟨fuel, hf⟩ := h
  obtain ⟨y0, y1, n, hx, _, h0, h1⟩ := trod_struct2 hs hf
  simp only [Value.cells, ho0, hc0, ho1, hc1, List.drop_zero, List.drop_succ_cons, List.take_succ_cons, List.take_zero] at h0 h1
  obtain ⟨z0, z1, n2, hx2, _, k0, k1⟩ := trod_struct2 hz h0
  simp only [hzo, hzc, hzo1, hzc1, List.drop_zero, List.drop_succ_cons, List.take_succ_cons, List.take_zero] at k0 k1
  obtain ⟨F, e0, _, wF⟩ := DataW.trod_int hi0 k0
  obtain ⟨R, e1, _, wR⟩ := DataW.trod_int hi1 k1
  obtain ⟨A, l, c, e2, hA, hcc, hb⟩ := open_pieces_at hsl he hce h1
  simp at e0 e1 e2
  subst e0 e1 e2
  exact ⟨F, R, A, l, c, rfl, wF, wR, hA, hcc, hb⟩
end

end Go.Proofs.YtpcfgeggjfbfjaaDoor
