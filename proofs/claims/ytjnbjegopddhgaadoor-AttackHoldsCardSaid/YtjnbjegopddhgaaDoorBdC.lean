/- Boards: the document's own copy, empty board, and board with a piece put on a square: each in new memory. -/
import Derived.Test.YtjnbjegopddhgaaDoorBdB
import Derived.Deep.RegionLawGrows
import Derived.Laws.OwnMore
import Derived.Deep.Onto
import Derived.Deep.OwnRows
import Derived.IntWalk
import Derived.Lib.SmallJoins

namespace Go.Proofs.YtjnbjegopddhgaaDoor
open Go.RowKit

theorem infoPc : (Tryd.prog.info? 47).map (fun i => (i.zero, i.size, i.bytes)) = some (some (.int .i8 0), 1, 1) := by kernel_rfl

def vpc (p : Int) : Value := .int .i8 p
def vpcs (l : List Int) : List Value := l.map vpc
theorem vpcs_len (l : List Int) : (vpcs l).length = l.length := by simp [vpcs]
theorem vpcs_at {l : List Int} {j : Nat} {u : Value} (h : (vpcs l)[j]? = some u) : ∃ p, l[j]? = some p ∧ u = .int .i8 p := by
  unfold vpcs at h
  rw [List.getElem?_map] at h
  cases hj : l[j]? with
  | none => rw [hj] at h; simp at h
  | some x => rw [hj] at h; simp at h; exact ⟨x, rfl, h.symm⟩
theorem RdP.own {w : World} {B e : Nat} {v : Value} {l : List Int} (h : w.ownsRow B e 1 v l.length (vpcs l)) : ∃ A c, v = .slice A l.length c ∧ l.length ≤ c ∧ RdP w w.heap.size A l c := by
  obtain ⟨hl, ⟨rfl, h0⟩ | ⟨g, cap, cur, rfl, hg, hh, hn, hc, hs, ht⟩⟩ := h
  · exact ⟨none, 0, by rw [h0], by omega, ⟨fun _ => ⟨h0, rfl⟩, fun hh => by omega⟩⟩
  · refine ⟨some ⟨g, 0, none⟩, cap, rfl, hn, ⟨(fun h => by cases h), fun _ => ⟨_, rfl, (Array.getElem?_eq_some_iff.1 hh).1, fun j u hu => ?_⟩⟩⟩
    have hcell := World.ownsRow.cells (w := w) (base := B) (e := e) (size := 1) (v := .slice (some ⟨g, 0, none⟩) l.length cap) (n := l.length) (xs := vpcs l) ⟨hl, .inr ⟨g, cap, cur, rfl, hg, hh, hn, hc, hs, ht⟩⟩ (g := g) rfl j (.int .i8 u)
    apply hcell
    unfold vpcs
    rw [List.getElem?_map, hu]
    rfl
theorem RdP.cells {w : World} {B : Nat} {A : Option Addr} {l : List Int} {c : Nat} (h : RdP w B A l c) : ∀ ad, A = some ad → ∀ j u, (vpcs l)[j]? = some u → w.cell? (ad.add j) = some u := by
  intro ad e j u hu
  obtain ⟨p, hp, rfl⟩ := vpcs_at hu
  obtain ⟨ad', e', _, hc⟩ := h.2 (by have := (List.getElem?_eq_some_iff.1 hp).1; omega)
  rw [e] at e'
  cases e'
  exact hc j p hp

/-- a new board is returned. -/
def NewB (w : World) (F R : Int) (l : List Int) (e : Ending) (w' : World) : Prop := ∃ v, e = .returned (.agg #[.int .i64 F, .int .i64 R, v]) ∧ w'.ownsRow w.heap.size 47 1 v l.length (vpcs l) ∧ Below w.heap.size w w'

/-- 'append(nil, xs...)' as a step of a region that draws its order, whatever xs is. -/
theorem step_copy {P : Program} {ops : Array Oper} {o : Oper} {a : Act} {w : World} {K : Act → World → Prop} {Q : Exit → Act → World → Prop} {E : Prop}
    (hg : o.guard = none) (s x : Operand) (t : TypeId) (hop : o.op = Op.call { callee := Callee.builtin Builtin.append, args := #[s, x], argTypes := #[t, t] })
    (e : TypeId) (i : TypeInfo) (z : Value) (size bytes : Nat) (h1 : P.underlying t = some (.slice e)) (h2 : P.info? e = some i) (h3 : i.zero = some z) (h4 : i.size = size) (h5 : i.bytes = bytes) (h6 : z.cells.size = size) (h7 : 0 < size)
    (hs : a.eval s = .slice none 0 0) (base : Nat) (hbase : base ≤ w.heap.size)
    (A : Option Addr) (m c : Nat) (news : List Value) (hx : a.eval x = .slice A m c) (hA : A = none → m = 0 ∧ c = 0) (hn : news.length = m * size) (hc : ∀ ad, A = some ad → ∀ j u, news[j]? = some u → w.cell? (ad.add j) = some u) (h1c : ∀ u ∈ news, u.oneCell' = true)
    (b1 : m ≤ maxLen) (b2 : m * bytes ≤ 140737488355328)
    (hK : ∀ A' c' w', w'.ownsRow base e size (.slice A' m c') m news → w.grownBy w' none → K (a.put o.dst (.slice A' m c')) w') :
    if Region.wanted o (yielded ops a.tmps) = true then Oper.wp P o a w K Q else E := by
  have hw : Region.wanted o (yielded ops a.tmps) = true := by simp [Region.wanted, hg]
  rw [if_pos hw]
  cases A with
  | none =>
    obtain ⟨rfl, rfl⟩ := hA rfl
    obtain rfl : news = [] := List.eq_nil_of_length_eq_zero (by simpa using hn)
    have hrun := run_append_owned_none (P := P) (w := w) base t o.type e i size h1 h2 (.slice none 0 0) 0 [] (World.ownsRow_nil w base e size)
    unfold Oper.wp
    simp [execOp, hop, resolve, invoke, builtin, hs, hx, hrun, Result.andThen]
    exact hK _ _ _ (World.ownsRow_nil w base e size) ⟨rfl, rfl, rfl, Nat.le_refl _, fun _ _ _ => rfl⟩
  | some ad =>
    obtain ⟨v', w', hrun, r1, r2, _⟩ := run_append_own (P := P) w base t o.type e i z size bytes h1 h2 h3 h4 h5 h6 h7 (.slice none 0 0) 0 [] (World.ownsRow_nil w _ e size) ad m c news hn (hc ad rfl) h1c (by omega) (by rw [Nat.zero_add]; exact b2) hbase
    rw [Nat.zero_add, List.nil_append] at r1
    unfold Oper.wp
    simp [execOp, hop, resolve, invoke, builtin, hs, hx, hrun, Result.andThen]
    rcases r1 with ⟨q1, ⟨rfl, rfl⟩ | ⟨g, cap, cur, rfl, q2⟩⟩
    · exact hK _ _ _ ⟨q1, .inl ⟨rfl, rfl⟩⟩ r2
    · exact hK _ _ _ ⟨q1, .inr ⟨g, cap, cur, rfl, q2⟩⟩ r2

theorem bgrown {w w' : World} {row : Option Nat} (h : w.grownBy w' row) (hr : row = none) : (∀ b o, b < w.heap.size → w'.cell? ⟨b, o, none⟩ = w.cell? ⟨b, o, none⟩) ∧ (∀ b o, b < w.heap.size → w'.frozen? ⟨b, o, none⟩ = w.frozen? ⟨b, o, none⟩) :=
  ⟨fun b o hb => World.cell?_of_block (h.block b hb (by rw [hr]; simp)), fun b o hb => World.frozen?_of_block (h.block b hb (by rw [hr]; simp))⟩
theorem vpcs_one {l : List Int} : ∀ u ∈ vpcs l, u.oneCell' = true := by
  intro u hu
  unfold vpcs at hu
  obtain ⟨p, _, rfl⟩ := List.mem_map.1 hu
  rfl

set_option maxRecDepth 100000 in
set_option maxHeartbeats 1000000 in
theorem rCopy_any (F R : Int) (l : List Int) (A : Option Addr) (c : Nat) (w : World) (hlen : l.length ≤ 100000) (hA : RdP w w.heap.size A l c) :
    Calls Tryd.prog 53 #[.agg #[.int .i64 F, .int .i64 R, .slice A l.length c]] w (NewB w F R l) := by
  obtain ⟨i0, hi, hz0, hz1, hz2⟩ := info_parts infoPc
  go_enter Tryd.func53, Tryd.ntmps53
  go_wp2
  have hW : Below w.heap.size w ((w.alloc (.cells #[.int .i64 F, .int .i64 R, .slice A l.length c] 26)).alloc (.cells #[.int .i64 0, .int .i64 0, .slice none 0 0] 26)).drew := (after1 (box1 _ _)).drew
  have hcells := Lib.hid (hA.below hW).cells
  have hnone := Lib.hid hA.1
  clear hA
  have hml : l.length ≤ maxLen := by unfold maxLen; omega
  have hml' : l.length * 1 ≤ 140737488355328 := by omega
  go_region_law (refine step_copy rfl (.const (.slice none 0 0)) (.tmp 6) 24 rfl 47 i0 (.int .i8 0) 1 1 Tryd.underlying24 hi hz0 hz1 hz2 rfl (by decide) rfl (w.heap.size + 2) (by simp) A l.length c (vpcs l) (by simp [Act.eval]) hnone.out (by simp [vpcs_len]) hcells.out vpcs_one hml hml' ?_; intro A' c' w1 hown hgrow; obtain ⟨hcr, hfr⟩ := bgrown hgrow rfl)
  all_goals
    have hown2 := ownsRow_setCell_below (ownsRow_setCell_below (ownsRow_setCell_below hown (a := ⟨w.heap.size + 1, 0, none⟩) (by simp) (.int .i64 F)) (a := ⟨w.heap.size + 1, 1, none⟩) (by simp) (.int .i64 R)) (a := ⟨w.heap.size + 1, 2, none⟩) (by simp) (.slice A' l.length c')
    have hB := (((hW.grown hgrow (by simp; omega) (fun _ e => by cases e)).setCell (p := ⟨w.heap.size + 1, 0, none⟩) (by simp) (.int .i64 F)).setCell (p := ⟨w.heap.size + 1, 1, none⟩) (by simp) (.int .i64 R)).setCell (p := ⟨w.heap.size + 1, 2, none⟩) (by simp) (.slice A' l.length c')
    have HN : NewB w F R l (.returned (.agg #[.int .i64 F, .int .i64 R, .slice A' l.length c'])) (((w1.setCell ⟨w.heap.size + 1, 0, none⟩ (.int .i64 F)).setCell ⟨w.heap.size + 1, 1, none⟩ (.int .i64 R)).setCell ⟨w.heap.size + 1, 2, none⟩ (.slice A' l.length c')) := ⟨_, rfl, hown2.mono (by omega), hB⟩
    have HN := Lib.hid HN
    have m0 : w1.cell? ⟨w.heap.size + 1, 0, none⟩ = some (.int .i64 0) := (hcr _ _ (by simp)).trans (by simp [go_sem])
    have m1 : w1.cell? ⟨w.heap.size + 1, 1, none⟩ = some (.int .i64 0) := (hcr _ _ (by simp)).trans (by simp [go_sem])
    have m2 : w1.cell? ⟨w.heap.size + 1, 2, none⟩ = some (.slice none 0 0) := (hcr _ _ (by simp)).trans (by simp [go_sem])
    clear hown hown2 hB hgrow hcr hfr
    go_wp2
    refine bodyPost_ret (v := .agg #[.int .i64 F, .int .i64 R, .slice A' l.length c']) ?_ rfl HN.out
    simp [results, Tryd.results53, go_sem, m0, m1, m2]

theorem made_zero (n : Nat) : (madeCells #[Value.int .i8 0] n).toList = vpcs (List.replicate n 0) := by
  apply List.ext_getElem
  · simp [madeCells, vpcs]
  · intro j h1 h2
    simp [madeCells, vpcs, vpc, Nat.mod_one]

/-- a piece put into a new board. -/
theorem set_vpcs (l : List Int) (j : Nat) (p : Int) : (vpcs l).set j (.int .i8 p) = vpcs (l.set j p) := by
  unfold vpcs; rw [List.map_set]; rfl

set_option maxRecDepth 100000 in
set_option maxHeartbeats 1000000 in
theorem rPut_any (F R : Int) (l : List Int) (A : Option Addr) (c : Nat) (n : Nat) (p : Int) (w : World) (hlen : l.length ≤ 100000) (hn : n < l.length) (hA : RdP w w.heap.size A l c) :
    Calls Tryd.prog 25 #[.agg #[.int .i64 F, .int .i64 R, .slice A l.length c], .int .i64 n, .int .i8 p] w (NewB w F R (l.set n p)) := by
  have W0 : Below w.heap.size w ((w.alloc (.cells #[.int .i64 F, .int .i64 R, .slice A l.length c] 26)).alloc (.cells #[.int .i64 0, .int .i64 0, .slice none 0 0] 26)) := after1 (box1 _ _)
  have A1 := (hA.below W0).grow W0.size
  clear hA
  go_enter Tryd.func25, Tryd.ntmps25
  go_wp2_with fail
  refine (rCopy_any F R l A c _ hlen A1).mono ?_
  rintro e w1 ⟨v, rfl, hown, hb⟩
  obtain ⟨g, cap, rfl⟩ := Joins.ownsRow_form hown (by omega)
  obtain ⟨hg0, hg1⟩ := World.ownsRow.lt hown g rfl
  have hcell : w1.cell? ⟨g, n, none⟩ = some (.int .i8 (l[n]?.getD 0)) := by
    rw [hown.cellAt n (by omega)]
    simp [vpcs, vpc, List.getElem?_eq_getElem hn]
  have hfz := hown.frozenAt n
  have s1 := hb.size
  have m0 : w1.cell? ⟨w.heap.size + 1, 0, none⟩ = some (.int .i64 0) := (hb.cell (by simp)).trans (by simp [go_sem])
  have m1 : w1.cell? ⟨w.heap.size + 1, 1, none⟩ = some (.int .i64 0) := (hb.cell (by simp)).trans (by simp [go_sem])
  have m2 : w1.cell? ⟨w.heap.size + 1, 2, none⟩ = some (.slice none 0 0) := (hb.cell (by simp)).trans (by simp [go_sem])
  have f0 : ∀ o, w1.frozen? ⟨w.heap.size + 1, o, none⟩ = false := fun o => (hb.frozen (p := ⟨w.heap.size + 1, o, none⟩) (by simp)).trans (by simp [go_sem])
  simp at hg0 s1
  have ho2 := hown.stored n (.int .i8 p)
  rw [set_vpcs] at ho2
  obtain ⟨ho3, hgb⟩ := ho2
  have ho4 := ownsRow_setCell_below (ownsRow_setCell_below (ownsRow_setCell_below (World.ownsRow.mono ho3 (base' := w.heap.size + 2) (by simp)) (a := ⟨w.heap.size + 1, 0, none⟩) (by simp) (.int .i64 F)) (a := ⟨w.heap.size + 1, 1, none⟩) (by simp) (.int .i64 R)) (a := ⟨w.heap.size + 1, 2, none⟩) (by simp) (.slice (some ⟨g, 0, none⟩) l.length cap)
  have hB4 : Below w.heap.size w (((((w1.setCell ⟨g, n, none⟩ (.int .i8 p)).setCell ⟨w.heap.size + 1, 0, none⟩ (.int .i64 F)).setCell ⟨w.heap.size + 1, 1, none⟩ (.int .i64 R)).setCell ⟨w.heap.size + 1, 2, none⟩ (.slice (some ⟨g, 0, none⟩) l.length cap)).alloc (.cells #[.int .i64 F, .int .i64 R, .slice (some ⟨g, 0, none⟩) l.length cap] 26)) :=
    (((((chain W0 hb).setCell (p := ⟨g, n, none⟩) (by simp; omega) _).setCell (p := ⟨w.heap.size + 1, 0, none⟩) (by simp) _).setCell (p := ⟨w.heap.size + 1, 1, none⟩) (by simp) _).setCell (p := ⟨w.heap.size + 1, 2, none⟩) (by simp) _).alloc (by simp; omega) _
  have HN : NewB w F R (l.set n p) (.returned (.agg #[.int .i64 F, .int .i64 R, .slice (some ⟨g, 0, none⟩) l.length cap])) (((((w1.setCell ⟨g, n, none⟩ (.int .i8 p)).setCell ⟨w.heap.size + 1, 0, none⟩ (.int .i64 F)).setCell ⟨w.heap.size + 1, 1, none⟩ (.int .i64 R)).setCell ⟨w.heap.size + 1, 2, none⟩ (.slice (some ⟨g, 0, none⟩) l.length cap)).alloc (.cells #[.int .i64 F, .int .i64 R, .slice (some ⟨g, 0, none⟩) l.length cap] 26)) :=
    ⟨_, rfl, by rw [List.length_set]; exact (World.ownsRow.mono ho4 (base' := w.heap.size) (by omega)).alloc _, hB4⟩
  have HN := Lib.hid HN
  clear ho3 ho4 hown hgb hB4 A1 W0 hb
  have q1 : ¬ g = w.heap.size + 1 := by omega
  have q2 : ¬ w.heap.size + 1 = g := by omega
  have q3 : w.heap.size + 1 < w1.heap.size := by omega
  go_wp2
  refine bodyPost_ret (v := .agg #[.int .i64 F, .int .i64 R, .slice (some ⟨g, 0, none⟩) l.length cap]) ?_ rfl HN.out
  simp [results, Tryd.results25, go_sem, m0, m1, m2, q3]

end Go.Proofs.YtjnbjegopddhgaaDoor
