/- Boards: the document's own copy, empty board, and board with a piece put on a square: each in new memory. -/
import Derived.Test.YtpcfgeggjfbfjaaDoorBdB
import Derived.Deep.RegionLawGrows
import Derived.Laws.OwnMore
import Derived.Deep.Onto
import Derived.Deep.OwnRows
import Derived.IntWalk
import Derived.Lib.SmallJoins
namespace Go.Proofs.YtpcfgeggjfbfjaaDoor
open Go.RowKit

theorem infoPc : (Tryd.prog.info? 25).map (fun i => (i.zero, i.size, i.bytes)) = some (some (.int .i8 0), 1, 1) := by kernel_rfl

def vpc (p : Int) : Value := .int .i8 p
def vpcs (l : List Int) : List Value := l.map vpc
theorem vpcs_len (l : List Int) : (vpcs l).length = l.length := by simp [vpcs]
theorem vpcs_at {l : List Int} {j : Nat} {u : Value} (h : (vpcs l)[j]? = some u) : ∃ p, l[j]? = some p ∧ u = .int .i8 p := by
  unfold vpcs at h
  rw [List.getElem?_map] at h
  cases hj : l[j]? with
  | none => rw [hj] at h; simp at h
  | some x => rw [hj] at h; simp at h; exact ⟨x, rfl, h.symm⟩
theorem RdP.own {w : World} {B e : Nat} {v : Value} {l : List Int} (h : w.ownsRow B e 1 v l.length (vpcs l)) : ∃ A c, v = .slice A l.length c ∧ l.length ≤ c ∧ RdP w w.heap.size A l c := by
  obtain ⟨hl, ⟨rfl, h0⟩ | ⟨g, cap, cur, rfl, hg, hh, hn, hc, hs, ht⟩⟩ := h
  · exact ⟨none, 0, by rw [h0], by omega, ⟨fun _ => ⟨h0, rfl⟩, fun hh => by omega⟩⟩
  · refine ⟨some ⟨g, 0, none⟩, cap, rfl, hn, ⟨(fun h => by cases h), fun _ => ⟨_, rfl, (Array.getElem?_eq_some_iff.1 hh).1, fun j u hu => ?_⟩⟩⟩
    have hcell := World.ownsRow.cells (w := w) (base := B) (e := e) (size := 1) (v := .slice (some ⟨g, 0, none⟩) l.length cap) (n := l.length) (xs := vpcs l) ⟨hl, .inr ⟨g, cap, cur, rfl, hg, hh, hn, hc, hs, ht⟩⟩ (g := g) rfl j (.int .i8 u)
    apply hcell
    unfold vpcs
    rw [List.getElem?_map, hu]
    rfl
theorem RdP.cells {w : World} {B : Nat} {A : Option Addr} {l : List Int} {c : Nat} (h : RdP w B A l c) : ∀ ad, A = some ad → ∀ j u, (vpcs l)[j]? = some u → w.cell? (ad.add j) = some u := by
  intro ad e j u hu
  obtain ⟨p, hp, rfl⟩ := vpcs_at hu
  obtain ⟨ad', e', _, hc⟩ := h.2 (by have := (List.getElem?_eq_some_iff.1 hp).1; omega)
  rw [e] at e'
  cases e'
  exact hc j p hp

/-- a new board is returned. -/
def NewB (w : World) (F R : Int) (l : List Int) (e : Ending) (w' : World) : Prop := ∃ v, e = .returned (.agg #[.int .i64 F, .int .i64 R, v]) ∧ w'.ownsRow w.heap.size 25 1 v l.length (vpcs l) ∧ Below w.heap.size w w'

/-- 'append(nil, xs...)' as a step of a region that draws its order, whatever xs is. -/
theorem step_copy {P : Program} {ops : Array Oper} {o : Oper} {a : Act} {w : World} {K : Act → World → Prop} {Q : Exit → Act → World → Prop} {E : Prop}
    (hg : o.guard = none) (s x : Operand) (t : TypeId) (hop : o.op = Op.call { callee := Callee.builtin Builtin.append, args := #[s, x], argTypes := #[t, t] })
    (e : TypeId) (i : TypeInfo) (z : Value) (size bytes : Nat) (h1 : P.underlying t = some (.slice e)) (h2 : P.info? e = some i) (h3 : i.zero = some z) (h4 : i.size = size) (h5 : i.bytes = bytes) (h6 : z.cells.size = size) (h7 : 0 < size)
    (hs : a.eval s = .slice none 0 0) (base : Nat) (hbase : base ≤ w.heap.size)
    (A : Option Addr) (m c : Nat) (news : List Value) (hx : a.eval x = .slice A m c) (hA : A = none → m = 0 ∧ c = 0) (hn : news.length = m * size) (hc : ∀ ad, A = some ad → ∀ j u, news[j]? = some u → w.cell? (ad.add j) = some u) (h1c : ∀ u ∈ news, u.oneCell' = true)
    (b1 : m ≤ maxLen) (b2 : m * bytes ≤ 140737488355328)
    (hK : ∀ A' c' w', w'.ownsRow base e size (.slice A' m c') m news → w.grownBy w' none → K (a.put o.dst (.slice A' m c')) w') :
    if Region.wanted o (yielded ops a.tmps) = true then Oper.wp P o a w K Q else E := by
  have hw : Region.wanted o (yielded ops a.tmps) = true := by simp [Region.wanted, hg]
  rw [if_pos hw]
  cases A with
  | none =>
    obtain ⟨rfl, rfl⟩ := hA rfl
    obtain rfl : news = [] := List.eq_nil_of_length_eq_zero (by simpa using hn)
    have hrun := run_append_owned_none (P := P) (w := w) base t o.type e i size h1 h2 (.slice none 0 0) 0 [] (World.ownsRow_nil w base e size)
    unfold Oper.wp
    simp [execOp, hop, resolve, invoke, builtin, hs, hx, hrun, Result.andThen]
    exact hK _ _ _ (World.ownsRow_nil w base e size) ⟨rfl, rfl, rfl, Nat.le_refl _, fun _ _ _ => rfl⟩
  | some ad =>
    obtain ⟨v', w', hrun, r1, r2, _⟩ := run_append_own (P := P) w base t o.type e i z size bytes h1 h2 h3 h4 h5 h6 h7 (.slice none 0 0) 0 [] (World.ownsRow_nil w _ e size) ad m c news hn (hc ad rfl) h1c (by omega) (by rw [Nat.zero_add]; exact b2) hbase
    rw [Nat.zero_add, List.nil_append] at r1
    unfold Oper.wp
    simp [execOp, hop, resolve, invoke, builtin, hs, hx, hrun, Result.andThen]
    rcases r1 with ⟨q1, ⟨rfl, rfl⟩ | ⟨g, cap, cur, rfl, q2⟩⟩
    · exact hK _ _ _ ⟨q1, .inl ⟨rfl, rfl⟩⟩ r2
    · exact hK _ _ _ ⟨q1, .inr ⟨g, cap, cur, rfl, q2⟩⟩ r2

theorem bgrown {w w' : World} {row : Option Nat} (h : w.grownBy w' row) (hr : row = none) : (∀ b o, b < w.heap.size → w'.cell? ⟨b, o, none⟩ = w.cell? ⟨b, o, none⟩) ∧ (∀ b o, b < w.heap.size → w'.frozen? ⟨b, o, none⟩ = w.frozen? ⟨b, o, none⟩) :=
  ⟨fun b o hb => World.cell?_of_block (h.block b hb (by rw [hr]; simp)), fun b o hb => World.frozen?_of_block (h.block b hb (by rw [hr]; simp))⟩
theorem vpcs_one {l : List Int} : ∀ u ∈ vpcs l, u.oneCell' = true := by
  intro u hu
  unfold vpcs at hu
  obtain ⟨p, _, rfl⟩ := List.mem_map.1 hu
  rfl

theorem made_zero (n : Nat) : (madeCells #[Value.int .i8 0] n).toList = vpcs (List.replicate n 0) := by
  apply List.ext_getElem
  · simp [madeCells, vpcs]
  · intro j h1 h2
    simp [madeCells, vpcs, vpc, Nat.mod_one]

/-- a piece put into a new board. -/
theorem set_vpcs (l : List Int) (j : Nat) (p : Int) : (vpcs l).set j (.int .i8 p) = vpcs (l.set j p) := by
  unfold vpcs; rw [List.map_set]; rfl

end Go.Proofs.YtpcfgeggjfbfjaaDoor
