/- Moves: rows of moves in memory. -/
import Derived.Test.YtpcfgeggjfbfjaaDoorMvA
import Derived.Test.YtpcfgeggjfbfjaaDoorBdC
namespace Go.Proofs.YtpcfgeggjfbfjaaDoor
open Go.RowKit

def Mv.val (m : Mv) : Value := .agg #[.int .i64 m.a, .int .i64 m.b, .int .i8 m.p]

theorem vmvs_len (l : List Mv) : (vmvs l).length = l.length * 3 := by
  unfold vmvs
  induction l with
  | nil => rfl
  | cons m l ih => rw [List.flatMap_cons, List.length_append, ih]; simp [Mv.cells]; omega
theorem vmvs_app (l k : List Mv) : vmvs (l ++ k) = vmvs l ++ vmvs k := by unfold vmvs; rw [List.flatMap_append]
theorem vmvs_one (m : Mv) : vmvs [m] = [.int .i64 m.a, .int .i64 m.b, .int .i8 m.p] := rfl
theorem vmvs_get : ∀ {l : List Mv} {k : Nat} {m : Mv}, l[k]? = some m → (vmvs l)[k * 3]? = some (.int .i64 m.a) ∧ (vmvs l)[k * 3 + 1]? = some (.int .i64 m.b) ∧ (vmvs l)[k * 3 + 2]? = some (.int .i8 m.p)
  | [], _, _, h => by simp at h
  | x :: l, 0, m, h => by
    simp at h
    subst h
    exact ⟨rfl, rfl, rfl⟩
  | x :: l, k + 1, m, h => by
    have ih := vmvs_get (l := l) (k := k) (m := m) (by simpa using h)
    have e : vmvs (x :: l) = Value.int .i64 x.a :: Value.int .i64 x.b :: Value.int .i8 x.p :: vmvs l := rfl
    rw [e, show (k + 1) * 3 = k * 3 + 1 + 1 + 1 from by omega]
    exact ⟨ih.1, ih.2.1, ih.2.2⟩
theorem vmvs_cell {l : List Mv} : ∀ u ∈ vmvs l, u.oneCell' = true := by
  intro u hu
  unfold vmvs at hu
  obtain ⟨m, _, hm⟩ := List.mem_flatMap.1 hu
  simp [Mv.cells] at hm
  rcases hm with rfl | rfl | rfl <;> rfl

/-- the slice A of some moves, its array below block B. -/
def RdM (w : World) (B : Nat) (A : Option Addr) (l : List Mv) : Prop :=
  0 < l.length → ∃ ad, A = some ad ∧ ad.block < B ∧ ∀ j u, (vmvs l)[j]? = some u → w.cell? (ad.add j) = some u
theorem add_more (ad : Addr) (n i : Nat) : (⟨(ad.add n).block, (ad.add n).off + (i + 1), none⟩ : Addr) = ad.add (n + (i + 1)) := by
  rw [← Addr.add_add]
  simp [Addr.add]
theorem RdM.at_ {w : World} {B : Nat} {A : Option Addr} {l : List Mv} (h : RdM w B A l) {k : Nat} {m : Mv} (hm : l[k]? = some m) : ∃ ad, A = some ad ∧ ad.block < B ∧ w.cell? (ad.add (k * 3)) = some (.int .i64 m.a) ∧
    w.cell? ⟨(ad.add (k * 3)).block, (ad.add (k * 3)).off + 1, none⟩ = some (.int .i64 m.b) ∧ w.cell? ⟨(ad.add (k * 3)).block, (ad.add (k * 3)).off + 2, none⟩ = some (.int .i8 m.p) := by
  have hk := (List.getElem?_eq_some_iff.1 hm).1
  obtain ⟨ad, e, hb, hc⟩ := h (by omega)
  obtain ⟨h0, h1, h2⟩ := vmvs_get hm
  exact ⟨ad, e, hb, hc _ _ h0, by rw [add_more ad _ 0]; exact hc _ _ h1, by rw [add_more ad _ 1]; exact hc _ _ h2⟩
theorem RdM.below {w w' : World} {B : Nat} {A : Option Addr} {l : List Mv} (h : RdM w B A l) (hb : Below B w w') : RdM w' B A l := fun hl => by
  obtain ⟨ad, e, h1, h2⟩ := h hl
  exact ⟨ad, e, h1, fun j u hu => (hb.cell (by rw [blk_add]; exact h1)).trans (h2 j u hu)⟩
theorem RdM.grow {w : World} {B B' : Nat} {A : Option Addr} {l : List Mv} (h : RdM w B A l) (hB : B ≤ B') : RdM w B' A l := fun hl => by
  obtain ⟨ad, e, h1, h2⟩ := h hl
  exact ⟨ad, e, Nat.lt_of_lt_of_le h1 hB, h2⟩
theorem rdMv {w w' : World} {A : Option Addr} {l : List Mv} (hb : Below w.heap.size w w') (h : RdM w w.heap.size A l) : RdM w' w'.heap.size A l := (h.below hb).grow hb.size
theorem rdM_nil (w : World) (B : Nat) (A : Option Addr) : RdM w B A [] := fun h => absurd h (by simp)
theorem RdM.own {w : World} {B e : Nat} {v : Value} {l : List Mv} (h : w.ownsRow B e 3 v l.length (vmvs l)) : ∃ A c, v = .slice A l.length c ∧ l.length ≤ c ∧ RdM w w.heap.size A l := by
  have h0 := h
  obtain ⟨hl, ⟨rfl, hz⟩ | ⟨g, cap, cur, rfl, hg, hh, hn, hc, hs, ht⟩⟩ := h
  · have : l = [] := List.eq_nil_of_length_eq_zero hz
    subst this
    exact ⟨none, 0, rfl, by simp, rdM_nil _ _ _⟩
  · refine ⟨some ⟨g, 0, none⟩, cap, rfl, hn, fun _ => ⟨_, rfl, (Array.getElem?_eq_some_iff.1 hh).1, fun j u hu => ?_⟩⟩
    have hj := (List.getElem?_eq_some_iff.1 hu).1
    rw [show (⟨g, 0, none⟩ : Addr).add j = ⟨g, j, none⟩ by (by_cases hj0 : j = 0 <;> simp [Addr.add, hj0]), h0.cellAt j (by omega)]
    exact hu
theorem own_bel {w w' : World} {base : Nat} {e : TypeId} {size : Nat} {v : Value} {n : Nat} {xs : List Value} (h : w.ownsRow base e size v n xs) (hb : Below w.heap.size w w') : w'.ownsRow base e size v n xs := own_below h hb

theorem infoMv : (Tryd.prog.info? 27).map (fun i => (i.zero, i.size, i.bytes)) = some (some (.agg #[.int .i64 0, .int .i64 0, .int .i8 0]), 3, 24) := by kernel_rfl
theorem infoSt : (Tryd.prog.info? 9).map (fun i => (i.zero, i.size, i.bytes)) = some (some (.string ByteArray.empty), 1, 16) := by kernel_rfl

end Go.Proofs.YtpcfgeggjfbfjaaDoor
