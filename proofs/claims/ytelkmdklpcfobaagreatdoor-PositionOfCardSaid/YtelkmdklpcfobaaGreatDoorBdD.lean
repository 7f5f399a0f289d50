/- Boards: which are the same, by the document's own function. -/
import Derived.Test.YtelkmdklpcfobaaGreatDoorBdA
import Derived.Deep.RegionLawGrows
import Derived.Laws.OwnMore
import Derived.Deep.Onto
import Derived.Deep.OwnRows
import Derived.IntWalk
import Derived.Lib.SmallJoins
import Derived.Lib.QuietBelow

namespace Go.Proofs.YtelkmdklpcfobaaGreatDoor
open Go.RowKit

set_option maxRecDepth 100000 in
set_option maxHeartbeats 1000000 in
theorem same_yes (F R : Int) (l : List Int) (A A' : Option Addr) (c c' : Nat) (w : World) (hlen : l.length ≤ 100000) (hA : RdP w w.heap.size A l c) (hA' : RdP w w.heap.size A' l c') :
    Calls Tryz.prog 17 #[.agg #[.int .i64 F, .int .i64 R, .slice A l.length c], .agg #[.int .i64 F, .int .i64 R, .slice A' l.length c']] w fun e w' => e = .returned (.bool true) ∧ Below w.heap.size w w' := by
  go_enter Tryz.func17, Tryz.ntmps17
  go_wp2_with fail
  have hB0 : Below w.heap.size w ((w.alloc (.cells #[.int .i64 F, .int .i64 R, .slice A l.length c] 30)).alloc (.cells #[.int .i64 F, .int .i64 R, .slice A' l.length c'] 30)) := after1 (box1 _ _)
  have hc2 : ((w.alloc (.cells #[.int .i64 F, .int .i64 R, .slice A l.length c] 30)).alloc (.cells #[.int .i64 F, .int .i64 R, .slice A' l.length c'] 30)).cell? ⟨w.heap.size, 2, none⟩ = some (.slice A l.length c) := by simp [go_sem]
  have hd2 : ((w.alloc (.cells #[.int .i64 F, .int .i64 R, .slice A l.length c] 30)).alloc (.cells #[.int .i64 F, .int .i64 R, .slice A' l.length c'] 30)).cell? ⟨w.heap.size + 1, 2, none⟩ = some (.slice A' l.length c') := by simp [go_sem]
  generalize hW : ((w.alloc (.cells #[.int .i64 F, .int .i64 R, .slice A l.length c] 30)).alloc (.cells #[.int .i64 F, .int .i64 R, .slice A' l.length c'] 30)) = W at *
  have A1 := (hA.below hB0)
  have A2 := (hA'.below hB0)
  have s0 := hB0.size
  have sz : W.heap.size = w.heap.size + 2 := by rw [← hW]; simp
  have sz' : w.heap.size + 2 ≤ W.heap.size := by omega
  clear hA hA' hW sz
  go_loopw [5] (fun i wr => ∃ k : Nat, k ≤ l.length ∧ i = .int .i64 k ∧ Below W.heap.size W wr) (fun i _ => l.length - (intOf i).toNat)
  case atStart => exact ⟨0, by omega, rfl, Below.refl _ _⟩
  case round =>
    obtain ⟨k, hk, rfl, hB⟩ := hrel
    have d2 := (hB.cell (p := ⟨w.heap.size, 2, none⟩) (by simp; omega)).trans hc2
    have e2 := (hB.cell (p := ⟨w.heap.size + 1, 2, none⟩) (by simp; omega)).trans hd2
    by_cases hlt : k < l.length
    · obtain ⟨ad, rfl, hb, hc⟩ := (A1.below (hB.mono s0)).at_ hlt
      obtain ⟨ad', rfl, hb', hc'⟩ := (A2.below (hB.mono s0)).at_ hlt
      clear A1 A2
      generalize hn : l[k]?.getD 0 = n at *
      clear hn
      go_wp2
      go_quiet (fail)
      go_wp2
      go_roundw
      case rel => exact ⟨k + 1, by omega, by go_num, drawn hB _⟩
      case measure => simp [intOf]; omega
    · have hkl : k = l.length := by omega
      subst hkl
      go_wp2
      go_ret
      exact ⟨rfl, chain hB0 hB⟩

theorem first_diff {l l' : List Int} (hl : l.length = l'.length) (h : l ≠ l') : ∃ m, m < l.length ∧ l[m]?.getD 0 ≠ l'[m]?.getD 0 ∧ ∀ j, j < m → l[j]?.getD 0 = l'[j]?.getD 0 := by
  have h' : ∃ m, m < l.length ∧ l[m]?.getD 0 ≠ l'[m]?.getD 0 := by
    apply Classical.byContradiction
    intro hc
    apply h
    apply List.ext_getElem hl
    intro j h1 h2
    have : l[j]?.getD 0 = l'[j]?.getD 0 := Classical.byContradiction fun hb => hc ⟨j, h1, hb⟩
    rw [List.getElem?_eq_getElem h1, List.getElem?_eq_getElem h2] at this
    exact this
  obtain ⟨n, hn⟩ := h'
  obtain ⟨m, hm, hp, hq⟩ := least (P := fun m => m < l.length ∧ l[m]?.getD 0 ≠ l'[m]?.getD 0) n hn
  exact ⟨m, hp.1, hp.2, fun j hj => Classical.byContradiction fun hb => hq j hj ⟨by omega, hb⟩⟩

set_option maxRecDepth 100000 in
set_option maxHeartbeats 1000000 in
theorem same_diff (F R : Int) (l l' : List Int) (A A' : Option Addr) (c c' : Nat) (w : World) (hlen : l.length ≤ 100000) (hA : RdP w w.heap.size A l c) (hA' : RdP w w.heap.size A' l' c') (hll : l.length = l'.length)
    (m : Nat) (hm : m < l.length) (hd : l[m]?.getD 0 ≠ l'[m]?.getD 0) (he : ∀ j, j < m → l[j]?.getD 0 = l'[j]?.getD 0) :
    Calls Tryz.prog 17 #[.agg #[.int .i64 F, .int .i64 R, .slice A l.length c], .agg #[.int .i64 F, .int .i64 R, .slice A' l'.length c']] w fun e w' => e = .returned (.bool false) ∧ Below w.heap.size w w' := by
  have HD := Lib.hid hd
  have HE := Lib.hid he
  rw [← hll]
  have HL := Lib.hid hll
  clear hd he hll
  go_enter Tryz.func17, Tryz.ntmps17
  go_wp2_with fail
  have hB0 : Below w.heap.size w ((w.alloc (.cells #[.int .i64 F, .int .i64 R, .slice A l.length c] 30)).alloc (.cells #[.int .i64 F, .int .i64 R, .slice A' l.length c'] 30)) := after1 (box1 _ _)
  have hc2 : ((w.alloc (.cells #[.int .i64 F, .int .i64 R, .slice A l.length c] 30)).alloc (.cells #[.int .i64 F, .int .i64 R, .slice A' l.length c'] 30)).cell? ⟨w.heap.size, 2, none⟩ = some (.slice A l.length c) := by simp [go_sem]
  have hd2 : ((w.alloc (.cells #[.int .i64 F, .int .i64 R, .slice A l.length c] 30)).alloc (.cells #[.int .i64 F, .int .i64 R, .slice A' l.length c'] 30)).cell? ⟨w.heap.size + 1, 2, none⟩ = some (.slice A' l.length c') := by simp [go_sem]
  generalize hW : ((w.alloc (.cells #[.int .i64 F, .int .i64 R, .slice A l.length c] 30)).alloc (.cells #[.int .i64 F, .int .i64 R, .slice A' l.length c'] 30)) = W at *
  have A1 := (hA.below hB0)
  have A2 := (hA'.below hB0)
  have s0 := hB0.size
  have sz : W.heap.size = w.heap.size + 2 := by rw [← hW]; simp
  have sz' : w.heap.size + 2 ≤ W.heap.size := by omega
  clear hA hA' hW sz
  go_loopw [5] (fun i wr => ∃ k : Nat, k ≤ m ∧ i = .int .i64 k ∧ Below W.heap.size W wr) (fun i _ => l.length - (intOf i).toNat)
  case atStart => exact ⟨0, by omega, rfl, Below.refl _ _⟩
  case round =>
    obtain ⟨k, hk, rfl, hB⟩ := hrel
    have d2 := (hB.cell (p := ⟨w.heap.size, 2, none⟩) (by simp; omega)).trans hc2
    have e2 := (hB.cell (p := ⟨w.heap.size + 1, 2, none⟩) (by simp; omega)).trans hd2
    obtain ⟨ad, rfl, hb, hc⟩ := (A1.below (hB.mono s0)).at_ (show k < l.length by omega)
    obtain ⟨ad', rfl, hb', hc'⟩ := (A2.below (hB.mono s0)).at_ (show k < l'.length by have := HL.out; omega)
    clear A1 A2
    by_cases hlt : k < m
    · have hlt' : k < l.length := by omega
      have hq := HE.out k hlt
      rw [← hq] at hc'
      clear hq
      generalize hn : l[k]?.getD 0 = n at *
      clear hn
      go_wp2
      go_quiet (fail)
      go_wp2
      go_roundw
      case rel => exact ⟨k + 1, by omega, by go_num, drawn hB _⟩
      case measure => simp [intOf]; omega
    · have hkl : k = m := by omega
      subst hkl
      have hq := HD.out
      generalize hn : l[k]?.getD 0 = n at *
      generalize hn' : l'[k]?.getD 0 = n' at *
      clear hn hn'
      have hbq : (n != n') = true := bne_iff_ne.2 hq
      clear hq
      go_wp2
      go_quiet (fail)
      go_wp2
      go_ret
      exact ⟨rfl, chain hB0 (drawn hB _)⟩

set_option maxRecDepth 100000 in
set_option maxHeartbeats 1000000 in
theorem same_no (F R F' R' : Int) (l l' : List Int) (A A' : Option Addr) (c c' : Nat) (w : World) (hlen : l.length ≤ 100000) (hA : RdP w w.heap.size A l c) (hA' : RdP w w.heap.size A' l' c') (h : ¬ (F = F' ∧ R = R' ∧ l = l')) :
    Calls Tryz.prog 17 #[.agg #[.int .i64 F, .int .i64 R, .slice A l.length c], .agg #[.int .i64 F', .int .i64 R', .slice A' l'.length c']] w fun e w' => e = .returned (.bool false) ∧ Below w.heap.size w w' := by
  by_cases hF : F = F'
  · subst hF
    by_cases hR : R = R'
    · subst hR
      by_cases hl : l.length = l'.length
      · obtain ⟨m, h1, h2, h3⟩ := first_diff hl (fun e => h ⟨rfl, rfl, e⟩)
        exact same_diff F R l l' A A' c c' w hlen hA hA' hl m h1 h2 h3
      · have hne : ((l.length : Int) != (l'.length : Int)) = true := bne_iff_ne.2 (by omega)
        clear h hl hA hA'
        go_enter Tryz.func17, Tryz.ntmps17
        go_wp2
        go_ret
        exact ⟨rfl, after1 (box1 _ _)⟩
    · clear h hA hA'
      go_enter Tryz.func17, Tryz.ntmps17
      go_wp2
      go_ret
      exact ⟨rfl, after1 (box1 _ _)⟩
  · clear h hA hA'
    go_enter Tryz.func17, Tryz.ntmps17
    go_wp2
    go_ret
    exact ⟨rfl, after1 (box1 _ _)⟩

end Go.Proofs.YtelkmdklpcfobaaGreatDoor

/- Boards: the document's own copy, empty board, and board with a piece put on a square: each in new memory. -/
namespace Go.Proofs.YtelkmdklpcfobaaGreatDoor
open Go.RowKit

theorem infoPc : (Tryz.prog.info? 41).map (fun i => (i.zero, i.size, i.bytes)) = some (some (.int .i8 0), 1, 1) := by kernel_rfl

def vpc (p : Int) : Value := .int .i8 p
def vpcs (l : List Int) : List Value := l.map vpc
theorem vpcs_len (l : List Int) : (vpcs l).length = l.length := by simp [vpcs]
theorem vpcs_at {l : List Int} {j : Nat} {u : Value} (h : (vpcs l)[j]? = some u) : ∃ p, l[j]? = some p ∧ u = .int .i8 p := by
  unfold vpcs at h
  rw [List.getElem?_map] at h
  cases hj : l[j]? with
  | none => rw [hj] at h; simp at h
  | some x => rw [hj] at h; simp at h; exact ⟨x, rfl, h.symm⟩
theorem RdP.own {w : World} {B e : Nat} {v : Value} {l : List Int} (h : w.ownsRow B e 1 v l.length (vpcs l)) : ∃ A c, v = .slice A l.length c ∧ l.length ≤ c ∧ RdP w w.heap.size A l c := by
  obtain ⟨hl, ⟨rfl, h0⟩ | ⟨g, cap, cur, rfl, hg, hh, hn, hc, hs, ht⟩⟩ := h
  · exact ⟨none, 0, by rw [h0], by omega, ⟨fun _ => ⟨h0, rfl⟩, fun hh => by omega⟩⟩
  · refine ⟨some ⟨g, 0, none⟩, cap, rfl, hn, ⟨(fun h => by cases h), fun _ => ⟨_, rfl, (Array.getElem?_eq_some_iff.1 hh).1, fun j u hu => ?_⟩⟩⟩
    have hcell := World.ownsRow.cells (w := w) (base := B) (e := e) (size := 1) (v := .slice (some ⟨g, 0, none⟩) l.length cap) (n := l.length) (xs := vpcs l) ⟨hl, .inr ⟨g, cap, cur, rfl, hg, hh, hn, hc, hs, ht⟩⟩ (g := g) rfl j (.int .i8 u)
    apply hcell
    unfold vpcs
    rw [List.getElem?_map, hu]
    rfl
theorem RdP.cells {w : World} {B : Nat} {A : Option Addr} {l : List Int} {c : Nat} (h : RdP w B A l c) : ∀ ad, A = some ad → ∀ j u, (vpcs l)[j]? = some u → w.cell? (ad.add j) = some u := by
  intro ad e j u hu
  obtain ⟨p, hp, rfl⟩ := vpcs_at hu
  obtain ⟨ad', e', _, hc⟩ := h.2 (by have := (List.getElem?_eq_some_iff.1 hp).1; omega)
  rw [e] at e'
  cases e'
  exact hc j p hp

/-- a new board is returned. -/
def NewB (w : World) (F R : Int) (l : List Int) (e : Ending) (w' : World) : Prop := ∃ v, e = .returned (.agg #[.int .i64 F, .int .i64 R, v]) ∧ w'.ownsRow w.heap.size 41 1 v l.length (vpcs l) ∧ Below w.heap.size w w'

/-- 'append(nil, xs...)' as a step of a region that draws its order, whatever xs is. -/
theorem step_copy {P : Program} {ops : Array Oper} {o : Oper} {a : Act} {w : World} {K : Act → World → Prop} {Q : Exit → Act → World → Prop} {E : Prop}
    (hg : o.guard = none) (s x : Operand) (t : TypeId) (hop : o.op = Op.call { callee := Callee.builtin Builtin.append, args := #[s, x], argTypes := #[t, t] })
    (e : TypeId) (i : TypeInfo) (z : Value) (size bytes : Nat) (h1 : P.underlying t = some (.slice e)) (h2 : P.info? e = some i) (h3 : i.zero = some z) (h4 : i.size = size) (h5 : i.bytes = bytes) (h6 : z.cells.size = size) (h7 : 0 < size)
    (hs : a.eval s = .slice none 0 0) (base : Nat) (hbase : base ≤ w.heap.size)
    (A : Option Addr) (m c : Nat) (news : List Value) (hx : a.eval x = .slice A m c) (hA : A = none → m = 0 ∧ c = 0) (hn : news.length = m * size) (hc : ∀ ad, A = some ad → ∀ j u, news[j]? = some u → w.cell? (ad.add j) = some u) (h1c : ∀ u ∈ news, u.oneCell' = true)
    (b1 : m ≤ maxLen) (b2 : m * bytes ≤ 140737488355328)
    (hK : ∀ A' c' w', w'.ownsRow base e size (.slice A' m c') m news → w.grownBy w' none → K (a.put o.dst (.slice A' m c')) w') :
    if Region.wanted o (yielded ops a.tmps) = true then Oper.wp P o a w K Q else E := by
  have hw : Region.wanted o (yielded ops a.tmps) = true := by simp [Region.wanted, hg]
  rw [if_pos hw]
  cases A with
  | none =>
    obtain ⟨rfl, rfl⟩ := hA rfl
    obtain rfl : news = [] := List.eq_nil_of_length_eq_zero (by simpa using hn)
    have hrun := run_append_owned_none (P := P) (w := w) base t o.type e i size h1 h2 (.slice none 0 0) 0 [] (World.ownsRow_nil w base e size)
    unfold Oper.wp
    simp [execOp, hop, resolve, invoke, builtin, hs, hx, hrun, Result.andThen]
    exact hK _ _ _ (World.ownsRow_nil w base e size) ⟨rfl, rfl, rfl, Nat.le_refl _, fun _ _ _ => rfl⟩
  | some ad =>
    obtain ⟨v', w', hrun, r1, r2, _⟩ := run_append_own (P := P) w base t o.type e i z size bytes h1 h2 h3 h4 h5 h6 h7 (.slice none 0 0) 0 [] (World.ownsRow_nil w _ e size) ad m c news hn (hc ad rfl) h1c (by omega) (by rw [Nat.zero_add]; exact b2) hbase
    rw [Nat.zero_add, List.nil_append] at r1
    unfold Oper.wp
    simp [execOp, hop, resolve, invoke, builtin, hs, hx, hrun, Result.andThen]
    rcases r1 with ⟨q1, ⟨rfl, rfl⟩ | ⟨g, cap, cur, rfl, q2⟩⟩
    · exact hK _ _ _ ⟨q1, .inl ⟨rfl, rfl⟩⟩ r2
    · exact hK _ _ _ ⟨q1, .inr ⟨g, cap, cur, rfl, q2⟩⟩ r2

theorem bgrown {w w' : World} {row : Option Nat} (h : w.grownBy w' row) (hr : row = none) : (∀ b o, b < w.heap.size → w'.cell? ⟨b, o, none⟩ = w.cell? ⟨b, o, none⟩) ∧ (∀ b o, b < w.heap.size → w'.frozen? ⟨b, o, none⟩ = w.frozen? ⟨b, o, none⟩) :=
  ⟨fun b o hb => World.cell?_of_block (h.block b hb (by rw [hr]; simp)), fun b o hb => World.frozen?_of_block (h.block b hb (by rw [hr]; simp))⟩
theorem vpcs_one {l : List Int} : ∀ u ∈ vpcs l, u.oneCell' = true := by
  intro u hu
  unfold vpcs at hu
  obtain ⟨p, _, rfl⟩ := List.mem_map.1 hu
  rfl

set_option maxRecDepth 100000 in
set_option maxHeartbeats 1000000 in
theorem rCopy_any (F R : Int) (l : List Int) (A : Option Addr) (c : Nat) (w : World) (hlen : l.length ≤ 100000) (hA : RdP w w.heap.size A l c) :
    Calls Tryz.prog 14 #[.agg #[.int .i64 F, .int .i64 R, .slice A l.length c]] w (NewB w F R l) := by
  obtain ⟨i0, hi, hz0, hz1, hz2⟩ := info_parts infoPc
  go_enter Tryz.func14, Tryz.ntmps14
  go_wp2
  have hW : Below w.heap.size w ((w.alloc (.cells #[.int .i64 F, .int .i64 R, .slice A l.length c] 30)).alloc (.cells #[.int .i64 0, .int .i64 0, .slice none 0 0] 30)).drew := (after1 (box1 _ _)).drew
  have hcells := Lib.hid (hA.below hW).cells
  have hnone := Lib.hid hA.1
  clear hA
  have hml : l.length ≤ maxLen := by unfold maxLen; omega
  have hml' : l.length * 1 ≤ 140737488355328 := by omega
  go_region_law (refine step_copy rfl (.const (.slice none 0 0)) (.tmp 6) 24 rfl 41 i0 (.int .i8 0) 1 1 Tryz.underlying24 hi hz0 hz1 hz2 rfl (by decide) rfl (w.heap.size + 2) (by simp) A l.length c (vpcs l) (by simp [Act.eval]) hnone.out (by simp [vpcs_len]) hcells.out vpcs_one hml hml' ?_; intro A' c' w1 hown hgrow; obtain ⟨hcr, hfr⟩ := bgrown hgrow rfl)
  all_goals
    have hown2 := ownsRow_setCell_below (ownsRow_setCell_below (ownsRow_setCell_below hown (a := ⟨w.heap.size + 1, 0, none⟩) (by simp) (.int .i64 F)) (a := ⟨w.heap.size + 1, 1, none⟩) (by simp) (.int .i64 R)) (a := ⟨w.heap.size + 1, 2, none⟩) (by simp) (.slice A' l.length c')
    have hB := (((hW.grown hgrow (by simp; omega) (fun _ e => by cases e)).setCell (p := ⟨w.heap.size + 1, 0, none⟩) (by simp) (.int .i64 F)).setCell (p := ⟨w.heap.size + 1, 1, none⟩) (by simp) (.int .i64 R)).setCell (p := ⟨w.heap.size + 1, 2, none⟩) (by simp) (.slice A' l.length c')
    have HN : NewB w F R l (.returned (.agg #[.int .i64 F, .int .i64 R, .slice A' l.length c'])) (((w1.setCell ⟨w.heap.size + 1, 0, none⟩ (.int .i64 F)).setCell ⟨w.heap.size + 1, 1, none⟩ (.int .i64 R)).setCell ⟨w.heap.size + 1, 2, none⟩ (.slice A' l.length c')) := ⟨_, rfl, hown2.mono (by omega), hB⟩
    have HN := Lib.hid HN
    have m0 : w1.cell? ⟨w.heap.size + 1, 0, none⟩ = some (.int .i64 0) := (hcr _ _ (by simp)).trans (by simp [go_sem])
    have m1 : w1.cell? ⟨w.heap.size + 1, 1, none⟩ = some (.int .i64 0) := (hcr _ _ (by simp)).trans (by simp [go_sem])
    have m2 : w1.cell? ⟨w.heap.size + 1, 2, none⟩ = some (.slice none 0 0) := (hcr _ _ (by simp)).trans (by simp [go_sem])
    clear hown hown2 hB hgrow hcr hfr
    go_wp2
    refine bodyPost_ret (v := .agg #[.int .i64 F, .int .i64 R, .slice A' l.length c']) ?_ rfl HN.out
    simp [results, Tryz.results14, go_sem, m0, m1, m2]

theorem made_zero (n : Nat) : (madeCells #[Value.int .i8 0] n).toList = vpcs (List.replicate n 0) := by
  apply List.ext_getElem
  · simp [madeCells, vpcs]
  · intro j h1 h2
    simp [madeCells, vpcs, vpc, Nat.mod_one]

/-- a piece put into a new board. -/
theorem set_vpcs (l : List Int) (j : Nat) (p : Int) : (vpcs l).set j (.int .i8 p) = vpcs (l.set j p) := by
  unfold vpcs; rw [List.map_set]; rfl

end Go.Proofs.YtelkmdklpcfobaaGreatDoor

/- The program's set of a list of squares, and the reference's set of all squares. -/
namespace Go.Proofs.YtelkmdklpcfobaaGreatDoor
open Go.RowKit

theorem vat_64 {F R a : Int} (h : vat F R a) : 0 ≤ a ∧ a < 64 := by
  have := vsz_mul h.1
  exact ⟨h.2.1, by have := h.2.2; omega⟩

end Go.Proofs.YtelkmdklpcfobaaGreatDoor

/- The reference's list of all squares and its set of all squares. -/
namespace Go.Proofs.YtelkmdklpcfobaaGreatDoor
open Go.RowKit

theorem infoP : (Tryz.prog.info? 59).map (fun i => (i.zero, i.size, i.bytes)) = some (some (.agg #[.int .i64 0, .int .i64 0]), 2, 16) := by kernel_rfl

/-- a slice of so many elements is returned. -/
def SomeLen (m : Int) (e : Ending) : Prop := ∃ A n c, e = .returned (.slice A n c) ∧ (n : Int) = m

theorem sqs_nat (l : List Nat) : sqs (l.map fun i : Nat => (i : Int)) = l := by
  unfold sqs
  rw [List.map_map]
  conv => rhs; rw [← List.map_id l]
  apply List.map_congr_left
  intro a _
  simp

end Go.Proofs.YtelkmdklpcfobaaGreatDoor

/- Plain mathematics of shifted sets; the program's number, with the world that it leaves. -/
namespace Go.Proofs.YtelkmdklpcfobaaGreatDoor
open Go.RowKit

open Classical in
/-- where a square goes. -/
noncomputable def tgt (F R df dr : Int) (i : Nat) : Option Nat := if onb F R ((i : Int) % F + df) ((i : Int) / F + dr) then some (((i : Int) % F + df) + ((i : Int) / F + dr) * F).toNat else none
noncomputable def shl (F R df dr : Int) (l : List Nat) : List Nat := l.filterMap (tgt F R df dr)
theorem shl_yes {F R df dr : Int} {l : List Nat} {i : Nat} (h : onb F R ((i : Int) % F + df) ((i : Int) / F + dr)) : shl F R df dr (l ++ [i]) = shl F R df dr l ++ [(((i : Int) % F + df) + ((i : Int) / F + dr) * F).toNat] := by
  unfold shl
  rw [List.filterMap_append]
  congr 1
  simp [tgt, h]
theorem shl_no {F R df dr : Int} {l : List Nat} {i : Nat} (h : ¬ onb F R ((i : Int) % F + df) ((i : Int) / F + dr)) : shl F R df dr (l ++ [i]) = shl F R df dr l := by
  unfold shl
  rw [List.filterMap_append]
  have : List.filterMap (tgt F R df dr) [i] = [] := by simp [tgt, h]
  rw [this, List.append_nil]
theorem shl_lt {F R df dr : Int} (hv : vsz F R) {l : List Nat} {j : Nat} (h : j ∈ shl F R df dr l) : (j : Int) < F * R := by
  unfold shl at h
  rw [List.mem_filterMap] at h
  obtain ⟨i, _, ht⟩ := h
  unfold tgt at ht
  split at ht
  · rename_i hb
    obtain ⟨a, b, c, d⟩ := hb
    obtain ⟨n0, n1, n2, _, _⟩ := number_bd hv a b c d
    simp at ht
    omega
  · cases ht
theorem shl_64 {F R df dr : Int} (hv : vsz F R) {l : List Nat} : ofL (shl F R df dr l) < 18446744073709551616 := by
  have := ofL_lt (l := shl F R df dr l) (n := 64) (fun i hi => by have := shl_lt hv hi; have := (vsz_mul hv).2; omega)
  simpa using this

/-- a set has squares of the board alone. -/
theorem in_board {X m : Nat} (hX : X < 2 ^ m) {i : Nat} (h : i ∈ listOf X) : i < m := by
  rw [mem_listOf] at h
  rcases Nat.lt_or_ge i m with hl | hl
  · exact hl
  · rw [bit_high hX hl] at h
    exact absurd h.2 (by decide)

theorem andNot_full (X m : Nat) (hX : X < 18446744073709551616) (hm : m ≤ 64) : (bits .andNot .u64 (X : Int) (fullN m : Int) != 0) = !decide (X < 2 ^ m) := by
  have hf : fullN m < 18446744073709551616 := by
    unfold fullN
    have : 2 ^ m ≤ 2 ^ 64 := Nat.pow_le_pow_right (by decide) hm
    simp at this
    omega
  rw [u64_andNot_nat X (fullN m) hX hf]
  have e : 18446744073709551615 - fullN m = 2 ^ 64 - (fullN m + 1) := by omega
  have hb : ∀ j, (X &&& (18446744073709551615 - fullN m)).testBit j = (X.testBit j && (decide (j < 64) && decide (m ≤ j))) := by
    intro j
    rw [e, Nat.testBit_and, Nat.testBit_two_pow_sub_succ (by simpa using hf)]
    unfold fullN
    rw [Nat.testBit_two_pow_sub_one]
    by_cases h : j < m
    · have h' : ¬ m ≤ j := by omega
      simp [h, h']
    · have h' : m ≤ j := by omega
      simp [h, h']
  by_cases h : X < 2 ^ m
  · have : X &&& (18446744073709551615 - fullN m) = 0 := by
      apply Nat.eq_of_testBit_eq
      intro j
      rw [hb]
      by_cases hj : m ≤ j
      · rw [bit_high h hj]; simp
      · simp [hj]
    simp [this, h]
  · have : X &&& (18446744073709551615 - fullN m) ≠ 0 := by
      intro h0
      apply h
      apply lt_of_bits
      intro j hj
      have := hb j
      rw [h0] at this
      simp at this
      by_cases h64 : j < 64
      · cases hx : X.testBit j
        · rfl
        · exact absurd (this hx h64) (by omega)
      · exact bit_high (n := 64) (by simpa using hX) (by omega)
    simp [h]
    omega

set_option maxRecDepth 100000 in
set_option maxHeartbeats 400000 in
theorem number_ex (F R f r : Int) (hv : vsz F R) (h : onb F R f r) (w : World) :
    Calls Tryz.prog 137 #[.agg #[.int .i64 F, .int .i64 R], .int .i64 f, .int .i64 r] w fun e w' => e = .returned (.int .i64 (f + r * F)) ∧ w.alloc (.cells #[.int .i64 F, .int .i64 R] 23) = w' := by
  obtain ⟨m0, m1⟩ := vsz_mul hv
  obtain ⟨a, b, c, d⟩ := h
  obtain ⟨n0, n1, n2, n3, n4⟩ := number_bd hv a b c d
  clear n3 n4
  go_enter Tryz.func137, Tryz.ntmps137
  go_wp2
  go_ret
  exact ⟨rfl, rfl⟩

end Go.Proofs.YtelkmdklpcfobaaGreatDoor

/- The reference's test whether a set is one of a board. -/
namespace Go.Proofs.YtelkmdklpcfobaaGreatDoor
open Go.RowKit Go.Sort Go.BigFrame

theorem RdI.own' {w : World} {B e : Nat} {v : Value} {l : List Nat} (h : w.ownsRow B e 1 v l.length (vnats l)) : ∃ A c, v = .slice A l.length c ∧ l.length ≤ c ∧ RdI w w.heap.size A (l.map fun i : Nat => (i : Int)) := by
  obtain ⟨A, c, hv, hA⟩ := RdI.own h
  refine ⟨A, c, hv, ?_, hA⟩
  obtain ⟨hl, ⟨rfl, h0⟩ | ⟨g, cap, cur, rfl, hg, hh, hn, hc, hs, ht⟩⟩ := h
  · omega
  · have : cap = c := by injection hv
    omega

theorem last_board (X m : Nat) (hX : X < 18446744073709551616) (n : Nat) (hn : (listOf X).length = n + 1) : X < 2 ^ m ↔ ((listOf X)[n]?.getD 0) < m := by
  have hl : n < (listOf X).length := by omega
  rw [List.getElem?_eq_getElem hl]
  constructor
  · intro h
    exact in_board h (List.getElem_mem hl)
  · intro h
    have hs : (listOf X).Pairwise (· < ·) := List.Pairwise.filter _ List.pairwise_lt_range
    apply lt_of_bits
    intro j hj
    by_cases h64 : j < 64
    · cases hb : X.testBit j
      · rfl
      · have hm : j ∈ listOf X := mem_listOf.2 ⟨h64, hb⟩
        obtain ⟨i, hi, he⟩ := List.mem_iff_getElem.1 hm
        simp at h
        rcases Nat.lt_or_ge i n with hin | hin
        · have := List.pairwise_iff_getElem.1 hs i n hi hl hin
          omega
        · have : i = n := by omega
          subst this
          omega
    · exact bit_high (n := 64) (by simpa using hX) (by omega)

end Go.Proofs.YtelkmdklpcfobaaGreatDoor

/- Boards: the document's lists of the squares of a piece and of a side, and its sum of values. -/
namespace Go.Proofs.YtelkmdklpcfobaaGreatDoor
open Go.RowKit

/-- the places among the first k whose piece is such. -/
def idxTo (P : Int → Bool) (l : List Int) (k : Nat) : List Nat := (List.range k).filter (fun i => P (l[i]?.getD 0))
def idx (P : Int → Bool) (l : List Int) : List Nat := idxTo P l l.length
theorem idxTo_yes (P : Int → Bool) (l : List Int) (k : Nat) (h : P (l[k]?.getD 0) = true) : idxTo P l (k + 1) = idxTo P l k ++ [k] := by
  unfold idxTo; rw [List.range_succ, List.filter_append]; simp [h]
theorem idxTo_no (P : Int → Bool) (l : List Int) (k : Nat) (h : P (l[k]?.getD 0) = false) : idxTo P l (k + 1) = idxTo P l k := by
  unfold idxTo; rw [List.range_succ, List.filter_append]; simp [h]
theorem idxTo_le (P : Int → Bool) (l : List Int) (k : Nat) : (idxTo P l k).length ≤ k := by
  unfold idxTo
  have := List.length_filter_le (fun i => P (l[i]?.getD 0)) (List.range k)
  simpa using this
theorem idx_lt {P : Int → Bool} {l : List Int} {i : Nat} (h : i ∈ idx P l) : i < l.length ∧ P (l[i]?.getD 0) = true := by
  unfold idx idxTo at h
  rw [List.mem_filter, List.mem_range] at h
  exact h
def eqP (p x : Int) : Bool := x == p
def sgnP (p : Int) : Int := if p < 0 then -1 else if 0 < p then 1 else 0
def sdP (s x : Int) : Bool := sgnP x == s

theorem rSide_any (p : Int) (h : okP p) (w : World) : Calls Tryz.prog 145 #[.int .i8 p] w fun e w' => e = .returned (.int .i64 (sgnP p)) ∧ w = w' := by
  obtain ⟨h0, h1⟩ := h
  by_cases hn : p < 0
  · obtain ⟨i, rfl⟩ : ∃ i : Nat, p = -(i : Int) := ⟨(-p).toNat, by omega⟩
    have e : sgnP (-(i : Int)) = -1 := by unfold sgnP; rw [if_pos hn]
    rw [e]
    exact rSide_neg i (by omega) (by omega) w
  · by_cases hp : 0 < p
    · obtain ⟨i, rfl⟩ : ∃ i : Nat, p = (i : Int) := ⟨p.toNat, by omega⟩
      have e : sgnP (i : Int) = 1 := by unfold sgnP; rw [if_neg hn, if_pos hp]
      rw [e]
      exact rSide_pos i (by omega) (by omega) w
    · obtain rfl : p = 0 := by omega
      exact rSide_zero w
/-- the value of a piece. -/
def valP (p : Int) : Int := if p = 0 then 0 else vlu (p.natAbs - 1)
theorem vlu_le : ∀ i, vlu i ≤ 9 := by
  intro i
  by_cases h : i < 15
  · exact (show ∀ i, i < 15 → vlu i ≤ 9 by decide +kernel) i h
  · unfold vlu; rw [List.getD_eq_getElem?_getD, List.getElem?_eq_none (by simp; omega)]; simp
theorem valP_bd (p : Int) : 0 ≤ valP p ∧ valP p ≤ 9 := by
  unfold valP
  have := vlu_le (p.natAbs - 1)
  split <;> omega
set_option maxRecDepth 100000 in
set_option maxHeartbeats 1000000 in
theorem rList_any (F R : Int) (l : List Int) (A : Option Addr) (c : Nat) (p : Int) (w : World) (hlen : l.length ≤ 100000) (hA : RdP w w.heap.size A l c) :
    Calls Tryz.prog 78 #[.agg #[.int .i64 F, .int .i64 R, .slice A l.length c], .int .i8 p] w fun e w' => ∃ v, e = .returned v ∧ w'.ownsRow w.heap.size 3 1 v (idx (eqP p) l).length (vnats (idx (eqP p) l)) ∧ Below w.heap.size w w' := by
  obtain ⟨i0, hi, hz0, hz1, hz2⟩ := info_parts ints3
  have W0 : Below w.heap.size w (w.alloc (.cells #[.int .i64 F, .int .i64 R, .slice A l.length c] 30)) := box1 _ _
  have A1 := (hA.below W0)
  clear hA
  go_enter Tryz.func78, Tryz.ntmps78
  go_wp2
  go_loopw [5, 6] (fun v i wr => ∃ k : Nat, k ≤ l.length ∧ i = .int .i64 k ∧ wr.ownsRow (w.heap.size + 1) 3 1 v (idxTo (eqP p) l k).length (vnats (idxTo (eqP p) l k)) ∧ Below (w.heap.size + 1) (w.alloc (.cells #[.int .i64 F, .int .i64 R, .slice A l.length c] 30)) wr) (fun _ i _ => l.length - (intOf i).toNat)
  case atStart => exact ⟨0, by omega, rfl, World.ownsRow_nil _ _ _ _, Below.refl _ _⟩
  case round =>
    obtain ⟨k, hk, rfl, hown, hB⟩ := hrel
    have s1 := hB.size
    simp at s1
    have hc2 := hB.cell (p := ⟨w.heap.size, 2, none⟩) (by simp)
    simp [go_sem] at hc2
    by_cases hlt : k < l.length
    · obtain ⟨ad, rfl, hb, hc⟩ := (A1.below (hB.mono (by omega))).at_ hlt
      have hle := idxTo_le (eqP p) l k
      clear A1
      cases hbq : eqP p (l[k]?.getD 0)
      · have HS := Lib.hid (idxTo_no (eqP p) l k hbq)
        have hq : (l[k]?.getD 0 == p) = false := hbq
        generalize hn : l[k]?.getD 0 = n at *
        clear hn hbq
        go_wp2
        go_roundw
        case rel => exact ⟨k + 1, by omega, by go_num, by rw [HS.out]; exact hown, hB⟩
        case measure => simp [intOf]; omega
      · have HS := Lib.hid (idxTo_yes (eqP p) l k hbq)
        have hq : (l[k]?.getD 0 == p) = true := hbq
        have HL : Hid ((idxTo (eqP p) l (k + 1)).length = (idxTo (eqP p) l k).length + 1) := Lib.hid (by rw [HS.out]; simp)
        generalize hn : l[k]?.getD 0 = n at *
        clear hn hbq
        generalize idxTo (eqP p) l k = q at *
        go_wp2_with (at_builtin; (refine wpList_append_own _ rfl _ _ 96 rfl (w.heap.size + 1) 3 i0 (.int .i64 0) 1 8 Tryz.underlying96 hi hz0 hz1 hz2 rfl (by decide) _ _ _ rfl (hown.alloc _) ⟨wr.heap.size, 0, none⟩ 1 1 [.int .i64 (k : Int)] rfl rfl ?c1 ?c2 ?c3 ?c4 ?c5 ?_))
        case c1 =>
          intro j u hj
          match j, hj with
          | 0, hj => simp at hj; subst hj; simp [Addr.add]
        case c2 => intro u hu; simp at hu; subst hu; rfl
        case c3 => unfold maxLen; omega
        case c4 => omega
        case c5 => simp; omega
        intro v' w2 hown' hgrow _
        go_wp2
        go_roundw
        case rel =>
          refine ⟨k + 1, by omega, by go_num, ?_, ?_⟩
          · rw [HL.out, HS.out, vnats_snoc]; exact hown'
          · exact (hB.alloc (by omega) _).grown hgrow (by simp; omega) (fun r e => (World.ownsRow.lt hown r e).1)
        case measure => simp [intOf]; omega
    · have hkl : k = l.length := by omega
      subst hkl
      go_wp2
      go_ret
      exact ⟨_, rfl, World.ownsRow.mono hown (by omega), W0.trans (hB.mono (by omega))⟩

set_option maxRecDepth 100000 in
set_option maxHeartbeats 1000000 in
theorem rSideL_any (F R : Int) (l : List Int) (A : Option Addr) (c : Nat) (s : Int) (w : World) (hlen : l.length ≤ 100000) (hp : ∀ j, j < l.length → okP (l[j]?.getD 0)) (hA : RdP w w.heap.size A l c) :
    Calls Tryz.prog 111 #[.agg #[.int .i64 F, .int .i64 R, .slice A l.length c], .int .i64 s] w fun e w' => ∃ v, e = .returned v ∧ w'.ownsRow w.heap.size 3 1 v (idx (sdP s) l).length (vnats (idx (sdP s) l)) ∧ Below w.heap.size w w' := by
  have HP := Lib.hid hp
  clear hp
  obtain ⟨i0, hi, hz0, hz1, hz2⟩ := info_parts ints3
  have W0 : Below w.heap.size w (w.alloc (.cells #[.int .i64 F, .int .i64 R, .slice A l.length c] 30)) := box1 _ _
  have A1 := (hA.below W0)
  clear hA
  go_enter Tryz.func111, Tryz.ntmps111
  go_wp2
  go_loopw [5, 6] (fun v i wr => ∃ k : Nat, k ≤ l.length ∧ i = .int .i64 k ∧ wr.ownsRow (w.heap.size + 1) 3 1 v (idxTo (sdP s) l k).length (vnats (idxTo (sdP s) l k)) ∧ Below (w.heap.size + 1) (w.alloc (.cells #[.int .i64 F, .int .i64 R, .slice A l.length c] 30)) wr) (fun _ i _ => l.length - (intOf i).toNat)
  case atStart => exact ⟨0, by omega, rfl, World.ownsRow_nil _ _ _ _, Below.refl _ _⟩
  case round =>
    obtain ⟨k, hk, rfl, hown, hB⟩ := hrel
    have s1 := hB.size
    simp at s1
    have hc2 := hB.cell (p := ⟨w.heap.size, 2, none⟩) (by simp)
    simp [go_sem] at hc2
    by_cases hlt : k < l.length
    · obtain ⟨ad, rfl, hb, hc⟩ := (A1.below (hB.mono (by omega))).at_ hlt
      have hle := idxTo_le (sdP s) l k
      clear A1
      have hV := HP.out k hlt
      cases hbq : sdP s (l[k]?.getD 0)
      · have HS := Lib.hid (idxTo_no (sdP s) l k hbq)
        have hq : (sgnP (l[k]?.getD 0) == s) = false := hbq
        generalize hn : l[k]?.getD 0 = n at *
        clear hn hbq
        go_wp2_with fail
        refine (rSide_any n hV _).mono ?_
        rintro e w2 ⟨rfl, rfl⟩
        go_wp2
        go_roundw
        case rel => exact ⟨k + 1, by omega, by go_num, by rw [HS.out]; exact hown, hB⟩
        case measure => simp [intOf]; omega
      · have HS := Lib.hid (idxTo_yes (sdP s) l k hbq)
        have hq : (sgnP (l[k]?.getD 0) == s) = true := hbq
        have HL : Hid ((idxTo (sdP s) l (k + 1)).length = (idxTo (sdP s) l k).length + 1) := Lib.hid (by rw [HS.out]; simp)
        generalize hn : l[k]?.getD 0 = n at *
        clear hn hbq
        generalize idxTo (sdP s) l k = q at *
        go_wp2_with fail
        refine (rSide_any n hV _).mono ?_
        rintro e w1 ⟨rfl, rfl⟩
        go_wp2_with (at_builtin; (refine wpList_append_own _ rfl _ _ 96 rfl (w.heap.size + 1) 3 i0 (.int .i64 0) 1 8 Tryz.underlying96 hi hz0 hz1 hz2 rfl (by decide) _ _ _ rfl (hown.alloc _) ⟨wr.heap.size, 0, none⟩ 1 1 [.int .i64 (k : Int)] rfl rfl ?c1 ?c2 ?c3 ?c4 ?c5 ?_))
        case c1 =>
          intro j u hj
          match j, hj with
          | 0, hj => simp at hj; subst hj; simp [Addr.add]
        case c2 => intro u hu; simp at hu; subst hu; rfl
        case c3 => unfold maxLen; omega
        case c4 => omega
        case c5 => simp; omega
        intro v' w2 hown' hgrow _
        go_wp2
        go_roundw
        case rel =>
          refine ⟨k + 1, by omega, by go_num, ?_, ?_⟩
          · rw [HL.out, HS.out, vnats_snoc]; exact hown'
          · exact (hB.alloc (by omega) _).grown hgrow (by simp; omega) (fun r e => (World.ownsRow.lt hown r e).1)
        case measure => simp [intOf]; omega
    · have hkl : k = l.length := by omega
      subst hkl
      go_wp2
      go_ret
      exact ⟨_, rfl, World.ownsRow.mono hown (by omega), W0.trans (hB.mono (by omega))⟩

/-- the values of the pieces on so many of the squares. -/
def sumV (l : List Int) (q : List Nat) : Int := (q.map fun i => valP (l[i]?.getD 0)).sum
theorem sumV_succ (l : List Int) (q : List Nat) (k : Nat) (h : k < q.length) : sumV l (q.take (k + 1)) = sumV l (q.take k) + valP (l[q[k]?.getD 0]?.getD 0) := by
  unfold sumV
  rw [List.take_succ_eq_append_getElem h, List.map_append, List.sum_append, List.getElem?_eq_getElem h]
  simp
theorem sumV_bd (l : List Int) (q : List Nat) (k : Nat) (hk : k ≤ q.length) : 0 ≤ sumV l (q.take k) ∧ sumV l (q.take k) ≤ 9 * k := by
  induction k with
  | zero => simp [sumV]
  | succ k ih =>
    have := ih (by omega)
    rw [sumV_succ l q k (by omega)]
    have := valP_bd (l[q[k]?.getD 0]?.getD 0)
    omega
def matP (s : Int) (l : List Int) : Int := sumV l (idx (sdP s) l)

end Go.Proofs.YtelkmdklpcfobaaGreatDoor
