/- Attacks, by the document's own functions: which boards are orthodox, sides, whether a list has a number. -/
import Derived.Test.YtelkmdklpcfobaaGreatDoorBdD
import Derived.Deep.AppendLies
import Derived.Deep.RegionHeld3
import Derived.Deep.RegionLaw
import Derived.Deep.DrawnRows
import Derived.Sort.AtCall

namespace Go.Proofs.YtelkmdklpcfobaaGreatDoor
open Go.RowKit

/-- a square without a piece, or with an orthodox one. -/
def orB (p : Int) : Bool := (p == 0) || orthB p
def orA (l : List Int) : Bool := l.all orB
theorem orA_yes {l : List Int} (h : ∀ j, j < l.length → orB (l[j]?.getD 0) = true) : orA l = true := by
  unfold orA
  rw [List.all_eq_true]
  intro x hx
  obtain ⟨j, hj, rfl⟩ := List.getElem_of_mem hx
  have := h j hj
  rwa [List.getElem?_eq_getElem hj] at this
theorem orA_no {l : List Int} {k : Nat} (hk : k < l.length) (h : orB (l[k]?.getD 0) = false) : orA l = false := by
  unfold orA
  rw [List.all_eq_false]
  refine ⟨l[k], List.getElem_mem hk, ?_⟩
  rw [List.getElem?_eq_getElem hk] at h
  simpa using h

set_option maxRecDepth 100000 in
set_option maxHeartbeats 1000000 in
theorem rOrth_is (F R : Int) (l : List Int) (A : Option Addr) (c : Nat) (h : vbd F R l) (w : World) (hA : RdP w w.heap.size A l c) :
    Calls Tryz.prog 41 #[.agg #[.int .i64 F, .int .i64 R, .slice A l.length c]] w fun e w' => e = .returned (.bool (orA l)) ∧ Below w.heap.size w w' := by
  have HV := Lib.hid (rbValid_yes F R l A c h)
  have hp := h.2.2
  have HP := Lib.hid hp
  have hlen : l.length ≤ 64 := by have := (vsz_mul h.1).2; have := h.2.1; omega
  clear h hp
  go_enter Tryz.func41, Tryz.ntmps41
  go_wp2_with fail
  refine (HV.out _ ((hA.below (box1 _ _)).grow (by simp))).mono ?_
  rintro e w1 ⟨rfl, hb⟩
  have s1 := hb.size
  simp at s1
  have hc2 := hb.cell (p := ⟨w.heap.size, 2, none⟩) (by simp)
  simp [go_sem] at hc2
  have hB1 := after1 hb
  have A1 := hA.below hB1
  clear hA hb
  go_wp2
  go_loopw [3] (fun i wr => ∃ k : Nat, k ≤ l.length ∧ i = .int .i64 k ∧ Hid (∀ j, j < k → orB (l[j]?.getD 0) = true) ∧ Below w1.heap.size w1 wr) (fun i _ => l.length - (intOf i).toNat)
  case atStart => exact ⟨0, by omega, rfl, Lib.hid (fun j hj => by omega), Below.refl _ _⟩
  case round =>
    obtain ⟨k, hk, rfl, HO, hB⟩ := hrel
    have s2 := hB.size
    have d2 := (hB.cell (p := ⟨w.heap.size, 2, none⟩) (by simp; omega)).trans hc2
    by_cases hlt : k < l.length
    · obtain ⟨ad, rfl, hb, hc⟩ := (A1.below (hB.mono (by omega))).at_ hlt
      have hV := HP.out k hlt
      have hno : orB (l[k]?.getD 0) = false → Hid (orA l = false) := fun h => Lib.hid (orA_no hlt h)
      have hyes : orB (l[k]?.getD 0) = true → Hid (∀ j, j < k + 1 → orB (l[j]?.getD 0) = true) := fun h => Lib.hid (fun j hj => by
        by_cases e : j = k
        · rw [e]; exact h
        · exact HO.out j (by omega))
      have HNO := Lib.hid hno
      have HYES := Lib.hid hyes
      clear A1 hno hyes
      generalize hn : l[k]?.getD 0 = n at *
      clear hn
      unfold okP at hV
      by_cases h0 : n = 0
      · have hz : (n != 0) = false := by simp [h0]
        have HK := HYES.out (by rw [h0]; rfl)
        clear h0
        go_wp2
        go_roundw
        case rel => exact ⟨k + 1, by omega, by go_num, HK, hB⟩
        case measure => simp [intOf]; omega
      · have hz : (n != 0) = true := bne_iff_ne.2 h0
        have ho : orB n = orthB n := by unfold orB; simp [h0]
        rw [ho] at HNO HYES
        have HR := Lib.hid (rorth_any n (by omega))
        cases hb : orthB n
        · rw [hb] at HR
          have HK := HNO.out hb
          clear h0 hb ho
          go_wp2_with fail
          refine (HR.out _).mono ?_
          rintro e w2 ⟨rfl, rfl⟩
          go_wp2
          go_ret
          exact ⟨by rw [HK.out]; rfl, chain hB1 hB⟩
        · rw [hb] at HR
          have HK := HYES.out hb
          clear h0 hb ho
          go_wp2_with fail
          refine (HR.out _).mono ?_
          rintro e w2 ⟨rfl, rfl⟩
          go_wp2
          go_roundw
          case rel => exact ⟨k + 1, by omega, by go_num, HK, hB⟩
          case measure => simp [intOf]; omega
    · have hkl : k = l.length := by omega
      subst hkl
      have HK := Lib.hid (orA_yes HO.out)
      go_wp2
      go_ret
      exact ⟨by rw [HK.out]; rfl, chain hB1 hB⟩

set_option maxRecDepth 100000 in
set_option maxHeartbeats 1000000 in
theorem rOrth_no (F R : Int) (l : List Int) (A : Option Addr) (c : Nat) (h : ¬ vbd F R l) (w : World) (hlen : l.length ≤ 100000) (hA : RdP w w.heap.size A l c) :
    Calls Tryz.prog 41 #[.agg #[.int .i64 F, .int .i64 R, .slice A l.length c]] w fun e w' => e = .returned (.bool false) ∧ Below w.heap.size w w' := by
  have HV := Lib.hid (fun w hA => rbValid_no F R l A c h w hlen hA)
  clear h
  go_enter Tryz.func41, Tryz.ntmps41
  go_wp2_with fail
  refine (HV.out _ ((hA.below (box1 _ _)).grow (by simp))).mono ?_
  rintro e w1 ⟨rfl, hb⟩
  go_wp2
  go_ret
  exact ⟨rfl, after1 hb⟩

/-- whether a list has a number. -/
def hasL (l : List Int) (n : Int) : Bool := l.contains n
def sdN (b : Bool) : Int := if b then -1 else 1
theorem rside_any (b : Bool) (w : World) : Calls Tryz.prog 79 #[.bool b] w fun e w' => e = .returned (.int .i64 (sdN b)) ∧ w = w' := by
  cases b
  all_goals
    go_enter Tryz.func79, Tryz.ntmps79
    go_wp2
    go_ret
    exact ⟨rfl, rfl⟩

set_option maxRecDepth 100000 in
set_option maxHeartbeats 1000000 in
/-- whether a list has a number. -/
theorem rhas_any (l : List Int) (n : Int) (A : Option Addr) (c : Nat) (w : World) (hlen : l.length ≤ 100000) (hA : RdI w w.heap.size A l) :
    Calls Tryz.prog 147 #[.slice A l.length c, .int .i64 n] w fun e w' => e = .returned (.bool (hasL l n)) ∧ w = w' := by
  go_enter Tryz.func147, Tryz.ntmps147
  go_wp2
  go_loop [5] (fun i => ∃ k : Nat, k ≤ l.length ∧ i = .int .i64 k ∧ Hid (∀ j, j < k → l[j]?.getD 0 ≠ n)) (fun i => l.length - (intOf i).toNat)
  case atStart => exact ⟨0, by omega, rfl, Lib.hid (fun j hj => by omega)⟩
  case round =>
    obtain ⟨k, hk, rfl, HO⟩ := hrel
    by_cases hlt : k < l.length
    · obtain ⟨ad, rfl, hb, hc⟩ := hA.at_ hlt
      have hm : l[k]?.getD 0 ∈ l := by rw [List.getElem?_eq_getElem hlt]; exact List.getElem_mem hlt
      have HM := Lib.hid hm
      clear hA hm
      by_cases he : l[k]?.getD 0 = n
      · have h1 : (l[k]?.getD 0 == n) = true := by simp [he]
        have HC : Hid (hasL l n = true) := Lib.hid (by unfold hasL; rw [List.contains_iff_mem, ← he]; exact HM.out)
        clear he
        generalize l[k]?.getD 0 = x at *
        go_wp2
        go_ret
        exact ⟨by rw [HC.out]; rfl, rfl⟩
      · have h1 : (l[k]?.getD 0 == n) = false := by simp [he]
        have HK : Hid (∀ j, j < k + 1 → l[j]?.getD 0 ≠ n) := Lib.hid (fun j hj => by
          by_cases e : j = k
          · rw [e]; exact he
          · exact HO.out j (by omega))
        clear he
        generalize l[k]?.getD 0 = x at *
        go_wp2
        go_round
        case rel => exact ⟨k + 1, by omega, by go_num, HK⟩
        case measure => simp [intOf]; omega
    · have hkl : k = l.length := by omega
      subst hkl
      have HC : Hid (hasL l n = false) := Lib.hid (by
        unfold hasL
        rw [← Bool.not_eq_true, List.contains_iff_mem]
        intro hm
        obtain ⟨j, hj, rfl⟩ := List.getElem_of_mem hm
        exact HO.out j hj (by rw [List.getElem?_eq_getElem hj]; rfl))
      go_wp2
      go_ret
      exact ⟨by rw [HC.out]; rfl, rfl⟩

end Go.Proofs.YtelkmdklpcfobaaGreatDoor

/- Attacks, by the document's own functions: the set of occupied squares. -/
namespace Go.Proofs.YtelkmdklpcfobaaGreatDoor
open Go.RowKit

/-- 'append(v, xs...)' as a step of a region that draws its order, v a row of the call's own, whatever xs is. -/
theorem step_join {P : Program} {ops : Array Oper} {o : Oper} {a : Act} {w : World} {K : Act → World → Prop} {Q : Exit → Act → World → Prop} {E : Prop}
    (hg : o.guard = none) (s x : Operand) (t : TypeId) (hop : o.op = Op.call { callee := Callee.builtin Builtin.append, args := #[s, x], argTypes := #[t, t] })
    (e : TypeId) (i : TypeInfo) (z : Value) (size bytes : Nat) (h1 : P.underlying t = some (.slice e)) (h2 : P.info? e = some i) (h3 : i.zero = some z) (h4 : i.size = size) (h5 : i.bytes = bytes) (h6 : z.cells.size = size) (h7 : 0 < size)
    (base : Nat) (v : Value) (n : Nat) (olds : List Value) (hs : a.eval s = v) (hown : w.ownsRow base e size v n olds) (hbase : base ≤ w.heap.size)
    (A : Option Addr) (m c : Nat) (news : List Value) (hx : a.eval x = .slice A m c) (hA : A = none → m = 0 ∧ c = 0) (hn : news.length = m * size) (hc : ∀ ad, A = some ad → ∀ j u, news[j]? = some u → w.cell? (ad.add j) = some u) (h1c : ∀ u ∈ news, u.oneCell' = true)
    (b1 : n + m ≤ maxLen) (b2 : (n + m) * bytes ≤ 140737488355328)
    (hK : ∀ A' c' w', w'.ownsRow base e size (.slice A' (n + m) c') (n + m) (olds ++ news) → w.grownBy w' v.ownBlock → K (a.put o.dst (.slice A' (n + m) c')) w') :
    if Region.wanted o (yielded ops a.tmps) = true then Oper.wp P o a w K Q else E := by
  have hw : Region.wanted o (yielded ops a.tmps) = true := by simp [Region.wanted, hg]
  rw [if_pos hw]
  cases A with
  | none =>
    obtain ⟨rfl, rfl⟩ := hA rfl
    obtain rfl : news = [] := List.eq_nil_of_length_eq_zero (by simpa using hn)
    have hrun := run_append_owned_none (P := P) (w := w) base t o.type e i size h1 h2 v n olds hown
    unfold Oper.wp
    simp [execOp, hop, resolve, invoke, builtin, hs, hx, hrun, Result.andThen]
    have hh := hown
    rcases hh with ⟨q1, ⟨rfl, rfl⟩ | ⟨g, cap, cur, rfl, q2⟩⟩
    · exact hK _ _ _ (by simpa using hown) ⟨rfl, rfl, rfl, Nat.le_refl _, fun _ _ _ => rfl⟩
    · exact hK _ _ _ (by simpa using hown) ⟨rfl, rfl, rfl, Nat.le_refl _, fun _ _ _ => rfl⟩
  | some ad =>
    obtain ⟨v', w', hrun, r1, r2, _⟩ := run_append_own (P := P) w base t o.type e i z size bytes h1 h2 h3 h4 h5 h6 h7 v n olds hown ad m c news hn (hc ad rfl) h1c b1 b2 hbase
    unfold Oper.wp
    simp [execOp, hop, resolve, invoke, builtin, hs, hx, hrun, Result.andThen]
    have hh := r1
    rcases hh with ⟨q1, ⟨rfl, h0⟩ | ⟨g, cap, cur, rfl, q2⟩⟩
    · rw [← h0]
      have := hK none 0 w' (by rw [h0]; rw [h0] at r1; exact r1) r2
      rw [h0] at this ⊢
      exact this
    · exact hK _ _ _ r1 r2

/-- a slice to be appended. -/
def SrcI (w : World) (A : Option Addr) (l : List Nat) (c : Nat) : Prop := (A = none → l.length = 0 ∧ c = 0) ∧ ∀ ad, A = some ad → ad.block < w.heap.size ∧ ∀ j u, (vnats l)[j]? = some u → w.cell? (ad.add j) = some u
theorem SrcI.below {w w' : World} {A : Option Addr} {l : List Nat} {c : Nat} (h : SrcI w A l c) (hb : Below w.heap.size w w') : SrcI w' A l c :=
  ⟨h.1, fun ad e => ⟨Nat.lt_of_lt_of_le (h.2 ad e).1 hb.size, fun j u hu => (hb.cell (by rw [blk_add]; exact (h.2 ad e).1)).trans ((h.2 ad e).2 j u hu)⟩⟩
theorem SrcI.own {w : World} {B e : Nat} {v : Value} {l : List Nat} (h : w.ownsRow B e 1 v l.length (vnats l)) : ∃ A c, v = .slice A l.length c ∧ SrcI w A l c := by
  have h' := h
  obtain ⟨hl, ⟨rfl, h0⟩ | ⟨g, cap, cur, rfl, hg, hh, hn, hc, hs, ht⟩⟩ := h
  · exact ⟨none, 0, by rw [h0], fun _ => ⟨h0, rfl⟩, fun ad e => by cases e⟩
  · refine ⟨some ⟨g, 0, none⟩, cap, rfl, (fun h => by cases h), fun ad e => ?_⟩
    cases e
    exact ⟨(Array.getElem?_eq_some_iff.1 hh).1, fun j u hu => World.ownsRow.cells h' rfl j u hu⟩
theorem grown_below {w w' : World} (h : w.grownBy w' none) : Below w.heap.size w w' := ⟨h.os, h.tape, h.output, h.size, fun k hk => h.block k hk (by simp)⟩
theorem vnats_one {l : List Nat} : ∀ u ∈ vnats l, u.oneCell' = true := by
  intro u hu
  unfold vnats vnat at hu
  obtain ⟨p, _, rfl⟩ := List.mem_map.1 hu
  rfl

theorem cBo {w w' : World} {a : Addr} {v : Value} (hb : Below w.heap.size w w') (h : w.cell? a = some v) : w'.cell? a = some v := (hb.cell (World.block_lt_of_cell? w _ h)).trans h
theorem rdBo {w w' : World} {A : Option Addr} {l : List Int} {c : Nat} (hb : Below w.heap.size w w') (h : RdP w w.heap.size A l c) : RdP w' w'.heap.size A l c := (h.below hb).grow hb.size
def St (w : World) (A : Option Addr) (l : List Int) (c : Nat) (W : World) : Prop := RdP W w.heap.size A l c ∧ Below w.heap.size w W ∧ w.heap.size + 1 ≤ W.heap.size
theorem keepS2 {w W W' : World} {A : Option Addr} {l : List Int} {c : Nat} {v0 v1 v2 : Value} (h : W.cell? ⟨w.heap.size, 0, none⟩ = some v0 ∧ W.cell? ⟨w.heap.size, 1, none⟩ = some v1 ∧ W.cell? ⟨w.heap.size, 2, none⟩ = some v2 ∧ St w A l c W) (hb : Below (w.heap.size + 1) W W') :
    W'.cell? ⟨w.heap.size, 0, none⟩ = some v0 ∧ W'.cell? ⟨w.heap.size, 1, none⟩ = some v1 ∧ W'.cell? ⟨w.heap.size, 2, none⟩ = some v2 ∧ St w A l c W' := by
  obtain ⟨h0, h1, h2, hR, hB, hs⟩ := h
  exact ⟨(hb.cell (p := ⟨w.heap.size, 0, none⟩) (by simp)).trans h0, (hb.cell (p := ⟨w.heap.size, 1, none⟩) (by simp)).trans h1, (hb.cell (p := ⟨w.heap.size, 2, none⟩) (by simp)).trans h2, hR.below (hb.mono (by omega)), hB.trans (hb.mono (by omega)), Nat.le_trans hs hb.size⟩
theorem keepS {w W W' : World} {A : Option Addr} {l : List Int} {c : Nat} {v0 v1 v2 : Value} (h : W.cell? ⟨w.heap.size, 0, none⟩ = some v0 ∧ W.cell? ⟨w.heap.size, 1, none⟩ = some v1 ∧ W.cell? ⟨w.heap.size, 2, none⟩ = some v2 ∧ St w A l c W) (hb : Below W.heap.size W W') :
    W'.cell? ⟨w.heap.size, 0, none⟩ = some v0 ∧ W'.cell? ⟨w.heap.size, 1, none⟩ = some v1 ∧ W'.cell? ⟨w.heap.size, 2, none⟩ = some v2 ∧ St w A l c W' := keepS2 h (hb.mono h.2.2.2.2.2)
theorem rdS {w W : World} {A : Option Addr} {l : List Int} {c : Nat} {a b d : Prop} (h : a ∧ b ∧ d ∧ St w A l c W) : RdP W W.heap.size A l c := h.2.2.2.1.grow (by have := h.2.2.2.2.2; omega)
theorem szS {w W : World} {A : Option Addr} {l : List Int} {c : Nat} {a b d : Prop} (h : a ∧ b ∧ d ∧ St w A l c W) : w.heap.size + 1 ≤ W.heap.size := h.2.2.2.2.2
theorem joinB {W W' : World} {b e n : Nat} {v : Value} {xs : List Value} (ho : W.ownsRow b e 1 v n xs) (hg : W.grownBy W' v.ownBlock) (hb : b ≤ W.heap.size) : Below b W W' := (Below.refl _ _).grown hg hb (fun r e => (World.ownsRow.lt ho r e).1)
theorem idx_len (P : Int → Bool) (l : List Int) : (idx P l).length ≤ l.length := by
  unfold idx idxTo
  have := List.length_filter_le (fun i => P (l[i]?.getD 0)) (List.range l.length)
  simpa using this
/-- the set of a row's squares. -/
theorem refOfO (l : List Nat) (B n : Nat) (A : Option Addr) (c : Nat) (w : World) (h : w.ownsRow B 3 1 (.slice A n c) n (vnats l)) (hn : n = l.length) (hlen : l.length ≤ 1000000) (h64 : ∀ i ∈ l, i < 64) :
    Calls Tryz.prog 146 #[.slice A n c] w fun e w' => e = .returned (.int .u64 (ofL l : Int)) ∧ w' = w := by
  subst hn
  obtain ⟨A', c', e, hA⟩ := RdI.own h
  cases e
  have := refOf_any (l.map fun i : Nat => (i : Int)) A c w (by simpa using hlen) hA (fun j hj => by
    simp at hj
    have h1 : (l.map fun i : Nat => (i : Int))[j]?.getD 0 = ((l[j]'hj : Nat) : Int) := by rw [List.getElem?_map, List.getElem?_eq_getElem hj]; rfl
    have h2 := h64 _ (List.getElem_mem hj)
    rw [h1]
    omega)
  rw [sqs_nat] at this
  simpa using this
theorem vnats_app (l m : List Nat) : vnats (l ++ m) = vnats l ++ vnats m := by simp [vnats]
/-- the occupied squares, White's and then Black's. -/
def occL (l : List Int) : List Nat := idx (sdP 1) l ++ idx (sdP (-1)) l

set_option maxRecDepth 100000 in
set_option maxHeartbeats 2000000 in
theorem rOcc_any (F R : Int) (l : List Int) (A : Option Addr) (c : Nat) (w : World) (hlen : l.length ≤ 64) (hp : ∀ j, j < l.length → okP (l[j]?.getD 0)) (hA : RdP w w.heap.size A l c) :
    Calls Tryz.prog 112 #[.agg #[.int .i64 F, .int .i64 R, .slice A l.length c]] w fun e w' => e = .returned (.int .u64 (ofL (occL l) : Int)) ∧ Below w.heap.size w w' := by
  obtain ⟨i0, hi, hz0, hz1, hz2⟩ := info_parts ints3
  have H1 := Lib.hid (fun w hA => rSideL_any F R l A c 1 w (by omega) hp hA)
  have H2 := Lib.hid (fun w hA => rSideL_any F R l A c (-1) w (by omega) hp hA)
  have l1 : (idx (sdP 1) l).length ≤ 64 := Nat.le_trans (idx_len _ _) hlen
  have l2 : (idx (sdP (-1)) l).length ≤ 64 := Nat.le_trans (idx_len _ _) hlen
  have hN1 : (idx (sdP 1) l).length ≤ maxLen := by unfold maxLen; omega
  have hN1b : (idx (sdP 1) l).length * 8 ≤ 140737488355328 := by omega
  have hN2 : (idx (sdP 1) l).length + (idx (sdP (-1)) l).length ≤ maxLen := by unfold maxLen; omega
  have hN2b : ((idx (sdP 1) l).length + (idx (sdP (-1)) l).length) * 8 ≤ 140737488355328 := by omega
  have hNL : (idx (sdP 1) l).length + (idx (sdP (-1)) l).length = (idx (sdP 1) l ++ idx (sdP (-1)) l).length := by simp
  have hNL2 : (idx (sdP 1) l ++ idx (sdP (-1)) l).length ≤ 1000000 := by rw [← hNL]; omega
  have hN64 : ∀ i ∈ idx (sdP 1) l ++ idx (sdP (-1)) l, i < 64 := fun i hi => by
    rcases List.mem_append.1 hi with h | h <;> have := idx_lt h <;> omega
  have HNL := Lib.hid hNL
  have HNL2 := Lib.hid hNL2
  have HN64 := Lib.hid hN64
  clear hp hNL hNL2 hN64
  go_enter Tryz.func112, Tryz.ntmps112
  go_wp2_with fail
  obtain ⟨V, hV⟩ : ∃ V, w.alloc (.cells #[.int .i64 F, .int .i64 R, .slice A l.length c] 30) = V := ⟨_, rfl⟩
  have h0 : V.cell? ⟨w.heap.size, 0, none⟩ = some (.int .i64 F) ∧ V.cell? ⟨w.heap.size, 1, none⟩ = some (.int .i64 R) ∧ V.cell? ⟨w.heap.size, 2, none⟩ = some (.slice A l.length c) ∧ St w A l c V := by
    rw [← hV]
    exact ⟨by simp [go_sem], by simp [go_sem], by simp [go_sem], hA.below (box1 _ _), box1 _ _, by simp⟩
  rw [hV]
  clear hV hA
  go_region_held3 (fun w' => w'.cell? ⟨w.heap.size, 0, none⟩ = some (.int .i64 F) ∧ w'.cell? ⟨w.heap.size, 1, none⟩ = some (.int .i64 R) ∧ w'.cell? ⟨w.heap.size, 2, none⟩ = some (.slice A l.length c) ∧ St w A l c w')
    (first | assumption | exact keepS2 (by assumption) (by assumption) | exact keepS (by assumption) (by assumption) | exact keepS (by assumption) ((Below.refl _ _).drew))
    (first
      | (go_at_call_has 111 (Value.int .i64 1); refine (H1.out _ (rdS (by assumption))).mono ?_; rintro e w1 ⟨v1, rfl, hown1, hb1⟩; obtain ⟨A1, d1, rfl, hs1⟩ := SrcI.own hown1; clear hown1)
      | (go_at_call_has 111 (Value.int .i64 (-1)); refine (H2.out _ (rdS (by assumption))).mono ?_; rintro e w2 ⟨v2, rfl, hown2, hb2⟩; obtain ⟨A2, d2, rfl, hs2⟩ := SrcI.own hown2; clear hown2; have ho5 := own_below ho3 hb2)
      | (refine step_copy (by rfl) _ _ _ (by rfl) 3 i0 (.int .i64 0) 1 8 Tryz.underlying96 hi hz0 hz1 hz2 rfl (by decide) (by rfl) (w.heap.size + 1) (szS (A := A) (l := l) (c := c) (by assumption)) A1 _ d1 (vnats (idx (sdP 1) l)) (by rfl) hs1.1 (by simp [vnats]) (fun ad e => (hs1.2 ad e).2) vnats_one hN1 hN1b ?_; intro A3 d3 w3 ho3 hg3; have hb3 := grown_below hg3)
      | (refine step_join (by rfl) _ _ _ (by rfl) 3 i0 (.int .i64 0) 1 8 Tryz.underlying96 hi hz0 hz1 hz2 rfl (by decide) (w.heap.size + 1) (.slice A3 (idx (sdP 1) l).length d3) (idx (sdP 1) l).length (vnats (idx (sdP 1) l)) (by rfl) ho5 (szS (A := A) (l := l) (c := c) (by assumption)) A2 (idx (sdP (-1)) l).length d2 (vnats (idx (sdP (-1)) l)) (by rfl) hs2.1 ((vnats_len _).trans (Nat.mul_one _).symm) (fun ad e => (hs2.2 ad e).2) vnats_one hN2 hN2b ?_; intro A4 d4 w4 ho4 hg4; have hb4 := joinB ho5 hg4 (szS (A := A) (l := l) (c := c) (by assumption)); rw [← vnats_app] at ho4)
      | (go_at_call 146; refine (refOfO (idx (sdP 1) l ++ idx (sdP (-1)) l) _ _ _ _ _ ho4 HNL.out HNL2.out HN64.out).mono ?_; rintro e w5 ⟨rfl, rfl⟩))
  go_wp2
  go_ret
  exact ⟨rfl, (by assumption : _ ∧ _ ∧ _ ∧ St w A l c _).2.2.2.2.1⟩

end Go.Proofs.YtelkmdklpcfobaaGreatDoor
