/- Texts of boards: the text of a rank, as the program writes it. -/
import Derived.Test.YtelkmdklpcfobaaGreatDoorBpF
import Derived.Test.YtelkmdklpcfobaaGreatDoorBdF
import Derived.Lib.UnsafeStr
import Derived.Laws.IdiomStrings
import Derived.RangeFuncNested
import Derived.RangeFuncBound
import Derived.RangeFuncCalls
import Derived.RangeFuncLeaves
import Derived.RangeFuncFrom
import Derived.RangeFuncBox
import Derived.Shelf.Abstract
import Derived.Shelf.RegionOpen
import Derived.WalkKit
import Derived.OwnWalkIn
import Derived.TacticsInMore
import Derived.LoopNIn
import Derived.LoopIn
import Derived.Sort.QuietTacIn

namespace Go.Proofs.YtelkmdklpcfobaaGreatDoor
open Go.RowKit

theorem infoU8 : (Tryz.prog.info? 5).map (fun i => (i.zero, i.size, i.bytes)) = some (some (.int .u8 0), 1, 1) := by kernel_rfl

set_option maxRecDepth 100000 in
set_option maxHeartbeats 1000000 in
theorem group_any (B : Nat) (v : Value) (L : List UInt8) (e : Nat) (w : World) (he : e ≤ 9) (hL : L.length ≤ 1000) (hB : B ≤ w.heap.size) (hown : w.ownsRow B 5 1 v L.length (Lib.byteCells L)) :
    Calls Tryz.prog 119 #[v, .int .i64 e] w fun en w' => ∃ v', en = .returned v' ∧ w'.ownsRow B 5 1 v' (L ++ flu e).length (Lib.byteCells (L ++ flu e)) ∧ Below B w w' := by
  obtain ⟨i0, hi, hz0, hz1, hz2⟩ := info_parts infoU8
  go_enter Tryz.func119, Tryz.ntmps119
  by_cases h0 : e = 0
  · subst h0
    go_wp2
    go_ret
    exact ⟨_, rfl, by rw [flu_zero, List.append_nil]; exact hown, Below.refl _ _⟩
  · have hne : ((e : Int) == 0) = false := beq_eq_false_iff_ne.2 (by omega)
    have hw1 : IntKind.u8.wrap (e : Int) = e := by simp [IntKind.wrap_u8]; omega
    have hw2 : IntKind.u8.wrap (48 + (e : Int)) = 48 + (e : Int) := by simp [IntKind.wrap_u8]; omega
    have HL : Hid (Lib.byteCells (L ++ flu e) = Lib.byteCells L ++ [.int .u8 (48 + (e : Int))]) := Lib.hid (by
      rw [flu_pos (by omega), Lib.byteCells_append]
      congr 1
      simp [Lib.byteCells]
      omega)
    have HN : Hid ((L ++ flu e).length = L.length + 1) := Lib.hid (by rw [flu_pos (by omega)]; simp)
    go_wp2_with (at_builtin; (refine wpList_append_own _ rfl _ _ 100 rfl B 5 i0 (.int .u8 0) 1 1 Tryz.underlying100 hi hz0 hz1 hz2 rfl (by decide) _ _ _ rfl (hown.alloc _) ⟨w.heap.size, 0, none⟩ 1 1 [.int .u8 (48 + (e : Int))] rfl rfl ?c1 ?c2 ?c3 ?c4 ?c5 ?_))
    case c1 =>
      intro j u hj
      match j, hj with
      | 0, hj => simp at hj; subst hj; simp [Addr.add]
    case c2 => intro u hu; simp at hu; subst hu; rfl
    case c3 => unfold maxLen; omega
    case c4 => omega
    case c5 => simp; omega
    intro v' w2 hown' hgrow _
    go_wp2
    go_ret
    refine ⟨_, rfl, by rw [HL.out, HN.out]; exact hown', ((Below.refl B w).alloc hB _).grown hgrow (by simp; omega) (fun r e => (World.ownsRow.lt hown r e).1)⟩

theorem letter_any (p : Int) (h : okP p) (hz : p ≠ 0) (w : World) (hK : Kinds w) : Calls Tryz.prog 118 #[.int .i8 p] w fun e w' => e = .returned (.tuple #[.int .u8 (lt p : Int), .int .i64 0]) ∧ w = w' := by
  obtain ⟨h0, h1⟩ := h
  by_cases hn : p < 0
  · obtain ⟨i, rfl⟩ : ∃ i : Nat, p = -(i : Int) := ⟨(-p).toNat, by omega⟩
    rw [lt_neg (by omega)]
    exact letter_neg i (by omega) (by omega) w hK
  · obtain ⟨i, rfl⟩ : ∃ i : Nat, p = (i : Int) := ⟨p.toNat, by omega⟩
    rw [lt_pos (by omega)]
    exact letter_pos i (by omega) (by omega) w hK

set_option maxRecDepth 100000 in
set_option maxHeartbeats 1000000 in
theorem rankText_any (row : List Int) (A : Option Addr) (c : Nat) (w : World) (h0 : 0 < row.length) (hlen : row.length ≤ 8) (hok : ∀ j, j < row.length → okP (row[j]?.getD 0)) (hA : RdP w w.heap.size A row c) (hK : Kinds w) :
    Calls Tryz.prog 89 #[.slice A row.length c] w fun en w' => en = .returned (.string (bsL (rowT row))) ∧ Below w.heap.size w w' := by
  obtain ⟨i0, hi, hz0, hz1, hz2⟩ := info_parts infoU8
  have HO := Lib.hid hok
  clear hok
  go_enter Tryz.func89, Tryz.ntmps89
  go_wp2_with fail
  go_loopw [3, 4, 6, 7, 8, 11] (fun v e _ _ _ i wr => ∃ k : Nat, k ≤ row.length ∧ i = .int .i64 k ∧ e = .int .i64 ((rowS row k).2 : Int) ∧ wr.ownsRow w.heap.size 5 1 v (rowS row k).1.length (Lib.byteCells (rowS row k).1) ∧ Below w.heap.size w wr) (fun _ _ _ _ _ i _ => row.length - (intOf i).toNat)
  case atStart => exact ⟨0, by omega, rfl, rfl, World.ownsRow_nil _ _ _ _, Below.refl _ _⟩
  case round =>
    obtain ⟨k, hk, rfl, rfl, hown, hB⟩ := hrel
    have hbd := rowS_bd row k hk
    by_cases hlt : k < row.length
    · obtain ⟨ad, rfl, hb, hc⟩ := (hA.below hB).at_ hlt
      have hV := HO.out k hlt
      clear hA
      by_cases hz : row[k]?.getD 0 = 0
      · have HS := Lib.hid (rowS_emp hlt hz)
        rw [hz] at hc
        clear hV hz
        generalize rowS row k = S at *
        have hwr : IntKind.i64.wrap ((S.2 : Int) + 1) = ((S.2 + 1 : Nat) : Int) := by rw [IntWalk.i64_in _ (by omega)]; omega
        go_wp2
        go_roundw
        case rel => exact ⟨k + 1, by omega, by go_num, by rw [HS.out]; exact vint (by simp), by rw [HS.out]; exact hown, hB⟩
        case measure => simp [intOf]; omega
      · have HS := Lib.hid (rowS_pc hlt hz)
        have hbq : (row[k]?.getD 0 == 0) = false := beq_eq_false_iff_ne.2 hz
        have hHZ := Lib.hid hz
        have hr := lt_rng hV hz
        generalize hn : row[k]?.getD 0 = n at *
        clear hn hz
        generalize rowS row k = S at *
        go_wp2_with fail
        refine (letter_any n hV hHZ.out _ (hK.below hB hK.1)).mono ?_
        rintro e w2 ⟨rfl, rfl⟩
        go_wp2_with fail
        refine (group_any w.heap.size _ S.1 S.2 _ (by omega) (by omega) hB.size hown).mono ?_
        rintro e w2 ⟨v2, rfl, hown2, hB2⟩
        have HL : Hid (Lib.byteCells (S.1 ++ flu S.2 ++ [UInt8.ofNat (lt n)]) = Lib.byteCells (S.1 ++ flu S.2) ++ [.int .u8 (lt n : Int)]) := Lib.hid (by
          rw [Lib.byteCells_append]
          congr 1
          simp [Lib.byteCells]
          omega)
        have HN : Hid ((S.1 ++ flu S.2 ++ [UInt8.ofNat (lt n)]).length = (S.1 ++ flu S.2).length + 1) := Lib.hid (by rw [List.length_append]; rfl)
        have hfl := flu_le S.2
        have hln : (S.1 ++ flu S.2).length ≤ 100 := by rw [List.length_append]; omega
        have hs2 : w.heap.size ≤ w2.heap.size := Nat.le_trans hB.size hB2.size
        have hBt := Lib.hid (hB.trans hB2)
        clear hB hB2 hbd hfl hown
        generalize S.1 ++ flu S.2 = Q at *
        go_wp2_with (at_builtin; (refine wpList_append_own _ rfl _ _ 100 rfl w.heap.size 5 i0 (.int .u8 0) 1 1 Tryz.underlying100 hi hz0 hz1 hz2 rfl (by decide) _ _ _ rfl (hown2.alloc _) ⟨w2.heap.size, 0, none⟩ 1 1 [.int .u8 (lt n : Int)] rfl rfl ?c1 ?c2 ?c3 ?c4 ?c5 ?_))
        case c1 =>
          intro j u hj
          match j, hj with
          | 0, hj => simp at hj; subst hj; simp [Addr.add]
        case c2 => intro u hu; simp at hu; subst hu; rfl
        case c3 => unfold maxLen; omega
        case c4 => omega
        case c5 => simp; omega
        intro v' w3 hown' hgrow _
        go_wp2
        go_roundw
        case rel =>
          refine ⟨k + 1, by omega, by go_num, by rw [HS.out]; rfl, ?_, ?_⟩
          · rw [HS.out]
            show w3.ownsRow w.heap.size 5 1 v' (Q ++ [UInt8.ofNat (lt n)]).length (Lib.byteCells (Q ++ [UInt8.ofNat (lt n)]))
            rw [HL.out, HN.out]
            exact hown'
          · exact (hBt.out.alloc hs2 _).grown hgrow (by simp; omega) (fun r e => (World.ownsRow.lt hown2 r e).1)
        case measure => simp [intOf]; omega
    · have hkl : k = row.length := by omega
      subst hkl
      have HT : Hid ((rowS row row.length).1 ++ flu (rowS row row.length).2 = rowT row) := Lib.hid rfl
      have hne := Lib.hid (rowT_ne row h0)
      have hbt := rowT_bd row
      generalize rowS row row.length = S at *
      go_wp2_with fail
      refine (group_any w.heap.size _ S.1 S.2 _ (by omega) (by omega) hB.size hown).mono ?_
      rintro e w2 ⟨v2, rfl, hown2, hB2⟩
      obtain ⟨T, hTr⟩ : ∃ T, T = rowT row := ⟨_, rfl⟩
      rw [HT.out, ← hTr] at hown2
      have hne := Lib.hid (show T ≠ [] by rw [hTr]; exact hne.out)
      have hbt : T.length ≤ 2 * row.length + 1 := by rw [hTr]; exact hbt
      have hTq := Lib.hid hTr
      clear hTr
      obtain ⟨g, cap, rfl⟩ := Joins.ownsRow_form hown2 (List.length_pos_iff.2 hne.out)
      have hcv : (convert 100 9 (.slice (some ⟨g, 0, none⟩) T.length cap)).run Tryz.prog w2 = .ok (.string ⟨T.toArray⟩) w2 :=
        run_convert_bytes_back w2 _ _ 5 ⟨g, 0, none⟩ cap T Tryz.underlying100 Tryz.underlying5 Tryz.underlying9 (fun j hj => by
          have := hown2.cellAt j (by omega)
          rw [show (Addr.add ⟨g, 0, none⟩ j) = ⟨g, j, none⟩ by simp [Addr.add]; exact fun h => h.symm, this]
          simp only [Lib.byteCells, List.getElem?_map, List.getElem?_eq_getElem hj, Option.map_some])
      have hBt := Lib.hid (hB.trans hB2)
      clear hown hown2 hB hB2
      go_wp2
      go_ret
      exact ⟨by rw [← hTq.out]; rfl, hBt.out⟩

end Go.Proofs.YtelkmdklpcfobaaGreatDoor

/- Texts of boards: the iterator over the ranks of a board. -/
namespace Go.Proofs.YtelkmdklpcfobaaGreatDoor
open Go.RowKit Go.Shelf
attribute [local go_sem] Oper.semAt_some

/-- the numbers of ranks. -/
def nums {R : Nat} (l : List (Fin R)) : List Nat := l.map (·.1)
theorem nums_snoc {R : Nat} (l : List (Fin R)) (x : Fin R) : nums (l ++ [x]) = nums l ++ [x.1] := by simp [nums]

/-- what a round keeps: all below n₀, and the two boxes that the iterator reads. -/
def KpC (n₀ Bs Bn : Nat) (W W' : World) : Prop := Below n₀ W W' ∧ W'.heap[Bs]? = W.heap[Bs]? ∧ W'.heap[Bn]? = W.heap[Bn]?
theorem KpC.trans {n₀ Bs Bn : Nat} {A B C : World} (h : KpC n₀ Bs Bn A B) (k : KpC n₀ Bs Bn B C) : KpC n₀ Bs Bn A C := ⟨h.1.trans k.1, k.2.1.trans h.2.1, k.2.2.trans h.2.2⟩
theorem KpC.refl (n₀ Bs Bn : Nat) (A : World) : KpC n₀ Bs Bn A A := ⟨Below.refl _ _, rfl, rfl⟩
theorem KpC.s {n₀ Bs Bn : Nat} {A B : World} (h : KpC n₀ Bs Bn A B) : B.cell? ⟨Bs, 0, none⟩ = A.cell? ⟨Bs, 0, none⟩ := World.cell?_of_block h.2.1
theorem KpC.n {n₀ Bs Bn : Nat} {A B : World} (h : KpC n₀ Bs Bn A B) : B.cell? ⟨Bn, 0, none⟩ = A.cell? ⟨Bn, 0, none⟩ := World.cell?_of_block h.2.2

set_option maxRecDepth 100000 in
set_option maxHeartbeats 1000000 in
theorem chunk1_in (n l Bs Bn n₀ F R len c : Nat) (ad : Addr) (hn : 1 ≤ n) (hF : 0 < F) (hF8 : F ≤ 8) (hR : R ≤ 8) (hlen : len = R * F) (hc : len ≤ c) (J Jx : List (Fin R) → World → Prop) (hJd : ∀ pre W q, J pre W → J pre (W.drewN q))
    (hY : ∀ pre x W, J pre W → pre.length < R → YieldAt Fence.wide (n - 1) Tryz.prog l #[.slice (some (ad.add (x.1 * F))) F F] W fun e W' =>
      (e = .returned (.bool true) ∧ J (pre ++ [x]) W' ∧ KpC n₀ Bs Bn W W') ∨ (e = .returned (.bool false) ∧ Jx (pre ++ [x]) W'))
    (W : World) (hBs : W.cell? ⟨Bs, 0, none⟩ = some (.slice (some ad) len c)) (hBn : W.cell? ⟨Bn, 0, none⟩ = some (.int .i64 F)) (h0 : J [] W) :
    CallsIn Fence.wide n Tryz.prog 117 #[.func (.yield l) #[] #[], .pointer (some ⟨Bs, 0, none⟩), .pointer (some ⟨Bn, 0, none⟩)] W fun e W' => (∃ v, e = .returned v) ∧
      ((∃ ys, nums ys = List.range R ∧ J ys W') ∨ (∃ pre, True ∧ Jx pre W')) := by
  refine callsIn_of_wp Tryz.func117 rfl trivial ?_ rfl
  simp only [Tryz.ntmps117, List.size_toArray, List.length_cons, List.length_nil, Nat.reduceAdd, Nat.reduceSub, Array.replicate_succ, Array.replicate_zero, List.push_toArray, List.append_toArray, List.nil_append, List.cons_append]
  gi_wp2
  gi_loopw [4, 5] (fun i _ wr => ∃ (r x : Nat) (pre : List (Fin R)), r ≤ R ∧ x = r * F ∧ i = .int .i64 x ∧ nums pre = List.range r ∧ J pre wr ∧ KpC n₀ Bs Bn W wr)
    (fun i _ _ => len - (intOf i).toNat)
  case atStart => exact ⟨0, 0, [], Nat.zero_le _, by simp, rfl, rfl, h0, KpC.refl _ _ _ _⟩
  case round =>
    obtain ⟨r, x, pre, hr, hx, rfl, hpre, hJs, hB⟩ := hrel
    have hpl : pre.length = r := by have := congrArg List.length hpre; simpa [nums] using this
    have HPR := Lib.hid hpre
    clear hpre
    have hcs : wr.cell? ⟨Bs, 0, none⟩ = some (.slice (some ad) len c) := hB.s.trans hBs
    have hcn : wr.cell? ⟨Bn, 0, none⟩ = some (.int .i64 F) := hB.n.trans hBn
    have hl64 : len ≤ 64 := by rw [hlen]; exact Nat.mul_le_mul hR hF8
    by_cases hlt : r < R
    · have hxF : x + F ≤ len := by
        rw [hlen, hx]
        have : (r + 1) * F ≤ R * F := Nat.mul_le_mul_right F hlt
        rwa [Nat.add_mul, Nat.one_mul] at this
      have hYr := Lib.hid (fun q => hY pre ⟨r, hlt⟩ (wr.drewN q) (hJd _ _ q hJs) (by omega))
      have HX := Lib.hid hx
      have HL := Lib.hid hlen
      clear hx hlen hY
      have hmin : min (F : Int) (((len - x : Nat) : Int)) = F := by omega
      have hxl : x ≤ len := by omega
      have hcx : ¬ c = x := by omega
      have hF0 : ¬ F = 0 := by omega
      have hxc : (x : Int) + (F : Int) ≤ (c : Int) := by omega
      have hxc' : x + F ≤ c := by omega
      have hwx : IntKind.i64.wrap ((x : Int) + (F : Int)) = (x : Int) + (F : Int) := IntWalk.i64_in _ (by omega)
      have hq1 : ∀ w, (Instr.sliceAt 24 (.slice (some ad) len c) (some (.int .i64 (x : Int))) none none).run Tryz.prog w = .ok (.slice (some (ad.add x)) (len - x) (c - x)) w := by
        intro w
        simp [go_sem, hxl, hcx]
      gi_wp2
      gi_quiet_th (fail)
      have hq2 : ∀ w, (Instr.sliceAt 24 (.slice (some ad) len c) (some (.int .i64 (x : Int))) (some (.int .i64 ((x : Int) + (F : Int)))) (some (.int .i64 ((x : Int) + (F : Int))))).run Tryz.prog w = .ok (.slice (some (ad.add x)) F F) w := by
        intro w
        have e : (((x : Int) + (F : Int)).toNat) = x + F := by omega
        have hF0' : ¬ x + F = x := by omega
        have h0' : (0 : Int) ≤ (x : Int) + (F : Int) := by omega
        simp [go_sem, hxc, e, hF0, h0']
      have hcs2 : (wr.drewN nq).cell? ⟨Bs, 0, none⟩ = some (.slice (some ad) len c) := hcs
      have hcn2 : (wr.drewN nq).cell? ⟨Bn, 0, none⟩ = some (.int .i64 F) := hcn
      obtain ⟨fn, tmps, assign, body, hy, hR⟩ := hYr.out nq
      rw [← HX.out] at hy
      have hBq : KpC n₀ Bs Bn W (wr.drewN nq) := ⟨⟨hB.1.os, hB.1.tape, hB.1.output, hB.1.size, hB.1.block⟩, hB.2.1, hB.2.2⟩
      clear hYr
      generalize wr.drewN nq = wq at *
      gi_wp2
      refine hR.mono ?_
      rintro e W3 (⟨rfl, hJ3, hk3⟩ | ⟨rfl, hJx3⟩)
      · have hcn3 : W3.cell? ⟨Bn, 0, none⟩ = some (.int .i64 F) := hk3.n.trans hcn2
        gi_wp2
        go_roundw
        case rel => exact ⟨r + 1, x + F, _, by omega, by rw [HX.out, Nat.add_mul, Nat.one_mul], by go_num, by rw [nums_snoc, HPR.out, List.range_succ], hJ3, hBq.trans hk3⟩
        case measure => simp [intOf]; omega
      · gi_wp2
        refine bodyPost_ret (results_none rfl _ _ _) rfl ?_
        exact ⟨⟨_, rfl⟩, .inr ⟨_, trivial, hJx3⟩⟩
    · have hrR : r = R := by omega
      have HPR2 : Hid (nums pre = List.range R) := Lib.hid (by rw [HPR.out, hrR])
      have hxl : ¬ x < len := by rw [hlen, hx, hrR]; omega
      gi_wp2
      go_end0
      exact ⟨⟨_, rfl⟩, .inl ⟨_, HPR2.out, hJs⟩⟩

theorem chunk_any (A : Option Addr) (n c F : Nat) (h : 0 < F) (w : World) :
    Calls Tryz.prog 88 #[.slice A n c, .int .i64 F] w fun e w' => e = .returned (.func (.func 117) #[] #[.pointer (some ⟨w.heap.size, 0, none⟩), .pointer (some ⟨w.heap.size + 1, 0, none⟩)]) ∧ w' = (w.alloc (.cells #[.slice A n c] 24)).alloc (.cells #[.int .i64 F] 3) := by
  have h' : ¬ (F : Int) < 1 := by omega
  go_enter Tryz.func88, Tryz.ntmps88
  go_wp2
  go_ret
  exact ⟨rfl, rfl⟩

theorem chunk_stops (n Bs Bn n₀ F R len c : Nat) (ad : Addr) (hn : 1 ≤ n) (hF : 0 < F) (hF8 : F ≤ 8) (hR : R ≤ 8) (hlen : len = R * F) (hc : len ≤ c) (w : World) (hBs1 : Bs < w.heap.size) (hBn1 : Bn < w.heap.size)
    (hBs : w.cell? ⟨Bs, 0, none⟩ = some (.slice (some ad) len c)) (hBn : w.cell? ⟨Bn, 0, none⟩ = some (.int .i64 F)) :
    SeqStopsK Fence.wide n Tryz.prog 117 #[.pointer (some ⟨Bs, 0, none⟩), .pointer (some ⟨Bn, 0, none⟩)] (fun x : Fin R => #[.slice (some (ad.add (x.1 * F))) F F]) (KpC n₀ Bs Bn) (fun ys => nums ys = List.range R) (fun _ => True) R w := fun l J Jx W hW hJ _ hY h0 =>
  chunk1_in n l Bs Bn n₀ F R len c ad hn hF hF8 hR hlen hc J Jx (fun pre W q hj => hJ pre W (W.drewN q) none hj ⟨rfl, rfl, rfl, Nat.le_refl _, fun _ _ _ => rfl⟩ (fun r e => by cases e)) hY W ((hW.cell (p := ⟨Bs, 0, none⟩) hBs1).trans hBs) ((hW.cell (p := ⟨Bn, 0, none⟩) hBn1).trans hBn) h0

end Go.Proofs.YtelkmdklpcfobaaGreatDoor
