/- Attacks: what the law's package has of its own: small boards, how many squares a set has, boards by their texts, sets of squares by their names. -/
import Derived.Test.YtjnbjegopddhgaaDoorAtH
import Derived.Test.YtjnbjegopddhgaaDoorBdH
import Derived.Test.YtjnbjegopddhgaaDoorBdI
import Derived.Test.YtjnbjegopddhgaaDoorSqZ

namespace Go.Proofs.YtjnbjegopddhgaaDoor
open Go.RowKit Go.Sort

set_option maxRecDepth 100000 in
set_option maxHeartbeats 400000 in
theorem small5_yes (F R : Int) (l : List Int) (A : Option Addr) (c : Nat) (h : l.length ≤ 64) (w : World) :
    Calls Tryd.prog 8 #[.agg #[.int .i64 F, .int .i64 R, .slice A l.length c]] w fun e w' => e = .returned (.bool true) ∧ Below w.heap.size w w' := by
  have h' : decide ((l.length : Int) ≤ 64) = true := decide_eq_true (by omega)
  go_enter Tryd.func8, Tryd.ntmps8
  go_wp2
  go_ret
  exact ⟨rfl, box1 _ _⟩

set_option maxRecDepth 100000 in
set_option maxHeartbeats 400000 in
theorem small5_no (F R : Int) (l : List Int) (A : Option Addr) (c : Nat) (h : 64 < l.length) (w : World) :
    Calls Tryd.prog 8 #[.agg #[.int .i64 F, .int .i64 R, .slice A l.length c]] w fun e w' => e = .returned (.bool false) ∧ Below w.heap.size w w' := by
  have h' : decide ((l.length : Int) ≤ 64) = false := decide_eq_false (by omega)
  go_enter Tryd.func8, Tryd.ntmps8
  go_wp2
  go_ret
  exact ⟨rfl, box1 _ _⟩

set_option maxRecDepth 100000 in
set_option maxHeartbeats 400000 in
theorem many5_any (X : Nat) (hX : X < 18446744073709551616) (w : World) :
    Calls Tryd.prog 26 #[.int .u64 X] w fun e w' => e = .returned (.int .i64 ((listOf X).length : Int)) ∧ Below w.heap.size w w' := by
  have h64 := listOf_len X
  have H := Lib.hid (refList_any X hX)
  generalize listOf X = z at *
  go_enter Tryd.func26, Tryd.ntmps26
  go_wp2_with fail
  refine (H.out _).mono ?_
  rintro e w1 ⟨v, rfl, hown, hb⟩
  obtain ⟨A, c, rfl, hs⟩ := SrcI.own hown
  go_wp2
  go_ret
  exact ⟨rfl, hb⟩

theorem RdP.setc {V : World} {B g o : Nat} {A : Option Addr} {l : List Int} {c : Nat} {v : Value} (h : RdP V B A l c) (hne : ∀ ad, A = some ad → ad.block ≠ g) : RdP (V.setCell ⟨g, o, none⟩ v) B A l c := ⟨h.1, fun hl => by
  obtain ⟨ad, e, h1, hc⟩ := h.2 hl
  refine ⟨ad, e, h1, fun j u hu => (World.cell?_setCell_far _ _ _ _ ?_).trans (hc j u hu)⟩
  rw [blk_add]
  first | exact hne ad e | exact fun x => hne ad e x.symm⟩
/-- a board is returned that reads as this one. -/
def BrdR (w : World) (f r : Nat) (ps : List Int) (e : Ending) (w' : World) : Prop := ∃ A c, e = .returned (.agg #[.int .i64 (f : Int), .int .i64 (r : Int), .slice A ps.length c]) ∧ RdP w' w'.heap.size A ps c ∧ ps.length ≤ c ∧ Below w.heap.size w w'

set_option maxRecDepth 100000 in
set_option maxHeartbeats 1000000 in
theorem board5_yes (s : ByteArray) (hs : s.size ≤ 200) (f r : Nat) (ps : List Int) (h : parseB s.data.toList = some (f, r, ps)) (w : World) :
    Calls Tryd.prog 28 #[.string s] w (BrdR w f r ps) := by
  have H := Lib.hid (rParse_bd s hs)
  rw [h] at H
  clear h
  go_enter Tryd.func28, Tryd.ntmps28
  go_wp2_with fail
  refine (H.out _).mono ?_
  rintro e w1 ⟨v, rfl, hown, hb1⟩
  obtain ⟨A, c, rfl, hc, hR⟩ := RdP.own hown
  have HLO : Hid (∀ ad, A = some ad → ad.block ≠ w.heap.size) := Lib.hid (fun ad e => by
    subst e
    have := (World.ownsRow.lt hown ad.block rfl).1
    simp at this
    omega)
  have hB := after1 hb1
  have s1 := hb1.size
  simp at s1
  have b0 := hb1.cell (p := ⟨w.heap.size, 0, none⟩) (by simp)
  have b1 := hb1.cell (p := ⟨w.heap.size, 1, none⟩) (by simp)
  have b2 := hb1.cell (p := ⟨w.heap.size, 2, none⟩) (by simp)
  have g0 := hb1.frozen (p := ⟨w.heap.size, 0, none⟩) (by simp)
  have g1 := hb1.frozen (p := ⟨w.heap.size, 1, none⟩) (by simp)
  have g2 := hb1.frozen (p := ⟨w.heap.size, 2, none⟩) (by simp)
  simp [go_sem] at b0 b1 b2 g0 g1 g2
  have bx := box1 w1 (.cells #[.int .i64 (f : Int), .int .i64 (r : Int), .slice A ps.length c] 26)
  replace b0 := cBo bx b0
  replace b1 := cBo bx b1
  replace b2 := cBo bx b2
  have g0' := (bx.frozen (p := ⟨w.heap.size, 0, none⟩) (by simp; omega)).trans g0
  have g1' := (bx.frozen (p := ⟨w.heap.size, 1, none⟩) (by simp; omega)).trans g1
  have g2' := (bx.frozen (p := ⟨w.heap.size, 2, none⟩) (by simp; omega)).trans g2
  have c0 : (w1.alloc (.cells #[.int .i64 (f : Int), .int .i64 (r : Int), .slice A ps.length c] 26)).cell? ⟨w1.heap.size, 0, none⟩ = some (.int .i64 (f : Int)) := by simp [go_sem]
  have c1 : (w1.alloc (.cells #[.int .i64 (f : Int), .int .i64 (r : Int), .slice A ps.length c] 26)).cell? ⟨w1.heap.size, 1, none⟩ = some (.int .i64 (r : Int)) := by simp [go_sem]
  have c2 : (w1.alloc (.cells #[.int .i64 (f : Int), .int .i64 (r : Int), .slice A ps.length c] 26)).cell? ⟨w1.heap.size, 2, none⟩ = some (.slice A ps.length c) := by simp [go_sem]
  replace hR := rdBo bx hR
  replace hB := chain hB bx
  clear hb1 hown bx g0 g1 g2
  go_upto_region 2 with fail
  generalize w1.alloc (.cells #[.int .i64 (f : Int), .int .i64 (r : Int), .slice A ps.length c] 26) = V at *
  have d1 : (V.setCell ⟨w.heap.size, 0, none⟩ (.int .i64 (f : Int))).cell? ⟨w.heap.size, 1, none⟩ = some (.int .i64 0) := (World.cell?_setCell_other V ⟨w.heap.size, 0, none⟩ ⟨w.heap.size, 1, none⟩ _ (by simp)).trans b1
  have d2 : ((V.setCell ⟨w.heap.size, 0, none⟩ (.int .i64 (f : Int))).setCell ⟨w.heap.size, 1, none⟩ (.int .i64 (r : Int))).cell? ⟨w.heap.size, 2, none⟩ = some (.slice none 0 0) := (World.cell?_setCell_other _ ⟨w.heap.size, 1, none⟩ ⟨w.heap.size, 2, none⟩ _ (by simp)).trans ((World.cell?_setCell_other V ⟨w.heap.size, 0, none⟩ ⟨w.heap.size, 2, none⟩ _ (by simp)).trans b2)
  go_wp2
  have hfin : Below w.heap.size w (((V.setCell ⟨w.heap.size, 0, none⟩ (.int .i64 (f : Int))).setCell ⟨w.heap.size, 1, none⟩ (.int .i64 (r : Int))).setCell ⟨w.heap.size, 2, none⟩ (.slice A ps.length c)) := ((hB.setCell (p := ⟨w.heap.size, 0, none⟩) (Nat.le_refl _) _).setCell (p := ⟨w.heap.size, 1, none⟩) (Nat.le_refl _) _).setCell (p := ⟨w.heap.size, 2, none⟩) (Nat.le_refl _) _
  have e2 := World.cell?_setCell_same ((V.setCell ⟨w.heap.size, 0, none⟩ (.int .i64 (f : Int))).setCell ⟨w.heap.size, 1, none⟩ (.int .i64 (r : Int))) ⟨w.heap.size, 2, none⟩ (.slice A ps.length c) d2
  have e1 := (World.cell?_setCell_other ((V.setCell ⟨w.heap.size, 0, none⟩ (.int .i64 (f : Int))).setCell ⟨w.heap.size, 1, none⟩ (.int .i64 (r : Int))) ⟨w.heap.size, 2, none⟩ ⟨w.heap.size, 1, none⟩ (.slice A ps.length c) (by simp)).trans (World.cell?_setCell_same (V.setCell ⟨w.heap.size, 0, none⟩ (.int .i64 (f : Int))) ⟨w.heap.size, 1, none⟩ (.int .i64 (r : Int)) d1)
  have e0 := (World.cell?_setCell_other ((V.setCell ⟨w.heap.size, 0, none⟩ (.int .i64 (f : Int))).setCell ⟨w.heap.size, 1, none⟩ (.int .i64 (r : Int))) ⟨w.heap.size, 2, none⟩ ⟨w.heap.size, 0, none⟩ (.slice A ps.length c) (by simp)).trans ((World.cell?_setCell_other (V.setCell ⟨w.heap.size, 0, none⟩ (.int .i64 (f : Int))) ⟨w.heap.size, 1, none⟩ ⟨w.heap.size, 0, none⟩ (.int .i64 (r : Int)) (by simp)).trans (World.cell?_setCell_same V ⟨w.heap.size, 0, none⟩ (.int .i64 (f : Int)) b0))
  have hRf : RdP (((V.setCell ⟨w.heap.size, 0, none⟩ (.int .i64 (f : Int))).setCell ⟨w.heap.size, 1, none⟩ (.int .i64 (r : Int))).setCell ⟨w.heap.size, 2, none⟩ (.slice A ps.length c)) (((V.setCell ⟨w.heap.size, 0, none⟩ (.int .i64 (f : Int))).setCell ⟨w.heap.size, 1, none⟩ (.int .i64 (r : Int))).setCell ⟨w.heap.size, 2, none⟩ (.slice A ps.length c)).heap.size A ps c := (((hR.setc HLO.out).setc HLO.out).setc HLO.out).grow (by simp)
  generalize ((V.setCell ⟨w.heap.size, 0, none⟩ (.int .i64 (f : Int))).setCell ⟨w.heap.size, 1, none⟩ (.int .i64 (r : Int))).setCell ⟨w.heap.size, 2, none⟩ (.slice A ps.length c) = Z at *
  refine bodyPost_ret (v := .agg #[.int .i64 (f : Int), .int .i64 (r : Int), .slice A ps.length c]) ?_ rfl ⟨A, c, rfl, hRf, hc, hfin⟩
  simp [results, Tryd.results28, go_sem, e0, e1, e2]

/-- a string holds the names of these squares of a board, one behind the other. -/
def NamesB (F R : Int) (s : ByteArray) (l : List Nat) : Prop := s.size = 2 * l.length ∧ ∀ k, k < l.length → vat F R ((l[k]?.getD 0 : Nat) : Int) ∧ nameB F ((l[k]?.getD 0 : Nat) : Int) = s.extract (2 * k) (2 * k + 2)

theorem keep2 {w0 n : Nat} {V W : World} {F R : Int} (h : V.cell? ⟨w0, 0, none⟩ = some (.int .i64 F) ∧ V.cell? ⟨w0, 1, none⟩ = some (.int .i64 R)) (hb : Below n V W) (hn : w0 + 1 ≤ n) : W.cell? ⟨w0, 0, none⟩ = some (.int .i64 F) ∧ W.cell? ⟨w0, 1, none⟩ = some (.int .i64 R) :=
  ⟨(hb.cell (p := ⟨w0, 0, none⟩) (by simp; omega)).trans h.1, (hb.cell (p := ⟨w0, 1, none⟩) (by simp; omega)).trans h.2⟩
set_option maxRecDepth 100000 in
set_option maxHeartbeats 2000000 in
theorem set5_sq (F R : Int) (A : Option Addr) (c0 c : Nat) (s : ByteArray) (l : List Nat) (hl : l.length ≤ 8) (hs : NamesB F R s l) (w : World) : Calls Tryd.prog 30 #[.agg #[.int .i64 F, .int .i64 R, .slice A c0 c], .string s] w fun e w' => e = .returned (.int .u64 (ofL l : Int)) ∧ Below w.heap.size w w' := by
  obtain ⟨i0, hi, hz0, hz1, hz2⟩ := info_parts ints3
  obtain ⟨hsz, hnm⟩ := hs
  have HZ := Lib.hid hsz
  have HN := Lib.hid hnm
  clear hsz hnm
  go_enter Tryd.func30, Tryd.ntmps30
  go_wp2
  obtain ⟨V, hV⟩ : ∃ V, w.alloc (.cells #[.int .i64 F, .int .i64 R, .slice A c0 c] 26) = V := ⟨_, rfl⟩
  have k0 : V.cell? ⟨w.heap.size, 0, none⟩ = some (.int .i64 F) ∧ V.cell? ⟨w.heap.size, 1, none⟩ = some (.int .i64 R) := by rw [← hV]; exact ⟨by simp [go_sem], by simp [go_sem]⟩
  have hBV : Below w.heap.size w V := by rw [← hV]; exact box1 _ _
  have hsV : w.heap.size + 1 ≤ V.heap.size := by rw [← hV]; simp
  rw [hV]
  clear hV
  go_loopg [5, 6] 8 (fun gn v i wr => ∃ (k j : Nat), gn = 8 - k ∧ k ≤ l.length ∧ j = 2 * k ∧ i = .int .i64 j ∧ wr.ownsRow V.heap.size 3 1 v k (vnats (l.take k)) ∧ Below V.heap.size V wr)
  case atStart => exact ⟨0, 0, rfl, by omega, rfl, rfl, World.ownsRow_nil _ _ _ _, Below.refl _ _⟩
  case round =>
    obtain ⟨k, j, hgk, hk, hj, rfl, hown, hB⟩ := hrel
    have hsz := HZ.out
    by_cases hlt : k < l.length
    · have hlt2 : (j : Int) + 1 < (s.size : Int) := by omega
      have b0 : (0 : Int) ≤ (j : Int) := by omega
      have b1 : (j : Int) ≤ (j : Int) + 2 := by omega
      have b2 : (j : Int) + 2 ≤ (s.size : Int) := by omega
      have hs16 : s.size ≤ 16 := by omega
      obtain ⟨hv, hn⟩ := HN.out k hlt
      have HT : Hid (vnats (l.take (k + 1)) = vnats (l.take k) ++ [.int .i64 ((l[k]?.getD 0 : Nat) : Int)]) := Lib.hid (by
        rw [List.take_succ_eq_append_getElem hlt, vnats_snoc, List.getElem?_eq_getElem hlt]; rfl)
      have hn2 : nameB F ((l[k]?.getD 0 : Nat) : Int) = s.extract j (j + 2) := by rw [hj]; exact hn
      have HP := Lib.hid (refParse_yes F R _ _ hv hn2)
      clear hv hn hn2
      generalize l[k]?.getD 0 = q at *
      have HJ := Lib.hid hj
      have HGK := Lib.hid hgk
      clear hj hsz hgk
      go_wp2
      have hs1 := hB.size
      have kr : wr.cell? ⟨w.heap.size, 0, none⟩ = some (.int .i64 F) ∧ wr.cell? ⟨w.heap.size, 1, none⟩ = some (.int .i64 R) := keep2 k0 hB hsV
      have hsW : w.heap.size + 1 ≤ wr.heap.size := Nat.le_trans hsV hs1
      have hw2 : IntKind.i64.wrap ((j : Int) + 2) = (j : Int) + 2 := IntWalk.i64_in _ (by omega)
      have b3 : (0 : Int) ≤ (j : Int) + 2 := by omega
      have b4 : ((j : Int) + 2).toNat = j + 2 := by omega
      go_region_held3 (fun w' => w'.cell? ⟨w.heap.size, 0, none⟩ = some (.int .i64 F) ∧ w'.cell? ⟨w.heap.size, 1, none⟩ = some (.int .i64 R)) (first | assumption | exact keep2 (by assumption) (by assumption) hsV | exact keep2 (by assumption) (by assumption) hsW | exact keep2 (by assumption) (box1 _ _) (Nat.le_trans hsW hs3) | exact keep2 (by assumption) ((Below.refl _ _).drew) hsW)
       (first
        | (go_at_call 29; refine (HP.out _).mono ?_; rintro e w2 ⟨rfl, hb2⟩; have hown2 := own_below hown.drew hb2; have hB2 := hB.drew.trans (hb2.mono hs1); have hs3 := hb2.size)
        | (refine step_append_lies _ (by rfl) _ _ _ (by rfl) V.heap.size 3 i0 (.int .i64 0) 1 8 Tryd.underlying36 hi hz0 hz1 hz2 rfl (by decide) _ k _ (by rfl) (hown2.alloc _)
            ⟨w2.heap.size, 0, none⟩ 1 1 [.int .i64 (q : Int)] (by rfl) rfl (World.news_of_block (cs := #[.int .i64 (q : Int)]) (t := 3) (fr := (0, 0)) (heap_alloc_new _ _)) (by intro u hu; simp at hu; subst hu; rfl) (by omega) (by unfold maxLen; omega) (by omega) (Nat.le_trans hB2.size (by simp)) (w2.heap.size + 1) (by simp) ?_; intro g cap w3 hown3 hgrow hat hlt; have hb3 := joinB (hown2.alloc _) hgrow (Nat.le_trans hB2.size (by simp))))
      clear hw2 b3 b4
      go_wp2
      go_roundg (8 - (k + 1))
      case measure => have := HGK.out; omega
      case rel =>
        have hj := HJ.out
        refine ⟨k + 1, j + 2, rfl, by omega, by omega, by go_num, by rw [HT.out]; exact hown3, ?_⟩
        exact (hB2.alloc hB2.size _).grown hgrow (Nat.le_trans hB2.size (by simp)) (fun r e => (World.ownsRow.lt hown2 r e).1)
    · have hkl : k = l.length := by omega
      have HL : Hid (sqs ((l.take k).map fun i : Nat => (i : Int)) = l) := Lib.hid (by rw [sqs_nat, hkl, List.take_length])
      have hm : (l.take k).length = k := by rw [List.length_take]; omega
      have hown2 : wr.ownsRow V.heap.size 3 1 u5 (l.take k).length (vnats (l.take k)) := by rw [hm]; exact hown
      obtain ⟨A, c, rfl, hc, hA⟩ := RdI.own' hown2
      have hlt2 : ¬ ((j : Int) + 1 < (s.size : Int)) := by omega
      have hs16 : s.size ≤ 16 := by omega
      have hj16 : j ≤ 16 := by omega
      have HM : Hid (∀ i, i < ((l.take k).map fun i : Nat => (i : Int)).length → 0 ≤ ((l.take k).map fun i : Nat => (i : Int))[i]?.getD 0 ∧ ((l.take k).map fun i : Nat => (i : Int))[i]?.getD 0 < 64) := Lib.hid (by
        intro i hi
        simp at hi
        have h1 := (HN.out i (by omega)).1
        have h2 : ((l.take k).map fun i : Nat => (i : Int))[i]?.getD 0 = ((l[i]?.getD 0 : Nat) : Int) := by
          rw [List.getElem?_map, List.getElem?_take, if_pos (by omega), List.getElem?_eq_getElem (show i < l.length by omega)]; rfl
        rw [h2]
        have := h1.2.1
        have := h1.2.2
        have := (vsz_mul h1.1).2
        omega)
      have hlen : ((l.take k).map fun i : Nat => (i : Int)).length = (l.take k).length := by simp
      rw [← hlen]
      have hl2 : ((l.take k).map fun i : Nat => (i : Int)).length ≤ 1000000 := by rw [hlen, hm]; omega
      clear hown hown2 hlen hm hsz hj hgk hkl
      generalize ((l.take k).map fun i : Nat => (i : Int)) = z at *
      go_wp2_with fail
      refine (refOf_any z A c _ hl2 hA HM.out).mono ?_
      rintro e w1 ⟨rfl, rfl⟩
      go_wp2
      go_ret
      exact ⟨ret_int (by rw [HL.out]), chain hBV hB⟩

end Go.Proofs.YtjnbjegopddhgaaDoor
