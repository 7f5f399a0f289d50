/- Positions, by the program: reading. -/
import Derived.Test.YtelkmdklpcfobaaGreatDoorPpK

namespace Go.Proofs.YtelkmdklpcfobaaGreatDoor
open Go.RowKit Go.Sort

theorem tl_inj {t s : ByteArray} (h : t.toList = s.toList) : t = s := by
  have e : ∀ x : ByteArray, x.toList = x.data.toList := fun x => by rw [← bsL_ne x.data.toList, bsL_of]
  rw [e, e] at h
  rw [← bsL_of t, h, bsL_of]
theorem pg_len {L : List UInt8} (h : (words8 L).length ≠ 7) : rdPo L = none := by
  rw [pg_eq]
  have : pgPo (words8 L) = none := by
    unfold pgPo
    split
    · rename_i heq
      rw [heq] at h
      exact absurd rfl h
    · rfl
  rw [this]
theorem pg_bad {L w0 w1 w2 w3 w4 w5 w6 : List UInt8} (h : words8 L = [w0, w1, w2, w3, w4, w5, w6]) (hb : parseB w1 = none) : rdPo L = none := by
  rw [pg_eq, h]
  unfold pgPo
  dsimp only
  rw [hb]
theorem pg_some {L w0 w1 w2 w3 w4 w5 w6 : List UInt8} {f r : Nat} {l : List Int} (h : words8 L = [w0, w1, w2, w3, w4, w5, w6]) (hb : parseB w1 = some (f, r, l)) :
    rdPo L = if okPo ⟨f, r, l, w2 == [98], pcaV w3, ppsV f r w4, atV w5, atV w6⟩ && posT ⟨f, r, l, w2 == [98], pcaV w3, ppsV f r w4, atV w5, atV w6⟩ == L then some ⟨f, r, l, w2 == [98], pcaV w3, ppsV f r w4, atV w5, atV w6⟩ else none := by
  rw [pg_eq, h]
  unfold pgPo
  dsimp only
  rw [hb]
theorem words8_jw (L : List UInt8) : jw (words8 L) = L := (cut32_inv (min 8 (L.length + 1) - 1) L).2.1

/-- what the reading's drawn region keeps. -/
def S9 (V W : World) : Prop := T6 W ∧ Below V.heap.size V W
theorem keep9 {V W W' : World} {b1 b2 : Nat} {u2 u3 u4 z0 z1 z2 : Value} (h : (W.cell? ⟨b1, 2, none⟩ = some u2 ∧ W.cell? ⟨b1, 3, none⟩ = some u3 ∧ W.cell? ⟨b1, 4, none⟩ = some u4) ∧ (W.cell? ⟨b2, 0, none⟩ = some z0 ∧ W.cell? ⟨b2, 1, none⟩ = some z1 ∧ W.cell? ⟨b2, 2, none⟩ = some z2) ∧ S9 V W) (hb : Below W.heap.size W W') :
    (W'.cell? ⟨b1, 2, none⟩ = some u2 ∧ W'.cell? ⟨b1, 3, none⟩ = some u3 ∧ W'.cell? ⟨b1, 4, none⟩ = some u4) ∧ (W'.cell? ⟨b2, 0, none⟩ = some z0 ∧ W'.cell? ⟨b2, 1, none⟩ = some z1 ∧ W'.cell? ⟨b2, 2, none⟩ = some z2) ∧ S9 V W' := by
  obtain ⟨⟨h2, h3, h4⟩, ⟨k0, k1, k2⟩, hT, hB⟩ := h
  exact ⟨⟨cBo hb h2, cBo hb h3, cBo hb h4⟩, ⟨cBo hb k0, cBo hb k1, cBo hb k2⟩, hT.below hb, hB.trans (hb.mono hB.size)⟩

theorem S9.bel {a b : Prop} {V W : World} (h : a ∧ b ∧ S9 V W) : Below V.heap.size V W := h.2.2.2
def S9m (V W : World) (b : Nat) (v0 v1 v2 v3 v4 v5 v6 v7 : Value) : Prop := S9 V ((((((((W.setCell ⟨b, 0, none⟩ v0).setCell ⟨b, 1, none⟩ v1).setCell ⟨b, 2, none⟩ v2).setCell ⟨b, 3, none⟩ v3).setCell ⟨b, 4, none⟩ v4).setCell ⟨b, 5, none⟩ v5).setCell ⟨b, 6, none⟩ v6).setCell ⟨b, 7, none⟩ v7)
theorem S9.mark {V W : World} {b : Nat} {v0 v1 v2 v3 v4 v5 v6 v7 : Value} : S9 V ((((((((W.setCell ⟨b, 0, none⟩ v0).setCell ⟨b, 1, none⟩ v1).setCell ⟨b, 2, none⟩ v2).setCell ⟨b, 3, none⟩ v3).setCell ⟨b, 4, none⟩ v4).setCell ⟨b, 5, none⟩ v5).setCell ⟨b, 6, none⟩ v6).setCell ⟨b, 7, none⟩ v7) = S9m V W b v0 v1 v2 v3 v4 v5 v6 v7 := rfl
theorem keep9s {V W : World} {b b1 b2 : Nat} {u2 u3 u4 z0 z1 z2 : Value} (h : (V.cell? ⟨b1, 2, none⟩ = some u2 ∧ V.cell? ⟨b1, 3, none⟩ = some u3 ∧ V.cell? ⟨b1, 4, none⟩ = some u4) ∧ (V.cell? ⟨b2, 0, none⟩ = some z0 ∧ V.cell? ⟨b2, 1, none⟩ = some z1 ∧ V.cell? ⟨b2, 2, none⟩ = some z2) ∧ S9 V V) (hb : Below V.heap.size V W) (hbb : V.heap.size ≤ b) (v0 v1 v2 v3 v4 v5 v6 v7 : Value) :
    (World.cell? ((((((((W.setCell ⟨b, 0, none⟩ v0).setCell ⟨b, 1, none⟩ v1).setCell ⟨b, 2, none⟩ v2).setCell ⟨b, 3, none⟩ v3).setCell ⟨b, 4, none⟩ v4).setCell ⟨b, 5, none⟩ v5).setCell ⟨b, 6, none⟩ v6).setCell ⟨b, 7, none⟩ v7) ⟨b1, 2, none⟩ = some u2 ∧ World.cell? ((((((((W.setCell ⟨b, 0, none⟩ v0).setCell ⟨b, 1, none⟩ v1).setCell ⟨b, 2, none⟩ v2).setCell ⟨b, 3, none⟩ v3).setCell ⟨b, 4, none⟩ v4).setCell ⟨b, 5, none⟩ v5).setCell ⟨b, 6, none⟩ v6).setCell ⟨b, 7, none⟩ v7) ⟨b1, 3, none⟩ = some u3 ∧ World.cell? ((((((((W.setCell ⟨b, 0, none⟩ v0).setCell ⟨b, 1, none⟩ v1).setCell ⟨b, 2, none⟩ v2).setCell ⟨b, 3, none⟩ v3).setCell ⟨b, 4, none⟩ v4).setCell ⟨b, 5, none⟩ v5).setCell ⟨b, 6, none⟩ v6).setCell ⟨b, 7, none⟩ v7) ⟨b1, 4, none⟩ = some u4) ∧ (World.cell? ((((((((W.setCell ⟨b, 0, none⟩ v0).setCell ⟨b, 1, none⟩ v1).setCell ⟨b, 2, none⟩ v2).setCell ⟨b, 3, none⟩ v3).setCell ⟨b, 4, none⟩ v4).setCell ⟨b, 5, none⟩ v5).setCell ⟨b, 6, none⟩ v6).setCell ⟨b, 7, none⟩ v7) ⟨b2, 0, none⟩ = some z0 ∧ World.cell? ((((((((W.setCell ⟨b, 0, none⟩ v0).setCell ⟨b, 1, none⟩ v1).setCell ⟨b, 2, none⟩ v2).setCell ⟨b, 3, none⟩ v3).setCell ⟨b, 4, none⟩ v4).setCell ⟨b, 5, none⟩ v5).setCell ⟨b, 6, none⟩ v6).setCell ⟨b, 7, none⟩ v7) ⟨b2, 1, none⟩ = some z1 ∧ World.cell? ((((((((W.setCell ⟨b, 0, none⟩ v0).setCell ⟨b, 1, none⟩ v1).setCell ⟨b, 2, none⟩ v2).setCell ⟨b, 3, none⟩ v3).setCell ⟨b, 4, none⟩ v4).setCell ⟨b, 5, none⟩ v5).setCell ⟨b, 6, none⟩ v6).setCell ⟨b, 7, none⟩ v7) ⟨b2, 2, none⟩ = some z2) ∧ S9m V W b v0 v1 v2 v3 v4 v5 v6 v7 :=
  keep9 h (below8 hb hbb v0 v1 v2 v3 v4 v5 v6 v7)
theorem bz8 {X u : World} (h : Below (X.alloc (.cells #[.int .i64 0, .int .i64 0, .slice none 0 0, .bool false, .int .u8 0, .int .i64 0, .int .i64 0, .int .i64 0] 26)).heap.size (X.alloc (.cells #[.int .i64 0, .int .i64 0, .slice none 0 0, .bool false, .int .u8 0, .int .i64 0, .int .i64 0, .int .i64 0] 26)) u) : Bx8 u X.heap.size 0 0 (.slice none 0 0) false 0 0 0 0 :=
  (show Bx8 (X.alloc (.cells #[.int .i64 0, .int .i64 0, .slice none 0 0, .bool false, .int .u8 0, .int .i64 0, .int .i64 0, .int .i64 0] 26)) X.heap.size 0 0 (.slice none 0 0) false 0 0 0 0 from box8 X 0 0 (.slice none 0 0) false 0 0 0 0).below h (by simp)
theorem bz8d {X u : World} (h : Below (X.alloc (.cells #[.int .i64 0, .int .i64 0, .slice none 0 0, .bool false, .int .u8 0, .int .i64 0, .int .i64 0, .int .i64 0] 26)).drew.heap.size (X.alloc (.cells #[.int .i64 0, .int .i64 0, .slice none 0 0, .bool false, .int .u8 0, .int .i64 0, .int .i64 0, .int .i64 0] 26)).drew u) : Bx8 u X.heap.size 0 0 (.slice none 0 0) false 0 0 0 0 :=
  (show Bx8 (X.alloc (.cells #[.int .i64 0, .int .i64 0, .slice none 0 0, .bool false, .int .u8 0, .int .i64 0, .int .i64 0, .int .i64 0] 26)).drew X.heap.size 0 0 (.slice none 0 0) false 0 0 0 0 from box8 X 0 0 (.slice none 0 0) false 0 0 0 0).below h (by simp)
/-- what the walk of reading knows of a world. -/
def Fq (base : Nat) (w W : World) (b1 : Nat) (y2 y3 y4 y6 : ByteArray) (A : Option Addr) (l : List Int) (c : Nat) : Prop :=
  (W.cell? ⟨b1, 2, none⟩ = some (.string y2) ∧ W.cell? ⟨b1, 3, none⟩ = some (.string y3) ∧ W.cell? ⟨b1, 4, none⟩ = some (.string y4) ∧ W.cell? ⟨b1, 6, none⟩ = some (.string y6)) ∧ T6 W ∧ RdP W W.heap.size A l c ∧ W.ownsRow base 41 1 (.slice A l.length c) l.length (vpcs l) ∧ Bx8 W w.heap.size 0 0 (.slice none 0 0) false 0 0 0 0 ∧ Below w.heap.size w W
theorem Fq.below {base : Nat} {w W W' : World} {b1 : Nat} {y2 y3 y4 y6 : ByteArray} {A : Option Addr} {l : List Int} {c : Nat} (h : Fq base w W b1 y2 y3 y4 y6 A l c) (hb : Below W.heap.size W W') : Fq base w W' b1 y2 y3 y4 y6 A l c := by
  obtain ⟨⟨h2, h3, h4, h6⟩, hT, hA, ho, hX, hB⟩ := h
  exact ⟨⟨cBo hb h2, cBo hb h3, cBo hb h4, cBo hb h6⟩, hT.below hb, rdBo hb hA, own_below ho hb, hX.below hb hX.lt, chain hB hb⟩

set_option maxRecDepth 100000 in
set_option maxHeartbeats 20000000 in
theorem pParse_any (s : ByteArray) (hs : s.size ≤ 200) (w : World) (hT : T6 w) :
    Calls Tryz.prog 27 #[.string s] w (ParsedQ w (rdPo s.data.toList)) := by
  have hB0 := box1 w (.cells #[.int .i64 0, .int .i64 0, .slice none 0 0, .bool false, .int .u8 0, .int .i64 0, .int .i64 0, .int .i64 0] 26)
  have hX := box8 w 0 0 (.slice none 0 0) false 0 0 0 0
  have hX0 : Bx8 (w.alloc (.cells #[.int .i64 0, .int .i64 0, .slice none 0 0, .bool false, .int .u8 0, .int .i64 0, .int .i64 0, .int .i64 0] 26)) w.heap.size 0 0 (.slice none 0 0) false 0 0 0 0 := hX
  have HT := Lib.hid (hT.below hB0)
  clear hX hT
  go_enter Tryz.func27, Tryz.ntmps27
  go_wp2_with fail
  refine (split8_any s (by omega) _).mono ?_
  rintro e w1 ⟨xs, c, rfl, hxc, hxs, hrd, hsz, hb1⟩
  have hX1 := hX0.below hb1 hX0.lt
  have hT1 := HT.out.below hb1
  have hB1 := after1 hb1
  have hlt1 : w.heap.size + 1 < w1.heap.size := by rw [hsz]; simp
  simp only [World.size_alloc] at hrd hsz hb1 ⊢
  clear hX0 HT hB0 hb1 hsz
  by_cases h7 : xs.length = 7
  · obtain ⟨y0, y1, y2, y3, y4, y5, y6, rfl⟩ : ∃ y0 y1 y2 y3 y4 y5 y6, xs = [y0, y1, y2, y3, y4, y5, y6] := by
      match xs, h7 with
      | [y0, y1, y2, y3, y4, y5, y6], _ => exact ⟨y0, y1, y2, y3, y4, y5, y6, rfl⟩
    clear h7 hxc
    have hw8 : words8 s.data.toList = [y0.data.toList, y1.data.toList, y2.data.toList, y3.data.toList, y4.data.toList, y5.data.toList, y6.data.toList] := hxs.symm
    have hjl := congrArg List.length (words8_jw s.data.toList)
    rw [hw8] at hjl
    have hle : y1.size ≤ 200 ∧ y5.size ≤ 200 ∧ y6.size ≤ 200 := by
      have e1 : s.data.toList.length = s.size := by rw [Array.length_toList]; rfl
      have e2 : y1.data.toList.length = y1.size := by rw [Array.length_toList]; rfl
      have e3 : y5.data.toList.length = y5.size := by rw [Array.length_toList]; rfl
      have e4 : y6.data.toList.length = y6.size := by rw [Array.length_toList]; rfl
      simp only [jw, List.flatMap_cons, List.flatMap_nil, List.length_append, List.length_cons, List.length_nil, e1, e2, e3, e4] at hjl
      omega
    have HW8 := Lib.hid hw8
    have HLE := Lib.hid hle
    have g0 := hrd 0 y0 rfl
    have g1 := hrd 1 y1 rfl
    have g2 := hrd 2 y2 rfl
    have g3 := hrd 3 y3 rfl
    have g4 := hrd 4 y4 rfl
    have g5 := hrd 5 y5 rfl
    have g6 := hrd 6 y6 rfl
    clear hw8 hle hjl hxs hrd
    simp only [List.length_cons, List.length_nil, Nat.zero_add, Nat.reduceAdd]
    go_wp2_with fail
    refine (parse_any' y1 _ HLE.out.1 hT1.kinds).mono ?_
    intro e w2 hP
    cases hpb : parseB y1.data.toList with
    | none =>
      rw [hpb] at hP
      obtain ⟨rfl, hb2⟩ := hP
      have HNO := Lib.hid (pg_bad HW8.out hpb)
      have hB2 := chain hB1 hb2
      have hX2 := hX1.below hb2 hX1.lt
      obtain ⟨⟨x0, x1, x2, x3, x4, x5, x6, x7⟩, xf⟩ := hX2.below (box1 w2 (.cells #[.int .i64 0, .int .i64 0, .slice none 0 0] 30)) hX2.lt
      have hB3 := Lib.hid (hB2.alloc hB2.size (.cells #[.int .i64 0, .int .i64 0, .slice none 0 0] 30))
      clear hpb hX1 hX2 hT1 hB1 hb2 hB2 g0 g1 g2 g3 g4 g5 g6
      go_wp2
      refine bodyPost_ret (v := .tuple #[.agg #[.int .i64 0, .int .i64 0, .slice none 0 0, .bool false, .int .u8 0, .int .i64 0, .int .i64 0, .int .i64 0], .int .i64 6]) ?_ rfl (ParsedQ.no HNO.out ?_)
      · simp [results, Tryz.results27, go_sem, x0, x1, x2, x3, x4, x5, x6, x7]
      · exact ((((((((hB3.out).setCell (p := ⟨w.heap.size, 0, none⟩) (Nat.le_refl _) (.int .i64 0)).setCell (p := ⟨w.heap.size, 1, none⟩) (Nat.le_refl _) (.int .i64 0)).setCell (p := ⟨w.heap.size, 2, none⟩) (Nat.le_refl _) (.slice none 0 0)).setCell (p := ⟨w.heap.size, 3, none⟩) (Nat.le_refl _) (.bool false)).setCell (p := ⟨w.heap.size, 4, none⟩) (Nat.le_refl _) (.int .u8 0)).setCell (p := ⟨w.heap.size, 5, none⟩) (Nat.le_refl _) (.int .i64 0)).setCell (p := ⟨w.heap.size, 6, none⟩) (Nat.le_refl _) (.int .i64 0)).setCell (p := ⟨w.heap.size, 7, none⟩) (Nat.le_refl _) (.int .i64 0)
    | some q =>
      obtain ⟨f, r, l⟩ := q
      rw [hpb] at hP
      obtain ⟨v, rfl, hown, hb2⟩ := hP
      obtain ⟨A, c2, rfl, hcap, hA⟩ := RdP.own hown
      have HRD := Lib.hid (pg_some HW8.out hpb)
      obtain ⟨f0, f1, r0, r1, hl, _, _⟩ := text_parse hpb
      have hvs : vsz (f : Int) (r : Int) := ⟨by omega, by omega, by omega, by omega⟩
      have hl64 : l.length ≤ 64 := by rw [hl]; exact Nat.mul_le_mul r1 f1
      have F1 : Fq w1.heap.size w w2 (w.heap.size + 1) y2 y3 y4 y6 A l c2 := ⟨⟨cBo hb2 g2, cBo hb2 g3, cBo hb2 g4, cBo hb2 g6⟩, hT1.below hb2, hA, hown, hX1.below hb2 hX1.lt, chain hB1 hb2⟩
      have F2 := F1.below (box1 w2 (.cells #[.int .i64 (f : Int), .int .i64 (r : Int), .slice A l.length c2] 30))
      have k0 : (w2.alloc (.cells #[.int .i64 (f : Int), .int .i64 (r : Int), .slice A l.length c2] 30)).cell? ⟨w2.heap.size, 0, none⟩ = some (.int .i64 (f : Int)) := by simp [go_sem]
      have k1 : (w2.alloc (.cells #[.int .i64 (f : Int), .int .i64 (r : Int), .slice A l.length c2] 30)).cell? ⟨w2.heap.size, 1, none⟩ = some (.int .i64 (r : Int)) := by simp [go_sem]
      have k2 : (w2.alloc (.cells #[.int .i64 (f : Int), .int .i64 (r : Int), .slice A l.length c2] 30)).cell? ⟨w2.heap.size, 2, none⟩ = some (.slice A l.length c2) := by simp [go_sem]
      have j5 := alive (.cells #[.int .i64 (f : Int), .int .i64 (r : Int), .slice A l.length c2] 30) (cBo hb2 g5)
      have hbase : w1.heap.size ≤ w2.heap.size := hb2.size
      clear F1 g0 g1 g2 g3 g4 g5 g6 hX1 hT1 hB1 hb2 hown hA hpb hl
      obtain ⟨⟨m2, m3, m4, m6⟩, hTc, _⟩ := id F2
      go_wp2_with fail
      refine (atoi6 y5 (by have := HLE.out.2.1; omega) _ hTc).mono ?_
      rintro e w3 ⟨ev5, rfl, hb3⟩
      have F3 := F2.below hb3
      have n0 := cBo hb3 k0
      have n1 := cBo hb3 k1
      have n2 := cBo hb3 k2
      clear m2 m3 m4 m6 hTc F2 k0 k1 k2 j5
      obtain ⟨⟨m2, m3, m4, m6⟩, hTc, _⟩ := id F3
      go_wp2_with fail
      refine (atoi6 y6 (by have := HLE.out.2.2; omega) _ hTc).mono ?_
      rintro e w4 ⟨ev6, rfl, hb4⟩
      have F4 := F3.below hb4
      have k0 := cBo hb4 n0
      have k1 := cBo hb4 n1
      have k2 := cBo hb4 n2
      clear m2 m3 m4 m6 hTc F3 n0 n1 n2 hb3 hb4
      obtain ⟨⟨m2, m3, m4, m6⟩, hTc, hA4, hown4, hX4, hB4⟩ := id F4
      have C1 := Lib.hid (fun w => sdT_any true w)
      have C2 := Lib.hid (fun w hR => pcaP_any y3 w hR)
      have C3 := Lib.hid (fun w => ppsP_any (f : Int) (r : Int) y4 hvs w)
      have hsd : sdL true = [98] := rfl
      rw [hsd] at C1
      have hce : ((y2.toList == (bsL [98]).toList) = (y2.data.toList == [98])) := by
        rw [bsL_ne, show y2.toList = y2.data.toList by rw [← bsL_ne y2.data.toList, bsL_of]]
      have hS : (w4.cell? ⟨w.heap.size + 1, 2, none⟩ = some (.string y2) ∧ w4.cell? ⟨w.heap.size + 1, 3, none⟩ = some (.string y3) ∧ w4.cell? ⟨w.heap.size + 1, 4, none⟩ = some (.string y4)) ∧ (w4.cell? ⟨w2.heap.size, 0, none⟩ = some (.int .i64 (f : Int)) ∧ w4.cell? ⟨w2.heap.size, 1, none⟩ = some (.int .i64 (r : Int)) ∧ w4.cell? ⟨w2.heap.size, 2, none⟩ = some (.slice A l.length c2)) ∧ S9 w4 w4 := ⟨⟨m2, m3, m4⟩, ⟨k0, k1, k2⟩, hTc, Below.refl _ _⟩
      have hpc : pcaV y3.data.toList < 256 := by rw [← pcT_end]; have := pcT_lt y3.data.toList 4 (by omega); omega
      generalize pcaV y3.data.toList = pc at *
      generalize ppsV (f : Int) (r : Int) y4.data.toList = pp at *
      generalize atV y5.data.toList = a5 at *
      generalize atV y6.data.toList = a6 at *
      clear m2 m3 m4 m6 k0 k1 k2 hA4 hown4 hX4 hB4 hTc
      go_upto_region 9 with fail
      go_cut [11] (fun s11 wx => ∃ b : Nat, s11 = .pointer (some ⟨b, 0, none⟩) ∧ Bx8 wx b (f : Int) (r : Int) (.slice A l.length c2) (y2.data.toList == [98]) pc pp a5 a6 ∧ Below w4.heap.size w4 wx)
      case first =>
        go_region_held3 (fun w' => (w'.cell? ⟨w.heap.size + 1, 2, none⟩ = some (.string y2) ∧ w'.cell? ⟨w.heap.size + 1, 3, none⟩ = some (.string y3) ∧ w'.cell? ⟨w.heap.size + 1, 4, none⟩ = some (.string y4)) ∧ (w'.cell? ⟨w2.heap.size, 0, none⟩ = some (.int .i64 (f : Int)) ∧ w'.cell? ⟨w2.heap.size, 1, none⟩ = some (.int .i64 (r : Int)) ∧ w'.cell? ⟨w2.heap.size, 2, none⟩ = some (.slice A l.length c2)) ∧ S9 w4 w')
          (first | (simp only [S9.mark]; refine keep9s hS ?_ ?_ _ _ _ _ _ _ _ _ <;> first | (exact S9.bel (by assumption)) | (exact (S9.bel (by assumption)).drew) | exact Nat.le_refl _ | (have e1 := hc1.size; have e2 := hc2.size; have e3 := hc3.size; simp at e1 e2 e3 ⊢; omega)) | assumption | exact keep9 (by assumption) (by assumption) | exact keep9 (by assumption) ((Below.refl _ _).drew) | exact keep9 (by assumption) (box1 _ _) | exact keep9 (keep9 (keep9 (keep9 (keep9 hS ((Below.refl _ _).drew)) hc1) hc2) hc3) (box1 _ _))
          (first
            | (go_at_call 55; refine (C1.out _).mono ?_; rintro e u1 ⟨rfl, hc1⟩; try (first | (have yz1 := bz8d hc1) | (have yz1 := bz8 hc1)); try (obtain ⟨⟨e0, e1, e2, e3, e4, e5, e6, e7⟩, ef⟩ := id yz1))
            | (go_at_call 65; refine (C2.out _ (by assumption : _ ∧ _ ∧ S9 w4 _).2.2.1.rts).mono ?_; rintro e u2 ⟨rfl, hc2⟩; try (first | (have yz2 := yz1.below hc2 yz1.lt) | (have yz2 := bz8d hc2) | (have yz2 := bz8 hc2)); try (obtain ⟨⟨e0, e1, e2, e3, e4, e5, e6, e7⟩, ef⟩ := id yz2))
            | (go_at_call 66; refine (C3.out _).mono ?_; rintro e u3 ⟨rfl, hc3⟩; try (first | (have yz3 := yz2.below hc3 yz2.lt) | (have yz3 := bz8d hc3) | (have yz3 := bz8 hc3)); try (obtain ⟨⟨e0, e1, e2, e3, e4, e5, e6, e7⟩, ef⟩ := id yz3)))
        all_goals
          go_wp2_with fail
          (conv => arg 2; simp [Act.put])
          go_meet
          case rel =>
            refine ⟨_, rfl, ?_, ?_⟩
            · first | (rw [← hce]; exact st8 yz3 _ _ _ _ _ _ _ _) | (rw [← hce]; exact box8 _ _ _ _ _ _ _ _ _)
            · exact S9.bel (by assumption)
      case rest =>
        obtain ⟨b, rfl, hbx, hbw⟩ := hcut
        have F5 := F4.below hbw
        clear F4 hbw C1 C2 C3 hS hce hsd
        obtain ⟨_, hT5, hA5, hown5, hX5, hB5⟩ := F5
        generalize (y2.data.toList == [98]) = bl at *
        by_cases hok : okPo ⟨(f : Int), (r : Int), l, bl, pc, pp, a5, a6⟩ = true
        · have HT := Lib.hid (pText_yes (f : Int) (r : Int) l A c2 bl pc pp a5 a6 hok hcap wc hT5 hA5)
          obtain ⟨t, ht⟩ : ∃ t, bsL (posT ⟨(f : Int), (r : Int), l, bl, pc, pp, a5, a6⟩) = t := ⟨_, rfl⟩
          rw [ht] at HT
          obtain ⟨⟨z0, z1, z2, z3, z4, z5, z6, z7⟩, zf⟩ := id hbx
          go_wp2_with fail
          refine HT.out.mono ?_
          rintro e w6 ⟨rfl, hb6⟩
          have hbx6 := hbx.below hb6 hbx.lt
          have hX6 := hX5.below hb6 hX5.lt
          have hown6 := own_below hown5 hb6
          have hB6 := chain hB5 hb6
          clear z0 z1 z2 z3 z4 z5 z6 z7 zf hb6 hbx hX5 hown5 hB5 HT hT5 hA5
          by_cases hts : t = s
          · subst hts
            have HS := Lib.hid (show rdPo t.data.toList = some ⟨(f : Int), (r : Int), l, bl, pc, pp, a5, a6⟩ by rw [HRD.out, if_pos]; rw [Bool.and_eq_true]; exact ⟨hok, by rw [← ht]; simp [bsL]⟩)
            have hown7 := own8 hown6 (b := w.heap.size) (show w.heap.size < w1.heap.size by omega) (.int .i64 (f : Int)) (.int .i64 (r : Int)) (.slice A l.length c2) (.bool bl) (.int .u8 (pc : Int)) (.int .i64 pp) (.int .i64 a5) (.int .i64 a6)
            have hB7 := below8 hB6 (Nat.le_refl _) (.int .i64 (f : Int)) (.int .i64 (r : Int)) (.slice A l.length c2) (.bool bl) (.int .u8 (pc : Int)) (.int .i64 pp) (.int .i64 a5) (.int .i64 a6)
            have HN := Lib.hid (ParsedQ.yes HS.out (hown7.mono (show w.heap.size ≤ w1.heap.size by omega)) hB7)
            obtain ⟨⟨x0, x1, x2, x3, x4, x5, x6, x7⟩, xf⟩ := hX6
            obtain ⟨⟨z0, z1, z2, z3, z4, z5, z6, z7⟩, zf⟩ := hbx6
            clear hown6 hown7 hB6 hB7 HS HRD ht hok HW8
            go_wp2
            refine bodyPost_ret (v := .tuple #[.agg #[.int .i64 (f : Int), .int .i64 (r : Int), .slice A l.length c2, .bool bl, .int .u8 (pc : Int), .int .i64 pp, .int .i64 a5, .int .i64 a6], .int .i64 0]) ?_ rfl HN.out
            simp [results, Tryz.results27, go_sem, x0, x1, x2, x3, x4, x5, x6, x7]
          · have HNO := Lib.hid (show rdPo s.data.toList = none by
              rw [HRD.out, if_neg]
              rw [Bool.and_eq_true, beq_iff_eq]
              intro h
              apply hts
              rw [← ht, h.2, bsL_of])
            have HNP := Lib.hid (ParsedQ.no HNO.out (below8 hB6 (Nat.le_refl _) (.int .i64 0) (.int .i64 0) (.slice none 0 0) (.bool false) (.int .u8 0) (.int .i64 0) (.int .i64 0) (.int .i64 0)))
            obtain ⟨⟨x0, x1, x2, x3, x4, x5, x6, x7⟩, xf⟩ := hX6
            have hnl : ¬ t.toList = s.toList := fun h => hts (tl_inj h)
            have hne1 : (t.toList == s.toList) = false := by simpa using hnl
            have hne2 : (t.toList != s.toList) = true := by simpa using hnl
            clear hown6 hB6 HNO HRD ht hok HW8 hbx6
            go_wp2
            refine bodyPost_ret (v := .tuple #[.agg #[.int .i64 0, .int .i64 0, .slice none 0 0, .bool false, .int .u8 0, .int .i64 0, .int .i64 0, .int .i64 0], .int .i64 6]) ?_ rfl HNP.out
            simp [results, Tryz.results27, go_sem, x0, x1, x2, x3, x4, x5, x6, x7]
        · have hokf : okPo ⟨(f : Int), (r : Int), l, bl, pc, pp, a5, a6⟩ = false := by simpa using hok
          have HT := Lib.hid (pText_no (f : Int) (r : Int) l A c2 bl pc pp a5 a6 hpc (by omega) hcap hokf wc hT5 hA5)
          have HNO := Lib.hid (show rdPo s.data.toList = none by rw [HRD.out, if_neg]; simp [hokf])
          obtain ⟨⟨z0, z1, z2, z3, z4, z5, z6, z7⟩, zf⟩ := id hbx
          go_wp2_with fail
          refine HT.out.mono ?_
          rintro e w6 ⟨rfl, hb6⟩
          have hX6 := hX5.below hb6 hX5.lt
          have hB6 := chain hB5 hb6
          have HNP := Lib.hid (ParsedQ.no HNO.out (below8 hB6 (Nat.le_refl _) (.int .i64 0) (.int .i64 0) (.slice none 0 0) (.bool false) (.int .u8 0) (.int .i64 0) (.int .i64 0) (.int .i64 0)))
          obtain ⟨⟨x0, x1, x2, x3, x4, x5, x6, x7⟩, xf⟩ := hX6
          clear z0 z1 z2 z3 z4 z5 z6 z7 zf hb6 hbx hX5 hown5 hB5 HT hT5 hA5 hB6 HNO HRD hok hokf HW8
          go_wp2
          refine bodyPost_ret (v := .tuple #[.agg #[.int .i64 0, .int .i64 0, .slice none 0 0, .bool false, .int .u8 0, .int .i64 0, .int .i64 0, .int .i64 0], .int .i64 6]) ?_ rfl HNP.out
          simp [results, Tryz.results27, go_sem, x0, x1, x2, x3, x4, x5, x6, x7]
  · have HNO := Lib.hid (pg_len (L := s.data.toList) (by rw [← hxs, List.length_map]; exact h7))
    have hne : ((xs.length : Int) != 7) = true := by simp; omega
    obtain ⟨⟨x0, x1, x2, x3, x4, x5, x6, x7⟩, xf⟩ := hX1
    clear h7 hxs hT1 hrd
    go_wp2
    refine bodyPost_ret (v := .tuple #[.agg #[.int .i64 0, .int .i64 0, .slice none 0 0, .bool false, .int .u8 0, .int .i64 0, .int .i64 0, .int .i64 0], .int .i64 6]) ?_ rfl (ParsedQ.no HNO.out ?_)
    · simp [results, Tryz.results27, go_sem, x0, x1, x2, x3, x4, x5, x6, x7]
    · exact ((((((((hB1).setCell (p := ⟨w.heap.size, 0, none⟩) (Nat.le_refl _) (.int .i64 0)).setCell (p := ⟨w.heap.size, 1, none⟩) (Nat.le_refl _) (.int .i64 0)).setCell (p := ⟨w.heap.size, 2, none⟩) (Nat.le_refl _) (.slice none 0 0)).setCell (p := ⟨w.heap.size, 3, none⟩) (Nat.le_refl _) (.bool false)).setCell (p := ⟨w.heap.size, 4, none⟩) (Nat.le_refl _) (.int .u8 0)).setCell (p := ⟨w.heap.size, 5, none⟩) (Nat.le_refl _) (.int .i64 0)).setCell (p := ⟨w.heap.size, 6, none⟩) (Nat.le_refl _) (.int .i64 0)).setCell (p := ⟨w.heap.size, 7, none⟩) (Nat.le_refl _) (.int .i64 0)

end Go.Proofs.YtelkmdklpcfobaaGreatDoor
