/- Positions, by the program: the text of a position. -/
import Derived.Test.YtelkmdklpcfobaaGreatDoorPpF
import Derived.Deep.RegionHeld3
import Derived.Test.YtelkmdklpcfobaaGreatDoorBkA

namespace Go.Proofs.YtelkmdklpcfobaaGreatDoor
open Go.RowKit Go.Sort

/-- what the text's region keeps. -/
def S6 (w W : World) : Prop := T6 W ∧ Below w.heap.size w W ∧ w.heap.size + 1 ≤ W.heap.size
theorem keep6 {w W W' : World} {v0 v1 v2 v3 v4 v5 v6 v7 : Value} (h : W.cell? ⟨w.heap.size, 0, none⟩ = some v0 ∧ W.cell? ⟨w.heap.size, 1, none⟩ = some v1 ∧ W.cell? ⟨w.heap.size, 2, none⟩ = some v2 ∧ W.cell? ⟨w.heap.size, 3, none⟩ = some v3 ∧ W.cell? ⟨w.heap.size, 4, none⟩ = some v4 ∧ W.cell? ⟨w.heap.size, 5, none⟩ = some v5 ∧ W.cell? ⟨w.heap.size, 6, none⟩ = some v6 ∧ W.cell? ⟨w.heap.size, 7, none⟩ = some v7 ∧ S6 w W) (hb : Below W.heap.size W W') : W'.cell? ⟨w.heap.size, 0, none⟩ = some v0 ∧ W'.cell? ⟨w.heap.size, 1, none⟩ = some v1 ∧ W'.cell? ⟨w.heap.size, 2, none⟩ = some v2 ∧ W'.cell? ⟨w.heap.size, 3, none⟩ = some v3 ∧ W'.cell? ⟨w.heap.size, 4, none⟩ = some v4 ∧ W'.cell? ⟨w.heap.size, 5, none⟩ = some v5 ∧ W'.cell? ⟨w.heap.size, 6, none⟩ = some v6 ∧ W'.cell? ⟨w.heap.size, 7, none⟩ = some v7 ∧ S6 w W' := by
  obtain ⟨h0, h1, h2, h3, h4, h5, h6, h7, hT, hB, hs⟩ := h
  exact ⟨cBo hb h0, cBo hb h1, cBo hb h2, cBo hb h3, cBo hb h4, cBo hb h5, cBo hb h6, cBo hb h7, hT.below hb, hB.trans (hb.mono hB.size), Nat.le_trans hs hb.size⟩
theorem tS6 {w W : World} {a b c d e f g h : Prop} (hh : a ∧ b ∧ c ∧ d ∧ e ∧ f ∧ g ∧ h ∧ S6 w W) : T6 W := hh.2.2.2.2.2.2.2.2.1
theorem bS6 {w W : World} {a b c d e f g h : Prop} (hh : a ∧ b ∧ c ∧ d ∧ e ∧ f ∧ g ∧ h ∧ S6 w W) : Below w.heap.size w W := hh.2.2.2.2.2.2.2.2.2.1
theorem rd7 (W : World) (s1 s2 s3 s4 s5 s6 s7 : ByteArray) : RdSt (W.alloc (.cells #[.string s1, .string s2, .string s3, .string s4, .string s5, .string s6, .string s7] 9)) W.heap.size [s1, s2, s3, s4, s5, s6, s7] := by
  intro j x hx
  match j, hx with
  | 0, hx => simp at hx; subst hx; simp [go_sem]
  | 1, hx => simp at hx; subst hx; simp [go_sem]
  | 2, hx => simp at hx; subst hx; simp [go_sem]
  | 3, hx => simp at hx; subst hx; simp [go_sem]
  | 4, hx => simp at hx; subst hx; simp [go_sem]
  | 5, hx => simp at hx; subst hx; simp [go_sem]
  | 6, hx => simp at hx; subst hx; simp [go_sem]
  | j + 7, hx => simp at hx

set_option maxRecDepth 100000 in
set_option maxHeartbeats 2000000 in
theorem pText_no (F R : Int) (l : List Int) (A : Option Addr) (c : Nat) (bl : Bool) (ca : Nat) (ps ha fu : Int) (hca : ca < 256) (hlen : l.length ≤ 100000) (hcap : l.length ≤ c) (hok : okPo ⟨F, R, l, bl, ca, ps, ha, fu⟩ = false) (w : World) (hT : T6 w) (hA : RdP w w.heap.size A l c) :
    Calls Tryz.prog 25 #[.agg #[.int .i64 F, .int .i64 R, .slice A l.length c, .bool bl, .int .u8 (ca : Int), .int .i64 ps, .int .i64 ha, .int .i64 fu]] w fun e w' => e = .returned (.tuple #[.string ⟨#[]⟩, .int .i64 2]) ∧ Below w.heap.size w w' := by
  have hB := box1 w (.cells #[.int .i64 F, .int .i64 R, .slice A l.length c, .bool bl, .int .u8 (ca : Int), .int .i64 ps, .int .i64 ha, .int .i64 fu] 26)
  have HV := Lib.hid (pValid_any F R l A c bl ca ps ha fu hca hlen hcap _ (hT.below hB).t5 (hT.below hB).rts (rdBo hB hA))
  rw [hok] at HV
  clear hA hT
  go_enter Tryz.func25, Tryz.ntmps25
  go_wp2_with fail
  refine HV.out.mono ?_
  rintro e w1 ⟨rfl, hb1⟩
  go_wp2
  go_ret2
  exact ⟨rfl, after1 hb1⟩

set_option maxRecDepth 100000 in
set_option maxHeartbeats 2000000 in
theorem pText_in (f r : Nat) (l : List Int) (A : Option Addr) (c : Nat) (bl : Bool) (ca : Nat) (ps : Int) (ha fu : Nat) (hok : okPo ⟨(f : Int), (r : Int), l, bl, ca, ps, (ha : Int), (fu : Int)⟩ = true) (hcap : l.length ≤ c) (w : World) (hT : T6 w) (hA : RdP w w.heap.size A l c) :
    Calls Tryz.prog 25 #[.agg #[.int .i64 (f : Int), .int .i64 (r : Int), .slice A l.length c, .bool bl, .int .u8 (ca : Int), .int .i64 ps, .int .i64 (ha : Int), .int .i64 (fu : Int)]] w fun e w' => e = .returned (.tuple #[.string (bsL (posT ⟨(f : Int), (r : Int), l, bl, ca, ps, (ha : Int), (fu : Int)⟩)), .int .i64 0]) ∧ Below w.heap.size w w' := by
  obtain ⟨_, _, e1, e2, f0, f1, r0, r1, hl, hrow, hca, hps, hcnt, hvb⟩ := okPo_nat hok
  simp only at e1 e2 hl hrow hca hps hcnt hvb
  have hl64 := vbd_64 hvb
  have hB := box1 w (.cells #[.int .i64 (f : Int), .int .i64 (r : Int), .slice A l.length c, .bool bl, .int .u8 (ca : Int), .int .i64 ps, .int .i64 (ha : Int), .int .i64 (fu : Int)] 26)
  have hX := box8 w (f : Int) (r : Int) (.slice A l.length c) bl ca ps (ha : Int) (fu : Int)
  have HV := Lib.hid (pValid_any (f : Int) (r : Int) l A c bl ca ps (ha : Int) (fu : Int) (by omega) (by omega) hcap _ (hT.below hB).t5 (hT.below hB).rts (rdBo hB hA))
  rw [hok] at HV
  have HP := Lib.hid (fun w => pPlace_any (f : Int) (r : Int) l A c bl ca ps (ha : Int) (fu : Int) w)
  have HTX := Lib.hid (fun w hA hK => text_yes f r l A c w hvb hcap hA hK)
  have H1 := Lib.hid (fun w hT => szT_any f r (by omega) (by omega) w hT)
  have H2 := Lib.hid (fun w => sdT_any bl w)
  have H3 := Lib.hid (fun w hR => caT_any ca hca w hR)
  have H4 := Lib.hid (fun w => psT_any (f : Int) (r : Int) ps hps w)
  have H5 := Lib.hid (fun w hT => itoa_any ha (by omega) w hT)
  have H6 := Lib.hid (fun w hT => itoa_any fu (by omega) w hT)
  have HE : Hid (posT ⟨(f : Int), (r : Int), l, bl, ca, ps, (ha : Int), (fu : Int)⟩ = jw [szL (f : Int) (r : Int), accT f r l r, sdL bl, caL ca, psL (f : Int) ps, dec ha, dec fu]) := Lib.hid rfl
  have HJ0 : (jw ([bsL (szL (f : Int) (r : Int)), bsL (accT f r l r), bsL (sdL bl), bsL (caL ca), bsL (psL (f : Int) ps), bsL (dec ha), bsL (dec fu)].map (·.data.toList))).length ≤ 100000 := by
    have b1 := dec_len (n := f) (by omega)
    have b2 := dec_len (n := r) (by omega)
    have b3 := dec_len (n := ha) (by omega)
    have b4 := dec_len (n := fu) (by omega)
    have b5 := accT_bd f r l r
    have b6 : r * (2 * f + 2) ≤ 8 * 18 := Nat.mul_le_mul (by omega) (by omega)
    have b7 : (sdL bl).length = 1 := by cases bl <;> rfl
    have b8 : (caL ca).length ≤ 4 := by
      have : ∀ c, c < 16 → (caL c).length ≤ 4 := by decide +kernel
      exact this ca (by omega)
    have b9 : (psL (f : Int) ps).length ≤ 2 := by unfold psL; split <;> simp [nameB_list]
    have b10 : (szL (f : Int) (r : Int)).length ≤ 11 := by unfold szL; simp; omega
    simp only [List.map_cons, List.map_nil, bsL_toList, jw, List.flatMap_cons, List.flatMap_nil, List.length_append, List.length_cons, List.length_nil]
    omega
  have hT1 := hT.below hB
  have hA1 := rdBo hB hA
  have HT1 := Lib.hid hT1
  have HA1 := Lib.hid hA1
  have HX := Lib.hid hX
  clear hok hT hA hT1 hA1 hX hvb hps hrow e1 e2 hl hcnt
  go_enter Tryz.func25, Tryz.ntmps25
  go_wp2_with fail
  refine HV.out.mono ?_
  rintro e w1 ⟨rfl, hb1⟩
  have hX1 := HX.out.below hb1 (by simp)
  have hA2 := rdBo hb1 HA1.out
  have hT2 := HT1.out.below hb1
  have hB1 := after1 hb1
  clear hb1 HV HX HA1 HT1
  obtain ⟨⟨x0, x1, x2, x3, x4, x5, x6, x7⟩, xf⟩ := id hX1
  go_wp2_with fail
  refine (HP.out _).mono ?_
  rintro e w2 ⟨rfl, hb2⟩
  have hX2 := hX1.below hb2 hX1.lt
  have hA3 := rdBo hb2 hA2
  have hT3 := hT2.below hb2
  have hB2 := chain hB1 hb2
  clear hX1 hA2 hT2 hB1 hb2 x0 x1 x2 x3 x4 x5 x6 x7 xf HP
  go_wp2_with fail
  refine (HTX.out _ hA3 hT3.kinds).mono ?_
  rintro e w3 ⟨rfl, hb3⟩
  have hX3 := hX2.below hb3 hX2.lt
  have hT4 := hT3.below hb3
  have hB3 := chain hB2 hb3
  have hS : w3.cell? ⟨w.heap.size, 0, none⟩ = some (.int .i64 (f : Int)) ∧ w3.cell? ⟨w.heap.size, 1, none⟩ = some (.int .i64 (r : Int)) ∧ w3.cell? ⟨w.heap.size, 2, none⟩ = some (.slice A l.length c) ∧ w3.cell? ⟨w.heap.size, 3, none⟩ = some (.bool bl) ∧ w3.cell? ⟨w.heap.size, 4, none⟩ = some (.int .u8 (ca : Int)) ∧ w3.cell? ⟨w.heap.size, 5, none⟩ = some (.int .i64 ps) ∧ w3.cell? ⟨w.heap.size, 6, none⟩ = some (.int .i64 (ha : Int)) ∧ w3.cell? ⟨w.heap.size, 7, none⟩ = some (.int .i64 (fu : Int)) ∧ S6 w w3 := ⟨hX3.1.1, hX3.1.2.1, hX3.1.2.2.1, hX3.1.2.2.2.1, hX3.1.2.2.2.2.1, hX3.1.2.2.2.2.2.1, hX3.1.2.2.2.2.2.2.1, hX3.1.2.2.2.2.2.2.2, hT4, hB3, by have := hX3.lt; omega⟩
  have HTB : Hid (textB f r l = bsL (accT f r l r)) := Lib.hid rfl
  clear hX2 hX3 hT3 hT4 hB2 hB3 hb3 hA3 HTX
  rw [HTB.out]
  have HJL : Hid ((jw ([bsL (szL (f : Int) (r : Int)), bsL (accT f r l r), bsL (sdL bl), bsL (caL ca), bsL (psL (f : Int) ps), bsL (dec ha), bsL (dec fu)].map (·.data.toList))).length ≤ 100000) := Lib.hid HJ0
  generalize szL (f : Int) (r : Int) = t1 at *
  generalize accT f r l r = t2 at *
  generalize sdL bl = t3 at *
  generalize caL ca = t4 at *
  generalize psL (f : Int) ps = t5 at *
  generalize dec ha = t6 at *
  generalize dec fu = t7 at *
  go_wp2_with fail
  go_region_held3 (fun w' => w'.cell? ⟨w.heap.size, 0, none⟩ = some (.int .i64 (f : Int)) ∧ w'.cell? ⟨w.heap.size, 1, none⟩ = some (.int .i64 (r : Int)) ∧ w'.cell? ⟨w.heap.size, 2, none⟩ = some (.slice A l.length c) ∧ w'.cell? ⟨w.heap.size, 3, none⟩ = some (.bool bl) ∧ w'.cell? ⟨w.heap.size, 4, none⟩ = some (.int .u8 (ca : Int)) ∧ w'.cell? ⟨w.heap.size, 5, none⟩ = some (.int .i64 ps) ∧ w'.cell? ⟨w.heap.size, 6, none⟩ = some (.int .i64 (ha : Int)) ∧ w'.cell? ⟨w.heap.size, 7, none⟩ = some (.int .i64 (fu : Int)) ∧ S6 w w')
    (first | assumption | exact keep6 (by assumption) (by assumption) | exact keep6 (by assumption) ((Below.refl _ _).drew) | exact keep6 (by assumption) (box1 _ _))
    (first
      | (go_at_call 54; refine (H1.out _ (tS6 (by assumption))).mono ?_; rintro e u1 ⟨rfl, hc1⟩)
      | (go_at_call 55; refine (H2.out _).mono ?_; rintro e u2 ⟨rfl, hc2⟩)
      | (go_at_call 56; refine (H3.out _ (tS6 (by assumption)).rts).mono ?_; rintro e u3 ⟨rfl, hc3⟩)
      | (go_at_call 57; refine (H4.out _).mono ?_; rintro e u4 ⟨rfl, hc4⟩)
      | (go_at_call_has 58 (Value.int .i64 (ha : Int)); refine (H5.out _ (tS6 (by assumption))).mono ?_; rintro e u5 ⟨rfl, hc5⟩)
      | (go_at_call_has 58 (Value.int .i64 (fu : Int)); refine (H6.out _ (tS6 (by assumption))).mono ?_; rintro e u6 ⟨rfl, hc6⟩)
      | (go_at_call 53; refine (spc_any u6.heap.size 7 [bsL t1, bsL t2, bsL t3, bsL t4, bsL t5, bsL t6, bsL t7] _ (by simp) (by simp) (by simp) (rd7 u6 _ _ _ _ _ _ _) HJL.out).mono ?_; rintro e u7 ⟨rfl, hc7⟩))
  have hH := (by assumption : u7.cell? ⟨w.heap.size, 0, none⟩ = some (.int .i64 (f : Int)) ∧ u7.cell? ⟨w.heap.size, 1, none⟩ = some (.int .i64 (r : Int)) ∧ u7.cell? ⟨w.heap.size, 2, none⟩ = some (.slice A l.length c) ∧ u7.cell? ⟨w.heap.size, 3, none⟩ = some (.bool bl) ∧ u7.cell? ⟨w.heap.size, 4, none⟩ = some (.int .u8 (ca : Int)) ∧ u7.cell? ⟨w.heap.size, 5, none⟩ = some (.int .i64 ps) ∧ u7.cell? ⟨w.heap.size, 6, none⟩ = some (.int .i64 (ha : Int)) ∧ u7.cell? ⟨w.heap.size, 7, none⟩ = some (.int .i64 (fu : Int)) ∧ S6 w u7)
  have hBB := bS6 hH
  go_wp2
  go_ret2
  refine ⟨ret2 ?_ rfl, hBB⟩
  simp only [bsL_toList]
  rw [HE.out]
  rfl

theorem pText_yes (F R : Int) (l : List Int) (A : Option Addr) (c : Nat) (bl : Bool) (ca : Nat) (ps ha fu : Int) (hok : okPo ⟨F, R, l, bl, ca, ps, ha, fu⟩ = true) (hcap : l.length ≤ c) (w : World) (hT : T6 w) (hA : RdP w w.heap.size A l c) :
    Calls Tryz.prog 25 #[.agg #[.int .i64 F, .int .i64 R, .slice A l.length c, .bool bl, .int .u8 (ca : Int), .int .i64 ps, .int .i64 ha, .int .i64 fu]] w fun e w' => e = .returned (.tuple #[.string (bsL (posT ⟨F, R, l, bl, ca, ps, ha, fu⟩)), .int .i64 0]) ∧ Below w.heap.size w w' := by
  obtain ⟨f, r, e1, e2, _, _, _, _, _, _, _, _, hc, _⟩ := okPo_nat hok
  simp only at e1 e2 hc
  subst e1 e2
  obtain ⟨h, rfl⟩ : ∃ h : Nat, ha = (h : Int) := ⟨ha.toNat, by omega⟩
  obtain ⟨g, rfl⟩ : ∃ g : Nat, fu = (g : Int) := ⟨fu.toNat, by omega⟩
  exact pText_in f r l A c bl ca ps h g hok hcap w hT hA

end Go.Proofs.YtelkmdklpcfobaaGreatDoor

/- Positions, by the program: words, rights, squares and numbers of a text. -/
namespace Go.Proofs.YtelkmdklpcfobaaGreatDoor
open Go.RowKit Go.Sort

theorem sep32 : (⟨#[32]⟩ : ByteArray).data.toList = [32] := rfl

set_option maxRecDepth 100000 in
theorem genSplit8 (s : ByteArray) (hs : s.size ≤ 1000) (w : World) :
    Calls Tryz.prog 95 #[.string s, .string ⟨#[32]⟩, .int .i64 0, .int .i64 8] w fun e w' =>
      e = .returned (.slice (some ⟨w.heap.size, 0, none⟩) (Lib.splitB ⟨#[32]⟩ 0 (min 8 (s.size + 1) - 1) s).length (min 8 (s.size + 1))) ∧ w' = w.alloc (.cells (Lib.cellsOf (Lib.splitB ⟨#[32]⟩ 0 (min 8 (s.size + 1) - 1) s) (min 8 (s.size + 1))) 9) :=
  Any.strings_genSplit_core Tryz.lays221 (by kernel_rfl) s ⟨#[32]⟩ 0 8 (min 8 (s.size + 1)) w (by omega) (by decide) (by decide)
    (fun x c _ => by
      refine (Tryz.strings_Index_one x 32 _).mono ?_
      rintro e w' ⟨rfl, rfl⟩
      refine ⟨?_, rfl⟩
      unfold Lib.indexB
      rw [sep32, Lib.index_one])
    (by
      refine (Tryz.strings_Count_one s 32 w).mono ?_
      rintro e w' ⟨rfl, rfl⟩
      refine ⟨?_, rfl⟩
      unfold Lib.countB
      rw [sep32, Lib.count_one]
      rfl)
    (by decide) (by decide) (by rw [if_neg (by decide)]; omega)

set_option maxRecDepth 100000 in
set_option maxHeartbeats 2000000 in
theorem split8_any (s : ByteArray) (hs : s.size ≤ 1000) (w : World) :
    Calls Tryz.prog 62 #[.string s, .string ⟨#[32]⟩, .int .i64 8] w fun e w' =>
      ∃ (xs : List ByteArray) (c : Nat), e = .returned (.slice (some ⟨w.heap.size, 0, none⟩) xs.length c) ∧ xs.length ≤ c ∧ xs.map (·.data.toList) = words8 s.data.toList ∧ RdSt w' w.heap.size xs ∧ w'.heap.size = w.heap.size + 1 ∧ Below w.heap.size w w' := by
  go_enter Tryz.func62, Tryz.ntmps62
  go_wp2_with fail
  refine (genSplit8 s hs _).mono ?_
  rintro e w' ⟨rfl, hw⟩
  have hd := Lib.splitB_data ⟨#[32]⟩ 0 (min 8 (s.size + 1) - 1) s
  have hll := Lib.splitB_length_le ⟨#[32]⟩ 0 (min 8 (s.size + 1) - 1) s
  have hsz : s.data.toList.length = s.size := by rw [Array.length_toList]; rfl
  have hp : (Lib.splitB ⟨#[32]⟩ 0 (min 8 (s.size + 1) - 1) s).map (·.data.toList) = words8 s.data.toList := by
    rw [hd]
    unfold words8 cut32
    rw [hsz]
  have hp := Lib.hid hp
  clear hd hsz
  generalize Lib.splitB ⟨#[32]⟩ 0 (min 8 (s.size + 1) - 1) s = xs at *
  generalize hN : min 8 (s.size + 1) = N at *
  have HW := Lib.hid hw
  clear hw
  go_wp2
  go_ret
  have hxN : xs.length ≤ N := by omega
  refine ⟨xs, N, rfl, hxN, hp.out, ?_, ?_, ?_⟩
  · intro j x hx
    have hj := (List.getElem?_eq_some_iff.1 hx).1
    rw [HW.out]
    simp [go_sem, Lib.cellsOf, List.getElem?_append, hj]
    exact Option.some.inj ((List.getElem?_eq_getElem hj).symm.trans hx)
  · rw [HW.out]
    simp
  · rw [HW.out]
    exact box1 _ _

theorem atoi6 (s : ByteArray) (hs : s.size ≤ 1000) (w : World) (hT : T6 w) :
    Calls Tryz.prog 64 #[.string s] w fun e w' => ∃ ev, e = .returned (.tuple #[.int .i64 (atV s.data.toList), ev]) ∧ Below w.heap.size w w' := by
  unfold atV
  cases h : Lib.atoiAll s.data.toList with
  | ok v =>
    refine (Tryz.strconv_Atoi_ok s (by omega) v h w).mono ?_
    rintro e w' ⟨rfl, hw⟩
    refine ⟨_, rfl, ?_⟩
    rcases hw with rfl | ⟨t, rfl⟩
    · exact Below.refl _ _
    · exact Lib.bytesWorld_below _ _ _
  | range =>
    obtain ⟨tp, p, hv⟩ := hT.rng
    refine (Tryz.strconv_Atoi_range_var s (by omega) h tp p w hv).mono ?_
    rintro e w' ⟨N, rfl, _, _, hb⟩
    exact ⟨_, rfl, hb⟩
  | _ =>
    obtain ⟨tp, p, hv⟩ := hT.syn
    refine (Tryz.strconv_Atoi_syntax_var s (by omega) ⟨fun v hc => (by rw [h] at hc; cases hc), fun hc => (by rw [h] at hc; cases hc)⟩ tp p w hv).mono ?_
    rintro e w' ⟨N, rfl, _, _, hb⟩
    exact ⟨_, rfl, hb⟩

set_option maxRecDepth 100000 in
set_option maxHeartbeats 2000000 in
theorem ppsP_any (F R : Int) (s : ByteArray) (hv : vsz F R) (w : World) :
    Calls Tryz.prog 66 #[.agg #[.int .i64 F, .int .i64 R], .string s] w fun e w' => e = .returned (.int .i64 (ppsV F R s.data.toList)) ∧ Below w.heap.size w w' := by
  cases h : sqV F R s.data.toList with
  | some a =>
    obtain ⟨ha, hn⟩ := sqV_yes hv h
    have hs : nameB F a = s := bytes_eq hn
    have e2 : ppsV F R s.data.toList = a := by unfold ppsV; rw [h]; rfl
    have HP := Lib.hid (fun w => parse_name F R a ha w)
    rw [hs] at HP
    rw [e2]
    clear h hn hs e2 ha
    go_enter Tryz.func66, Tryz.ntmps66
    go_wp2_with fail
    refine (HP.out _).mono ?_
    rintro e w1 ⟨rfl, hb1⟩
    go_wp2
    go_ret
    exact ⟨rfl, after1 hb1⟩
  | none =>
    have hn : ∀ a, vat F R a → nameB F a ≠ s := fun a ha e => sqV_no h a ha (by rw [e])
    have e2 : ppsV F R s.data.toList = -1 := by unfold ppsV; rw [h]; rfl
    have HP := Lib.hid (fun w => parse_none F R s hv hn w)
    rw [e2]
    clear h hn e2
    go_enter Tryz.func66, Tryz.ntmps66
    go_wp2_with fail
    refine (HP.out _).mono ?_
    rintro e w1 ⟨rfl, hb1⟩
    go_wp2
    go_ret
    exact ⟨rfl, after1 hb1⟩

/-- the rights of the first letters of a word. -/
def pcT (L : List UInt8) (k : Nat) : Nat := ((List.range k).map fun i => if L.contains ([75, 81, 107, 113].getD i 0) then bitK i else 0).sum
theorem pcT_succ (L : List UInt8) (k : Nat) (_hk : k < 4) : pcT L (k + 1) = pcT L k + (if L.contains ([75, 81, 107, 113].getD k 0) then bitK k else 0) := by
  unfold pcT
  rw [List.range_succ, List.map_append, List.sum_append]
  simp
theorem pcT_lt (L : List UInt8) : ∀ k, k ≤ 4 → pcT L k < 2 ^ k
  | 0, _ => by simp [pcT]
  | k + 1, hk => by
    have h1 := pcT_lt L k (by omega)
    rw [pcT_succ L k (by omega)]
    have h2 : bitK k = 2 ^ k := by
      have : ∀ k, k < 4 → bitK k = 2 ^ k := by decide
      exact this k (by omega)
    rw [Nat.pow_succ]
    split <;> omega
theorem or_bitK (k T : Nat) (hk : k < 4) (h : T < 2 ^ k) : bits .or .u8 (T : Int) (bitK k : Int) = ((T + bitK k : Nat) : Int) := by
  have : ∀ k, k < 4 → ∀ t, t < 8 → t < 2 ^ k → bits .or .u8 ((t : Nat) : Int) (bitK k : Int) = ((t + bitK k : Nat) : Int) := by decide +kernel
  refine this k hk T ?_ h
  have : ∀ k, k < 4 → 2 ^ k ≤ 8 := by decide
  exact Nat.lt_of_lt_of_le h (this k hk)
theorem pcT_end (L : List UInt8) : pcT L 4 = pcaV L := by
  unfold pcT pcaV
  simp [List.range_succ, bitK, Nat.add_assoc]
theorem ixb (s : ByteArray) (c : Nat) (_hc : c < 256 := by decide) (w : World) : Calls Tryz.prog 100 #[.string s, .int .u8 (c : Int)] w fun e w' => ∃ v : Int, e = .returned (.int .i64 v) ∧ (s.data.toList.contains (UInt8.ofNat c) = true ↔ 0 ≤ v) ∧ Below w.heap.size w w' := by
  refine (Tryz.strings_IndexByte s (c : Int) w).mono ?_
  rintro e w' ⟨rfl, rfl⟩
  refine ⟨_, rfl, ?_, Below.refl _ _⟩
  have e1 : ((c : Int).toNat.toUInt8) = UInt8.ofNat c := rfl
  rw [e1]
  generalize UInt8.ofNat c = b
  rw [List.contains_iff_mem]
  constructor
  · intro hm
    by_cases h : Lib.indexByte s.data.toList b = -1
    · exfalso
      obtain ⟨k, hk, e⟩ := List.mem_iff_getElem.1 hm
      exact Lib.indexByte_none h k (by rw [List.getElem?_eq_getElem hk, e])
    · have := Lib.indexByte_ge s.data.toList b
      omega
  · intro hv
    obtain ⟨o, ho⟩ : ∃ o : Nat, Lib.indexByte s.data.toList b = o := ⟨(Lib.indexByte s.data.toList b).toNat, by omega⟩
    obtain ⟨h1, _⟩ := Lib.indexByte_some ho
    exact List.mem_of_getElem? h1

set_option maxRecDepth 100000 in
set_option maxHeartbeats 2000000 in
theorem pcaP_any (s : ByteArray) (w : World) (hR : Rts w) :
    Calls Tryz.prog 65 #[.string s] w fun e w' => e = .returned (.int .u8 (pcaV s.data.toList : Int)) ∧ Below w.heap.size w w' := by
  have HEND := Lib.hid (pcT_end s.data.toList)
  obtain ⟨X, hld, hx0, hx1, hx2, hx3⟩ := rtShut
  have hld := hld _ hR
  go_enter Tryz.func65, Tryz.ntmps65
  go_upto_region 2 with fail
  refine wp_region_lit ?_
  refine BigFrame.wpList_want (by kernel_rfl) ?_
  intro K1 hK1
  refine wp_load rfl hld ?_
  refine hK1 _ _ ?_
  refine BigFrame.wpList_want (by kernel_rfl) ?_
  intro K2 hK2
  refine wp_move rfl ?_
  refine hK2 _ _ ?_
  refine wpList_nil ?_
  simp [Act.put, Act.eval]
  clear hK1 hK2 hld
  go_wp2
  go_loopw [3, 5, 7] (fun v _ i wr => ∃ k : Nat, k ≤ 4 ∧ i = .int .i64 k ∧ ∃ T, T = pcT s.data.toList k ∧ v = .int .u8 (T : Int) ∧ Below w.heap.size w wr) (fun _ _ i _ => 4 - (intOf i).toNat)
  case atStart => exact ⟨0, by omega, rfl, 0, rfl, rfl, Below.refl _ _⟩
  case round =>
    obtain ⟨k, hk, rfl, T0, hT0, rfl, hB⟩ := hrel
    subst hT0
    rcases (show k = 0 ∨ k = 1 ∨ k = 2 ∨ k = 3 ∨ k = 4 by omega) with rfl | rfl | rfl | rfl | rfl
    · have HS := Lib.hid (pcT_succ s.data.toList 0 (by decide))
      have hb2 := Lib.hid (hB.alloc hB.size (.cells #[.int .u8 1, .int .u8 75, .int .i8 6, .int .i8 4, .int .i64 4, .int .i64 7] 91))
      have hor := Lib.hid (or_bitK 0 (pcT s.data.toList 0) (by decide) (pcT_lt s.data.toList 0 (by decide)))
      generalize hTT : pcT s.data.toList 0 = T at *
      generalize hT2 : pcT s.data.toList 1 = T2 at *
      have HT2 := Lib.hid hT2
      have HI := Lib.hid (ixb s 75)
      clear hTT hT2
      go_wp2_with fail
      refine (HI.out _).mono ?_
      rintro e w2 ⟨v, rfl, hv, hbx⟩
      have hb3 := Lib.hid (chain hb2.out hbx)
      have s0 := hbx.cell (p := ⟨wr.heap.size, 0, none⟩) (by simp)
      simp [go_sem] at s0
      have hv : s.data.toList.contains (75 : UInt8) = true ↔ 0 ≤ v := hv
      have HS : Hid (T2 = T + if s.data.toList.contains (75 : UInt8) then bitK 0 else 0) := HS
      cases hc : s.data.toList.contains (75 : UInt8) with
      | true =>
        rw [hc] at hv HS
        have hv0 : 0 ≤ v := hv.1 rfl
        have HE : Hid (bits .or .u8 (T : Int) 1 = (T2 : Int)) := Lib.hid (by rw [HS.out]; exact hor.out)
        clear hc hv HS
        have hE := HE.out
        go_wp2
        go_roundw
        case rel => exact ⟨1, by omega, by go_num, T2, HT2.out.symm, (by first | rfl | rw [HE.out] | simp [HE.out]), hb3.out⟩
        case measure => simp [intOf]
      | false =>
        rw [hc] at hv HS
        have hv0 : v < 0 := by
          have := mt hv.2 (by simp)
          omega
        have HE : Hid (T2 = T) := Lib.hid (by rw [HS.out]; simp)
        clear hc hv HS
        go_wp2
        go_roundw
        case rel => exact ⟨1, by omega, by go_num, T2, HT2.out.symm, (by rw [HE.out]), hb3.out⟩
        case measure => simp [intOf]
    · have HS := Lib.hid (pcT_succ s.data.toList 1 (by decide))
      have hb2 := Lib.hid (hB.alloc hB.size (.cells #[.int .u8 2, .int .u8 81, .int .i8 6, .int .i8 4, .int .i64 4, .int .i64 0] 91))
      have hor := Lib.hid (or_bitK 1 (pcT s.data.toList 1) (by decide) (pcT_lt s.data.toList 1 (by decide)))
      generalize hTT : pcT s.data.toList 1 = T at *
      generalize hT2 : pcT s.data.toList 2 = T2 at *
      have HT2 := Lib.hid hT2
      have HI := Lib.hid (ixb s 81)
      clear hTT hT2
      go_wp2_with fail
      refine (HI.out _).mono ?_
      rintro e w2 ⟨v, rfl, hv, hbx⟩
      have hb3 := Lib.hid (chain hb2.out hbx)
      have s0 := hbx.cell (p := ⟨wr.heap.size, 0, none⟩) (by simp)
      simp [go_sem] at s0
      have hv : s.data.toList.contains (81 : UInt8) = true ↔ 0 ≤ v := hv
      have HS : Hid (T2 = T + if s.data.toList.contains (81 : UInt8) then bitK 1 else 0) := HS
      cases hc : s.data.toList.contains (81 : UInt8) with
      | true =>
        rw [hc] at hv HS
        have hv0 : 0 ≤ v := hv.1 rfl
        have HE : Hid (bits .or .u8 (T : Int) 2 = (T2 : Int)) := Lib.hid (by rw [HS.out]; exact hor.out)
        clear hc hv HS
        have hE := HE.out
        go_wp2
        go_roundw
        case rel => exact ⟨2, by omega, by go_num, T2, HT2.out.symm, (by first | rfl | rw [HE.out] | simp [HE.out]), hb3.out⟩
        case measure => simp [intOf]
      | false =>
        rw [hc] at hv HS
        have hv0 : v < 0 := by
          have := mt hv.2 (by simp)
          omega
        have HE : Hid (T2 = T) := Lib.hid (by rw [HS.out]; simp)
        clear hc hv HS
        go_wp2
        go_roundw
        case rel => exact ⟨2, by omega, by go_num, T2, HT2.out.symm, (by rw [HE.out]), hb3.out⟩
        case measure => simp [intOf]
    · have HS := Lib.hid (pcT_succ s.data.toList 2 (by decide))
      have hb2 := Lib.hid (hB.alloc hB.size (.cells #[.int .u8 4, .int .u8 107, .int .i8 (-6), .int .i8 (-4), .int .i64 60, .int .i64 63] 91))
      have hor := Lib.hid (or_bitK 2 (pcT s.data.toList 2) (by decide) (pcT_lt s.data.toList 2 (by decide)))
      generalize hTT : pcT s.data.toList 2 = T at *
      generalize hT2 : pcT s.data.toList 3 = T2 at *
      have HT2 := Lib.hid hT2
      have HI := Lib.hid (ixb s 107)
      clear hTT hT2
      go_wp2_with fail
      refine (HI.out _).mono ?_
      rintro e w2 ⟨v, rfl, hv, hbx⟩
      have hb3 := Lib.hid (chain hb2.out hbx)
      have s0 := hbx.cell (p := ⟨wr.heap.size, 0, none⟩) (by simp)
      simp [go_sem] at s0
      have hv : s.data.toList.contains (107 : UInt8) = true ↔ 0 ≤ v := hv
      have HS : Hid (T2 = T + if s.data.toList.contains (107 : UInt8) then bitK 2 else 0) := HS
      cases hc : s.data.toList.contains (107 : UInt8) with
      | true =>
        rw [hc] at hv HS
        have hv0 : 0 ≤ v := hv.1 rfl
        have HE : Hid (bits .or .u8 (T : Int) 4 = (T2 : Int)) := Lib.hid (by rw [HS.out]; exact hor.out)
        clear hc hv HS
        have hE := HE.out
        go_wp2
        go_roundw
        case rel => exact ⟨3, by omega, by go_num, T2, HT2.out.symm, (by first | rfl | rw [HE.out] | simp [HE.out]), hb3.out⟩
        case measure => simp [intOf]
      | false =>
        rw [hc] at hv HS
        have hv0 : v < 0 := by
          have := mt hv.2 (by simp)
          omega
        have HE : Hid (T2 = T) := Lib.hid (by rw [HS.out]; simp)
        clear hc hv HS
        go_wp2
        go_roundw
        case rel => exact ⟨3, by omega, by go_num, T2, HT2.out.symm, (by rw [HE.out]), hb3.out⟩
        case measure => simp [intOf]
    · have HS := Lib.hid (pcT_succ s.data.toList 3 (by decide))
      have hb2 := Lib.hid (hB.alloc hB.size (.cells #[.int .u8 8, .int .u8 113, .int .i8 (-6), .int .i8 (-4), .int .i64 60, .int .i64 56] 91))
      have hor := Lib.hid (or_bitK 3 (pcT s.data.toList 3) (by decide) (pcT_lt s.data.toList 3 (by decide)))
      generalize hTT : pcT s.data.toList 3 = T at *
      generalize hT2 : pcT s.data.toList 4 = T2 at *
      have HT2 := Lib.hid hT2
      have HI := Lib.hid (ixb s 113)
      clear hTT hT2
      go_wp2_with fail
      refine (HI.out _).mono ?_
      rintro e w2 ⟨v, rfl, hv, hbx⟩
      have hb3 := Lib.hid (chain hb2.out hbx)
      have s0 := hbx.cell (p := ⟨wr.heap.size, 0, none⟩) (by simp)
      simp [go_sem] at s0
      have hv : s.data.toList.contains (113 : UInt8) = true ↔ 0 ≤ v := hv
      have HS : Hid (T2 = T + if s.data.toList.contains (113 : UInt8) then bitK 3 else 0) := HS
      cases hc : s.data.toList.contains (113 : UInt8) with
      | true =>
        rw [hc] at hv HS
        have hv0 : 0 ≤ v := hv.1 rfl
        have HE : Hid (bits .or .u8 (T : Int) 8 = (T2 : Int)) := Lib.hid (by rw [HS.out]; exact hor.out)
        clear hc hv HS
        have hE := HE.out
        go_wp2
        go_roundw
        case rel => exact ⟨4, by omega, by go_num, T2, HT2.out.symm, (by first | rfl | rw [HE.out] | simp [HE.out]), hb3.out⟩
        case measure => simp [intOf]
      | false =>
        rw [hc] at hv HS
        have hv0 : v < 0 := by
          have := mt hv.2 (by simp)
          omega
        have HE : Hid (T2 = T) := Lib.hid (by rw [HS.out]; simp)
        clear hc hv HS
        go_wp2
        go_roundw
        case rel => exact ⟨4, by omega, by go_num, T2, HT2.out.symm, (by rw [HE.out]), hb3.out⟩
        case measure => simp [intOf]
    · rw [HEND.out]
      go_wp2
      go_ret
      exact ⟨rfl, hB⟩

end Go.Proofs.YtelkmdklpcfobaaGreatDoor
