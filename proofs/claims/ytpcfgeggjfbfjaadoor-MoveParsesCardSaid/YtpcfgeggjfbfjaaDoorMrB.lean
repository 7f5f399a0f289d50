/- Moves, by the document: a text is read as a move. -/
import Derived.Test.YtpcfgeggjfbfjaaDoorMrA
import Derived.Test.YtpcfgeggjfbfjaaDoorMwD
import Derived.Deep.RegionHeld3
import Derived.Deep.DeepCutAuto
namespace Go.Proofs.YtpcfgeggjfbfjaaDoor
open Go.RowKit Go.Sort

def nmR (o : Option Int) : Int := o.getD (-1)
theorem sqR_any (F R : Int) (hv : vsz F R) (s : ByteArray) (L : List UInt8) (hL : s.data.toList = L) (w : World) :
    Calls Tryd.prog 37 #[.agg #[.int .i64 F, .int .i64 R], .string s] w fun e w' => e = .returned (.int .i64 (nmR (nmV F R L))) ∧ Below w.heap.size w w' := by
  cases h : nmV F R L with
  | none => exact refParse_no F R s hv (fun a ha e => nmV_no h a ha (by rw [e, hL])) w
  | some a =>
    obtain ⟨h1, h2⟩ := nmV_yes hv h
    exact refParse_yes F R a s h1 (bytes_eq (h2.trans hL.symm)) w
theorem nmR_vat {F R : Int} {o : Option Int} (h : vat F R (nmR o)) : o = some (nmR o) := by
  cases o with
  | none => exact absurd h.2.1 (by simp [nmR])
  | some a => rfl
theorem rdM_nopr {F R : Int} {L : List UInt8} (h : prV (L.drop 4) = none) : rdM F R L = none := by
  unfold rdM
  rw [h]
  cases nmV F R (L.take 2) <;> cases nmV F R ((L.drop 2).take 2) <;> rfl
theorem rdM_ok {F R : Int} {L : List UInt8} {p : Int} (h : prV (L.drop 4) = some p) (hok : okM F R ⟨nmR (nmV F R (L.take 2)), nmR (nmV F R ((L.drop 2).take 2)), p⟩) : rdM F R L = some ⟨nmR (nmV F R (L.take 2)), nmR (nmV F R ((L.drop 2).take 2)), p⟩ := by
  have h1 := nmR_vat hok.1
  have h2 := nmR_vat hok.2.1
  have h3 := hok.2.2.1
  simp only at h1 h2 h3
  generalize nmR (nmV F R (L.take 2)) = a at *
  generalize nmR (nmV F R ((L.drop 2).take 2)) = b at *
  unfold rdM
  rw [h1, h2, h]
  simp [h3]
theorem rdM_nok {F R : Int} {L : List UInt8} {p : Int} (hv : vsz F R) (h : prV (L.drop 4) = some p) (hok : ¬ okM F R ⟨nmR (nmV F R (L.take 2)), nmR (nmV F R ((L.drop 2).take 2)), p⟩) : rdM F R L = none := by
  cases e : rdM F R L with
  | none => rfl
  | some m =>
    refine absurd ?_ hok
    have h1 := (text_rdM hv e).1
    unfold rdM at e
    rw [h] at e
    cases ha : nmV F R (L.take 2) with
    | none => rw [ha] at e; cases e
    | some a =>
      cases hb : nmV F R ((L.drop 2).take 2) with
      | none => rw [ha, hb] at e; cases e
      | some b =>
        rw [ha, hb] at e
        simp only at e
        split at e
        · cases e
        · cases e
          exact h1
/-- what the document's Parse returns. -/
def rdB (o : Option Mv) : Value := .tuple #[.agg #[.int .i64 ((o.map Mv.a).getD 0), .int .i64 ((o.map Mv.b).getD 0), .int .i8 ((o.map Mv.p).getD 0)], .bool o.isSome]

/-- the kind of promotion with a letter among those below k. -/
def pq (k : Int) (c : UInt8) : Int := if 2 ≤ piP c.toNat ∧ piP c.toNat ≤ 5 ∧ piP c.toNat < k then piP c.toNat else 0
theorem pq_two (c : UInt8) : pq 2 c = 0 := by
  unfold pq
  rw [if_neg (by omega)]
theorem pq_yes {k : Int} {c : UInt8} (h0 : 2 ≤ k) (h1 : k ≤ 5) (h : piP c.toNat = k) : pq (k + 1) c = k := by
  unfold pq
  rw [h, if_pos (by omega)]
theorem pq_no {k : Int} {c : UInt8} (h : piP c.toNat ≠ k) : pq (k + 1) c = pq k c := by
  unfold pq
  by_cases h2 : 2 ≤ piP c.toNat ∧ piP c.toNat ≤ 5 ∧ piP c.toNat < k
  · rw [if_pos h2, if_pos (by omega)]
  · rw [if_neg h2, if_neg (by omega)]
theorem pq_end (c : UInt8) : prV [c] = if pq 6 c = 0 then none else some (pq 6 c) := by
  have e : prV [c] = if 2 ≤ piP c.toNat ∧ piP c.toNat ≤ 5 then some (piP c.toNat) else none := rfl
  rw [e]
  by_cases h : 2 ≤ piP c.toNat ∧ piP c.toNat ≤ 5
  · have hq : pq 6 c = piP c.toNat := by unfold pq; rw [if_pos (by omega)]
    rw [if_pos h, hq, if_neg (by omega)]
  · have hq : pq 6 c = 0 := by unfold pq; rw [if_neg (by omega)]
    rw [if_neg h, hq, if_pos rfl]
theorem nbrq_is (k : Int) (h0 : 2 ≤ k) (h1 : k ≤ 5) (c : UInt8) : ((ByteArray.mk #[78, 66, 82, 81]).extract (k - 2).toNat (k.toNat - 1)).data.toList = [c] ↔ piP c.toNat = k := by
  rw [nbrq k h0 h1, bsL_toList]
  unfold prL
  rw [if_neg (by omega)]
  have hl := lt_rng (p := k) ⟨by omega, by omega⟩ (by omega)
  constructor
  · intro e
    have e2 : UInt8.ofNat (lt k) = c := by simpa using e
    rw [← e2, u8_lt _ (by omega)]
    exact piP_lt ⟨by omega, by omega, by omega⟩
  · intro e
    have := (piP_ok (c := c.toNat) (by omega)).2
    rw [e] at this
    rw [this]
    simp

def BelM (V W : World) : Prop := Below V.heap.size V W
theorem cBm {w w' : World} {p : Addr} {v : Value} (hb : Below w.heap.size w w') (h : w.cell? p = some v) : w'.cell? p = some v := (hb.cell (World.block_lt_of_cell? w _ h)).trans h
theorem keepM {V W W' : World} {g : Nat} {z0 z1 : Value} (h : (W.cell? ⟨g, 0, none⟩ = some z0 ∧ W.cell? ⟨g, 1, none⟩ = some z1) ∧ BelM V W) (hb : Below W.heap.size W W') : (W'.cell? ⟨g, 0, none⟩ = some z0 ∧ W'.cell? ⟨g, 1, none⟩ = some z1) ∧ BelM V W' :=
  ⟨⟨cBm hb h.1.1, cBm hb h.1.2⟩, Below.trans h.2 (hb.mono (Below.size h.2))⟩
theorem BelM.of {a : Prop} {V W : World} (h : a ∧ BelM V W) : Below V.heap.size V W := h.2
def BelMm (V W : World) (b : Nat) (v0 v1 v2 : Value) : Prop := BelM V (((W.setCell ⟨b, 0, none⟩ v0).setCell ⟨b, 1, none⟩ v1).setCell ⟨b, 2, none⟩ v2)
theorem BelM.mark {V W : World} {b : Nat} {v0 v1 v2 : Value} : BelM V (((W.setCell ⟨b, 0, none⟩ v0).setCell ⟨b, 1, none⟩ v1).setCell ⟨b, 2, none⟩ v2) = BelMm V W b v0 v1 v2 := rfl
theorem keepMs {V W : World} {b g : Nat} {z0 z1 : Value} (h : (V.cell? ⟨g, 0, none⟩ = some z0 ∧ V.cell? ⟨g, 1, none⟩ = some z1) ∧ BelM V V) (hb : Below V.heap.size V W) (hbb : V.heap.size ≤ b) (v0 v1 v2 : Value) :
    ((((W.setCell ⟨b, 0, none⟩ v0).setCell ⟨b, 1, none⟩ v1).setCell ⟨b, 2, none⟩ v2).cell? ⟨g, 0, none⟩ = some z0 ∧ (((W.setCell ⟨b, 0, none⟩ v0).setCell ⟨b, 1, none⟩ v1).setCell ⟨b, 2, none⟩ v2).cell? ⟨g, 1, none⟩ = some z1) ∧ BelMm V W b v0 v1 v2 :=
  keepM h (below3 hb hbb v0 v1 v2)
theorem bx3s {W : World} {b : Nat} {x y p : Int} (h : Bx3 W b x y p) (x' y' p' : Int) : Bx3 (((W.setCell ⟨b, 0, none⟩ (.int .i64 x')).setCell ⟨b, 1, none⟩ (.int .i64 y')).setCell ⟨b, 2, none⟩ (.int .i8 p')) b x' y' p' := by
  obtain ⟨⟨x0, x1, x2⟩, xf⟩ := h
  refine ⟨⟨?_, ?_, ?_⟩, fun o => ?_⟩ <;> simp [go_sem, x0, x1, x2, xf]
theorem yb3 {X u : World} (h : Below (X.alloc (.cells #[.int .i64 0, .int .i64 0, .int .i8 0] 27)).heap.size (X.alloc (.cells #[.int .i64 0, .int .i64 0, .int .i8 0] 27)) u) : Bx3 u X.heap.size 0 0 0 := (box3 X 0 0 0).below h (by simp)
theorem yb3d {X u : World} (h : Below (X.alloc (.cells #[.int .i64 0, .int .i64 0, .int .i8 0] 27)).drew.heap.size (X.alloc (.cells #[.int .i64 0, .int .i64 0, .int .i8 0] 27)).drew u) : Bx3 u X.heap.size 0 0 0 :=
  (show Bx3 (X.alloc (.cells #[.int .i64 0, .int .i64 0, .int .i8 0] 27)).drew X.heap.size 0 0 0 from box3 X 0 0 0).below h (by simp)

set_option maxRecDepth 100000 in
set_option maxHeartbeats 2000000 in
theorem rmParse_len (F R : Int) (hv : vsz F R) (s : ByteArray) (L : List UInt8) (hL : s.data.toList = L) (hn : s.size < 4 ∨ 5 < s.size) (w : World) :
    Calls Tryd.prog 18 #[.agg #[.int .i64 F, .int .i64 R], .string s] w fun e w' => e = .returned (rdB (rdM F R L)) ∧ Below w.heap.size w w' := by
  have hsz : s.size = L.length := by rw [← hL, Array.length_toList]; rfl
  have hs := box2 w F R
  have hr := box3 (w.alloc (.cells #[.int .i64 F, .int .i64 R] 23)) 0 0 0
  rw [World.size_alloc] at hr
  have b0 := box1 w (.cells #[.int .i64 F, .int .i64 R] 23)
  have b1 := box1 (w.alloc (.cells #[.int .i64 F, .int .i64 R] 23)) (.cells #[.int .i64 0, .int .i64 0, .int .i8 0] 27)
  replace hs := hs.below b1 hs.lt
  have hB := chain b0 b1
  clear b0 b1
  have E : Hid (rdM F R L = none) := Lib.hid (by
    rcases hn with h | h
    · exact rdM_short hv (by omega)
    · refine rdM_nopr ?_
      obtain ⟨c, d, l, e⟩ : ∃ c d l, L.drop 4 = c :: d :: l := by
        have : 2 ≤ (L.drop 4).length := by rw [List.length_drop]; omega
        match L.drop 4, this with
        | c :: d :: l, _ => exact ⟨c, d, l, rfl⟩
      rw [e]
      rfl)
  clear hL hsz
  rcases hn with hn | hn
  · have h4 : (s.size : Int) < 4 := by omega
    clear hn
    go_enter Tryd.func18, Tryd.ntmps18
    obtain ⟨⟨r0, r1, r2⟩, rf⟩ := id hr
    obtain ⟨t0, t1, t2⟩ := st3 hr
    go_wp2
    refine bodyPost_ret (v := rdB none) ?_ rfl ⟨by rw [E.out], ?_⟩
    · simp [results, Tryd.results18, go_sem, rdB]
    · first | exact hB | exact below3 hB (by simp) _ _ _
  · have h4 : ¬ (s.size : Int) < 4 := by omega
    have h5 : 5 < (s.size : Int) := by omega
    clear hn
    go_enter Tryd.func18, Tryd.ntmps18
    obtain ⟨⟨r0, r1, r2⟩, rf⟩ := id hr
    obtain ⟨t0, t1, t2⟩ := st3 hr
    go_wp2
    refine bodyPost_ret (v := rdB none) ?_ rfl ⟨by rw [E.out], ?_⟩
    · simp [results, Tryd.results18, go_sem, rdB]
    · first | exact hB | exact below3 hB (by simp) _ _ _

set_option maxRecDepth 100000 in
set_option maxHeartbeats 2000000 in
theorem rmParse_4 (F R : Int) (hv : vsz F R) (s : ByteArray) (L : List UInt8) (hL : s.data.toList = L) (hn : s.size = 4) (w : World) :
    Calls Tryd.prog 18 #[.agg #[.int .i64 F, .int .i64 R], .string s] w fun e w' => e = .returned (rdB (rdM F R L)) ∧ Below w.heap.size w w' := by
  have hsz : s.size = L.length := by rw [← hL, Array.length_toList]; rfl
  have hs := box2 w F R
  have hr := box3 (w.alloc (.cells #[.int .i64 F, .int .i64 R] 23)) 0 0 0
  rw [World.size_alloc] at hr
  have b0 := box1 w (.cells #[.int .i64 F, .int .i64 R] 23)
  have b1 := box1 (w.alloc (.cells #[.int .i64 F, .int .i64 R] 23)) (.cells #[.int .i64 0, .int .i64 0, .int .i8 0] 27)
  replace hs := hs.below b1 hs.lt
  have hB := chain b0 b1
  clear b0 b1
  have hpr : prV (L.drop 4) = some 0 := by
    rw [List.drop_eq_nil_of_le (by omega)]
    rfl
  clear hsz
  have e1 : (s.extract 0 2).data.toList = L.take 2 := by rw [ext_take s L hL]; rfl
  have e2 : (s.extract 2 4).data.toList = (L.drop 2).take 2 := ext_take s L hL 2 4
  have HX := Lib.hid (fun w => sqR_any F R hv (s.extract 0 2) _ e1 w)
  have HY := Lib.hid (fun w => sqR_any F R hv (s.extract 2 4) _ e2 w)
  have HOK := Lib.hid (fun p h hok => rdM_ok (F := F) (R := R) (L := L) (p := p) h hok)
  have HNO := Lib.hid (fun p h hok => rdM_nok (F := F) (R := R) (L := L) (p := p) hv h hok)
  clear e1 e2
  have hV2 : ((w.alloc (.cells #[.int .i64 F, .int .i64 R] 23)).alloc (.cells #[.int .i64 0, .int .i64 0, .int .i8 0] 27)).heap.size = w.heap.size + 2 := by simp
  go_enter Tryd.func18, Tryd.ntmps18
  obtain ⟨s0, s1⟩ := id hs
  obtain ⟨⟨r0, r1, r2⟩, rf⟩ := id hr
  generalize hV : (w.alloc (.cells #[.int .i64 F, .int .i64 R] 23)).alloc (.cells #[.int .i64 0, .int .i64 0, .int .i8 0] 27) = V at *
  have hS : (V.cell? ⟨w.heap.size, 0, none⟩ = some (.int .i64 F) ∧ V.cell? ⟨w.heap.size, 1, none⟩ = some (.int .i64 R)) ∧ BelM V V := ⟨⟨s0, s1⟩, Below.refl _ _⟩
  have HV2 := Lib.hid hV2
  clear s0 s1 r0 r1 r2 rf hV2
  generalize nmR (nmV F R (L.take 2)) = x at *
  generalize nmR (nmV F R ((L.drop 2).take 2)) = y at *
  go_upto_region 3 with fail
  go_cut [6] (fun s6 wx => ∃ b : Nat, s6 = .pointer (some ⟨b, 0, none⟩) ∧ V.heap.size ≤ b ∧ Bx3 wx b x y 0 ∧ Below V.heap.size V wx)
  case first =>
    go_region_held3 (fun w' => (w'.cell? ⟨w.heap.size, 0, none⟩ = some (.int .i64 F) ∧ w'.cell? ⟨w.heap.size, 1, none⟩ = some (.int .i64 R)) ∧ BelM V w')
      (first | (simp only [BelM.mark]; refine keepMs hS ?_ ?_ _ _ _ <;> first | (exact BelM.of (by assumption)) | (exact (BelM.of (by assumption)).drew) | exact Nat.le_refl _ | (have e1 := hc1.size; have e2 := hc2.size; simp at e1 e2 ⊢; omega)) | assumption | exact keepM (by assumption) (by assumption) | exact keepM (by assumption) ((Below.refl _ _).drew) | exact keepM (by assumption) (box1 _ _) | exact keepM (keepM (keepM hS ((Below.refl _ _).drew)) hc1) hc2 | exact keepM (keepM (keepM (keepM hS ((Below.refl _ _).drew)) hc1) hc2) (box1 _ _))
      (first
        | (go_at_call_has 37 (Value.string (s.extract 0 2)); refine (HX.out _).mono ?_; rintro e u1 ⟨rfl, hc1⟩; try (first | (have yz1 := yb3d hc1) | (have yz1 := yb3 hc1)); try (obtain ⟨⟨e0, e1, e2⟩, ef⟩ := id yz1))
        | (go_at_call_has 37 (Value.string (s.extract 2 4)); refine (HY.out _).mono ?_; rintro e u2 ⟨rfl, hc2⟩; try (first | (have yz2 := yz1.below hc2 yz1.lt) | (have yz2 := yb3d hc2) | (have yz2 := yb3 hc2)); try (obtain ⟨⟨e0, e1, e2⟩, ef⟩ := id yz2)))
    all_goals
      go_wp2_with fail
      (conv => arg 2; simp [Act.put])
      go_meet
      case rel =>
        refine ⟨_, rfl, ?_, ?_, ?_⟩
        · first | exact Nat.le_refl _ | (have e1 := hc1.size; have e2 := hc2.size; simp at e1 e2 ⊢; omega)
        · first | exact bx3s yz2 _ _ 0 | exact bx3s yz1 _ _ 0 | exact box3 _ _ _ 0
        · exact BelM.of (by assumption)
  case rest =>
    obtain ⟨b, rfl, hbV, hm, hW⟩ := hcut
    have HS0 := Lib.hid hs
    have HR0 := Lib.hid hr
    replace hs := hs.below hW hs.lt
    replace hr := hr.below hW hr.lt
    have hB0 := Lib.hid hB
    replace hB := chain hB hW
    clear hS HX HY
    clear hL
    by_cases hok : okM F R ⟨x, y, 0⟩
    · have E := Lib.hid (HOK.out 0 hpr hok)
      have HM := Lib.hid (fun w => rmValid_any F R x y 0 true (by simp [hok]) w)
      clear hok HOK HNO hv
      obtain ⟨s0, s1⟩ := id hs
      obtain ⟨⟨r0, r1, r2⟩, rf⟩ := id hr
      obtain ⟨⟨m0, m1, m2⟩, mf⟩ := id hm
      go_wp2_with fail
      refine (HM.out _).mono ?_
      rintro e w5 ⟨rfl, b5⟩
      clear s0 s1 r0 r1 r2 rf m0 m1 m2 mf
      replace hs := hs.below b5 hs.lt
      replace hr := hr.below b5 hr.lt
      replace hm := hm.below b5 hm.lt
      replace hB := chain hB b5
      clear b5
      obtain ⟨s0, s1⟩ := id hs
      obtain ⟨⟨r0, r1, r2⟩, rf⟩ := id hr
      obtain ⟨⟨m0, m1, m2⟩, mf⟩ := id hm
      obtain ⟨t0, t1, t2⟩ := st3 hr
      go_wp2
      refine bodyPost_ret (v := rdB (some ⟨x, y, 0⟩)) ?_ rfl ⟨by rw [E.out], below3 hB (by simp) _ _ _⟩
      simp [results, Tryd.results18, go_sem, rdB, t0, t1, t2]
    · have E := Lib.hid (HNO.out 0 hpr hok)
      have HM := Lib.hid (fun w => rmValid_any F R x y 0 false (by simp [hok]) w)
      clear hok HOK HNO hv
      obtain ⟨s0, s1⟩ := id hs
      obtain ⟨⟨r0, r1, r2⟩, rf⟩ := id hr
      obtain ⟨⟨m0, m1, m2⟩, mf⟩ := id hm
      go_wp2_with fail
      refine (HM.out _).mono ?_
      rintro e w5 ⟨rfl, b5⟩
      clear s0 s1 r0 r1 r2 rf m0 m1 m2 mf
      replace hs := hs.below b5 hs.lt
      replace hr := hr.below b5 hr.lt
      replace hm := hm.below b5 hm.lt
      replace hB := chain hB b5
      clear b5
      obtain ⟨s0, s1⟩ := id hs
      obtain ⟨⟨r0, r1, r2⟩, rf⟩ := id hr
      obtain ⟨⟨m0, m1, m2⟩, mf⟩ := id hm
      obtain ⟨t0, t1, t2⟩ := st3 hr
      go_wp2
      refine bodyPost_ret (v := rdB (none)) ?_ rfl ⟨by rw [E.out], below3 hB (by simp) _ _ _⟩
      simp [results, Tryd.results18, go_sem, rdB, t0, t1, t2]

set_option maxRecDepth 100000 in
set_option maxHeartbeats 2000000 in
theorem rmParse_5 (F R : Int) (hv : vsz F R) (s : ByteArray) (L : List UInt8) (hL : s.data.toList = L) (hn : s.size = 5) (w : World) :
    Calls Tryd.prog 18 #[.agg #[.int .i64 F, .int .i64 R], .string s] w fun e w' => e = .returned (rdB (rdM F R L)) ∧ Below w.heap.size w w' := by
  have hsz : s.size = L.length := by rw [← hL, Array.length_toList]; rfl
  have hs := box2 w F R
  have hr := box3 (w.alloc (.cells #[.int .i64 F, .int .i64 R] 23)) 0 0 0
  rw [World.size_alloc] at hr
  have b0 := box1 w (.cells #[.int .i64 F, .int .i64 R] 23)
  have b1 := box1 (w.alloc (.cells #[.int .i64 F, .int .i64 R] 23)) (.cells #[.int .i64 0, .int .i64 0, .int .i8 0] 27)
  replace hs := hs.below b1 hs.lt
  have hB := chain b0 b1
  clear b0 b1
  obtain ⟨c, hc⟩ : ∃ c, L.drop 4 = [c] := by
    have : (L.drop 4).length = 1 := by rw [List.length_drop]; omega
    match L.drop 4, this with
    | [c], _ => exact ⟨c, rfl⟩
  have e3 : (s.extract 4 5).data.toList = [c] := by
    rw [ext_take s L hL, hc]
    rfl
  have hpq := pq_end c
  rw [← hc] at hpq
  have HPQ := Lib.hid hpq
  have HCMP : Hid (∀ k : Int, 2 ≤ k → k ≤ 5 → ((((ByteArray.mk #[78, 66, 82, 81]).extract (k - 2).toNat (k.toNat - 1)).toList == (s.extract 4 5).toList) = true ↔ piP c.toNat = k)) := Lib.hid (fun k h0 h1 => by
    rw [beq_iff_eq, ByteArray.toList_eq, ByteArray.toList_eq, e3]
    exact nbrq_is k h0 h1 c)
  clear hsz hpq e3
  have e1 : (s.extract 0 2).data.toList = L.take 2 := by rw [ext_take s L hL]; rfl
  have e2 : (s.extract 2 4).data.toList = (L.drop 2).take 2 := ext_take s L hL 2 4
  have HX := Lib.hid (fun w => sqR_any F R hv (s.extract 0 2) _ e1 w)
  have HY := Lib.hid (fun w => sqR_any F R hv (s.extract 2 4) _ e2 w)
  have HOK := Lib.hid (fun p h hok => rdM_ok (F := F) (R := R) (L := L) (p := p) h hok)
  have HNO := Lib.hid (fun p h hok => rdM_nok (F := F) (R := R) (L := L) (p := p) hv h hok)
  clear e1 e2
  have hV2 : ((w.alloc (.cells #[.int .i64 F, .int .i64 R] 23)).alloc (.cells #[.int .i64 0, .int .i64 0, .int .i8 0] 27)).heap.size = w.heap.size + 2 := by simp
  go_enter Tryd.func18, Tryd.ntmps18
  obtain ⟨s0, s1⟩ := id hs
  obtain ⟨⟨r0, r1, r2⟩, rf⟩ := id hr
  generalize hV : (w.alloc (.cells #[.int .i64 F, .int .i64 R] 23)).alloc (.cells #[.int .i64 0, .int .i64 0, .int .i8 0] 27) = V at *
  have hS : (V.cell? ⟨w.heap.size, 0, none⟩ = some (.int .i64 F) ∧ V.cell? ⟨w.heap.size, 1, none⟩ = some (.int .i64 R)) ∧ BelM V V := ⟨⟨s0, s1⟩, Below.refl _ _⟩
  have HV2 := Lib.hid hV2
  clear s0 s1 r0 r1 r2 rf hV2
  generalize nmR (nmV F R (L.take 2)) = x at *
  generalize nmR (nmV F R ((L.drop 2).take 2)) = y at *
  go_upto_region 3 with fail
  go_cut [6] (fun s6 wx => ∃ b : Nat, s6 = .pointer (some ⟨b, 0, none⟩) ∧ V.heap.size ≤ b ∧ Bx3 wx b x y 0 ∧ Below V.heap.size V wx)
  case first =>
    go_region_held3 (fun w' => (w'.cell? ⟨w.heap.size, 0, none⟩ = some (.int .i64 F) ∧ w'.cell? ⟨w.heap.size, 1, none⟩ = some (.int .i64 R)) ∧ BelM V w')
      (first | (simp only [BelM.mark]; refine keepMs hS ?_ ?_ _ _ _ <;> first | (exact BelM.of (by assumption)) | (exact (BelM.of (by assumption)).drew) | exact Nat.le_refl _ | (have e1 := hc1.size; have e2 := hc2.size; simp at e1 e2 ⊢; omega)) | assumption | exact keepM (by assumption) (by assumption) | exact keepM (by assumption) ((Below.refl _ _).drew) | exact keepM (by assumption) (box1 _ _) | exact keepM (keepM (keepM hS ((Below.refl _ _).drew)) hc1) hc2 | exact keepM (keepM (keepM (keepM hS ((Below.refl _ _).drew)) hc1) hc2) (box1 _ _))
      (first
        | (go_at_call_has 37 (Value.string (s.extract 0 2)); refine (HX.out _).mono ?_; rintro e u1 ⟨rfl, hc1⟩; try (first | (have yz1 := yb3d hc1) | (have yz1 := yb3 hc1)); try (obtain ⟨⟨e0, e1, e2⟩, ef⟩ := id yz1))
        | (go_at_call_has 37 (Value.string (s.extract 2 4)); refine (HY.out _).mono ?_; rintro e u2 ⟨rfl, hc2⟩; try (first | (have yz2 := yz1.below hc2 yz1.lt) | (have yz2 := yb3d hc2) | (have yz2 := yb3 hc2)); try (obtain ⟨⟨e0, e1, e2⟩, ef⟩ := id yz2)))
    all_goals
      go_wp2_with fail
      (conv => arg 2; simp [Act.put])
      go_meet
      case rel =>
        refine ⟨_, rfl, ?_, ?_, ?_⟩
        · first | exact Nat.le_refl _ | (have e1 := hc1.size; have e2 := hc2.size; simp at e1 e2 ⊢; omega)
        · first | exact bx3s yz2 _ _ 0 | exact bx3s yz1 _ _ 0 | exact box3 _ _ _ 0
        · exact BelM.of (by assumption)
  case rest =>
    obtain ⟨b, rfl, hbV, hm, hW⟩ := hcut
    have HS0 := Lib.hid hs
    have HR0 := Lib.hid hr
    replace hs := hs.below hW hs.lt
    replace hr := hr.below hW hr.lt
    have hB0 := Lib.hid hB
    replace hB := chain hB hW
    clear hS HX HY
    clear hL
    obtain ⟨⟨m0, m1, m2⟩, mf⟩ := id hm
    go_wp2
    clear m0 m1 m2 mf
    go_loopw [7] (fun i wr => ∃ k : Int, 2 ≤ k ∧ k ≤ 6 ∧ i = .int .i8 k ∧ Bx3 wr b x y (pq k c) ∧ Below V.heap.size V wr) (fun i _ => (6 - intOf i).toNat)
    case atStart => exact ⟨2, by omega, by omega, rfl, by rw [pq_two]; exact hm, hW⟩
    case round =>
      clear hs hr hm hW hB
      obtain ⟨k, hk0, hk1, rfl, hm, hW⟩ := hrel
      obtain ⟨⟨m0, m1, m2⟩, mf⟩ := id hm
      by_cases hle : k ≤ 5
      · have hcm := HCMP.out k hk0 hle
        by_cases he : piP c.toNat = k
        · have hbt := hcm.2 he
          have E1 := Lib.hid (pq_yes hk0 hle he)
          have HM := Lib.hid hm
          have HW := Lib.hid hW
          clear hcm he hm hW
          generalize pq k c = q at *
          go_wp2_with fail
          go_quiet (fail)
          go_wp2
          go_roundw
          case rel => exact ⟨k + 1, by omega, by omega, by go_num, by rw [E1.out]; exact HM.out.setp k, (drawn HW.out _).setCell (p := ⟨_, _, none⟩) hbV _⟩
          case measure => simp [intOf]; omega
        · have hbt : (((ByteArray.mk #[78, 66, 82, 81]).extract (k - 2).toNat (k.toNat - 1)).toList == (s.extract 4 5).toList) = false := by
            cases hh : (((ByteArray.mk #[78, 66, 82, 81]).extract (k - 2).toNat (k.toNat - 1)).toList == (s.extract 4 5).toList) with
            | false => rfl
            | true => exact absurd (hcm.1 hh) he
          have E1 := Lib.hid (pq_no (k := k) he)
          have HM := Lib.hid hm
          have HW := Lib.hid hW
          clear hcm he hm hW
          go_wp2_with fail
          go_quiet (fail)
          go_wp2
          go_roundw
          case rel => exact ⟨k + 1, by omega, by omega, by go_num, by rw [E1.out]; exact HM.out, drawn HW.out _⟩
          case measure => simp [intOf]; omega
      · obtain rfl : k = 6 := by omega
        have hs := HS0.out.below hW HS0.out.lt
        have hr := HR0.out.below hW HR0.out.lt
        have hB := chain hB0.out hW
        clear HCMP hW HS0 HR0 hB0 hle hk0 hk1 m0 m1 m2 mf
        by_cases hq : pq 6 c = 0
        · have E : Hid (rdM F R L = none) := Lib.hid (rdM_nopr (by rw [HPQ.out, if_pos hq]))
          rw [hq] at hm
          clear hq HOK HNO hv HPQ
          obtain ⟨s0, s1⟩ := id hs
          obtain ⟨⟨r0, r1, r2⟩, rf⟩ := id hr
          obtain ⟨⟨m0, m1, m2⟩, mf⟩ := id hm
          obtain ⟨t0, t1, t2⟩ := st3 hr
          go_wp2
          refine bodyPost_ret (v := rdB (none)) ?_ rfl ⟨by rw [E.out], below3 hB (by simp) _ _ _⟩
          simp [results, Tryd.results18, go_sem, rdB, t0, t1, t2]
        · have hpr : prV (L.drop 4) = some (pq 6 c) := by rw [HPQ.out, if_neg hq]
          have HPR := Lib.hid hpr
          clear hpr HPQ
          generalize pq 6 c = p at *
          have hq0 : (p == 0) = false := beq_eq_false_iff_ne.2 hq
          clear hq
          by_cases hok : okM F R ⟨x, y, p⟩
          · have E := Lib.hid (HOK.out p HPR.out hok)
            have HM := Lib.hid (fun w => rmValid_any F R x y p true (by simp [hok]) w)
            clear hok HOK HNO hv
            obtain ⟨s0, s1⟩ := id hs
            obtain ⟨⟨r0, r1, r2⟩, rf⟩ := id hr
            obtain ⟨⟨m0, m1, m2⟩, mf⟩ := id hm
            go_wp2_with fail
            refine (HM.out _).mono ?_
            rintro e w5 ⟨rfl, b5⟩
            clear s0 s1 r0 r1 r2 rf m0 m1 m2 mf
            replace hs := hs.below b5 hs.lt
            replace hr := hr.below b5 hr.lt
            replace hm := hm.below b5 hm.lt
            replace hB := chain hB b5
            clear b5
            obtain ⟨s0, s1⟩ := id hs
            obtain ⟨⟨r0, r1, r2⟩, rf⟩ := id hr
            obtain ⟨⟨m0, m1, m2⟩, mf⟩ := id hm
            obtain ⟨t0, t1, t2⟩ := st3 hr
            go_wp2
            refine bodyPost_ret (v := rdB (some ⟨x, y, p⟩)) ?_ rfl ⟨by rw [E.out], below3 hB (by simp) _ _ _⟩
            simp [results, Tryd.results18, go_sem, rdB, t0, t1, t2]
          · have E := Lib.hid (HNO.out p HPR.out hok)
            have HM := Lib.hid (fun w => rmValid_any F R x y p false (by simp [hok]) w)
            clear hok HOK HNO hv
            obtain ⟨s0, s1⟩ := id hs
            obtain ⟨⟨r0, r1, r2⟩, rf⟩ := id hr
            obtain ⟨⟨m0, m1, m2⟩, mf⟩ := id hm
            go_wp2_with fail
            refine (HM.out _).mono ?_
            rintro e w5 ⟨rfl, b5⟩
            clear s0 s1 r0 r1 r2 rf m0 m1 m2 mf
            replace hs := hs.below b5 hs.lt
            replace hr := hr.below b5 hr.lt
            replace hm := hm.below b5 hm.lt
            replace hB := chain hB b5
            clear b5
            obtain ⟨s0, s1⟩ := id hs
            obtain ⟨⟨r0, r1, r2⟩, rf⟩ := id hr
            obtain ⟨⟨m0, m1, m2⟩, mf⟩ := id hm
            obtain ⟨t0, t1, t2⟩ := st3 hr
            go_wp2
            refine bodyPost_ret (v := rdB (none)) ?_ rfl ⟨by rw [E.out], below3 hB (by simp) _ _ _⟩
            simp [results, Tryd.results18, go_sem, rdB, t0, t1, t2]

/-- A text of any length is read as the document says. -/
theorem rmParse_any (F R : Int) (hv : vsz F R) (s : ByteArray) (L : List UInt8) (hL : s.data.toList = L) (w : World) :
    Calls Tryd.prog 18 #[.agg #[.int .i64 F, .int .i64 R], .string s] w fun e w' => e = .returned (rdB (rdM F R L)) ∧ Below w.heap.size w w' := by
  by_cases h4 : s.size = 4
  · exact rmParse_4 F R hv s L hL h4 w
  · by_cases h5 : s.size = 5
    · exact rmParse_5 F R hv s L hL h5 w
    · exact rmParse_len F R hv s L hL (by omega) w
end Go.Proofs.YtpcfgeggjfbfjaaDoor
