/- Attacks, by the program: the iterator over the pins of a side gives them all, in order, as far as the loop takes them. -/
import Derived.Test.YtjnbjegopddhgaaDoorAuP
import Derived.Sort.CutIn

namespace Go.Proofs.YtjnbjegopddhgaaDoor
open Go.RowKit Go.Shelf Go.Sort Go.BigFrame
attribute [local go_sem] Oper.semAt_some
theorem wpIn_just {Fe : Fence} {n : Nat} {P : Program} {c : Code} {K : Act → World → Prop} {Q' : Exit → Act → World → Prop} {a : Act} {w : World} (h : c.wpIn Fe n P (Exit.then K (fun _ _ _ => False)) a w) : c.wpIn Fe n P (Exit.then K Q') a w := by
  refine wpIn_mono h ?_
  intro e a w h
  cases e <;> first | exact h | exact h.elim
theorem own_ex {β γ : Type} {B B' : Nat} {J : γ → World → Prop} (hJ : OwnFrom B J) (hB : B ≤ B') (p : β → γ → Prop) : OwnFrom B' (fun (s : β) W => ∃ z, p s z ∧ J z W) := fun _ X Y row ⟨z, h, hj⟩ hg hr =>
  ⟨z, h, hJ z X Y row hj hg (fun r e => ⟨Nat.le_trans hB (hr r e).1, (hr r e).2⟩)⟩
theorem MarksAt.put {n₀ : Nat} {Ds : List Nat} {w : World} (h : MarksAt n₀ Ds w) {D : Nat} (hn : n₀ ≤ D) (hD : ∀ E ∈ Ds, E < D) (hk : w.heap[D]? = some (.deferred (some []))) : MarksAt n₀ (D :: Ds) w := by
  refine ⟨List.nodup_cons.2 ⟨fun hE => by have := hD D hE; omega, h.1⟩, fun E hE => ?_⟩
  rcases List.mem_cons.1 hE with rfl | hE
  · exact ⟨hn, hk⟩
  · exact h.2 E hE
section
variable {F R : Int} {l : List Int} {k : Int} {bl : Bool}
theorem pinsQ_len {q : Nat} (zs : List Nat) : (pinsQ F R l k bl q zs).length ≤ zs.length := by
  unfold pinsQ
  exact List.length_filterMap_le _ _
theorem pinsTo_len : ∀ m, (pinsTo F R l k bl m).length ≤ 64 * m
  | 0 => by simp [pinsTo]
  | m + 1 => by
    have h1 := pinsTo_len m
    have h2 := pinsQ_len (F := F) (R := R) (l := l) (k := k) (bl := bl) (q := m + 3) (listOf (kS l (!bl) (m + 3)))
    have h3 := listOf_len (kS l (!bl) (m + 3))
    unfold pinsTo
    rw [List.length_append]
    omega
theorem pins_mem {m i : Nat} (hm : m < 3) (hi : i ∈ listOf (kS l (!bl) (m + 3))) (h : (pinA F R l k bl (m + 3) i).1 ≠ 0) : pinA F R l k bl (m + 3) i ∈ pinsTo F R l k bl 3 := by
  refine (pinsTo_pre (m := m + 1) (by omega)).subset ?_
  unfold pinsTo pinsQ
  refine List.mem_append.2 (.inr (List.mem_filterMap.2 ⟨i, hi, ?_⟩))
  rw [if_neg h]
end

set_option maxRecDepth 100000 in
set_option maxHeartbeats 8000000 in
theorem pins_in_false (F R k : Int) (l : List Int) (l' b B S : Nat) (hb : vbd F R l) (_ho : orA l = true) (hk : vat F R k) (w0 : World) (hT0 : T5 w0) (hS0 : w0.heap.size ≤ S) (J Jx : List (PE F R l k false) → World → Prop) (W : World) (hW0 : Below w0.heap.size w0 W) (hSW : S < W.heap.size)
    (hSB : S ≠ B) (hSb : S < b ∨ b + 3 ≤ S) (cf : W.cell? ⟨b, 0, none⟩ = some (.pointer (some ⟨B, 0, none⟩))) (ck : W.cell? ⟨b + 1, 0, none⟩ = some (.int .i64 k)) (cb : W.cell? ⟨b + 1 + 1, 0, none⟩ = some (.bool false)) (hF : Fld W B F R (sS l) (kS l))
    (hJ : OwnFrom W.heap.size J) (hJx : OwnFrom W.heap.size Jx)
    (hY : ∀ pre x W1, J pre W1 → pre.length < 192 → YieldAt Fence.wide (5 - 1) Tryd.prog l' #[.int .u64 (x.1.1 : Nat), .int .u64 (x.1.2 : Nat)] W1 fun e W' =>
      (e = .returned (.bool true) ∧ J (pre ++ [x]) W' ∧ ButS S W1 W') ∨ (e = .returned (.bool false) ∧ Jx (pre ++ [x]) W' ∧ KeepsFrom W.heap.size W1 W' ∧ W1.heap.size ≤ W'.heap.size)) (h0 : J [] W) :
    CallsIn Fence.wide 5 Tryd.prog 70 #[.func (.yield l') #[] #[], .pointer (some ⟨b, 0, none⟩), .pointer (some ⟨b + 1 + 1, 0, none⟩), .pointer (some ⟨b + 1, 0, none⟩)] W fun e W' => (∃ v, e = .returned v) ∧
      ((∃ xs, xs.map (·.1) = pinsTo F R l k false 3 ∧ J xs W') ∨ (∃ pre, pre.map (·.1) <+: pinsTo F R l k false 3 ∧ Jx pre W')) := by
  have hlen := vbd_64 hb
  have hSd : Hid (∀ w, Calls Tryd.prog 42 #[.pointer (some ⟨B, 0, none⟩), .bool true] w fun e w' => e = .returned (.pointer (some ⟨B, 10, none⟩)) ∧ w = w') := Lib.hid (aSide_any B true)
  have HPIN := Lib.hid (fun (q i : Nat) hq hq6 (hi : vat F R (i : Int)) w hT hF => aPin_any F R k l false q i B hq hq6 hb hk hi w hT hF)
  have HVAT : Hid (∀ q (i : Nat), 1 ≤ q → i ∈ listOf (kS l true q) → vat F R (i : Int)) := Lib.hid (fun q i hq hi => by
    have h1 := mem_listOf.1 hi
    have h2 := (kS_bit hq).1 h1.2
    have := hb.2.1
    exact ⟨hb.1, by omega, by omega⟩)
  have HK64 : Hid (∀ q, kS l true q < 18446744073709551616) := Lib.hid (fun q => idx_64 _ l hlen)
  have HY := Lib.hid hY
  have HJ := Lib.hid hJ
  have HJX := Lib.hid hJx
  have H0 := Lib.hid h0
  have HT0 := Lib.hid hT0
  have HWB := Lib.hid hW0
  have HFL := Lib.hid hF
  clear hY hJ hJx h0 hT0 hb hk hlen hW0
  refine callsIn_of_wp_marks Tryd.func70 rfl trivial ?_ rfl
  simp only [Tryd.ntmps70, List.size_toArray, List.length_cons, List.length_nil, Nat.reduceAdd, Nat.reduceSub, Array.replicate_succ, Array.replicate_zero, List.push_toArray, List.append_toArray, List.nil_append, List.cons_append]
  gi_wp2_with fail
  obtain ⟨V0, hV0⟩ : ∃ V0, W.alloc (.cells #[.func (.yield l') #[] #[]] 100) = V0 := ⟨_, rfl⟩
  have b0 : Below W.heap.size W V0 := by rw [← hV0]; exact box1 _ _
  have hs0 : W.heap.size + 1 ≤ V0.heap.size := by rw [← hV0]; simp
  have y0 : V0.cell? ⟨W.heap.size, 0, none⟩ = some (.func (.yield l') #[] #[]) := by rw [← hV0]; simp [go_sem]
  have f0 := cBo b0 cf
  have k0 := cBo b0 ck
  have n0 := cBo b0 cb
  have HF0 := Lib.hid (HFL.out.below b0)
  have hJ0 := OwnFrom.below HJ.out H0.out b0
  have hB0 : Below w0.heap.size w0 V0 := HWB.out.trans (b0.mono (HWB.out.size))
  rw [hV0]
  clear hV0 cf ck cb hF
  refine wpIn_loop (fun a' w' => ∃ (m : Nat) (q : Int) (zs : List (PE F R l k false)) (Ds : List Nat) (u6 u12 u13 u14 u15 u16 u17 u18 u19 u20 u21 u22 u23 u43 : Value), m ≤ 3 ∧ q = m ∧ zs.map (·.1) = pinsTo F R l k false m ∧ J zs w' ∧ ButS S V0 w' ∧ MarksAt V0.heap.size Ds w' ∧
      a' = { tmps := #[(.func (.yield l') #[] #[] : Value), (.pointer (some ⟨b, 0, none⟩) : Value), (.pointer (some ⟨b + 1 + 1, 0, none⟩) : Value), (.pointer (some ⟨b + 1, 0, none⟩) : Value), (.pointer (some ⟨W.heap.size, 0, none⟩) : Value), undef, u6, undef, undef, undef, (.agg #[.int .i8 3, .int .i8 4, .int .i8 5] : Value), (.int .i64 q : Value), u12, u13, u14, u15, u16, u17, u18, u19, u20, u21, u22, u23, undef, undef, undef, undef, undef, undef, undef, undef, undef, undef, undef, undef, undef, undef, undef, undef, undef, undef, undef, u43], defers := marks Ds })
    (fun a' _ => 3 - (intOf (a'.tmps.getD 11 undef)).toNat) ?start ?round
  case start => exact ⟨0, 0, [], [], _, _, _, _, _, _, _, _, _, _, _, _, _, _, Nat.zero_le _, rfl, rfl, hJ0, ButS.refl _ _, MarksAt.nil _ _, rfl⟩
  case round =>
    rintro _ wr ⟨m, q, zs, Ds, u6, u12, u13, u14, u15, u16, u17, u18, u19, u20, u21, u22, u23, u43, hm3, hq, hzs, hJz, hB, hM, rfl⟩
    have HZS := Lib.hid hzs
    have HJZ := Lib.hid hJz
    have f1 := hB.cell f0 (by simp; omega)
    have k1 := hB.cell k0 (by simp; omega)
    have n1 := hB.cell n0 (by simp; omega)
    have y1 := hB.cell y0 (by simp; omega)
    have hFr := HF0.out.but hB (Ne.symm hSB)
    have hsz := hB.size
    have hBw : Below w0.heap.size w0 wr := hB0.trans (hB.below hS0 hB0.size)
    have HTR := Lib.hid (HT0.out.below hBw)
    clear hzs hJz hJ0 f0 k0 n0 y0
    by_cases hlt : m < 3
    · have h3 : m = 0 ∨ m = 1 ∨ m = 2 := by omega
      rcases h3 with rfl | rfl | rfl
      · obtain rfl : q = 0 := hq
        have hx := fun w' => ix3_0 3 4 5 w'
        have hkc := hFr.2.2 true 3 (by omega)
        simp only [offN, if_true, Nat.reduceAdd] at hkc
        have HFR := Lib.hid hFr
        have g1 := alive (.cells #[.int .i8 3] 47) f1
        have g2 := alive (.cells #[.int .i8 3] 47) n1
        have g3 := alive (.cells #[.int .i8 3] 47) hkc
        have g4 : (wr.alloc (.cells #[.int .i8 3] 47)).cell? ⟨wr.heap.size, 0, none⟩ = some (.int .i8 3) := by simp [go_sem]
        clear hkc hFr
        have hmx : Tryd.prog.follows .mixedOrders = true := by kernel_rfl
        gi_upto_region 4 with fail
        gi_cut [23] from 44 (fun s23 wx => s23 = .func (.func 65) #[] #[.pointer (some ⟨wr.heap.size + 1, 0, none⟩)] ∧ wx.cell? ⟨wr.heap.size, 0, none⟩ = some (.int .i8 3) ∧ wx.cell? ⟨wr.heap.size + 1, 0, none⟩ = some (.int .u64 ((kS l true 3) : Nat)) ∧ Below wr.heap.size wr wx ∧ wx.heap.size = wr.heap.size + 2)
        case first =>
          refine wpIn_just ?_
          gi_region_with_o (first
            | (gi_at_call 42; refine (callsIn_wide.2 (hSd.out _)).mono ?_; rintro e w4 ⟨rfl, rfl⟩)
            | (refine ⟨trivial, ?_⟩; gi_at_call 42; refine (callsIn_wide.2 (hSd.out _)).mono ?_; rintro e w4 ⟨rfl, rfl⟩)
            | (gi_at_call 43; refine (callsIn_wide.2 (each_any (kS l true 3) _)).mono ?_; rintro e w5 ⟨rfl, rfl⟩)
            | (refine ⟨trivial, ?_⟩; gi_at_call 43; refine (callsIn_wide.2 (each_any (kS l true 3) _)).mono ?_; rintro e w5 ⟨rfl, rfl⟩))
          all_goals
            gi_wp2_with fail
            gi_meet
            refine ⟨rfl, ?_, ?_, ?_, ?_⟩
            · exact alive _ g4
            · simp [go_sem]
            · exact ((Below.refl _ _).alloc (by simp) _).drew.alloc (by simp) _
            · simp
        case rest =>
          obtain ⟨rfl, c1, c2, hB2, hs2⟩ := hcut
          generalize wc = V at *
          clear g1 g2 g3 g4 hx
          have f2 := cBo hB2 f1
          have k2 := cBo hB2 k1
          have n2 := cBo hB2 n1
          have y2 := cBo hB2 y1
          have HFV := Lib.hid (HFR.out.below hB2)
          have HTV := Lib.hid (HTR.out.below hB2)
          have hBU : ButS S V0 V := hB.trans (ButS.of hB2)
          have HJV := Lib.hid (OwnFrom.below HJ.out HJZ.out hB2)
          have hsU := hB2.size
          have hs00 := HWB.out.size
          have HM := Lib.hid hM
          clear f1 k1 n1 y1 HFR HTR HJZ hM
          gi_wp2_with fail
          apply range_O (α := Sq (kS l true 3)) (n := 5) (by omega) (gf := 65) (lb := #[.pointer (some ⟨wr.heap.size + 1, 0, none⟩)]) rfl (enters_of Tryd.func65 (by kernel_rfl) rfl) (encs := fun x => #[.int .i64 (x.1 : Int)]) (S := S) (by omega) (each_O 4 (wr.heap.size + 1) S w0.heap.size (kS l true 3) (by omega) (HK64.out 3) V (by omega) (by omega) HT0.out.1.1 hS0 c2 HTV.out.1) (Below.refl _ _) (fun _ => rfl)
            (fun pre W' => (∃ zs' : List (PE F R l k false), zs'.map (·.1) = pinsTo F R l k false 0 ++ pinsQ F R l k false 3 (vals pre) ∧ J zs' W') ∧ ButS S V W')
            (fun c pre W' => (∃ zs' : List (PE F R l k false), (c = .ret ∧ zs'.map (·.1) = pinsTo F R l k false 0 ++ pinsQ F R l k false 3 (vals pre)) ∧ Jx zs' W') ∧ MarksAt V0.heap.size Ds W')
            (OwnFrom.and (own_ex HJ.out (by omega) _) (ownFrom_but (Nat.le_refl _)))
            (fun c => OwnFrom.and (own_ex HJX.out (by omega) _) (marksAt_own (fun D hD => by have := HM.out.lt hD; omega)))
            ⟨⟨zs, by rw [HZS.out]; exact (List.append_nil _).symm, HJV.out⟩, ButS.refl _ _⟩
          case hassign =>
            intro lp x W1 K hK
            gi_wp2
            exact hK
          case hbody =>
            rintro lp pre x W1 ⟨⟨zs', hz, hj⟩, hBW⟩ hlen2
            have f3 := hBW.cell f2 (by simp; omega)
            have k3 := hBW.cell k2 (by simp; omega)
            have n3 := hBW.cell n2 (by simp; omega)
            have y3 := hBW.cell y2 (by simp; omega)
            have c3 := hBW.cell c1 (by simp; omega)
            have hszW := hBW.size
            have HPI := Lib.hid (HPIN.out 3 x.1 (by omega) (by omega) (HVAT.out 3 x.1 (by omega) x.2) W1 (HT0.out.below (hB0.trans ((hBU.trans hBW).below hS0 hB0.size))).2 (HFV.out.but hBW (Ne.symm hSB)))
            have HLN : Hid (zs'.length < 192) := Lib.hid (by
              have h1 := congrArg List.length hz
              rw [List.length_map, List.length_append] at h1
              have h2 := pinsTo_len (F := F) (R := R) (l := l) (k := k) (bl := false) 0
              have h3 := pinsQ_len (F := F) (R := R) (l := l) (k := k) (bl := false) (q := 3) (vals pre)
              have h4 := listOf_len (kS l true 3)
              have h5 : (vals pre).length = pre.length := List.length_map _
              omega)
            have HPM : Hid ((pinA F R l k false 3 x.1).1 ≠ 0 → pinA F R l k false 3 x.1 ∈ pinsTo F R l k false 3) := Lib.hid (fun h => pins_mem (m := 0) (by omega) x.2 h)
            have HQ0 := Lib.hid (fun h => pinsQ_no (F := F) (R := R) (l := l) (k := k) (bl := false) (q := 3) (zs := vals pre) (i := x.1) h)
            have HQ1 := Lib.hid (fun h => pinsQ_yes (F := F) (R := R) (l := l) (k := k) (bl := false) (q := 3) (zs := vals pre) (i := x.1) h)
            rw [← vals_snoc] at HQ0 HQ1
            have HZ := Lib.hid hz
            have HJW := Lib.hid hj
            clear hz hj hlen2 f2 k2 n2 y2 c1 c2
            gi_wp2_with fail
            refine ⟨trivial, CallsIn.inRound lp (callsIn_wide.2 ((HPI.out).mono ?_))⟩
            rintro e w4 ⟨rfl, hb4⟩
            generalize pinA F R l k false 3 x.1 = p at *
            have y4 := cBo hb4 y3
            have HJ4 := Lib.hid (OwnFrom.below HJ.out HJW.out hb4)
            clear f3 k3 n3 y3 c3
            by_cases h0 : p.1 = 0
            · have HQ := HQ0.out h0
              rw [h0]
              gi_wp2_with fail
              refine ⟨fun _ h => (by cases h), ?_⟩
              gi_wp2_with fail
              refine ⟨ButS.of hb4, ⟨zs', by rw [HZ.out, HQ], HJ4.out⟩, hBW.trans (ButS.of hb4)⟩
            · have HQ := HQ1.out h0
              have hne : ¬ (p.1 : Int) = 0 := by omega
              have hn2 : ((p.1 : Int) != 0) = true := by simpa using h0
              obtain ⟨fn, tmps, assign, body, hy, hR⟩ := HY.out zs' ⟨p, HPM.out h0⟩ w4 HJ4.out HLN.out
              have HR := Lib.hid hR
              clear hR
              gi_wp2_with fail
              refine (roundIn_any HR.out).mono ?_
              rintro e W3 (⟨rfl, hJ3, hk3⟩ | ⟨rfl, hJ3, hk3, hs3⟩)
              · gi_wp2
                refine ⟨(ButS.of hb4).trans hk3, ⟨_, by rw [List.map_append, HZ.out, HQ, List.append_assoc]; rfl, hJ3⟩, hBW.trans ((ButS.of hb4).trans hk3)⟩
              · gi_wp2
                refine ⟨⟨by have := hb4.size; omega, fun i o hi ho hn => hk3.same i o (by omega) ((hb4.block i (Array.getElem?_eq_some_iff.1 ho).1).trans ho) hn⟩, ⟨_, ⟨rfl, by rw [List.map_append, HZ.out, HQ, List.append_assoc]; rfl⟩, hJ3⟩, ?_⟩
                refine ⟨HM.out.1, fun D hD => ⟨(HM.out.2 D hD).1, ?_⟩⟩
                have hDlt := HM.out.lt hD
                have hDm := HM.out.2 D hD
                exact hk3.same D _ (by omega) ((((ButS.of hB2).trans (hBW.trans (ButS.of hb4))).2.2.2.2 D hDlt (by omega)).trans hDm.2) rfl
          case hdone =>
            rintro D xs W1 hD hys ⟨⟨zs', hz, hj⟩, hBW⟩ hK
            rw [hys] at hz
            have hM2 := HM.out.cons ((ButS.of hB2).trans hBW) (by omega) (D := D) (by omega) (by omega) hK
            have HZ := Lib.hid hz
            clear hz hys hK c1 c2 f2 k2 n2 y2
            gi_wp2_with fail
            refine ⟨?_, ?_⟩
            · refine ⟨1, 1, zs', D :: Ds, ?_⟩
              repeat apply Exists.intro
              exact ⟨by omega, rfl, HZ.out, hj, hBU.trans hBW, hM2, rfl⟩
            · simp [intOf]
          case hstop =>
            rintro D c pre W1 hD hpre ⟨⟨zs', ⟨rfl, hz⟩, hj⟩, hMk⟩ hK
            have HP : Hid (zs'.map (·.1) <+: pinsTo F R l k false 3) := Lib.hid (by rw [hz]; exact pins_part (m := 0) (by omega) hpre)
            have hM2 : MarksAt V0.heap.size (D :: Ds) W1 := hMk.put (by omega) (fun E hE => by have := HM.out.lt hE; omega) hK
            clear hz hpre hK c1 c2 f2 k2 n2 y2
            gi_wp2_with fail
            refine leaves_own (OwnFrom.upto HJX.out (by omega)) zs' (D :: Ds) _ hM2 hj (fun w' hj' => ?_)
            exact ⟨_, results_none rfl _ _ _, ⟨_, rfl⟩, .inr ⟨zs', HP.out, hj'⟩⟩
      · obtain rfl : q = 1 := hq
        have hx := fun w' => ix3_1 3 4 5 w'
        have hkc := hFr.2.2 true 4 (by omega)
        simp only [offN, if_true, Nat.reduceAdd] at hkc
        have HFR := Lib.hid hFr
        have g1 := alive (.cells #[.int .i8 4] 47) f1
        have g2 := alive (.cells #[.int .i8 4] 47) n1
        have g3 := alive (.cells #[.int .i8 4] 47) hkc
        have g4 : (wr.alloc (.cells #[.int .i8 4] 47)).cell? ⟨wr.heap.size, 0, none⟩ = some (.int .i8 4) := by simp [go_sem]
        clear hkc hFr
        have hmx : Tryd.prog.follows .mixedOrders = true := by kernel_rfl
        gi_upto_region 4 with fail
        gi_cut [23] from 44 (fun s23 wx => s23 = .func (.func 65) #[] #[.pointer (some ⟨wr.heap.size + 1, 0, none⟩)] ∧ wx.cell? ⟨wr.heap.size, 0, none⟩ = some (.int .i8 4) ∧ wx.cell? ⟨wr.heap.size + 1, 0, none⟩ = some (.int .u64 ((kS l true 4) : Nat)) ∧ Below wr.heap.size wr wx ∧ wx.heap.size = wr.heap.size + 2)
        case first =>
          refine wpIn_just ?_
          gi_region_with_o (first
            | (gi_at_call 42; refine (callsIn_wide.2 (hSd.out _)).mono ?_; rintro e w4 ⟨rfl, rfl⟩)
            | (refine ⟨trivial, ?_⟩; gi_at_call 42; refine (callsIn_wide.2 (hSd.out _)).mono ?_; rintro e w4 ⟨rfl, rfl⟩)
            | (gi_at_call 43; refine (callsIn_wide.2 (each_any (kS l true 4) _)).mono ?_; rintro e w5 ⟨rfl, rfl⟩)
            | (refine ⟨trivial, ?_⟩; gi_at_call 43; refine (callsIn_wide.2 (each_any (kS l true 4) _)).mono ?_; rintro e w5 ⟨rfl, rfl⟩))
          all_goals
            gi_wp2_with fail
            gi_meet
            refine ⟨rfl, ?_, ?_, ?_, ?_⟩
            · exact alive _ g4
            · simp [go_sem]
            · exact ((Below.refl _ _).alloc (by simp) _).drew.alloc (by simp) _
            · simp
        case rest =>
          obtain ⟨rfl, c1, c2, hB2, hs2⟩ := hcut
          generalize wc = V at *
          clear g1 g2 g3 g4 hx
          have f2 := cBo hB2 f1
          have k2 := cBo hB2 k1
          have n2 := cBo hB2 n1
          have y2 := cBo hB2 y1
          have HFV := Lib.hid (HFR.out.below hB2)
          have HTV := Lib.hid (HTR.out.below hB2)
          have hBU : ButS S V0 V := hB.trans (ButS.of hB2)
          have HJV := Lib.hid (OwnFrom.below HJ.out HJZ.out hB2)
          have hsU := hB2.size
          have hs00 := HWB.out.size
          have HM := Lib.hid hM
          clear f1 k1 n1 y1 HFR HTR HJZ hM
          gi_wp2_with fail
          apply range_O (α := Sq (kS l true 4)) (n := 5) (by omega) (gf := 65) (lb := #[.pointer (some ⟨wr.heap.size + 1, 0, none⟩)]) rfl (enters_of Tryd.func65 (by kernel_rfl) rfl) (encs := fun x => #[.int .i64 (x.1 : Int)]) (S := S) (by omega) (each_O 4 (wr.heap.size + 1) S w0.heap.size (kS l true 4) (by omega) (HK64.out 4) V (by omega) (by omega) HT0.out.1.1 hS0 c2 HTV.out.1) (Below.refl _ _) (fun _ => rfl)
            (fun pre W' => (∃ zs' : List (PE F R l k false), zs'.map (·.1) = pinsTo F R l k false 1 ++ pinsQ F R l k false 4 (vals pre) ∧ J zs' W') ∧ ButS S V W')
            (fun c pre W' => (∃ zs' : List (PE F R l k false), (c = .ret ∧ zs'.map (·.1) = pinsTo F R l k false 1 ++ pinsQ F R l k false 4 (vals pre)) ∧ Jx zs' W') ∧ MarksAt V0.heap.size Ds W')
            (OwnFrom.and (own_ex HJ.out (by omega) _) (ownFrom_but (Nat.le_refl _)))
            (fun c => OwnFrom.and (own_ex HJX.out (by omega) _) (marksAt_own (fun D hD => by have := HM.out.lt hD; omega)))
            ⟨⟨zs, by rw [HZS.out]; exact (List.append_nil _).symm, HJV.out⟩, ButS.refl _ _⟩
          case hassign =>
            intro lp x W1 K hK
            gi_wp2
            exact hK
          case hbody =>
            rintro lp pre x W1 ⟨⟨zs', hz, hj⟩, hBW⟩ hlen2
            have f3 := hBW.cell f2 (by simp; omega)
            have k3 := hBW.cell k2 (by simp; omega)
            have n3 := hBW.cell n2 (by simp; omega)
            have y3 := hBW.cell y2 (by simp; omega)
            have c3 := hBW.cell c1 (by simp; omega)
            have hszW := hBW.size
            have HPI := Lib.hid (HPIN.out 4 x.1 (by omega) (by omega) (HVAT.out 4 x.1 (by omega) x.2) W1 (HT0.out.below (hB0.trans ((hBU.trans hBW).below hS0 hB0.size))).2 (HFV.out.but hBW (Ne.symm hSB)))
            have HLN : Hid (zs'.length < 192) := Lib.hid (by
              have h1 := congrArg List.length hz
              rw [List.length_map, List.length_append] at h1
              have h2 := pinsTo_len (F := F) (R := R) (l := l) (k := k) (bl := false) 1
              have h3 := pinsQ_len (F := F) (R := R) (l := l) (k := k) (bl := false) (q := 4) (vals pre)
              have h4 := listOf_len (kS l true 4)
              have h5 : (vals pre).length = pre.length := List.length_map _
              omega)
            have HPM : Hid ((pinA F R l k false 4 x.1).1 ≠ 0 → pinA F R l k false 4 x.1 ∈ pinsTo F R l k false 3) := Lib.hid (fun h => pins_mem (m := 1) (by omega) x.2 h)
            have HQ0 := Lib.hid (fun h => pinsQ_no (F := F) (R := R) (l := l) (k := k) (bl := false) (q := 4) (zs := vals pre) (i := x.1) h)
            have HQ1 := Lib.hid (fun h => pinsQ_yes (F := F) (R := R) (l := l) (k := k) (bl := false) (q := 4) (zs := vals pre) (i := x.1) h)
            rw [← vals_snoc] at HQ0 HQ1
            have HZ := Lib.hid hz
            have HJW := Lib.hid hj
            clear hz hj hlen2 f2 k2 n2 y2 c1 c2
            gi_wp2_with fail
            refine ⟨trivial, CallsIn.inRound lp (callsIn_wide.2 ((HPI.out).mono ?_))⟩
            rintro e w4 ⟨rfl, hb4⟩
            generalize pinA F R l k false 4 x.1 = p at *
            have y4 := cBo hb4 y3
            have HJ4 := Lib.hid (OwnFrom.below HJ.out HJW.out hb4)
            clear f3 k3 n3 y3 c3
            by_cases h0 : p.1 = 0
            · have HQ := HQ0.out h0
              rw [h0]
              gi_wp2_with fail
              refine ⟨fun _ h => (by cases h), ?_⟩
              gi_wp2_with fail
              refine ⟨ButS.of hb4, ⟨zs', by rw [HZ.out, HQ], HJ4.out⟩, hBW.trans (ButS.of hb4)⟩
            · have HQ := HQ1.out h0
              have hne : ¬ (p.1 : Int) = 0 := by omega
              have hn2 : ((p.1 : Int) != 0) = true := by simpa using h0
              obtain ⟨fn, tmps, assign, body, hy, hR⟩ := HY.out zs' ⟨p, HPM.out h0⟩ w4 HJ4.out HLN.out
              have HR := Lib.hid hR
              clear hR
              gi_wp2_with fail
              refine (roundIn_any HR.out).mono ?_
              rintro e W3 (⟨rfl, hJ3, hk3⟩ | ⟨rfl, hJ3, hk3, hs3⟩)
              · gi_wp2
                refine ⟨(ButS.of hb4).trans hk3, ⟨_, by rw [List.map_append, HZ.out, HQ, List.append_assoc]; rfl, hJ3⟩, hBW.trans ((ButS.of hb4).trans hk3)⟩
              · gi_wp2
                refine ⟨⟨by have := hb4.size; omega, fun i o hi ho hn => hk3.same i o (by omega) ((hb4.block i (Array.getElem?_eq_some_iff.1 ho).1).trans ho) hn⟩, ⟨_, ⟨rfl, by rw [List.map_append, HZ.out, HQ, List.append_assoc]; rfl⟩, hJ3⟩, ?_⟩
                refine ⟨HM.out.1, fun D hD => ⟨(HM.out.2 D hD).1, ?_⟩⟩
                have hDlt := HM.out.lt hD
                have hDm := HM.out.2 D hD
                exact hk3.same D _ (by omega) ((((ButS.of hB2).trans (hBW.trans (ButS.of hb4))).2.2.2.2 D hDlt (by omega)).trans hDm.2) rfl
          case hdone =>
            rintro D xs W1 hD hys ⟨⟨zs', hz, hj⟩, hBW⟩ hK
            rw [hys] at hz
            have hM2 := HM.out.cons ((ButS.of hB2).trans hBW) (by omega) (D := D) (by omega) (by omega) hK
            have HZ := Lib.hid hz
            clear hz hys hK c1 c2 f2 k2 n2 y2
            gi_wp2_with fail
            refine ⟨?_, ?_⟩
            · refine ⟨2, 2, zs', D :: Ds, ?_⟩
              repeat apply Exists.intro
              exact ⟨by omega, rfl, HZ.out, hj, hBU.trans hBW, hM2, rfl⟩
            · simp [intOf]
          case hstop =>
            rintro D c pre W1 hD hpre ⟨⟨zs', ⟨rfl, hz⟩, hj⟩, hMk⟩ hK
            have HP : Hid (zs'.map (·.1) <+: pinsTo F R l k false 3) := Lib.hid (by rw [hz]; exact pins_part (m := 1) (by omega) hpre)
            have hM2 : MarksAt V0.heap.size (D :: Ds) W1 := hMk.put (by omega) (fun E hE => by have := HM.out.lt hE; omega) hK
            clear hz hpre hK c1 c2 f2 k2 n2 y2
            gi_wp2_with fail
            refine leaves_own (OwnFrom.upto HJX.out (by omega)) zs' (D :: Ds) _ hM2 hj (fun w' hj' => ?_)
            exact ⟨_, results_none rfl _ _ _, ⟨_, rfl⟩, .inr ⟨zs', HP.out, hj'⟩⟩
      · obtain rfl : q = 2 := hq
        have hx := fun w' => ix3_2 3 4 5 w'
        have hkc := hFr.2.2 true 5 (by omega)
        simp only [offN, if_true, Nat.reduceAdd] at hkc
        have HFR := Lib.hid hFr
        have g1 := alive (.cells #[.int .i8 5] 47) f1
        have g2 := alive (.cells #[.int .i8 5] 47) n1
        have g3 := alive (.cells #[.int .i8 5] 47) hkc
        have g4 : (wr.alloc (.cells #[.int .i8 5] 47)).cell? ⟨wr.heap.size, 0, none⟩ = some (.int .i8 5) := by simp [go_sem]
        clear hkc hFr
        have hmx : Tryd.prog.follows .mixedOrders = true := by kernel_rfl
        gi_upto_region 4 with fail
        gi_cut [23] from 44 (fun s23 wx => s23 = .func (.func 65) #[] #[.pointer (some ⟨wr.heap.size + 1, 0, none⟩)] ∧ wx.cell? ⟨wr.heap.size, 0, none⟩ = some (.int .i8 5) ∧ wx.cell? ⟨wr.heap.size + 1, 0, none⟩ = some (.int .u64 ((kS l true 5) : Nat)) ∧ Below wr.heap.size wr wx ∧ wx.heap.size = wr.heap.size + 2)
        case first =>
          refine wpIn_just ?_
          gi_region_with_o (first
            | (gi_at_call 42; refine (callsIn_wide.2 (hSd.out _)).mono ?_; rintro e w4 ⟨rfl, rfl⟩)
            | (refine ⟨trivial, ?_⟩; gi_at_call 42; refine (callsIn_wide.2 (hSd.out _)).mono ?_; rintro e w4 ⟨rfl, rfl⟩)
            | (gi_at_call 43; refine (callsIn_wide.2 (each_any (kS l true 5) _)).mono ?_; rintro e w5 ⟨rfl, rfl⟩)
            | (refine ⟨trivial, ?_⟩; gi_at_call 43; refine (callsIn_wide.2 (each_any (kS l true 5) _)).mono ?_; rintro e w5 ⟨rfl, rfl⟩))
          all_goals
            gi_wp2_with fail
            gi_meet
            refine ⟨rfl, ?_, ?_, ?_, ?_⟩
            · exact alive _ g4
            · simp [go_sem]
            · exact ((Below.refl _ _).alloc (by simp) _).drew.alloc (by simp) _
            · simp
        case rest =>
          obtain ⟨rfl, c1, c2, hB2, hs2⟩ := hcut
          generalize wc = V at *
          clear g1 g2 g3 g4 hx
          have f2 := cBo hB2 f1
          have k2 := cBo hB2 k1
          have n2 := cBo hB2 n1
          have y2 := cBo hB2 y1
          have HFV := Lib.hid (HFR.out.below hB2)
          have HTV := Lib.hid (HTR.out.below hB2)
          have hBU : ButS S V0 V := hB.trans (ButS.of hB2)
          have HJV := Lib.hid (OwnFrom.below HJ.out HJZ.out hB2)
          have hsU := hB2.size
          have hs00 := HWB.out.size
          have HM := Lib.hid hM
          clear f1 k1 n1 y1 HFR HTR HJZ hM
          gi_wp2_with fail
          apply range_O (α := Sq (kS l true 5)) (n := 5) (by omega) (gf := 65) (lb := #[.pointer (some ⟨wr.heap.size + 1, 0, none⟩)]) rfl (enters_of Tryd.func65 (by kernel_rfl) rfl) (encs := fun x => #[.int .i64 (x.1 : Int)]) (S := S) (by omega) (each_O 4 (wr.heap.size + 1) S w0.heap.size (kS l true 5) (by omega) (HK64.out 5) V (by omega) (by omega) HT0.out.1.1 hS0 c2 HTV.out.1) (Below.refl _ _) (fun _ => rfl)
            (fun pre W' => (∃ zs' : List (PE F R l k false), zs'.map (·.1) = pinsTo F R l k false 2 ++ pinsQ F R l k false 5 (vals pre) ∧ J zs' W') ∧ ButS S V W')
            (fun c pre W' => (∃ zs' : List (PE F R l k false), (c = .ret ∧ zs'.map (·.1) = pinsTo F R l k false 2 ++ pinsQ F R l k false 5 (vals pre)) ∧ Jx zs' W') ∧ MarksAt V0.heap.size Ds W')
            (OwnFrom.and (own_ex HJ.out (by omega) _) (ownFrom_but (Nat.le_refl _)))
            (fun c => OwnFrom.and (own_ex HJX.out (by omega) _) (marksAt_own (fun D hD => by have := HM.out.lt hD; omega)))
            ⟨⟨zs, by rw [HZS.out]; exact (List.append_nil _).symm, HJV.out⟩, ButS.refl _ _⟩
          case hassign =>
            intro lp x W1 K hK
            gi_wp2
            exact hK
          case hbody =>
            rintro lp pre x W1 ⟨⟨zs', hz, hj⟩, hBW⟩ hlen2
            have f3 := hBW.cell f2 (by simp; omega)
            have k3 := hBW.cell k2 (by simp; omega)
            have n3 := hBW.cell n2 (by simp; omega)
            have y3 := hBW.cell y2 (by simp; omega)
            have c3 := hBW.cell c1 (by simp; omega)
            have hszW := hBW.size
            have HPI := Lib.hid (HPIN.out 5 x.1 (by omega) (by omega) (HVAT.out 5 x.1 (by omega) x.2) W1 (HT0.out.below (hB0.trans ((hBU.trans hBW).below hS0 hB0.size))).2 (HFV.out.but hBW (Ne.symm hSB)))
            have HLN : Hid (zs'.length < 192) := Lib.hid (by
              have h1 := congrArg List.length hz
              rw [List.length_map, List.length_append] at h1
              have h2 := pinsTo_len (F := F) (R := R) (l := l) (k := k) (bl := false) 2
              have h3 := pinsQ_len (F := F) (R := R) (l := l) (k := k) (bl := false) (q := 5) (vals pre)
              have h4 := listOf_len (kS l true 5)
              have h5 : (vals pre).length = pre.length := List.length_map _
              omega)
            have HPM : Hid ((pinA F R l k false 5 x.1).1 ≠ 0 → pinA F R l k false 5 x.1 ∈ pinsTo F R l k false 3) := Lib.hid (fun h => pins_mem (m := 2) (by omega) x.2 h)
            have HQ0 := Lib.hid (fun h => pinsQ_no (F := F) (R := R) (l := l) (k := k) (bl := false) (q := 5) (zs := vals pre) (i := x.1) h)
            have HQ1 := Lib.hid (fun h => pinsQ_yes (F := F) (R := R) (l := l) (k := k) (bl := false) (q := 5) (zs := vals pre) (i := x.1) h)
            rw [← vals_snoc] at HQ0 HQ1
            have HZ := Lib.hid hz
            have HJW := Lib.hid hj
            clear hz hj hlen2 f2 k2 n2 y2 c1 c2
            gi_wp2_with fail
            refine ⟨trivial, CallsIn.inRound lp (callsIn_wide.2 ((HPI.out).mono ?_))⟩
            rintro e w4 ⟨rfl, hb4⟩
            generalize pinA F R l k false 5 x.1 = p at *
            have y4 := cBo hb4 y3
            have HJ4 := Lib.hid (OwnFrom.below HJ.out HJW.out hb4)
            clear f3 k3 n3 y3 c3
            by_cases h0 : p.1 = 0
            · have HQ := HQ0.out h0
              rw [h0]
              gi_wp2_with fail
              refine ⟨fun _ h => (by cases h), ?_⟩
              gi_wp2_with fail
              refine ⟨ButS.of hb4, ⟨zs', by rw [HZ.out, HQ], HJ4.out⟩, hBW.trans (ButS.of hb4)⟩
            · have HQ := HQ1.out h0
              have hne : ¬ (p.1 : Int) = 0 := by omega
              have hn2 : ((p.1 : Int) != 0) = true := by simpa using h0
              obtain ⟨fn, tmps, assign, body, hy, hR⟩ := HY.out zs' ⟨p, HPM.out h0⟩ w4 HJ4.out HLN.out
              have HR := Lib.hid hR
              clear hR
              gi_wp2_with fail
              refine (roundIn_any HR.out).mono ?_
              rintro e W3 (⟨rfl, hJ3, hk3⟩ | ⟨rfl, hJ3, hk3, hs3⟩)
              · gi_wp2
                refine ⟨(ButS.of hb4).trans hk3, ⟨_, by rw [List.map_append, HZ.out, HQ, List.append_assoc]; rfl, hJ3⟩, hBW.trans ((ButS.of hb4).trans hk3)⟩
              · gi_wp2
                refine ⟨⟨by have := hb4.size; omega, fun i o hi ho hn => hk3.same i o (by omega) ((hb4.block i (Array.getElem?_eq_some_iff.1 ho).1).trans ho) hn⟩, ⟨_, ⟨rfl, by rw [List.map_append, HZ.out, HQ, List.append_assoc]; rfl⟩, hJ3⟩, ?_⟩
                refine ⟨HM.out.1, fun D hD => ⟨(HM.out.2 D hD).1, ?_⟩⟩
                have hDlt := HM.out.lt hD
                have hDm := HM.out.2 D hD
                exact hk3.same D _ (by omega) ((((ButS.of hB2).trans (hBW.trans (ButS.of hb4))).2.2.2.2 D hDlt (by omega)).trans hDm.2) rfl
          case hdone =>
            rintro D xs W1 hD hys ⟨⟨zs', hz, hj⟩, hBW⟩ hK
            rw [hys] at hz
            have hM2 := HM.out.cons ((ButS.of hB2).trans hBW) (by omega) (D := D) (by omega) (by omega) hK
            have HZ := Lib.hid hz
            clear hz hys hK c1 c2 f2 k2 n2 y2
            gi_wp2_with fail
            refine ⟨?_, ?_⟩
            · refine ⟨3, 3, zs', D :: Ds, ?_⟩
              repeat apply Exists.intro
              exact ⟨by omega, rfl, HZ.out, hj, hBU.trans hBW, hM2, rfl⟩
            · simp [intOf]
          case hstop =>
            rintro D c pre W1 hD hpre ⟨⟨zs', ⟨rfl, hz⟩, hj⟩, hMk⟩ hK
            have HP : Hid (zs'.map (·.1) <+: pinsTo F R l k false 3) := Lib.hid (by rw [hz]; exact pins_part (m := 2) (by omega) hpre)
            have hM2 : MarksAt V0.heap.size (D :: Ds) W1 := hMk.put (by omega) (fun E hE => by have := HM.out.lt hE; omega) hK
            clear hz hpre hK c1 c2 f2 k2 n2 y2
            gi_wp2_with fail
            refine leaves_own (OwnFrom.upto HJX.out (by omega)) zs' (D :: Ds) _ hM2 hj (fun w' hj' => ?_)
            exact ⟨_, results_none rfl _ _ _, ⟨_, rfl⟩, .inr ⟨zs', HP.out, hj'⟩⟩
    · obtain rfl : m = 3 := by omega
      obtain rfl : q = 3 := hq
      gi_wp2_with fail
      refine leaves_own (OwnFrom.upto HJ.out (by omega)) zs Ds _ hM HJZ.out (fun w' hj' => ?_)
      exact ⟨_, results_none rfl _ _ _, ⟨_, rfl⟩, .inl ⟨zs, HZS.out, hj'⟩⟩

set_option maxRecDepth 100000 in
set_option maxHeartbeats 8000000 in
theorem pins_in_true (F R k : Int) (l : List Int) (l' b B S : Nat) (hb : vbd F R l) (_ho : orA l = true) (hk : vat F R k) (w0 : World) (hT0 : T5 w0) (hS0 : w0.heap.size ≤ S) (J Jx : List (PE F R l k true) → World → Prop) (W : World) (hW0 : Below w0.heap.size w0 W) (hSW : S < W.heap.size)
    (hSB : S ≠ B) (hSb : S < b ∨ b + 3 ≤ S) (cf : W.cell? ⟨b, 0, none⟩ = some (.pointer (some ⟨B, 0, none⟩))) (ck : W.cell? ⟨b + 1, 0, none⟩ = some (.int .i64 k)) (cb : W.cell? ⟨b + 1 + 1, 0, none⟩ = some (.bool true)) (hF : Fld W B F R (sS l) (kS l))
    (hJ : OwnFrom W.heap.size J) (hJx : OwnFrom W.heap.size Jx)
    (hY : ∀ pre x W1, J pre W1 → pre.length < 192 → YieldAt Fence.wide (5 - 1) Tryd.prog l' #[.int .u64 (x.1.1 : Nat), .int .u64 (x.1.2 : Nat)] W1 fun e W' =>
      (e = .returned (.bool true) ∧ J (pre ++ [x]) W' ∧ ButS S W1 W') ∨ (e = .returned (.bool false) ∧ Jx (pre ++ [x]) W' ∧ KeepsFrom W.heap.size W1 W' ∧ W1.heap.size ≤ W'.heap.size)) (h0 : J [] W) :
    CallsIn Fence.wide 5 Tryd.prog 70 #[.func (.yield l') #[] #[], .pointer (some ⟨b, 0, none⟩), .pointer (some ⟨b + 1 + 1, 0, none⟩), .pointer (some ⟨b + 1, 0, none⟩)] W fun e W' => (∃ v, e = .returned v) ∧
      ((∃ xs, xs.map (·.1) = pinsTo F R l k true 3 ∧ J xs W') ∨ (∃ pre, pre.map (·.1) <+: pinsTo F R l k true 3 ∧ Jx pre W')) := by
  have hlen := vbd_64 hb
  have hSd : Hid (∀ w, Calls Tryd.prog 42 #[.pointer (some ⟨B, 0, none⟩), .bool false] w fun e w' => e = .returned (.pointer (some ⟨B, 2, none⟩)) ∧ w = w') := Lib.hid (aSide_any B false)
  have HPIN := Lib.hid (fun (q i : Nat) hq hq6 (hi : vat F R (i : Int)) w hT hF => aPin_any F R k l true q i B hq hq6 hb hk hi w hT hF)
  have HVAT : Hid (∀ q (i : Nat), 1 ≤ q → i ∈ listOf (kS l false q) → vat F R (i : Int)) := Lib.hid (fun q i hq hi => by
    have h1 := mem_listOf.1 hi
    have h2 := (kS_bit hq).1 h1.2
    have := hb.2.1
    exact ⟨hb.1, by omega, by omega⟩)
  have HK64 : Hid (∀ q, kS l false q < 18446744073709551616) := Lib.hid (fun q => idx_64 _ l hlen)
  have HY := Lib.hid hY
  have HJ := Lib.hid hJ
  have HJX := Lib.hid hJx
  have H0 := Lib.hid h0
  have HT0 := Lib.hid hT0
  have HWB := Lib.hid hW0
  have HFL := Lib.hid hF
  clear hY hJ hJx h0 hT0 hb hk hlen hW0
  refine callsIn_of_wp_marks Tryd.func70 rfl trivial ?_ rfl
  simp only [Tryd.ntmps70, List.size_toArray, List.length_cons, List.length_nil, Nat.reduceAdd, Nat.reduceSub, Array.replicate_succ, Array.replicate_zero, List.push_toArray, List.append_toArray, List.nil_append, List.cons_append]
  gi_wp2_with fail
  obtain ⟨V0, hV0⟩ : ∃ V0, W.alloc (.cells #[.func (.yield l') #[] #[]] 100) = V0 := ⟨_, rfl⟩
  have b0 : Below W.heap.size W V0 := by rw [← hV0]; exact box1 _ _
  have hs0 : W.heap.size + 1 ≤ V0.heap.size := by rw [← hV0]; simp
  have y0 : V0.cell? ⟨W.heap.size, 0, none⟩ = some (.func (.yield l') #[] #[]) := by rw [← hV0]; simp [go_sem]
  have f0 := cBo b0 cf
  have k0 := cBo b0 ck
  have n0 := cBo b0 cb
  have HF0 := Lib.hid (HFL.out.below b0)
  have hJ0 := OwnFrom.below HJ.out H0.out b0
  have hB0 : Below w0.heap.size w0 V0 := HWB.out.trans (b0.mono (HWB.out.size))
  rw [hV0]
  clear hV0 cf ck cb hF
  refine wpIn_loop (fun a' w' => ∃ (m : Nat) (q : Int) (zs : List (PE F R l k true)) (Ds : List Nat) (u6 u12 u13 u14 u15 u16 u17 u18 u19 u20 u21 u22 u23 u43 : Value), m ≤ 3 ∧ q = m ∧ zs.map (·.1) = pinsTo F R l k true m ∧ J zs w' ∧ ButS S V0 w' ∧ MarksAt V0.heap.size Ds w' ∧
      a' = { tmps := #[(.func (.yield l') #[] #[] : Value), (.pointer (some ⟨b, 0, none⟩) : Value), (.pointer (some ⟨b + 1 + 1, 0, none⟩) : Value), (.pointer (some ⟨b + 1, 0, none⟩) : Value), (.pointer (some ⟨W.heap.size, 0, none⟩) : Value), undef, u6, undef, undef, undef, (.agg #[.int .i8 3, .int .i8 4, .int .i8 5] : Value), (.int .i64 q : Value), u12, u13, u14, u15, u16, u17, u18, u19, u20, u21, u22, u23, undef, undef, undef, undef, undef, undef, undef, undef, undef, undef, undef, undef, undef, undef, undef, undef, undef, undef, undef, u43], defers := marks Ds })
    (fun a' _ => 3 - (intOf (a'.tmps.getD 11 undef)).toNat) ?start ?round
  case start => exact ⟨0, 0, [], [], _, _, _, _, _, _, _, _, _, _, _, _, _, _, Nat.zero_le _, rfl, rfl, hJ0, ButS.refl _ _, MarksAt.nil _ _, rfl⟩
  case round =>
    rintro _ wr ⟨m, q, zs, Ds, u6, u12, u13, u14, u15, u16, u17, u18, u19, u20, u21, u22, u23, u43, hm3, hq, hzs, hJz, hB, hM, rfl⟩
    have HZS := Lib.hid hzs
    have HJZ := Lib.hid hJz
    have f1 := hB.cell f0 (by simp; omega)
    have k1 := hB.cell k0 (by simp; omega)
    have n1 := hB.cell n0 (by simp; omega)
    have y1 := hB.cell y0 (by simp; omega)
    have hFr := HF0.out.but hB (Ne.symm hSB)
    have hsz := hB.size
    have hBw : Below w0.heap.size w0 wr := hB0.trans (hB.below hS0 hB0.size)
    have HTR := Lib.hid (HT0.out.below hBw)
    clear hzs hJz hJ0 f0 k0 n0 y0
    by_cases hlt : m < 3
    · have h3 : m = 0 ∨ m = 1 ∨ m = 2 := by omega
      rcases h3 with rfl | rfl | rfl
      · obtain rfl : q = 0 := hq
        have hx := fun w' => ix3_0 3 4 5 w'
        have hkc := hFr.2.2 false 3 (by omega)
        simp only [offN, if_false, Bool.false_eq_true, Nat.reduceAdd] at hkc
        have HFR := Lib.hid hFr
        have g1 := alive (.cells #[.int .i8 3] 47) f1
        have g2 := alive (.cells #[.int .i8 3] 47) n1
        have g3 := alive (.cells #[.int .i8 3] 47) hkc
        have g4 : (wr.alloc (.cells #[.int .i8 3] 47)).cell? ⟨wr.heap.size, 0, none⟩ = some (.int .i8 3) := by simp [go_sem]
        clear hkc hFr
        have hmx : Tryd.prog.follows .mixedOrders = true := by kernel_rfl
        gi_upto_region 4 with fail
        gi_cut [23] from 44 (fun s23 wx => s23 = .func (.func 65) #[] #[.pointer (some ⟨wr.heap.size + 1, 0, none⟩)] ∧ wx.cell? ⟨wr.heap.size, 0, none⟩ = some (.int .i8 3) ∧ wx.cell? ⟨wr.heap.size + 1, 0, none⟩ = some (.int .u64 ((kS l false 3) : Nat)) ∧ Below wr.heap.size wr wx ∧ wx.heap.size = wr.heap.size + 2)
        case first =>
          refine wpIn_just ?_
          gi_region_with_o (first
            | (gi_at_call 42; refine (callsIn_wide.2 (hSd.out _)).mono ?_; rintro e w4 ⟨rfl, rfl⟩)
            | (refine ⟨trivial, ?_⟩; gi_at_call 42; refine (callsIn_wide.2 (hSd.out _)).mono ?_; rintro e w4 ⟨rfl, rfl⟩)
            | (gi_at_call 43; refine (callsIn_wide.2 (each_any (kS l false 3) _)).mono ?_; rintro e w5 ⟨rfl, rfl⟩)
            | (refine ⟨trivial, ?_⟩; gi_at_call 43; refine (callsIn_wide.2 (each_any (kS l false 3) _)).mono ?_; rintro e w5 ⟨rfl, rfl⟩))
          all_goals
            gi_wp2_with fail
            gi_meet
            refine ⟨rfl, ?_, ?_, ?_, ?_⟩
            · exact alive _ g4
            · simp [go_sem]
            · exact ((Below.refl _ _).alloc (by simp) _).drew.alloc (by simp) _
            · simp
        case rest =>
          obtain ⟨rfl, c1, c2, hB2, hs2⟩ := hcut
          generalize wc = V at *
          clear g1 g2 g3 g4 hx
          have f2 := cBo hB2 f1
          have k2 := cBo hB2 k1
          have n2 := cBo hB2 n1
          have y2 := cBo hB2 y1
          have HFV := Lib.hid (HFR.out.below hB2)
          have HTV := Lib.hid (HTR.out.below hB2)
          have hBU : ButS S V0 V := hB.trans (ButS.of hB2)
          have HJV := Lib.hid (OwnFrom.below HJ.out HJZ.out hB2)
          have hsU := hB2.size
          have hs00 := HWB.out.size
          have HM := Lib.hid hM
          clear f1 k1 n1 y1 HFR HTR HJZ hM
          gi_wp2_with fail
          apply range_O (α := Sq (kS l false 3)) (n := 5) (by omega) (gf := 65) (lb := #[.pointer (some ⟨wr.heap.size + 1, 0, none⟩)]) rfl (enters_of Tryd.func65 (by kernel_rfl) rfl) (encs := fun x => #[.int .i64 (x.1 : Int)]) (S := S) (by omega) (each_O 4 (wr.heap.size + 1) S w0.heap.size (kS l false 3) (by omega) (HK64.out 3) V (by omega) (by omega) HT0.out.1.1 hS0 c2 HTV.out.1) (Below.refl _ _) (fun _ => rfl)
            (fun pre W' => (∃ zs' : List (PE F R l k true), zs'.map (·.1) = pinsTo F R l k true 0 ++ pinsQ F R l k true 3 (vals pre) ∧ J zs' W') ∧ ButS S V W')
            (fun c pre W' => (∃ zs' : List (PE F R l k true), (c = .ret ∧ zs'.map (·.1) = pinsTo F R l k true 0 ++ pinsQ F R l k true 3 (vals pre)) ∧ Jx zs' W') ∧ MarksAt V0.heap.size Ds W')
            (OwnFrom.and (own_ex HJ.out (by omega) _) (ownFrom_but (Nat.le_refl _)))
            (fun c => OwnFrom.and (own_ex HJX.out (by omega) _) (marksAt_own (fun D hD => by have := HM.out.lt hD; omega)))
            ⟨⟨zs, by rw [HZS.out]; exact (List.append_nil _).symm, HJV.out⟩, ButS.refl _ _⟩
          case hassign =>
            intro lp x W1 K hK
            gi_wp2
            exact hK
          case hbody =>
            rintro lp pre x W1 ⟨⟨zs', hz, hj⟩, hBW⟩ hlen2
            have f3 := hBW.cell f2 (by simp; omega)
            have k3 := hBW.cell k2 (by simp; omega)
            have n3 := hBW.cell n2 (by simp; omega)
            have y3 := hBW.cell y2 (by simp; omega)
            have c3 := hBW.cell c1 (by simp; omega)
            have hszW := hBW.size
            have HPI := Lib.hid (HPIN.out 3 x.1 (by omega) (by omega) (HVAT.out 3 x.1 (by omega) x.2) W1 (HT0.out.below (hB0.trans ((hBU.trans hBW).below hS0 hB0.size))).2 (HFV.out.but hBW (Ne.symm hSB)))
            have HLN : Hid (zs'.length < 192) := Lib.hid (by
              have h1 := congrArg List.length hz
              rw [List.length_map, List.length_append] at h1
              have h2 := pinsTo_len (F := F) (R := R) (l := l) (k := k) (bl := true) 0
              have h3 := pinsQ_len (F := F) (R := R) (l := l) (k := k) (bl := true) (q := 3) (vals pre)
              have h4 := listOf_len (kS l false 3)
              have h5 : (vals pre).length = pre.length := List.length_map _
              omega)
            have HPM : Hid ((pinA F R l k true 3 x.1).1 ≠ 0 → pinA F R l k true 3 x.1 ∈ pinsTo F R l k true 3) := Lib.hid (fun h => pins_mem (m := 0) (by omega) x.2 h)
            have HQ0 := Lib.hid (fun h => pinsQ_no (F := F) (R := R) (l := l) (k := k) (bl := true) (q := 3) (zs := vals pre) (i := x.1) h)
            have HQ1 := Lib.hid (fun h => pinsQ_yes (F := F) (R := R) (l := l) (k := k) (bl := true) (q := 3) (zs := vals pre) (i := x.1) h)
            rw [← vals_snoc] at HQ0 HQ1
            have HZ := Lib.hid hz
            have HJW := Lib.hid hj
            clear hz hj hlen2 f2 k2 n2 y2 c1 c2
            gi_wp2_with fail
            refine ⟨trivial, CallsIn.inRound lp (callsIn_wide.2 ((HPI.out).mono ?_))⟩
            rintro e w4 ⟨rfl, hb4⟩
            generalize pinA F R l k true 3 x.1 = p at *
            have y4 := cBo hb4 y3
            have HJ4 := Lib.hid (OwnFrom.below HJ.out HJW.out hb4)
            clear f3 k3 n3 y3 c3
            by_cases h0 : p.1 = 0
            · have HQ := HQ0.out h0
              rw [h0]
              gi_wp2_with fail
              refine ⟨fun _ h => (by cases h), ?_⟩
              gi_wp2_with fail
              refine ⟨ButS.of hb4, ⟨zs', by rw [HZ.out, HQ], HJ4.out⟩, hBW.trans (ButS.of hb4)⟩
            · have HQ := HQ1.out h0
              have hne : ¬ (p.1 : Int) = 0 := by omega
              have hn2 : ((p.1 : Int) != 0) = true := by simpa using h0
              obtain ⟨fn, tmps, assign, body, hy, hR⟩ := HY.out zs' ⟨p, HPM.out h0⟩ w4 HJ4.out HLN.out
              have HR := Lib.hid hR
              clear hR
              gi_wp2_with fail
              refine (roundIn_any HR.out).mono ?_
              rintro e W3 (⟨rfl, hJ3, hk3⟩ | ⟨rfl, hJ3, hk3, hs3⟩)
              · gi_wp2
                refine ⟨(ButS.of hb4).trans hk3, ⟨_, by rw [List.map_append, HZ.out, HQ, List.append_assoc]; rfl, hJ3⟩, hBW.trans ((ButS.of hb4).trans hk3)⟩
              · gi_wp2
                refine ⟨⟨by have := hb4.size; omega, fun i o hi ho hn => hk3.same i o (by omega) ((hb4.block i (Array.getElem?_eq_some_iff.1 ho).1).trans ho) hn⟩, ⟨_, ⟨rfl, by rw [List.map_append, HZ.out, HQ, List.append_assoc]; rfl⟩, hJ3⟩, ?_⟩
                refine ⟨HM.out.1, fun D hD => ⟨(HM.out.2 D hD).1, ?_⟩⟩
                have hDlt := HM.out.lt hD
                have hDm := HM.out.2 D hD
                exact hk3.same D _ (by omega) ((((ButS.of hB2).trans (hBW.trans (ButS.of hb4))).2.2.2.2 D hDlt (by omega)).trans hDm.2) rfl
          case hdone =>
            rintro D xs W1 hD hys ⟨⟨zs', hz, hj⟩, hBW⟩ hK
            rw [hys] at hz
            have hM2 := HM.out.cons ((ButS.of hB2).trans hBW) (by omega) (D := D) (by omega) (by omega) hK
            have HZ := Lib.hid hz
            clear hz hys hK c1 c2 f2 k2 n2 y2
            gi_wp2_with fail
            refine ⟨?_, ?_⟩
            · refine ⟨1, 1, zs', D :: Ds, ?_⟩
              repeat apply Exists.intro
              exact ⟨by omega, rfl, HZ.out, hj, hBU.trans hBW, hM2, rfl⟩
            · simp [intOf]
          case hstop =>
            rintro D c pre W1 hD hpre ⟨⟨zs', ⟨rfl, hz⟩, hj⟩, hMk⟩ hK
            have HP : Hid (zs'.map (·.1) <+: pinsTo F R l k true 3) := Lib.hid (by rw [hz]; exact pins_part (m := 0) (by omega) hpre)
            have hM2 : MarksAt V0.heap.size (D :: Ds) W1 := hMk.put (by omega) (fun E hE => by have := HM.out.lt hE; omega) hK
            clear hz hpre hK c1 c2 f2 k2 n2 y2
            gi_wp2_with fail
            refine leaves_own (OwnFrom.upto HJX.out (by omega)) zs' (D :: Ds) _ hM2 hj (fun w' hj' => ?_)
            exact ⟨_, results_none rfl _ _ _, ⟨_, rfl⟩, .inr ⟨zs', HP.out, hj'⟩⟩
      · obtain rfl : q = 1 := hq
        have hx := fun w' => ix3_1 3 4 5 w'
        have hkc := hFr.2.2 false 4 (by omega)
        simp only [offN, if_false, Bool.false_eq_true, Nat.reduceAdd] at hkc
        have HFR := Lib.hid hFr
        have g1 := alive (.cells #[.int .i8 4] 47) f1
        have g2 := alive (.cells #[.int .i8 4] 47) n1
        have g3 := alive (.cells #[.int .i8 4] 47) hkc
        have g4 : (wr.alloc (.cells #[.int .i8 4] 47)).cell? ⟨wr.heap.size, 0, none⟩ = some (.int .i8 4) := by simp [go_sem]
        clear hkc hFr
        have hmx : Tryd.prog.follows .mixedOrders = true := by kernel_rfl
        gi_upto_region 4 with fail
        gi_cut [23] from 44 (fun s23 wx => s23 = .func (.func 65) #[] #[.pointer (some ⟨wr.heap.size + 1, 0, none⟩)] ∧ wx.cell? ⟨wr.heap.size, 0, none⟩ = some (.int .i8 4) ∧ wx.cell? ⟨wr.heap.size + 1, 0, none⟩ = some (.int .u64 ((kS l false 4) : Nat)) ∧ Below wr.heap.size wr wx ∧ wx.heap.size = wr.heap.size + 2)
        case first =>
          refine wpIn_just ?_
          gi_region_with_o (first
            | (gi_at_call 42; refine (callsIn_wide.2 (hSd.out _)).mono ?_; rintro e w4 ⟨rfl, rfl⟩)
            | (refine ⟨trivial, ?_⟩; gi_at_call 42; refine (callsIn_wide.2 (hSd.out _)).mono ?_; rintro e w4 ⟨rfl, rfl⟩)
            | (gi_at_call 43; refine (callsIn_wide.2 (each_any (kS l false 4) _)).mono ?_; rintro e w5 ⟨rfl, rfl⟩)
            | (refine ⟨trivial, ?_⟩; gi_at_call 43; refine (callsIn_wide.2 (each_any (kS l false 4) _)).mono ?_; rintro e w5 ⟨rfl, rfl⟩))
          all_goals
            gi_wp2_with fail
            gi_meet
            refine ⟨rfl, ?_, ?_, ?_, ?_⟩
            · exact alive _ g4
            · simp [go_sem]
            · exact ((Below.refl _ _).alloc (by simp) _).drew.alloc (by simp) _
            · simp
        case rest =>
          obtain ⟨rfl, c1, c2, hB2, hs2⟩ := hcut
          generalize wc = V at *
          clear g1 g2 g3 g4 hx
          have f2 := cBo hB2 f1
          have k2 := cBo hB2 k1
          have n2 := cBo hB2 n1
          have y2 := cBo hB2 y1
          have HFV := Lib.hid (HFR.out.below hB2)
          have HTV := Lib.hid (HTR.out.below hB2)
          have hBU : ButS S V0 V := hB.trans (ButS.of hB2)
          have HJV := Lib.hid (OwnFrom.below HJ.out HJZ.out hB2)
          have hsU := hB2.size
          have hs00 := HWB.out.size
          have HM := Lib.hid hM
          clear f1 k1 n1 y1 HFR HTR HJZ hM
          gi_wp2_with fail
          apply range_O (α := Sq (kS l false 4)) (n := 5) (by omega) (gf := 65) (lb := #[.pointer (some ⟨wr.heap.size + 1, 0, none⟩)]) rfl (enters_of Tryd.func65 (by kernel_rfl) rfl) (encs := fun x => #[.int .i64 (x.1 : Int)]) (S := S) (by omega) (each_O 4 (wr.heap.size + 1) S w0.heap.size (kS l false 4) (by omega) (HK64.out 4) V (by omega) (by omega) HT0.out.1.1 hS0 c2 HTV.out.1) (Below.refl _ _) (fun _ => rfl)
            (fun pre W' => (∃ zs' : List (PE F R l k true), zs'.map (·.1) = pinsTo F R l k true 1 ++ pinsQ F R l k true 4 (vals pre) ∧ J zs' W') ∧ ButS S V W')
            (fun c pre W' => (∃ zs' : List (PE F R l k true), (c = .ret ∧ zs'.map (·.1) = pinsTo F R l k true 1 ++ pinsQ F R l k true 4 (vals pre)) ∧ Jx zs' W') ∧ MarksAt V0.heap.size Ds W')
            (OwnFrom.and (own_ex HJ.out (by omega) _) (ownFrom_but (Nat.le_refl _)))
            (fun c => OwnFrom.and (own_ex HJX.out (by omega) _) (marksAt_own (fun D hD => by have := HM.out.lt hD; omega)))
            ⟨⟨zs, by rw [HZS.out]; exact (List.append_nil _).symm, HJV.out⟩, ButS.refl _ _⟩
          case hassign =>
            intro lp x W1 K hK
            gi_wp2
            exact hK
          case hbody =>
            rintro lp pre x W1 ⟨⟨zs', hz, hj⟩, hBW⟩ hlen2
            have f3 := hBW.cell f2 (by simp; omega)
            have k3 := hBW.cell k2 (by simp; omega)
            have n3 := hBW.cell n2 (by simp; omega)
            have y3 := hBW.cell y2 (by simp; omega)
            have c3 := hBW.cell c1 (by simp; omega)
            have hszW := hBW.size
            have HPI := Lib.hid (HPIN.out 4 x.1 (by omega) (by omega) (HVAT.out 4 x.1 (by omega) x.2) W1 (HT0.out.below (hB0.trans ((hBU.trans hBW).below hS0 hB0.size))).2 (HFV.out.but hBW (Ne.symm hSB)))
            have HLN : Hid (zs'.length < 192) := Lib.hid (by
              have h1 := congrArg List.length hz
              rw [List.length_map, List.length_append] at h1
              have h2 := pinsTo_len (F := F) (R := R) (l := l) (k := k) (bl := true) 1
              have h3 := pinsQ_len (F := F) (R := R) (l := l) (k := k) (bl := true) (q := 4) (vals pre)
              have h4 := listOf_len (kS l false 4)
              have h5 : (vals pre).length = pre.length := List.length_map _
              omega)
            have HPM : Hid ((pinA F R l k true 4 x.1).1 ≠ 0 → pinA F R l k true 4 x.1 ∈ pinsTo F R l k true 3) := Lib.hid (fun h => pins_mem (m := 1) (by omega) x.2 h)
            have HQ0 := Lib.hid (fun h => pinsQ_no (F := F) (R := R) (l := l) (k := k) (bl := true) (q := 4) (zs := vals pre) (i := x.1) h)
            have HQ1 := Lib.hid (fun h => pinsQ_yes (F := F) (R := R) (l := l) (k := k) (bl := true) (q := 4) (zs := vals pre) (i := x.1) h)
            rw [← vals_snoc] at HQ0 HQ1
            have HZ := Lib.hid hz
            have HJW := Lib.hid hj
            clear hz hj hlen2 f2 k2 n2 y2 c1 c2
            gi_wp2_with fail
            refine ⟨trivial, CallsIn.inRound lp (callsIn_wide.2 ((HPI.out).mono ?_))⟩
            rintro e w4 ⟨rfl, hb4⟩
            generalize pinA F R l k true 4 x.1 = p at *
            have y4 := cBo hb4 y3
            have HJ4 := Lib.hid (OwnFrom.below HJ.out HJW.out hb4)
            clear f3 k3 n3 y3 c3
            by_cases h0 : p.1 = 0
            · have HQ := HQ0.out h0
              rw [h0]
              gi_wp2_with fail
              refine ⟨fun _ h => (by cases h), ?_⟩
              gi_wp2_with fail
              refine ⟨ButS.of hb4, ⟨zs', by rw [HZ.out, HQ], HJ4.out⟩, hBW.trans (ButS.of hb4)⟩
            · have HQ := HQ1.out h0
              have hne : ¬ (p.1 : Int) = 0 := by omega
              have hn2 : ((p.1 : Int) != 0) = true := by simpa using h0
              obtain ⟨fn, tmps, assign, body, hy, hR⟩ := HY.out zs' ⟨p, HPM.out h0⟩ w4 HJ4.out HLN.out
              have HR := Lib.hid hR
              clear hR
              gi_wp2_with fail
              refine (roundIn_any HR.out).mono ?_
              rintro e W3 (⟨rfl, hJ3, hk3⟩ | ⟨rfl, hJ3, hk3, hs3⟩)
              · gi_wp2
                refine ⟨(ButS.of hb4).trans hk3, ⟨_, by rw [List.map_append, HZ.out, HQ, List.append_assoc]; rfl, hJ3⟩, hBW.trans ((ButS.of hb4).trans hk3)⟩
              · gi_wp2
                refine ⟨⟨by have := hb4.size; omega, fun i o hi ho hn => hk3.same i o (by omega) ((hb4.block i (Array.getElem?_eq_some_iff.1 ho).1).trans ho) hn⟩, ⟨_, ⟨rfl, by rw [List.map_append, HZ.out, HQ, List.append_assoc]; rfl⟩, hJ3⟩, ?_⟩
                refine ⟨HM.out.1, fun D hD => ⟨(HM.out.2 D hD).1, ?_⟩⟩
                have hDlt := HM.out.lt hD
                have hDm := HM.out.2 D hD
                exact hk3.same D _ (by omega) ((((ButS.of hB2).trans (hBW.trans (ButS.of hb4))).2.2.2.2 D hDlt (by omega)).trans hDm.2) rfl
          case hdone =>
            rintro D xs W1 hD hys ⟨⟨zs', hz, hj⟩, hBW⟩ hK
            rw [hys] at hz
            have hM2 := HM.out.cons ((ButS.of hB2).trans hBW) (by omega) (D := D) (by omega) (by omega) hK
            have HZ := Lib.hid hz
            clear hz hys hK c1 c2 f2 k2 n2 y2
            gi_wp2_with fail
            refine ⟨?_, ?_⟩
            · refine ⟨2, 2, zs', D :: Ds, ?_⟩
              repeat apply Exists.intro
              exact ⟨by omega, rfl, HZ.out, hj, hBU.trans hBW, hM2, rfl⟩
            · simp [intOf]
          case hstop =>
            rintro D c pre W1 hD hpre ⟨⟨zs', ⟨rfl, hz⟩, hj⟩, hMk⟩ hK
            have HP : Hid (zs'.map (·.1) <+: pinsTo F R l k true 3) := Lib.hid (by rw [hz]; exact pins_part (m := 1) (by omega) hpre)
            have hM2 : MarksAt V0.heap.size (D :: Ds) W1 := hMk.put (by omega) (fun E hE => by have := HM.out.lt hE; omega) hK
            clear hz hpre hK c1 c2 f2 k2 n2 y2
            gi_wp2_with fail
            refine leaves_own (OwnFrom.upto HJX.out (by omega)) zs' (D :: Ds) _ hM2 hj (fun w' hj' => ?_)
            exact ⟨_, results_none rfl _ _ _, ⟨_, rfl⟩, .inr ⟨zs', HP.out, hj'⟩⟩
      · obtain rfl : q = 2 := hq
        have hx := fun w' => ix3_2 3 4 5 w'
        have hkc := hFr.2.2 false 5 (by omega)
        simp only [offN, if_false, Bool.false_eq_true, Nat.reduceAdd] at hkc
        have HFR := Lib.hid hFr
        have g1 := alive (.cells #[.int .i8 5] 47) f1
        have g2 := alive (.cells #[.int .i8 5] 47) n1
        have g3 := alive (.cells #[.int .i8 5] 47) hkc
        have g4 : (wr.alloc (.cells #[.int .i8 5] 47)).cell? ⟨wr.heap.size, 0, none⟩ = some (.int .i8 5) := by simp [go_sem]
        clear hkc hFr
        have hmx : Tryd.prog.follows .mixedOrders = true := by kernel_rfl
        gi_upto_region 4 with fail
        gi_cut [23] from 44 (fun s23 wx => s23 = .func (.func 65) #[] #[.pointer (some ⟨wr.heap.size + 1, 0, none⟩)] ∧ wx.cell? ⟨wr.heap.size, 0, none⟩ = some (.int .i8 5) ∧ wx.cell? ⟨wr.heap.size + 1, 0, none⟩ = some (.int .u64 ((kS l false 5) : Nat)) ∧ Below wr.heap.size wr wx ∧ wx.heap.size = wr.heap.size + 2)
        case first =>
          refine wpIn_just ?_
          gi_region_with_o (first
            | (gi_at_call 42; refine (callsIn_wide.2 (hSd.out _)).mono ?_; rintro e w4 ⟨rfl, rfl⟩)
            | (refine ⟨trivial, ?_⟩; gi_at_call 42; refine (callsIn_wide.2 (hSd.out _)).mono ?_; rintro e w4 ⟨rfl, rfl⟩)
            | (gi_at_call 43; refine (callsIn_wide.2 (each_any (kS l false 5) _)).mono ?_; rintro e w5 ⟨rfl, rfl⟩)
            | (refine ⟨trivial, ?_⟩; gi_at_call 43; refine (callsIn_wide.2 (each_any (kS l false 5) _)).mono ?_; rintro e w5 ⟨rfl, rfl⟩))
          all_goals
            gi_wp2_with fail
            gi_meet
            refine ⟨rfl, ?_, ?_, ?_, ?_⟩
            · exact alive _ g4
            · simp [go_sem]
            · exact ((Below.refl _ _).alloc (by simp) _).drew.alloc (by simp) _
            · simp
        case rest =>
          obtain ⟨rfl, c1, c2, hB2, hs2⟩ := hcut
          generalize wc = V at *
          clear g1 g2 g3 g4 hx
          have f2 := cBo hB2 f1
          have k2 := cBo hB2 k1
          have n2 := cBo hB2 n1
          have y2 := cBo hB2 y1
          have HFV := Lib.hid (HFR.out.below hB2)
          have HTV := Lib.hid (HTR.out.below hB2)
          have hBU : ButS S V0 V := hB.trans (ButS.of hB2)
          have HJV := Lib.hid (OwnFrom.below HJ.out HJZ.out hB2)
          have hsU := hB2.size
          have hs00 := HWB.out.size
          have HM := Lib.hid hM
          clear f1 k1 n1 y1 HFR HTR HJZ hM
          gi_wp2_with fail
          apply range_O (α := Sq (kS l false 5)) (n := 5) (by omega) (gf := 65) (lb := #[.pointer (some ⟨wr.heap.size + 1, 0, none⟩)]) rfl (enters_of Tryd.func65 (by kernel_rfl) rfl) (encs := fun x => #[.int .i64 (x.1 : Int)]) (S := S) (by omega) (each_O 4 (wr.heap.size + 1) S w0.heap.size (kS l false 5) (by omega) (HK64.out 5) V (by omega) (by omega) HT0.out.1.1 hS0 c2 HTV.out.1) (Below.refl _ _) (fun _ => rfl)
            (fun pre W' => (∃ zs' : List (PE F R l k true), zs'.map (·.1) = pinsTo F R l k true 2 ++ pinsQ F R l k true 5 (vals pre) ∧ J zs' W') ∧ ButS S V W')
            (fun c pre W' => (∃ zs' : List (PE F R l k true), (c = .ret ∧ zs'.map (·.1) = pinsTo F R l k true 2 ++ pinsQ F R l k true 5 (vals pre)) ∧ Jx zs' W') ∧ MarksAt V0.heap.size Ds W')
            (OwnFrom.and (own_ex HJ.out (by omega) _) (ownFrom_but (Nat.le_refl _)))
            (fun c => OwnFrom.and (own_ex HJX.out (by omega) _) (marksAt_own (fun D hD => by have := HM.out.lt hD; omega)))
            ⟨⟨zs, by rw [HZS.out]; exact (List.append_nil _).symm, HJV.out⟩, ButS.refl _ _⟩
          case hassign =>
            intro lp x W1 K hK
            gi_wp2
            exact hK
          case hbody =>
            rintro lp pre x W1 ⟨⟨zs', hz, hj⟩, hBW⟩ hlen2
            have f3 := hBW.cell f2 (by simp; omega)
            have k3 := hBW.cell k2 (by simp; omega)
            have n3 := hBW.cell n2 (by simp; omega)
            have y3 := hBW.cell y2 (by simp; omega)
            have c3 := hBW.cell c1 (by simp; omega)
            have hszW := hBW.size
            have HPI := Lib.hid (HPIN.out 5 x.1 (by omega) (by omega) (HVAT.out 5 x.1 (by omega) x.2) W1 (HT0.out.below (hB0.trans ((hBU.trans hBW).below hS0 hB0.size))).2 (HFV.out.but hBW (Ne.symm hSB)))
            have HLN : Hid (zs'.length < 192) := Lib.hid (by
              have h1 := congrArg List.length hz
              rw [List.length_map, List.length_append] at h1
              have h2 := pinsTo_len (F := F) (R := R) (l := l) (k := k) (bl := true) 2
              have h3 := pinsQ_len (F := F) (R := R) (l := l) (k := k) (bl := true) (q := 5) (vals pre)
              have h4 := listOf_len (kS l false 5)
              have h5 : (vals pre).length = pre.length := List.length_map _
              omega)
            have HPM : Hid ((pinA F R l k true 5 x.1).1 ≠ 0 → pinA F R l k true 5 x.1 ∈ pinsTo F R l k true 3) := Lib.hid (fun h => pins_mem (m := 2) (by omega) x.2 h)
            have HQ0 := Lib.hid (fun h => pinsQ_no (F := F) (R := R) (l := l) (k := k) (bl := true) (q := 5) (zs := vals pre) (i := x.1) h)
            have HQ1 := Lib.hid (fun h => pinsQ_yes (F := F) (R := R) (l := l) (k := k) (bl := true) (q := 5) (zs := vals pre) (i := x.1) h)
            rw [← vals_snoc] at HQ0 HQ1
            have HZ := Lib.hid hz
            have HJW := Lib.hid hj
            clear hz hj hlen2 f2 k2 n2 y2 c1 c2
            gi_wp2_with fail
            refine ⟨trivial, CallsIn.inRound lp (callsIn_wide.2 ((HPI.out).mono ?_))⟩
            rintro e w4 ⟨rfl, hb4⟩
            generalize pinA F R l k true 5 x.1 = p at *
            have y4 := cBo hb4 y3
            have HJ4 := Lib.hid (OwnFrom.below HJ.out HJW.out hb4)
            clear f3 k3 n3 y3 c3
            by_cases h0 : p.1 = 0
            · have HQ := HQ0.out h0
              rw [h0]
              gi_wp2_with fail
              refine ⟨fun _ h => (by cases h), ?_⟩
              gi_wp2_with fail
              refine ⟨ButS.of hb4, ⟨zs', by rw [HZ.out, HQ], HJ4.out⟩, hBW.trans (ButS.of hb4)⟩
            · have HQ := HQ1.out h0
              have hne : ¬ (p.1 : Int) = 0 := by omega
              have hn2 : ((p.1 : Int) != 0) = true := by simpa using h0
              obtain ⟨fn, tmps, assign, body, hy, hR⟩ := HY.out zs' ⟨p, HPM.out h0⟩ w4 HJ4.out HLN.out
              have HR := Lib.hid hR
              clear hR
              gi_wp2_with fail
              refine (roundIn_any HR.out).mono ?_
              rintro e W3 (⟨rfl, hJ3, hk3⟩ | ⟨rfl, hJ3, hk3, hs3⟩)
              · gi_wp2
                refine ⟨(ButS.of hb4).trans hk3, ⟨_, by rw [List.map_append, HZ.out, HQ, List.append_assoc]; rfl, hJ3⟩, hBW.trans ((ButS.of hb4).trans hk3)⟩
              · gi_wp2
                refine ⟨⟨by have := hb4.size; omega, fun i o hi ho hn => hk3.same i o (by omega) ((hb4.block i (Array.getElem?_eq_some_iff.1 ho).1).trans ho) hn⟩, ⟨_, ⟨rfl, by rw [List.map_append, HZ.out, HQ, List.append_assoc]; rfl⟩, hJ3⟩, ?_⟩
                refine ⟨HM.out.1, fun D hD => ⟨(HM.out.2 D hD).1, ?_⟩⟩
                have hDlt := HM.out.lt hD
                have hDm := HM.out.2 D hD
                exact hk3.same D _ (by omega) ((((ButS.of hB2).trans (hBW.trans (ButS.of hb4))).2.2.2.2 D hDlt (by omega)).trans hDm.2) rfl
          case hdone =>
            rintro D xs W1 hD hys ⟨⟨zs', hz, hj⟩, hBW⟩ hK
            rw [hys] at hz
            have hM2 := HM.out.cons ((ButS.of hB2).trans hBW) (by omega) (D := D) (by omega) (by omega) hK
            have HZ := Lib.hid hz
            clear hz hys hK c1 c2 f2 k2 n2 y2
            gi_wp2_with fail
            refine ⟨?_, ?_⟩
            · refine ⟨3, 3, zs', D :: Ds, ?_⟩
              repeat apply Exists.intro
              exact ⟨by omega, rfl, HZ.out, hj, hBU.trans hBW, hM2, rfl⟩
            · simp [intOf]
          case hstop =>
            rintro D c pre W1 hD hpre ⟨⟨zs', ⟨rfl, hz⟩, hj⟩, hMk⟩ hK
            have HP : Hid (zs'.map (·.1) <+: pinsTo F R l k true 3) := Lib.hid (by rw [hz]; exact pins_part (m := 2) (by omega) hpre)
            have hM2 : MarksAt V0.heap.size (D :: Ds) W1 := hMk.put (by omega) (fun E hE => by have := HM.out.lt hE; omega) hK
            clear hz hpre hK c1 c2 f2 k2 n2 y2
            gi_wp2_with fail
            refine leaves_own (OwnFrom.upto HJX.out (by omega)) zs' (D :: Ds) _ hM2 hj (fun w' hj' => ?_)
            exact ⟨_, results_none rfl _ _ _, ⟨_, rfl⟩, .inr ⟨zs', HP.out, hj'⟩⟩
    · obtain rfl : m = 3 := by omega
      obtain rfl : q = 3 := hq
      gi_wp2_with fail
      refine leaves_own (OwnFrom.upto HJ.out (by omega)) zs Ds _ hM HJZ.out (fun w' hj' => ?_)
      exact ⟨_, results_none rfl _ _ _, ⟨_, rfl⟩, .inl ⟨zs, HZS.out, hj'⟩⟩

/-- the pins of a side, for a loop that writes into one box. -/
theorem pins_O (F R k : Int) (l : List Int) (bl : Bool) (b B S : Nat) (hb : vbd F R l) (ho : orA l = true) (hk : vat F R k) (w0 w : World) (hT0 : T5 w0) (hS0 : w0.heap.size ≤ S) (hw : Below w0.heap.size w0 w) (hSw : S < w.heap.size)
    (hSB : S ≠ B) (hSb : S < b ∨ b + 3 ≤ S) (cf : w.cell? ⟨b, 0, none⟩ = some (.pointer (some ⟨B, 0, none⟩))) (ck : w.cell? ⟨b + 1, 0, none⟩ = some (.int .i64 k)) (cb : w.cell? ⟨b + 1 + 1, 0, none⟩ = some (.bool bl)) (hF : Fld w B F R (sS l) (kS l)) :
    SeqO 5 Tryd.prog 70 #[.pointer (some ⟨b, 0, none⟩), .pointer (some ⟨b + 1 + 1, 0, none⟩), .pointer (some ⟨b + 1, 0, none⟩)] (fun x : PE F R l k bl => #[.int .u64 (x.1.1 : Nat), .int .u64 (x.1.2 : Nat)]) S
      (fun xs => xs.map (·.1) = pinsTo F R l k bl 3) (fun pre => pre.map (·.1) <+: pinsTo F R l k bl 3) 192 w := fun l' J Jx W hW hJ hJx hY h0 => by
  have h1 := hw.trans (hW.mono hw.size)
  have h2 := Nat.lt_of_lt_of_le hSw hW.size
  cases bl
  · exact pins_in_false F R k l l' b B S hb ho hk w0 hT0 hS0 J Jx W h1 h2 hSB hSb (cBo hW cf) (cBo hW ck) (cBo hW cb) (hF.below hW) hJ hJx hY h0
  · exact pins_in_true F R k l l' b B S hb ho hk w0 hT0 hS0 J Jx W h1 h2 hSB hSb (cBo hW cf) (cBo hW ck) (cBo hW cb) (hF.below hW) hJ hJx hY h0

end Go.Proofs.YtjnbjegopddhgaaDoor
