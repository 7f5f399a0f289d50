/- Positions, by the program: which are valid. -/
import Derived.Test.YtelkmdklpcfobaaGreatDoorPpD
import Derived.Test.YtelkmdklpcfobaaGreatDoorAuK
import Derived.Test.YtelkmdklpcfobaaGreatDoorPpB
import Derived.Laws.EntriesVeiled

namespace Go.Proofs.YtelkmdklpcfobaaGreatDoor
open Go.RowKit Go.Sort

theorem ofL_z (z : List Nat) : ((ofL z : Int) == 0) = decide (z.length = 0) := by
  by_cases h : z = []
  · subst h; rfl
  · have h1 : ¬ ofL z = 0 := fun e => h (ofL_zero.1 e)
    have h2 : ¬ z.length = 0 := fun e => h (List.eq_nil_of_length_eq_zero e)
    rw [decide_eq_false h2]
    exact beq_eq_false_iff_ne.2 (by omega)
theorem poBrd_eq {F R : Int} {l : List Int} {bl : Bool} (hb : vbd F R l) (ho : orA l = true) (h : 0 ≤ kingV l bl) (h2 : 0 ≤ kingV l (!bl)) : poBrd F R l bl = decide ((atkL F R l (kingV l (!bl)) bl).length = 0) := by
  unfold poBrd
  rw [vbdB_iff.2 hb, ho]
  cases bl with
  | false => rw [decide_eq_true h, decide_eq_true (show 0 ≤ kingV l true from h2)]; simp
  | true => rw [decide_eq_true h, decide_eq_true (show 0 ≤ kingV l false from h2)]; simp
theorem poBrd_no1 {F R : Int} {l : List Int} {bl : Bool} (h : ¬ (vbd F R l ∧ orA l = true)) : poBrd F R l bl = false := by
  cases e : poBrd F R l bl with
  | false => rfl
  | true => exact absurd (poBrd_vbd e) h
theorem poBrd_no2 {F R : Int} {l : List Int} {bl b : Bool} (h : kingV l b < 0) : poBrd F R l bl = false := by
  unfold poBrd
  cases b with
  | false => simp [show ¬ 0 ≤ kingV l false by omega]
  | true => simp [show ¬ 0 ≤ kingV l true by omega]

set_option maxRecDepth 100000 in
set_option maxHeartbeats 2000000 in
theorem pVB_any (F R : Int) (l : List Int) (A : Option Addr) (c : Nat) (bl : Bool) (w : World) (hlen : l.length ≤ 100000) (hT : T5 w) (hA : RdP w w.heap.size A l c) :
    Calls Tryz.prog 31 #[.agg #[.int .i64 F, .int .i64 R, .slice A l.length c], .bool bl] w fun e w' => e = .returned (.bool (poBrd F R l bl)) ∧ Below w.heap.size w w' := by
  have hBX := box1 w (.cells #[.int .i64 F, .int .i64 R, .slice A l.length c] 30)
  have HA := Lib.hid (rdBo hBX hA)
  have HT := Lib.hid (hT.below hBX)
  clear hA hT hBX
  by_cases hg : vbd F R l ∧ orA l = true
  · obtain ⟨hb, ho⟩ := hg
    by_cases hk : kingV l bl < 0
    · have e2 := Lib.hid (poBrd_no2 (F := F) (R := R) (bl := bl) hk)
      have HK := Lib.hid (fun w hA hT => gKingN F R l A c bl w hb ho hA hT hk)
      clear hk hb ho
      go_enter Tryz.func31, Tryz.ntmps31
      go_wp2_with fail
      refine (HK.out _ HA.out HT.out).mono ?_
      rintro e w1 ⟨rfl, hb1⟩
      go_wp2
      go_ret
      exact ⟨ret_bool e2.out.symm, after1 hb1⟩
    · have hk0 : 0 ≤ kingV l bl := by omega
      have HK := Lib.hid (fun w hA hT => gKing F R l A c bl w hb ho hA hT hk0)
      by_cases hk2 : kingV l (!bl) < 0
      · have e2 := Lib.hid (poBrd_no2 (F := F) (R := R) (bl := bl) hk2)
        have HC := Lib.hid (fun w hA hT => gChkN F R l A c (!bl) w hb ho hA hT hk2)
        generalize kingV l bl = kv at *
        clear hk hk0 hk2 hb ho
        go_enter Tryz.func31, Tryz.ntmps31
        go_wp2_with fail
        refine (HK.out _ HA.out HT.out).mono ?_
        rintro e w1 ⟨rfl, hb1⟩
        have c0 := hb1.cell (p := ⟨w.heap.size, 0, none⟩) (by simp)
        have c1 := hb1.cell (p := ⟨w.heap.size, 1, none⟩) (by simp)
        have c2 := hb1.cell (p := ⟨w.heap.size, 2, none⟩) (by simp)
        simp [go_sem] at c0 c1 c2
        go_wp2_with fail
        refine (HC.out _ (rdBo hb1 HA.out) (HT.out.below hb1)).mono ?_
        rintro e w2 ⟨rfl, hb2⟩
        go_wp2
        go_ret
        exact ⟨ret_bool e2.out.symm, after1 (chain hb1 hb2)⟩
      · have hk20 : 0 ≤ kingV l (!bl) := by omega
        have e2 := Lib.hid (poBrd_eq hb ho hk0 hk20)
        have HC := Lib.hid (fun w hA hT => gChk F R l A c (!bl) w hb ho hA hT hk20)
        rw [Bool.not_not] at HC
        have hz := Lib.hid (ofL_z (atkL F R l (kingV l (!bl)) bl))
        generalize ofL (atkL F R l (kingV l (!bl)) bl) = z at *
        generalize kingV l bl = kv at *
        clear hk hk0 hk2 hk20 hb ho
        go_enter Tryz.func31, Tryz.ntmps31
        go_wp2_with fail
        refine (HK.out _ HA.out HT.out).mono ?_
        rintro e w1 ⟨rfl, hb1⟩
        have c0 := hb1.cell (p := ⟨w.heap.size, 0, none⟩) (by simp)
        have c1 := hb1.cell (p := ⟨w.heap.size, 1, none⟩) (by simp)
        have c2 := hb1.cell (p := ⟨w.heap.size, 2, none⟩) (by simp)
        simp [go_sem] at c0 c1 c2
        go_wp2_with fail
        refine (HC.out _ (rdBo hb1 HA.out) (HT.out.below hb1)).mono ?_
        rintro e w2 ⟨rfl, hb2⟩
        go_wp2
        go_ret
        exact ⟨ret_bool (hz.out.trans e2.out.symm), after1 (chain hb1 hb2)⟩
  · have e2 := Lib.hid (poBrd_no1 (bl := bl) hg)
    have HK := Lib.hid (fun w hA => gKingE F R l A c bl w hlen hA hg)
    clear hg
    go_enter Tryz.func31, Tryz.ntmps31
    go_wp2_with fail
    refine (HK.out _ HA.out).mono ?_
    rintro e w1 ⟨rfl, hb1⟩
    go_wp2
    go_ret
    exact ⟨ret_bool e2.out.symm, after1 hb1⟩

theorem vix_0 (p : Value) (w : World) : (Instr.index 54 (.agg #[.func (.func 30) #[] #[p], .func (.func 33) #[] #[p], .func (.func 35) #[] #[p], .func (.func 37) #[] #[p], .func (.func 39) #[] #[p], .func (.func 40) #[] #[p]]) (.int .i64 0)).run Tryz.prog w = .ok (.func (.func 30) #[] #[p]) w := by kernel_rfl
theorem vix_1 (p : Value) (w : World) : (Instr.index 54 (.agg #[.func (.func 30) #[] #[p], .func (.func 33) #[] #[p], .func (.func 35) #[] #[p], .func (.func 37) #[] #[p], .func (.func 39) #[] #[p], .func (.func 40) #[] #[p]]) (.int .i64 1)).run Tryz.prog w = .ok (.func (.func 33) #[] #[p]) w := by kernel_rfl
theorem vix_2 (p : Value) (w : World) : (Instr.index 54 (.agg #[.func (.func 30) #[] #[p], .func (.func 33) #[] #[p], .func (.func 35) #[] #[p], .func (.func 37) #[] #[p], .func (.func 39) #[] #[p], .func (.func 40) #[] #[p]]) (.int .i64 2)).run Tryz.prog w = .ok (.func (.func 35) #[] #[p]) w := by kernel_rfl
theorem vix_3 (p : Value) (w : World) : (Instr.index 54 (.agg #[.func (.func 30) #[] #[p], .func (.func 33) #[] #[p], .func (.func 35) #[] #[p], .func (.func 37) #[] #[p], .func (.func 39) #[] #[p], .func (.func 40) #[] #[p]]) (.int .i64 3)).run Tryz.prog w = .ok (.func (.func 37) #[] #[p]) w := by kernel_rfl
theorem vix_4 (p : Value) (w : World) : (Instr.index 54 (.agg #[.func (.func 30) #[] #[p], .func (.func 33) #[] #[p], .func (.func 35) #[] #[p], .func (.func 37) #[] #[p], .func (.func 39) #[] #[p], .func (.func 40) #[] #[p]]) (.int .i64 4)).run Tryz.prog w = .ok (.func (.func 39) #[] #[p]) w := by kernel_rfl
theorem vix_5 (p : Value) (w : World) : (Instr.index 54 (.agg #[.func (.func 30) #[] #[p], .func (.func 33) #[] #[p], .func (.func 35) #[] #[p], .func (.func 37) #[] #[p], .func (.func 39) #[] #[p], .func (.func 40) #[] #[p]]) (.int .i64 5)).run Tryz.prog w = .ok (.func (.func 40) #[] #[p]) w := by kernel_rfl

set_option maxRecDepth 100000 in
set_option maxHeartbeats 2000000 in
theorem cl1 (F R : Int) (l : List Int) (A : Option Addr) (c : Nat) (bl : Bool) (ca : Nat) (ps ha fu : Int) (b : Nat) (hlen : l.length ≤ 100000) (V : World) (hT : T5 V) (hX : Bx8 V b F R (.slice A l.length c) bl ca ps ha fu) (hA : RdP V V.heap.size A l c) :
    Calls Tryz.prog 30 #[.pointer (some ⟨b, 0, none⟩)] V fun e w' => e = .returned (.bool (poBrd F R l bl)) ∧ Below V.heap.size V w' := by
  obtain ⟨⟨x0, x1, x2, x3, x4, x5, x6, x7⟩, xf⟩ := hX
  have q0 := cell_regrown x0
  have q1 := cell_regrown x1
  have q2 := cell_regrown x2
  have q3 := cell_regrown x3
  have q4 := cell_regrown x4
  have q5 := cell_regrown x5
  have q6 := cell_regrown x6
  have q7 := cell_regrown x7
  have cA : ∀ d os, Calls Tryz.prog 32 #[.agg #[.int .i64 F, .int .i64 R, .slice A l.length c, .bool bl, .int .u8 (ca : Int), .int .i64 ps, .int .i64 ha, .int .i64 fu]] (grow (redrawn V d) os) fun e w'' => e = .returned (.agg #[.int .i64 F, .int .i64 R, .slice A l.length c]) ∧ ∃ q : Regrown, w'' = grow (redrawn V q.d) q.os := fun d os => Calls.regrown_of (pPlace_any F R l A c bl ca ps ha fu _)
  have cB : ∀ d os, Calls Tryz.prog 31 #[.agg #[.int .i64 F, .int .i64 R, .slice A l.length c], .bool bl] (grow (redrawn V d) os) fun e w'' => e = .returned (.bool (poBrd F R l bl)) ∧ ∃ q : Regrown, w'' = grow (redrawn V q.d) q.os := fun d os => Calls.regrown_of (pVB_any F R l A c bl _ hlen (hT.below (below_regrown V d os)) (rdBo (below_regrown V d os) hA))
  generalize poBrd F R l bl = t at *
  clear x0 x1 x2 x3 x4 x5 x6 x7 xf
  go_enter Tryz.func30, Tryz.ntmps30
  go_wp2_with fail
  refine wp_region_quiet_below (by kernel_rfl) (by kernel_rfl) ?_
  repeat (go_big_quiet_step (first | (go_at_call 32; exact cA _ _) | (go_at_call 31; exact cB _ _)))
  refine wpQuiet_nil ?_
  intro _ hw'
  obtain ⟨⟨dq, osq⟩, hw''⟩ := hw'
  subst hw''
  go_wp2
  go_ret
  exact ⟨rfl, below_regrown _ dq osq⟩

set_option maxRecDepth 100000 in
set_option maxHeartbeats 2000000 in
theorem cl2 (F R : Int) (l : List Int) (A : Option Addr) (c : Nat) (bl : Bool) (ca : Nat) (ps ha fu : Int) (b : Nat) (hb : vbd F R l) (hcap : l.length ≤ c) (V : World) (hX : Bx8 V b F R (.slice A l.length c) bl ca ps ha fu) (hA : RdP V V.heap.size A l c) :
    Calls Tryz.prog 33 #[.pointer (some ⟨b, 0, none⟩)] V fun e w' => e = .returned (.bool (poPwn F R l)) ∧ Below V.heap.size V w' := by
  have HC := Lib.hid (pNo_any F R l A c bl ca ps ha fu hb V hcap hA)
  obtain ⟨⟨x0, x1, x2, x3, x4, x5, x6, x7⟩, xf⟩ := hX
  generalize poPwn F R l = t at *
  go_enter Tryz.func33, Tryz.ntmps33
  go_wp2_with fail
  refine HC.out.mono ?_
  rintro e w1 ⟨rfl, hb1⟩
  go_wp2
  go_ret
  exact ⟨rfl, hb1⟩

set_option maxRecDepth 100000 in
set_option maxHeartbeats 2000000 in
theorem cl3 (F R : Int) (l : List Int) (A : Option Addr) (c : Nat) (bl : Bool) (ca : Nat) (ps ha fu : Int) (b : Nat) (hb : vbd F R l) (hca : ca < 256) (V : World) (hR : Rts V) (hX : Bx8 V b F R (.slice A l.length c) bl ca ps ha fu) (hA : RdP V V.heap.size A l c) :
    Calls Tryz.prog 35 #[.pointer (some ⟨b, 0, none⟩)] V fun e w' => e = .returned (.bool (poCas F R l ca)) ∧ Below V.heap.size V w' := by
  have HC := Lib.hid (pCas_any F R l A c bl ca ps ha fu hca (fun hF hR => by have := hb.2.1; subst hF hR; omega) V hR hA)
  obtain ⟨⟨x0, x1, x2, x3, x4, x5, x6, x7⟩, xf⟩ := hX
  generalize poCas F R l ca = t at *
  go_enter Tryz.func35, Tryz.ntmps35
  go_wp2_with fail
  refine HC.out.mono ?_
  rintro e w1 ⟨rfl, hb1⟩
  go_wp2
  go_ret
  exact ⟨rfl, hb1⟩

set_option maxRecDepth 100000 in
set_option maxHeartbeats 2000000 in
theorem cl4 (F R : Int) (l : List Int) (A : Option Addr) (c : Nat) (bl : Bool) (ca : Nat) (ps ha fu : Int) (b : Nat) (hb : vbd F R l) (V : World) (hX : Bx8 V b F R (.slice A l.length c) bl ca ps ha fu) (hA : RdP V V.heap.size A l c) :
    Calls Tryz.prog 37 #[.pointer (some ⟨b, 0, none⟩)] V fun e w' => e = .returned (.bool (poPas F R l bl ps ha)) ∧ Below V.heap.size V w' := by
  have HC := Lib.hid (pPas_any F R l A c bl ca ps ha fu hb V hA)
  obtain ⟨⟨x0, x1, x2, x3, x4, x5, x6, x7⟩, xf⟩ := hX
  generalize poPas F R l bl ps ha = t at *
  go_enter Tryz.func37, Tryz.ntmps37
  go_wp2_with fail
  refine HC.out.mono ?_
  rintro e w1 ⟨rfl, hb1⟩
  go_wp2
  go_ret
  exact ⟨rfl, hb1⟩

set_option maxRecDepth 100000 in
set_option maxHeartbeats 2000000 in
theorem cl5 (F R : Int) (l : List Int) (A : Option Addr) (c : Nat) (bl : Bool) (ca : Nat) (ps ha fu : Int) (b : Nat) (V : World) (hX : Bx8 V b F R (.slice A l.length c) bl ca ps ha fu)  :
    Calls Tryz.prog 39 #[.pointer (some ⟨b, 0, none⟩)] V fun e w' => e = .returned (.bool (decide (0 ≤ ha) && decide (ha ≤ 10000))) ∧ Below V.heap.size V w' := by
  obtain ⟨⟨x0, x1, x2, x3, x4, x5, x6, x7⟩, xf⟩ := hX
  by_cases h : 0 ≤ ha
  · rw [decide_eq_true h, Bool.true_and]
    go_enter Tryz.func39, Tryz.ntmps39
    go_wp2
    go_ret
    exact ⟨rfl, Below.refl _ _⟩
  · rw [decide_eq_false h, Bool.false_and]
    have h' : ha < 0 := by omega
    clear h
    go_enter Tryz.func39, Tryz.ntmps39
    go_wp2
    go_ret
    exact ⟨rfl, Below.refl _ _⟩

set_option maxRecDepth 100000 in
set_option maxHeartbeats 2000000 in
theorem cl6 (F R : Int) (l : List Int) (A : Option Addr) (c : Nat) (bl : Bool) (ca : Nat) (ps ha fu : Int) (b : Nat) (V : World) (hX : Bx8 V b F R (.slice A l.length c) bl ca ps ha fu)  :
    Calls Tryz.prog 40 #[.pointer (some ⟨b, 0, none⟩)] V fun e w' => e = .returned (.bool (decide (1 ≤ fu) && decide (fu ≤ 10000))) ∧ Below V.heap.size V w' := by
  obtain ⟨⟨x0, x1, x2, x3, x4, x5, x6, x7⟩, xf⟩ := hX
  by_cases h : 1 ≤ fu
  · rw [decide_eq_true h, Bool.true_and]
    go_enter Tryz.func40, Tryz.ntmps40
    go_wp2
    go_ret
    exact ⟨rfl, Below.refl _ _⟩
  · rw [decide_eq_false h, Bool.false_and]
    have h' : fu < 1 := by omega
    clear h
    go_enter Tryz.func40, Tryz.ntmps40
    go_wp2
    go_ret
    exact ⟨rfl, Below.refl _ _⟩

/-- the six conditions. -/
def cnd (p : Po) (k : Nat) : Bool :=
  if k = 0 then poBrd p.F p.R p.l p.bl else if k = 1 then poPwn p.F p.R p.l else if k = 2 then poCas p.F p.R p.l p.ca else if k = 3 then poPas p.F p.R p.l p.bl p.ps p.ha
  else if k = 4 then decide (0 ≤ p.ha) && decide (p.ha ≤ 10000) else decide (1 ≤ p.fu) && decide (p.fu ≤ 10000)
theorem okPo_cnd (p : Po) : okPo p = (cnd p 0 && cnd p 1 && cnd p 2 && cnd p 3 && (cnd p 4 && cnd p 5)) := by
  unfold okPo poCnt cnd
  simp [Bool.and_assoc]
theorem okPo_cT {p : Po} (h : ∀ j, j < 6 → cnd p j = true) : okPo p = true := by
  rw [okPo_cnd, h 0 (by omega), h 1 (by omega), h 2 (by omega), h 3 (by omega), h 4 (by omega), h 5 (by omega)]
  rfl
theorem okPo_cF {p : Po} {k : Nat} (hk : k < 6) (h : cnd p k = false) : okPo p = false := by
  rw [okPo_cnd]
  match k, hk with
  | 0, _ => rw [h]; rfl
  | 1, _ => rw [h]; simp
  | 2, _ => rw [h]; simp
  | 3, _ => rw [h]; simp
  | 4, _ => rw [h]; simp
  | 5, _ => rw [h]; simp

set_option maxRecDepth 100000 in
set_option maxHeartbeats 2000000 in
theorem pValid_any (F R : Int) (l : List Int) (A : Option Addr) (c : Nat) (bl : Bool) (ca : Nat) (ps ha fu : Int) (hca : ca < 256) (hlen : l.length ≤ 100000) (hcap : l.length ≤ c) (w : World) (hT : T5 w) (hR : Rts w) (hA : RdP w w.heap.size A l c) :
    Calls Tryz.prog 11 #[.agg #[.int .i64 F, .int .i64 R, .slice A l.length c, .bool bl, .int .u8 (ca : Int), .int .i64 ps, .int .i64 ha, .int .i64 fu]] w fun e w' => e = .returned (.bool (okPo ⟨F, R, l, bl, ca, ps, ha, fu⟩)) ∧ Below w.heap.size w w' := by
  have hB1 := box1 w (.cells #[.int .i64 F, .int .i64 R, .slice A l.length c, .bool bl, .int .u8 (ca : Int), .int .i64 ps, .int .i64 ha, .int .i64 fu] 26)
  have hX1 := box8 w F R (.slice A l.length c) bl ca ps ha fu
  have hA1 := rdBo hB1 hA
  have hT1 := hT.below hB1
  have hR1 := hR.below hB1
  clear hA hT hR
  have ix0 := fun w' => vix_0 (.pointer (some ⟨w.heap.size, 0, none⟩)) w'
  have ix1 := fun w' => vix_1 (.pointer (some ⟨w.heap.size, 0, none⟩)) w'
  have ix2 := fun w' => vix_2 (.pointer (some ⟨w.heap.size, 0, none⟩)) w'
  have ix3 := fun w' => vix_3 (.pointer (some ⟨w.heap.size, 0, none⟩)) w'
  have ix4 := fun w' => vix_4 (.pointer (some ⟨w.heap.size, 0, none⟩)) w'
  have ix5 := fun w' => vix_5 (.pointer (some ⟨w.heap.size, 0, none⟩)) w'
  have HCA := Lib.hid hca
  have HLE := Lib.hid hlen
  have HCP := Lib.hid hcap
  clear hca hlen hcap
  go_enter Tryz.func11, Tryz.ntmps11
  go_wp2_with fail
  go_loopw [5, 14] (fun _ i wr => ∃ k : Nat, k ≤ 6 ∧ i = .int .i64 k ∧ (∀ j, j < k → cnd ⟨F, R, l, bl, ca, ps, ha, fu⟩ j = true) ∧ Below (w.heap.size + 1) (w.alloc (.cells #[.int .i64 F, .int .i64 R, .slice A l.length c, .bool bl, .int .u8 (ca : Int), .int .i64 ps, .int .i64 ha, .int .i64 fu] 26)) wr) (fun _ i _ => 6 - (intOf i).toNat)
  case atStart => exact ⟨0, by omega, rfl, fun j hj => absurd hj (by omega), (Below.refl _ _).alloc (by simp) _⟩
  case round =>
    obtain ⟨k, hk, rfl, hgood, hB⟩ := hrel
    have hX7 := hX1.below hB (by omega)
    have hA7 := (hA1.below (hB.mono (by simp))).grow (by have := hB.size; simpa using this)
    have hT7 := hT1.below (hB.mono (by simp))
    have hR7 := hR1.below (hB.mono (by simp))
    have HB7 := Lib.hid (show Below w.heap.size w wr from hB1.trans (hB.mono (by omega)))
    have HBr := Lib.hid hB
    have hvb : 1 ≤ k → vbd F R l ∧ orA l = true := fun h => poBrd_vbd (hgood 0 (by omega))
    have hca := HCA.out
    have hlen := HLE.out
    have hcap := HCP.out
    clear hB hX1 hA1 hT1 hR1 hB1
    rcases (show k = 0 ∨ k = 1 ∨ k = 2 ∨ k = 3 ∨ k = 4 ∨ k = 5 ∨ k = 6 by omega) with rfl | rfl | rfl | rfl | rfl | rfl | rfl
    · have HC := Lib.hid (cl1 F R l A c bl ca ps ha fu w.heap.size hlen wr hT7 hX7 hA7)
      have HD : Hid (cnd ⟨F, R, l, bl, ca, ps, ha, fu⟩ 0 = (poBrd F R l bl)) := Lib.hid rfl
      have hnext : Hid (cnd ⟨F, R, l, bl, ca, ps, ha, fu⟩ 0 = true → ∀ j, j < 1 → cnd ⟨F, R, l, bl, ca, ps, ha, fu⟩ j = true) := Lib.hid fun h j hj => by
        rcases Nat.lt_or_ge j 0 with hj2 | hj2
        · exact hgood j hj2
        · have : j = 0 := by omega
          subst this; exact h
      have hFk := Lib.hid (fun h => okPo_cF (p := ⟨F, R, l, bl, ca, ps, ha, fu⟩) (k := 0) (by decide) h)
      clear hgood hvb hT7 hR7 hX7 hA7
      generalize cnd ⟨F, R, l, bl, ca, ps, ha, fu⟩ 0 = ck at *
      generalize (poBrd F R l bl) = t at *
      go_wp2_with fail
      refine HC.out.mono ?_
      rintro e w2 ⟨rfl, hb2⟩
      cases t with
      | false =>
        go_wp2
        go_ret
        exact ⟨ret_bool (hFk.out HD.out).symm, chain HB7.out hb2⟩
      | true =>
        go_wp2
        go_roundw
        case rel => exact ⟨1, by omega, by go_num, hnext.out HD.out, HBr.out.trans (hb2.mono (by have := HBr.out.size; simpa using this))⟩
        case measure => simp [intOf]
    · have HC := Lib.hid (cl2 F R l A c bl ca ps ha fu w.heap.size (hvb (by decide)).1 hcap wr hX7 hA7)
      have HD : Hid (cnd ⟨F, R, l, bl, ca, ps, ha, fu⟩ 1 = (poPwn F R l)) := Lib.hid rfl
      have hnext : Hid (cnd ⟨F, R, l, bl, ca, ps, ha, fu⟩ 1 = true → ∀ j, j < 2 → cnd ⟨F, R, l, bl, ca, ps, ha, fu⟩ j = true) := Lib.hid fun h j hj => by
        rcases Nat.lt_or_ge j 1 with hj2 | hj2
        · exact hgood j hj2
        · have : j = 1 := by omega
          subst this; exact h
      have hFk := Lib.hid (fun h => okPo_cF (p := ⟨F, R, l, bl, ca, ps, ha, fu⟩) (k := 1) (by decide) h)
      clear hgood hvb hT7 hR7 hX7 hA7
      generalize cnd ⟨F, R, l, bl, ca, ps, ha, fu⟩ 1 = ck at *
      generalize (poPwn F R l) = t at *
      go_wp2_with fail
      refine HC.out.mono ?_
      rintro e w2 ⟨rfl, hb2⟩
      cases t with
      | false =>
        go_wp2
        go_ret
        exact ⟨ret_bool (hFk.out HD.out).symm, chain HB7.out hb2⟩
      | true =>
        go_wp2
        go_roundw
        case rel => exact ⟨2, by omega, by go_num, hnext.out HD.out, HBr.out.trans (hb2.mono (by have := HBr.out.size; simpa using this))⟩
        case measure => simp [intOf]
    · have HC := Lib.hid (cl3 F R l A c bl ca ps ha fu w.heap.size (hvb (by decide)).1 hca wr hR7 hX7 hA7)
      have HD : Hid (cnd ⟨F, R, l, bl, ca, ps, ha, fu⟩ 2 = (poCas F R l ca)) := Lib.hid rfl
      have hnext : Hid (cnd ⟨F, R, l, bl, ca, ps, ha, fu⟩ 2 = true → ∀ j, j < 3 → cnd ⟨F, R, l, bl, ca, ps, ha, fu⟩ j = true) := Lib.hid fun h j hj => by
        rcases Nat.lt_or_ge j 2 with hj2 | hj2
        · exact hgood j hj2
        · have : j = 2 := by omega
          subst this; exact h
      have hFk := Lib.hid (fun h => okPo_cF (p := ⟨F, R, l, bl, ca, ps, ha, fu⟩) (k := 2) (by decide) h)
      clear hgood hvb hT7 hR7 hX7 hA7
      generalize cnd ⟨F, R, l, bl, ca, ps, ha, fu⟩ 2 = ck at *
      generalize (poCas F R l ca) = t at *
      go_wp2_with fail
      refine HC.out.mono ?_
      rintro e w2 ⟨rfl, hb2⟩
      cases t with
      | false =>
        go_wp2
        go_ret
        exact ⟨ret_bool (hFk.out HD.out).symm, chain HB7.out hb2⟩
      | true =>
        go_wp2
        go_roundw
        case rel => exact ⟨3, by omega, by go_num, hnext.out HD.out, HBr.out.trans (hb2.mono (by have := HBr.out.size; simpa using this))⟩
        case measure => simp [intOf]
    · have HC := Lib.hid (cl4 F R l A c bl ca ps ha fu w.heap.size (hvb (by decide)).1 wr hX7 hA7)
      have HD : Hid (cnd ⟨F, R, l, bl, ca, ps, ha, fu⟩ 3 = (poPas F R l bl ps ha)) := Lib.hid rfl
      have hnext : Hid (cnd ⟨F, R, l, bl, ca, ps, ha, fu⟩ 3 = true → ∀ j, j < 4 → cnd ⟨F, R, l, bl, ca, ps, ha, fu⟩ j = true) := Lib.hid fun h j hj => by
        rcases Nat.lt_or_ge j 3 with hj2 | hj2
        · exact hgood j hj2
        · have : j = 3 := by omega
          subst this; exact h
      have hFk := Lib.hid (fun h => okPo_cF (p := ⟨F, R, l, bl, ca, ps, ha, fu⟩) (k := 3) (by decide) h)
      clear hgood hvb hT7 hR7 hX7 hA7
      generalize cnd ⟨F, R, l, bl, ca, ps, ha, fu⟩ 3 = ck at *
      generalize (poPas F R l bl ps ha) = t at *
      go_wp2_with fail
      refine HC.out.mono ?_
      rintro e w2 ⟨rfl, hb2⟩
      cases t with
      | false =>
        go_wp2
        go_ret
        exact ⟨ret_bool (hFk.out HD.out).symm, chain HB7.out hb2⟩
      | true =>
        go_wp2
        go_roundw
        case rel => exact ⟨4, by omega, by go_num, hnext.out HD.out, HBr.out.trans (hb2.mono (by have := HBr.out.size; simpa using this))⟩
        case measure => simp [intOf]
    · have HC := Lib.hid (cl5 F R l A c bl ca ps ha fu w.heap.size wr hX7)
      have HD : Hid (cnd ⟨F, R, l, bl, ca, ps, ha, fu⟩ 4 = (decide (0 ≤ ha) && decide (ha ≤ 10000))) := Lib.hid rfl
      have hnext : Hid (cnd ⟨F, R, l, bl, ca, ps, ha, fu⟩ 4 = true → ∀ j, j < 5 → cnd ⟨F, R, l, bl, ca, ps, ha, fu⟩ j = true) := Lib.hid fun h j hj => by
        rcases Nat.lt_or_ge j 4 with hj2 | hj2
        · exact hgood j hj2
        · have : j = 4 := by omega
          subst this; exact h
      have hFk := Lib.hid (fun h => okPo_cF (p := ⟨F, R, l, bl, ca, ps, ha, fu⟩) (k := 4) (by decide) h)
      clear hgood hvb hT7 hR7 hX7 hA7
      generalize cnd ⟨F, R, l, bl, ca, ps, ha, fu⟩ 4 = ck at *
      generalize (decide (0 ≤ ha) && decide (ha ≤ 10000)) = t at *
      go_wp2_with fail
      refine HC.out.mono ?_
      rintro e w2 ⟨rfl, hb2⟩
      cases t with
      | false =>
        go_wp2
        go_ret
        exact ⟨ret_bool (hFk.out HD.out).symm, chain HB7.out hb2⟩
      | true =>
        go_wp2
        go_roundw
        case rel => exact ⟨5, by omega, by go_num, hnext.out HD.out, HBr.out.trans (hb2.mono (by have := HBr.out.size; simpa using this))⟩
        case measure => simp [intOf]
    · have HC := Lib.hid (cl6 F R l A c bl ca ps ha fu w.heap.size wr hX7)
      have HD : Hid (cnd ⟨F, R, l, bl, ca, ps, ha, fu⟩ 5 = (decide (1 ≤ fu) && decide (fu ≤ 10000))) := Lib.hid rfl
      have hnext : Hid (cnd ⟨F, R, l, bl, ca, ps, ha, fu⟩ 5 = true → ∀ j, j < 6 → cnd ⟨F, R, l, bl, ca, ps, ha, fu⟩ j = true) := Lib.hid fun h j hj => by
        rcases Nat.lt_or_ge j 5 with hj2 | hj2
        · exact hgood j hj2
        · have : j = 5 := by omega
          subst this; exact h
      have hFk := Lib.hid (fun h => okPo_cF (p := ⟨F, R, l, bl, ca, ps, ha, fu⟩) (k := 5) (by decide) h)
      clear hgood hvb hT7 hR7 hX7 hA7
      generalize cnd ⟨F, R, l, bl, ca, ps, ha, fu⟩ 5 = ck at *
      generalize (decide (1 ≤ fu) && decide (fu ≤ 10000)) = t at *
      go_wp2_with fail
      refine HC.out.mono ?_
      rintro e w2 ⟨rfl, hb2⟩
      cases t with
      | false =>
        go_wp2
        go_ret
        exact ⟨ret_bool (hFk.out HD.out).symm, chain HB7.out hb2⟩
      | true =>
        go_wp2
        go_roundw
        case rel => exact ⟨6, by omega, by go_num, hnext.out HD.out, HBr.out.trans (hb2.mono (by have := HBr.out.size; simpa using this))⟩
        case measure => simp [intOf]
    · have he := Lib.hid (okPo_cT hgood)
      clear hgood
      go_wp2
      go_ret
      exact ⟨ret_bool he.out.symm, HB7.out⟩

end Go.Proofs.YtelkmdklpcfobaaGreatDoor
