/- Attacks, by the document's own functions: whether the piece on a square attacks another one. -/
import Derived.Lib.QuietBelow
import Derived.Sort.AtCall
import Derived.Test.YtelkmdklpcfobaaGreatDoorAtB
import Derived.Test.YtelkmdklpcfobaaGreatDoorRyG

namespace Go.Proofs.YtelkmdklpcfobaaGreatDoor
open Go.RowKit Go.Sort

def kdP (p : Int) : Int := if p < 0 then -p else p
theorem rKind_or (p : Int) (h : orthB p = true) (w : World) : Calls Tryz.prog 44 #[.int .i8 p] w fun e w' => e = .returned (.int .i8 (kdP p)) ∧ w = w' := by
  unfold orthB at h
  simp at h
  unfold kdP
  by_cases hn : p < 0
  · rw [if_pos hn]
    have := rKind_neg (-p).toNat (by omega) (by omega) w
    rwa [show (-(((-p).toNat : Nat) : Int)) = p by omega, show (((-p).toNat : Nat) : Int) = -p by omega] at this
  · rw [if_neg hn]
    have := rKind_pos p.toNat (by omega) w
    rwa [show ((p.toNat : Nat) : Int) = p by omega] at this
theorem kdP_or {p : Int} (h : orthB p = true) : kdP p = 1 ∨ kdP p = 2 ∨ kdP p = 3 ∨ kdP p = 4 ∨ kdP p = 5 ∨ kdP p = 6 := by
  unfold orthB at h
  simp at h
  unfold kdP
  split <;> omega
theorem rhasN (z : List Nat) (n : Int) (A : Option Addr) (c : Nat) (w : World) (hlen : z.length ≤ 100000) (hA : RdI w w.heap.size A (z.map fun i : Nat => (i : Int))) :
    Calls Tryz.prog 147 #[.slice A z.length c, .int .i64 n] w fun e w' => e = .returned (.bool (hasL (z.map fun i : Nat => (i : Int)) n)) ∧ w = w' := by
  have := rhas_any (z.map fun i : Nat => (i : Int)) n A c w (by simpa using hlen) hA
  rwa [List.length_map] at this
/-- a piece p on square n attacks square t where the squares of X are occupied. -/
def attP (F R p : Int) (X : Nat) (n t : Int) : Bool := if kdP p = 1 then hasL ((pawnL F R n (decide (p < 0))).map fun i : Nat => (i : Int)) t else !(n == t) && reachB F R (kdP p) n t X

set_option maxRecDepth 100000 in
set_option maxHeartbeats 2000000 in
theorem ratt_any (F R : Int) (l : List Int) (A : Option Addr) (c : Nat) (n : Nat) (t : Int) (X : Nat) (hX : X < 18446744073709551616) (w : World) (hv : vsz F R) (hl : (l.length : Int) = F * R) (hn : n < l.length) (ho : orthB (l[n]?.getD 0) = true) (ht : vat F R t) (hA : RdP w w.heap.size A l c) :
    Calls Tryz.prog 113 #[.agg #[.int .i64 F, .int .i64 R, .slice A l.length c], .int .i64 n, .int .i64 t, .int .u64 X] w fun e w' => e = .returned (.bool (attP F R (l[n]?.getD 0) X n t)) ∧ Below w.heap.size w w' := by
  have hnv : vat F R (n : Int) := ⟨hv, by omega, by omega⟩
  have hlen : l.length ≤ 64 := by have := (vsz_mul hv).2; omega
  obtain ⟨ad, rfl, hb, hc⟩ := hA.at_ hn
  have hAb := hA
  clear hA
  obtain ⟨p, hp⟩ : ∃ p, l[n]?.getD 0 = p := ⟨_, rfl⟩
  rw [hp] at ho hc ⊢
  have HK := Lib.hid (rKind_or p ho)
  have hk := kdP_or ho
  have hc2 := alive (.cells #[.int .i64 F, .int .i64 R, .slice (some ad) l.length c] 30) hc
  unfold attP
  clear hp hc ho hAb
  by_cases h1 : kdP p = 1
  · rw [if_pos h1]
    rw [h1] at HK
    clear h1 hk
    have HP := Lib.hid (rPawn_any F R n (decide (p < 0)) hnv)
    have HLN : Hid ((pawnL F R n (decide (p < 0))).length ≤ 100000) := Lib.hid (by unfold pawnL; have := pickTo_le (fun b => pawnB F n (decide (p < 0)) (b : Int)) (F * R).toNat; have := (vsz_mul hv).2; omega)
    generalize pawnL F R n (decide (p < 0)) = z at *
    go_enter Tryz.func113, Tryz.ntmps113
    go_wp2_with fail
    refine (HK.out _).mono ?_
    rintro e wx ⟨rfl, rfl⟩
    go_wp2_with fail
    refine (HP.out _).mono ?_
    rintro e w1 ⟨v, rfl, hown, hb1⟩
    obtain ⟨A2, c2, rfl, _, hA2⟩ := RdI.own' hown
    go_wp2_with fail
    refine (rhasN z t A2 c2 _ HLN.out hA2).mono ?_
    rintro e wy ⟨rfl, rfl⟩
    go_wp2
    go_ret
    exact ⟨rfl, after1 hb1⟩
  · rw [if_neg h1]
    have h1b : (kdP p == 1) = false := beq_eq_false_iff_ne.2 h1
    have hk2 : kdP p = 2 ∨ kdP p = 3 ∨ kdP p = 4 ∨ kdP p = 5 ∨ kdP p = 6 := by omega
    have HR := Lib.hid (reaches_any F R (kdP p) n t hk2 hnv ht X hX)
    clear h1 hk hk2
    generalize kdP p = k at *
    generalize reachB F R k n t X = r at *
    obtain ⟨V, hV⟩ : ∃ V, w.alloc (.cells #[.int .i64 F, .int .i64 R, .slice (some ad) l.length c] 30) = V := ⟨_, rfl⟩
    have c0 : V.cell? ⟨w.heap.size, 0, none⟩ = some (.int .i64 F) := by rw [← hV]; simp [go_sem]
    have c1 : V.cell? ⟨w.heap.size, 1, none⟩ = some (.int .i64 R) := by rw [← hV]; simp [go_sem]
    have hB : Below w.heap.size w V := by rw [← hV]; exact box1 _ _
    have HV := Lib.hid hV
    clear hV
    have q0 := cell_regrown c0
    have q1 := cell_regrown c1
    have cK : ∀ d os, Calls Tryz.prog 44 #[.int .i8 p] (grow (redrawn V d) os) fun e w'' => e = .returned (.int .i8 k) ∧ ∃ q : Regrown, w'' = grow (redrawn V q.d) q.os := fun d os => Calls.regrown_of ((HK.out _).mono fun _ _ h => ⟨h.1, by rw [← h.2]; exact Below.refl _ _⟩)
    have cR : ∀ d os, Calls Tryz.prog 149 #[.agg #[.int .i64 F, .int .i64 R], .int .i8 k, .int .i64 n, .int .i64 t, .int .u64 X] (grow (redrawn V d) os) fun e w'' => e = .returned (.bool r) ∧ ∃ q : Regrown, w'' = grow (redrawn V q.d) q.os := fun d os => Calls.regrown_of (HR.out _)
    by_cases hnt : (n : Int) = t
    · have e1 : ((n : Int) == t) = true := by simp [hnt]
      have e2 : ((n : Int) != t) = false := by simp [hnt]
      rw [e1]
      clear hnt
      go_enter Tryz.func113, Tryz.ntmps113
      go_wp2_with fail
      refine (HK.out _).mono ?_
      rintro e wx ⟨rfl, rfl⟩
      rw [HV.out]
      go_wp2_with fail
      refine wp_region_quiet_below (by kernel_rfl) (by kernel_rfl) ?_
      repeat (go_big_quiet_step (fail))
      refine wpQuiet_nil ?_
      intro _ hw'
      obtain ⟨⟨dq, osq⟩, hw''⟩ := hw'
      subst hw''
      go_wp2
      go_ret
      exact ⟨rfl, chain hB (below_regrown _ dq osq)⟩
    · have e1 : ((n : Int) == t) = false := by simp [hnt]
      have e2 : ((n : Int) != t) = true := by simp [hnt]
      rw [e1]
      clear hnt
      go_enter Tryz.func113, Tryz.ntmps113
      go_wp2_with fail
      refine (HK.out _).mono ?_
      rintro e wx ⟨rfl, rfl⟩
      rw [HV.out]
      go_wp2_with fail
      refine wp_region_quiet_below (by kernel_rfl) (by kernel_rfl) ?_
      repeat (go_big_quiet_step (first | (go_at_call 44; exact cK _ _) | (go_at_call 149; exact cR _ _)))
      refine wpQuiet_nil ?_
      intro _ hw'
      obtain ⟨⟨dq, osq⟩, hw''⟩ := hw'
      subst hw''
      go_wp2
      go_ret
      exact ⟨by simp, chain hB (below_regrown _ dq osq)⟩

end Go.Proofs.YtelkmdklpcfobaaGreatDoor

/- Attacks, by the document's own functions: the squares of the pieces of a side that attack a square. -/
namespace Go.Proofs.YtelkmdklpcfobaaGreatDoor
open Go.RowKit Go.Sort

def atkP (F R : Int) (l : List Int) (X : Nat) (t : Int) (n : Nat) : Bool := attP F R (l[n]?.getD 0) X n t
/-- the squares of the attackers, in order. -/
def atkL (F R : Int) (l : List Int) (t : Int) (bl : Bool) : List Nat := (idx (sdP (sdN bl)) l).filter (atkP F R l (ofL (occL l)) t)
theorem idx_mem {P : Int → Bool} {l : List Int} {n : Nat} : n ∈ idx P l ↔ n < l.length ∧ P (l[n]?.getD 0) = true := by
  unfold idx idxTo
  rw [List.mem_filter]
  simp
theorem side_or {l : List Int} {n : Nat} {bl : Bool} (ho : orA l = true) (h : n ∈ idx (sdP (sdN bl)) l) : n < l.length ∧ orthB (l[n]?.getD 0) = true := by
  obtain ⟨h1, h2⟩ := idx_mem.1 h
  refine ⟨h1, ?_⟩
  unfold orA at ho
  have h3 := List.all_eq_true.1 ho (l[n]) (List.getElem_mem h1)
  rw [List.getElem?_eq_getElem h1] at h2 ⊢
  simp only [Option.getD_some] at h2 ⊢
  unfold orB at h3
  unfold sdP sgnP at h2
  by_cases h0 : l[n] = 0
  · rw [h0] at h2
    cases bl <;> simp [sdN] at h2
  · simpa [h0] using h3
theorem take_filter_yes {P : Nat → Bool} {z : List Nat} {k : Nat} (hk : k < z.length) (h : P z[k] = true) : (z.take (k + 1)).filter P = (z.take k).filter P ++ [z[k]] := by
  rw [List.take_succ_eq_append_getElem hk, List.filter_append]
  simp [h]
theorem take_filter_no {P : Nat → Bool} {z : List Nat} {k : Nat} (hk : k < z.length) (h : P z[k] = false) : (z.take (k + 1)).filter P = (z.take k).filter P := by
  rw [List.take_succ_eq_append_getElem hk, List.filter_append]
  simp [h]
theorem filter_len {P : Nat → Bool} {z : List Nat} (k : Nat) : ((z.take k).filter P).length ≤ k := by
  have h1 := List.length_filter_le P (z.take k)
  rw [List.length_take] at h1
  omega

theorem SrcI.at_ {w : World} {A : Option Addr} {l : List Nat} {c : Nat} (h : SrcI w A l c) {k : Nat} (hk : k < l.length) : ∃ ad, A = some ad ∧ ad.block < w.heap.size ∧ w.cell? (ad.add k) = some (.int .i64 ((l[k] : Nat) : Int)) := by
  cases A with
  | none => have := (h.1 rfl).1; omega
  | some ad =>
    obtain ⟨h1, h2⟩ := h.2 ad rfl
    refine ⟨ad, rfl, h1, h2 k _ ?_⟩
    unfold vnats
    rw [List.getElem?_map, List.getElem?_eq_getElem hk]
    rfl

set_option maxRecDepth 100000 in
set_option maxHeartbeats 4000000 in
theorem ratkL_any (F R : Int) (l : List Int) (A : Option Addr) (c : Nat) (t : Int) (bl : Bool) (w : World) (hb : vbd F R l) (ho : orA l = true) (ht : vat F R t) (hA : RdP w w.heap.size A l c) :
    Calls Tryz.prog 80 #[.agg #[.int .i64 F, .int .i64 R, .slice A l.length c], .int .i64 t, .bool bl] w fun e w' => ∃ v, e = .returned v ∧ w'.ownsRow w.heap.size 3 1 v (atkL F R l t bl).length (vnats (atkL F R l t bl)) ∧ Below w.heap.size w w' := by
  obtain ⟨i0, hi, hz0, hz1, hz2⟩ := info_parts ints3
  obtain ⟨hv, hl, hp⟩ := hb
  have hlen : l.length ≤ 64 := by have := (vsz_mul hv).2; omega
  have H1 := Lib.hid (fun w hA => rSideL_any F R l A c (sdN bl) w (by omega) hp hA)
  have H2 := Lib.hid (fun w hA => rOcc_any F R l A c w hlen hp hA)
  have HX : Hid (ofL (occL l) < 18446744073709551616) := Lib.hid (by
    have := ofL_lt (l := occL l) (n := 64) (fun i hi => by
      unfold occL at hi
      rcases List.mem_append.1 hi with h | h <;> have := idx_lt h <;> omega)
    simpa using this)
  have HATT := Lib.hid (fun n X (hX : X < 18446744073709551616) w (hn : n ∈ idx (sdP (sdN bl)) l) hA => ratt_any F R l A c n t X hX w hv hl (side_or ho hn).1 (side_or ho hn).2 ht hA)
  have hzl : (idx (sdP (sdN bl)) l).length ≤ 64 := Nat.le_trans (idx_len _ _) hlen
  unfold atkL
  have HRS := Lib.hid (rside_any bl)
  generalize sdN bl = s at *
  clear hp hl ht ho
  generalize ofL (occL l) = X at *
  obtain ⟨P, hP⟩ : ∃ P, atkP F R l X t = P := ⟨_, rfl⟩
  have HPP := Lib.hid hP
  rw [hP]
  clear hP
  go_enter Tryz.func80, Tryz.ntmps80
  go_wp2_with fail
  obtain ⟨V, hV⟩ : ∃ V, w.alloc (.cells #[.int .i64 F, .int .i64 R, .slice A l.length c] 30) = V := ⟨_, rfl⟩
  have h0 : V.cell? ⟨w.heap.size, 0, none⟩ = some (.int .i64 F) ∧ V.cell? ⟨w.heap.size, 1, none⟩ = some (.int .i64 R) ∧ V.cell? ⟨w.heap.size, 2, none⟩ = some (.slice A l.length c) ∧ St w A l c V := by
    rw [← hV]
    exact ⟨by simp [go_sem], by simp [go_sem], by simp [go_sem], hA.below (box1 _ _), box1 _ _, by simp⟩
  rw [hV]
  clear hV hA
  go_region_held3 (fun w' => w'.cell? ⟨w.heap.size, 0, none⟩ = some (.int .i64 F) ∧ w'.cell? ⟨w.heap.size, 1, none⟩ = some (.int .i64 R) ∧ w'.cell? ⟨w.heap.size, 2, none⟩ = some (.slice A l.length c) ∧ St w A l c w')
    (first | assumption | exact keepS2 (by assumption) (by assumption) | exact keepS (by assumption) (by assumption) | exact keepS (by assumption) ((Below.refl _ _).drew))
    (first
      | (go_at_call 79; refine (HRS.out _).mono ?_; rintro e wx ⟨rfl, rfl⟩)
      | (go_at_call 111; refine (H1.out _ (rdS (by assumption))).mono ?_; rintro e w1 ⟨v1, rfl, hown1, hb1⟩; obtain ⟨A1, d1, rfl, hs1⟩ := SrcI.own hown1)
      | (go_at_call 112; refine (H2.out _ (rdS (by assumption))).mono ?_; rintro e w2 ⟨rfl, hb2⟩; have hs2 := hs1.below hb2))
  have hH := (by assumption : w2.cell? ⟨w.heap.size, 0, none⟩ = some (.int .i64 F) ∧ w2.cell? ⟨w.heap.size, 1, none⟩ = some (.int .i64 R) ∧ w2.cell? ⟨w.heap.size, 2, none⟩ = some (.slice A l.length c) ∧ St w A l c w2)
  obtain ⟨c0, c1, c2, hR, hB, hsz⟩ := hH
  obtain ⟨z, hz⟩ : ∃ z, idx (sdP s) l = z := ⟨_, rfl⟩
  rw [hz] at hs2 HATT hzl ⊢
  have HZ := Lib.hid hz
  clear hz h0 hb1 hs1 hown1 hb2
  go_wp2
  go_loopw [7, 10] (fun v i wr => ∃ k : Nat, k ≤ z.length ∧ i = .int .i64 k ∧ wr.ownsRow w2.heap.size 3 1 v ((z.take k).filter P).length (vnats ((z.take k).filter P)) ∧ Below w2.heap.size w2 wr) (fun _ i _ => z.length - (intOf i).toNat)
  case atStart => exact ⟨0, by omega, rfl, World.ownsRow_nil _ _ _ _, Below.refl _ _⟩
  case round =>
    obtain ⟨k, hk, rfl, hown, hBr⟩ := hrel
    have s2 := hBr.size
    by_cases hlt : k < z.length
    · obtain ⟨ad, rfl, hbl, hc⟩ := hs2.at_ hlt
      have d0 := cBo hBr c0
      have d1 := cBo hBr c1
      have d2 := cBo hBr c2
      have dc := cBo hBr hc
      have hmem : z[k] ∈ z := List.getElem_mem hlt
      have hfy := fun h => take_filter_yes (P := P) hlt h
      have hfn := fun h => take_filter_no (P := P) hlt h
      have hfl := filter_len (P := P) (z := z) k
      obtain ⟨y, hy⟩ : ∃ y, z[k] = y := ⟨_, rfl⟩
      rw [hy] at dc hmem hfy hfn
      have HFY := Lib.hid hfy
      have HFN := Lib.hid hfn
      have hPy : attP F R (l[y]?.getD 0) X y t = P y := by rw [← HPP.out]; rfl
      have hq := HATT.out y X HX.out
      rw [hPy] at hq
      have HQ := Lib.hid hq
      have HRD := Lib.hid hR
      clear hy hc hfy hfn hPy hq
      have q0 := cell_regrown d0
      have q1 := cell_regrown d1
      have q2 := cell_regrown d2
      have qc := cell_regrown dc
      have cA : ∀ d os, Calls Tryz.prog 113 #[.agg #[.int .i64 F, .int .i64 R, .slice A l.length c], .int .i64 y, .int .i64 t, .int .u64 X] (grow (redrawn wr d) os) fun e w'' => e = .returned (.bool (P y)) ∧ ∃ q : Regrown, w'' = grow (redrawn wr q.d) q.os := fun d os => Calls.regrown_of (HQ.out _ hmem (((HRD.out.below (hBr.mono (by omega))).below ((below_regrown wr d os).mono (by omega))).grow (by have := (below_regrown wr d os).size; omega)))
      clear d0 d1 d2 dc hmem
      cases hb : P y
      · have HFK := Lib.hid (HFN.out hb)
        rw [hb] at cA
        clear hb
        generalize (z.take k).filter P = g at *
        go_wp2
        refine wp_region_quiet_below (by kernel_rfl) (by kernel_rfl) ?_
        repeat (go_big_quiet_step ((go_at_call 113; exact cA _ _)))
        refine wpQuiet_nil ?_
        intro _ hw'
        obtain ⟨⟨dq, osq⟩, hw''⟩ := hw'
        subst hw''
        have hRg := below_regrown wr dq osq
        have hown2 := own_below hown hRg
        have hB2 := hBr.trans (hRg.mono s2)
        clear hown hBr hRg
        go_wp2
        go_roundw
        case rel => exact ⟨k + 1, by omega, by go_num, by rw [HFK.out]; exact hown2, hB2⟩
        case measure => simp [intOf]; omega
      · have HFK := Lib.hid (HFY.out hb)
        have HFL : Hid (((z.take (k + 1)).filter P).length = ((z.take k).filter P).length + 1) := Lib.hid (by rw [HFK.out]; simp)
        rw [hb] at cA
        clear hb
        generalize (z.take k).filter P = g at *
        go_wp2
        refine wp_region_quiet_below (by kernel_rfl) (by kernel_rfl) ?_
        repeat (go_big_quiet_step ((go_at_call 113; exact cA _ _)))
        refine wpQuiet_nil ?_
        intro _ hw'
        obtain ⟨⟨dq, osq⟩, hw''⟩ := hw'
        subst hw''
        have hRg := below_regrown wr dq osq
        have hown2 := own_below hown hRg
        have hB2 := hBr.trans (hRg.mono s2)
        have hsz2 := hRg.size
        have ec := qc dq osq
        clear hown hBr hRg q0 q1 q2 qc cA
        generalize grow (redrawn wr dq) osq = wc at *
        go_wp2_with (at_builtin; (refine wpList_append_own _ rfl _ _ 96 rfl w2.heap.size 3 i0 (.int .i64 0) 1 8 Tryz.underlying96 hi hz0 hz1 hz2 rfl (by decide) _ _ _ rfl (hown2.alloc _) ⟨wc.heap.size, 0, none⟩ 1 1 [.int .i64 (y : Int)] rfl rfl ?c1 ?c2 ?c3 ?c4 ?c5 ?_))
        case c1 =>
          intro j u hj
          match j, hj with
          | 0, hj => simp at hj; subst hj; simp [Addr.add]
        case c2 => intro u hu; simp at hu; subst hu; rfl
        case c3 => unfold maxLen; omega
        case c4 => omega
        case c5 => simp; omega
        intro v' w3 hown' hgrow _
        go_wp2
        go_roundw
        case rel =>
          refine ⟨k + 1, by omega, by go_num, ?_, ?_⟩
          · rw [HFL.out, HFK.out, vnats_snoc]; exact hown'
          · exact (hB2.alloc (by omega) _).grown hgrow (by simp; omega) (fun r e => (World.ownsRow.lt hown2 r e).1)
        case measure => simp [intOf]; omega
    · have hkl : k = z.length := by omega
      have HE : Hid (z.filter P = (z.take k).filter P) := Lib.hid (by rw [hkl, List.take_length])
      subst hkl
      go_wp2
      go_ret
      exact ⟨_, rfl, by rw [HZ.out, HE.out]; exact World.ownsRow.mono hown (by omega), chain hB hBr⟩

end Go.Proofs.YtelkmdklpcfobaaGreatDoor

/- Attacks, by the document's own functions: the king's square of a side; all attacked squares. -/
namespace Go.Proofs.YtelkmdklpcfobaaGreatDoor
open Go.RowKit Go.Sort

/-- the number of a side's king. -/
def kgN (b : Bool) : Int := if b then -6 else 6
/-- the squares of a side's kings. -/
def kingL (l : List Int) (bl : Bool) : List Nat := idx (eqP (kgN bl)) l
def kingV (l : List Int) (bl : Bool) : Int := if (kingL l bl).length = 1 then (((kingL l bl)[0]?.getD 0 : Nat) : Int) else -1

set_option maxRecDepth 100000 in
set_option maxHeartbeats 4000000 in
theorem rKing_any (F R : Int) (l : List Int) (A : Option Addr) (c : Nat) (bl : Bool) (w : World) (hlen : l.length ≤ 64) (hA : RdP w w.heap.size A l c) :
    Calls Tryz.prog 42 #[.agg #[.int .i64 F, .int .i64 R, .slice A l.length c], .bool bl] w fun e w' => e = .returned (.int .i64 (kingV l bl)) ∧ Below w.heap.size w w' := by
  unfold kingV kingL
  have hzl : (idx (eqP (kgN bl)) l).length ≤ 64 := Nat.le_trans (idx_len _ _) hlen
  cases bl
  · have H1 := Lib.hid (fun w hA => rList_any F R l A c (6) w (by omega) hA)
    have HRS : Hid (∀ w, Calls Tryz.prog 79 #[.bool false] w fun e w' => e = .returned (.int .i64 (1)) ∧ w = w') := Lib.hid (rside_any false)
    have hm : IntKind.i64.wrap (6 * (1)) = 6 := rfl
    have hcv : ∀ w, (convert 3 41 (.int .i64 (6))).run Tryz.prog w = .ok (.int .i8 (6)) w := fun _ => by kernel_rfl
    rw [show kgN false = 6 from rfl] at hzl ⊢
    obtain ⟨z, hz⟩ : ∃ z, idx (eqP (6)) l = z := ⟨_, rfl⟩
    rw [hz] at H1 hzl ⊢
    clear hz
    obtain ⟨kv, hkv⟩ : ∃ kv, (if z.length = 1 then ((z[0]?.getD 0 : Nat) : Int) else -1) = kv := ⟨_, rfl⟩
    rw [hkv]
    have HKV := Lib.hid hkv
    clear hkv
    go_enter Tryz.func42, Tryz.ntmps42
    go_wp2_with fail
    obtain ⟨V, hV⟩ : ∃ V, w.alloc (.cells #[.int .i64 F, .int .i64 R, .slice A l.length c] 30) = V := ⟨_, rfl⟩
    have h0 : V.cell? ⟨w.heap.size, 0, none⟩ = some (.int .i64 F) ∧ V.cell? ⟨w.heap.size, 1, none⟩ = some (.int .i64 R) ∧ V.cell? ⟨w.heap.size, 2, none⟩ = some (.slice A l.length c) ∧ St w A l c V := by
      rw [← hV]
      exact ⟨by simp [go_sem], by simp [go_sem], by simp [go_sem], hA.below (box1 _ _), box1 _ _, by simp⟩
    rw [hV]
    clear hV hA
    go_region_held3 (fun w' => w'.cell? ⟨w.heap.size, 0, none⟩ = some (.int .i64 F) ∧ w'.cell? ⟨w.heap.size, 1, none⟩ = some (.int .i64 R) ∧ w'.cell? ⟨w.heap.size, 2, none⟩ = some (.slice A l.length c) ∧ St w A l c w')
      (first | assumption | exact keepS2 (by assumption) (by assumption) | exact keepS (by assumption) (by assumption) | exact keepS (by assumption) ((Below.refl _ _).drew))
      (first
        | (go_at_call 79; refine (HRS.out _).mono ?_; rintro e wx ⟨rfl, rfl⟩)
        | (go_at_call 78; refine (H1.out _ (rdS (by assumption))).mono ?_; rintro e w1 ⟨v1, rfl, hown1, hb1⟩; obtain ⟨A1, d1, rfl, hs1⟩ := SrcI.own hown1))
    have hH := (by assumption : w1.cell? ⟨w.heap.size, 0, none⟩ = some (.int .i64 F) ∧ w1.cell? ⟨w.heap.size, 1, none⟩ = some (.int .i64 R) ∧ w1.cell? ⟨w.heap.size, 2, none⟩ = some (.slice A l.length c) ∧ St w A l c w1)
    obtain ⟨c0, c1, c2, hR, hB, hsz⟩ := hH
    by_cases h1 : z.length = 1
    · obtain ⟨y, rfl⟩ : ∃ y, z = [y] := by
        match z, h1 with
        | [y], _ => exact ⟨y, rfl⟩
      obtain ⟨ad, rfl, hbl, hc⟩ := hs1.at_ (k := 0) (by simp)
      have had : ad.add 0 = ad := by simp [Addr.add]
      rw [had] at hc
      have hkv : (y : Int) = kv := by rw [← HKV.out]; rfl
      clear h1
      simp only [List.getElem_cons_zero] at hc
      simp only [List.length_cons, List.length_nil, Nat.zero_add] at *
      have HKY := Lib.hid hkv
      clear hkv
      go_wp2
      go_ret
      exact ⟨ret_int HKY.out, hB⟩
    · have HN1 := Lib.hid h1
      have hne : ((z.length : Int) != 1) = true := by simp; omega
      clear h1
      go_wp2
      go_ret
      exact ⟨ret_int (by rw [← HKV.out, if_neg HN1.out]), hB⟩
  · have H1 := Lib.hid (fun w hA => rList_any F R l A c (-6) w (by omega) hA)
    have HRS : Hid (∀ w, Calls Tryz.prog 79 #[.bool true] w fun e w' => e = .returned (.int .i64 (-1)) ∧ w = w') := Lib.hid (rside_any true)
    have hm : IntKind.i64.wrap (6 * (-1)) = -6 := rfl
    have hcv : ∀ w, (convert 3 41 (.int .i64 (-6))).run Tryz.prog w = .ok (.int .i8 (-6)) w := fun _ => by kernel_rfl
    rw [show kgN true = -6 from rfl] at hzl ⊢
    obtain ⟨z, hz⟩ : ∃ z, idx (eqP (-6)) l = z := ⟨_, rfl⟩
    rw [hz] at H1 hzl ⊢
    clear hz
    obtain ⟨kv, hkv⟩ : ∃ kv, (if z.length = 1 then ((z[0]?.getD 0 : Nat) : Int) else -1) = kv := ⟨_, rfl⟩
    rw [hkv]
    have HKV := Lib.hid hkv
    clear hkv
    go_enter Tryz.func42, Tryz.ntmps42
    go_wp2_with fail
    obtain ⟨V, hV⟩ : ∃ V, w.alloc (.cells #[.int .i64 F, .int .i64 R, .slice A l.length c] 30) = V := ⟨_, rfl⟩
    have h0 : V.cell? ⟨w.heap.size, 0, none⟩ = some (.int .i64 F) ∧ V.cell? ⟨w.heap.size, 1, none⟩ = some (.int .i64 R) ∧ V.cell? ⟨w.heap.size, 2, none⟩ = some (.slice A l.length c) ∧ St w A l c V := by
      rw [← hV]
      exact ⟨by simp [go_sem], by simp [go_sem], by simp [go_sem], hA.below (box1 _ _), box1 _ _, by simp⟩
    rw [hV]
    clear hV hA
    go_region_held3 (fun w' => w'.cell? ⟨w.heap.size, 0, none⟩ = some (.int .i64 F) ∧ w'.cell? ⟨w.heap.size, 1, none⟩ = some (.int .i64 R) ∧ w'.cell? ⟨w.heap.size, 2, none⟩ = some (.slice A l.length c) ∧ St w A l c w')
      (first | assumption | exact keepS2 (by assumption) (by assumption) | exact keepS (by assumption) (by assumption) | exact keepS (by assumption) ((Below.refl _ _).drew))
      (first
        | (go_at_call 79; refine (HRS.out _).mono ?_; rintro e wx ⟨rfl, rfl⟩)
        | (go_at_call 78; refine (H1.out _ (rdS (by assumption))).mono ?_; rintro e w1 ⟨v1, rfl, hown1, hb1⟩; obtain ⟨A1, d1, rfl, hs1⟩ := SrcI.own hown1))
    have hH := (by assumption : w1.cell? ⟨w.heap.size, 0, none⟩ = some (.int .i64 F) ∧ w1.cell? ⟨w.heap.size, 1, none⟩ = some (.int .i64 R) ∧ w1.cell? ⟨w.heap.size, 2, none⟩ = some (.slice A l.length c) ∧ St w A l c w1)
    obtain ⟨c0, c1, c2, hR, hB, hsz⟩ := hH
    by_cases h1 : z.length = 1
    · obtain ⟨y, rfl⟩ : ∃ y, z = [y] := by
        match z, h1 with
        | [y], _ => exact ⟨y, rfl⟩
      obtain ⟨ad, rfl, hbl, hc⟩ := hs1.at_ (k := 0) (by simp)
      have had : ad.add 0 = ad := by simp [Addr.add]
      rw [had] at hc
      have hkv : (y : Int) = kv := by rw [← HKV.out]; rfl
      clear h1
      simp only [List.getElem_cons_zero] at hc
      simp only [List.length_cons, List.length_nil, Nat.zero_add] at *
      have HKY := Lib.hid hkv
      clear hkv
      go_wp2
      go_ret
      exact ⟨ret_int HKY.out, hB⟩
    · have HN1 := Lib.hid h1
      have hne : ((z.length : Int) != 1) = true := by simp; omega
      clear h1
      go_wp2
      go_ret
      exact ⟨ret_int (by rw [← HKV.out, if_neg HN1.out]), hB⟩

/-- the squares that a side attacks, in order. -/
def attackedL (F R : Int) (l : List Int) (bl : Bool) : List Nat := (List.range l.length).filter fun n => decide (0 < (atkL F R l (n : Int) bl).length)

end Go.Proofs.YtelkmdklpcfobaaGreatDoor

/- Attacks, by the document's own functions: the piece that pins a piece. -/
namespace Go.Proofs.YtelkmdklpcfobaaGreatDoor
open Go.RowKit Go.Sort

theorem kingV_at {F R : Int} {l : List Int} {bl : Bool} (hb : vbd F R l) (h : 0 ≤ kingV l bl) : vat F R (kingV l bl) := by
  unfold kingV at *
  split at h
  · rename_i h1
    rw [if_pos h1]
    have h2 : (kingL l bl)[0]?.getD 0 ∈ kingL l bl := by
      rw [List.getElem?_eq_getElem (show 0 < (kingL l bl).length by omega)]
      exact List.getElem_mem _
    have h3 := idx_lt h2
    have h4 := hb.2.1
    exact ⟨hb.1, by omega, by omega⟩
  · omega
theorem vbd_set {F R : Int} {l : List Int} (n : Nat) (h : vbd F R l) : vbd F R (l.set n 0) := by
  obtain ⟨h1, h2, h3⟩ := h
  refine ⟨h1, by simpa using h2, fun j hj => ?_⟩
  simp at hj
  rw [List.getElem?_set]
  split
  · split
    · show okP 0; unfold okP; omega
    · rename_i e h; subst e; omega
  · exact h3 j hj
theorem orA_set {l : List Int} (n : Nat) (h : orA l = true) : orA (l.set n 0) = true := by
  unfold orA at *
  rw [List.all_eq_true] at *
  intro x hx
  rcases List.mem_or_eq_of_mem_set hx with h1 | rfl
  · exact h x h1
  · rfl
theorem SrcI.rdI {w : World} {A : Option Addr} {l : List Nat} {c : Nat} (h : SrcI w A l c) : RdI w w.heap.size A (l.map fun i : Nat => (i : Int)) := fun hl => by
  cases A with
  | none => have := (h.1 rfl).1; simp at hl; omega
  | some ad =>
    obtain ⟨h1, h2⟩ := h.2 ad rfl
    refine ⟨ad, rfl, h1, fun j u hu => h2 j _ ?_⟩
    unfold vnats
    rw [List.getElem?_map] at hu ⊢
    cases hj : l[j]? with
    | none => rw [hj] at hu; simp at hu
    | some x => rw [hj] at hu; simp at hu; subst hu; rfl

/-- the first number of a list that is not in another one, or -1. -/
def firstNo (before after : List Nat) : Int := ((after.find? fun i : Nat => !hasL (before.map fun i : Nat => (i : Int)) (i : Int)).map fun i : Nat => (i : Int)).getD (-1)
theorem firstNo_hit {b a : List Nat} {k : Nat} (hk : k < a.length) (h : ∀ j (hj : j < k), hasL (b.map fun i : Nat => (i : Int)) ((a[j]'(by omega) : Nat) : Int) = true) (hn : hasL (b.map fun i : Nat => (i : Int)) ((a[k] : Nat) : Int) = false) : firstNo b a = ((a[k] : Nat) : Int) := by
  unfold firstNo
  have : a.find? (fun i : Nat => !hasL (b.map fun i : Nat => (i : Int)) (i : Int)) = some a[k] := by
    rw [List.find?_eq_some_iff_getElem]
    refine ⟨by simp [hn], k, hk, rfl, fun j hj => ?_⟩
    simp [h j hj]
  rw [this]
  rfl
theorem firstNo_none {b a : List Nat} (h : ∀ j (hj : j < a.length), hasL (b.map fun i : Nat => (i : Int)) ((a[j] : Nat) : Int) = true) : firstNo b a = -1 := by
  unfold firstNo
  have : a.find? (fun i : Nat => !hasL (b.map fun i : Nat => (i : Int)) (i : Int)) = none := by
    rw [List.find?_eq_none]
    intro x hx
    obtain ⟨j, hj, rfl⟩ := List.getElem_of_mem hx
    simp [h j hj]
  rw [this]
  rfl
/-- the square of the piece that pins the piece on a square, or -1. -/
def pinV (F R : Int) (l : List Int) (n : Nat) : Int :=
  if (n : Int) = kingV l (decide (l[n]?.getD 0 < 0)) then -1
  else firstNo (atkL F R l (kingV l (decide (l[n]?.getD 0 < 0))) (decide (0 < l[n]?.getD 0))) (atkL F R (l.set n 0) (kingV l (decide (l[n]?.getD 0 < 0))) (decide (0 < l[n]?.getD 0)))
theorem atkL_len {F R t : Int} {l : List Int} {bl : Bool} (h : l.length ≤ 64) : (atkL F R l t bl).length ≤ 64 := by
  unfold atkL
  exact Nat.le_trans (List.length_filter_le _ _) (Nat.le_trans (idx_len _ _) h)

end Go.Proofs.YtelkmdklpcfobaaGreatDoor
