/- Attacks, by the document's own functions: the king's square of a side; all attacked squares. -/
import Derived.Test.YtjnbjegopddhgaaDoorAtD

namespace Go.Proofs.YtjnbjegopddhgaaDoor
open Go.RowKit Go.Sort

/-- the number of a side's king. -/
def kgN (b : Bool) : Int := if b then -6 else 6
/-- the squares of a side's kings. -/
def kingL (l : List Int) (bl : Bool) : List Nat := idx (eqP (kgN bl)) l
def kingV (l : List Int) (bl : Bool) : Int := if (kingL l bl).length = 1 then (((kingL l bl)[0]?.getD 0 : Nat) : Int) else -1

set_option maxRecDepth 100000 in
set_option maxHeartbeats 4000000 in
theorem rKing_any (F R : Int) (l : List Int) (A : Option Addr) (c : Nat) (bl : Bool) (w : World) (hlen : l.length ≤ 64) (hA : RdP w w.heap.size A l c) :
    Calls Tryd.prog 19 #[.agg #[.int .i64 F, .int .i64 R, .slice A l.length c], .bool bl] w fun e w' => e = .returned (.int .i64 (kingV l bl)) ∧ Below w.heap.size w w' := by
  unfold kingV kingL
  have hzl : (idx (eqP (kgN bl)) l).length ≤ 64 := Nat.le_trans (idx_len _ _) hlen
  cases bl
  · have H1 := Lib.hid (fun w hA => rList_any F R l A c (6) w (by omega) hA)
    have HRS : Hid (∀ w, Calls Tryd.prog 39 #[.bool false] w fun e w' => e = .returned (.int .i64 (1)) ∧ w = w') := Lib.hid (rside_any false)
    have hm : IntKind.i64.wrap (6 * (1)) = 6 := rfl
    have hcv : ∀ w, (convert 3 47 (.int .i64 (6))).run Tryd.prog w = .ok (.int .i8 (6)) w := fun _ => by kernel_rfl
    rw [show kgN false = 6 from rfl] at hzl ⊢
    obtain ⟨z, hz⟩ : ∃ z, idx (eqP (6)) l = z := ⟨_, rfl⟩
    rw [hz] at H1 hzl ⊢
    clear hz
    obtain ⟨kv, hkv⟩ : ∃ kv, (if z.length = 1 then ((z[0]?.getD 0 : Nat) : Int) else -1) = kv := ⟨_, rfl⟩
    rw [hkv]
    have HKV := Lib.hid hkv
    clear hkv
    go_enter Tryd.func19, Tryd.ntmps19
    go_wp2_with fail
    obtain ⟨V, hV⟩ : ∃ V, w.alloc (.cells #[.int .i64 F, .int .i64 R, .slice A l.length c] 26) = V := ⟨_, rfl⟩
    have h0 : V.cell? ⟨w.heap.size, 0, none⟩ = some (.int .i64 F) ∧ V.cell? ⟨w.heap.size, 1, none⟩ = some (.int .i64 R) ∧ V.cell? ⟨w.heap.size, 2, none⟩ = some (.slice A l.length c) ∧ St w A l c V := by
      rw [← hV]
      exact ⟨by simp [go_sem], by simp [go_sem], by simp [go_sem], hA.below (box1 _ _), box1 _ _, by simp⟩
    rw [hV]
    clear hV hA
    go_region_held3 (fun w' => w'.cell? ⟨w.heap.size, 0, none⟩ = some (.int .i64 F) ∧ w'.cell? ⟨w.heap.size, 1, none⟩ = some (.int .i64 R) ∧ w'.cell? ⟨w.heap.size, 2, none⟩ = some (.slice A l.length c) ∧ St w A l c w')
      (first | assumption | exact keepS2 (by assumption) (by assumption) | exact keepS (by assumption) (by assumption) | exact keepS (by assumption) ((Below.refl _ _).drew))
      (first
        | (go_at_call 39; refine (HRS.out _).mono ?_; rintro e wx ⟨rfl, rfl⟩)
        | (go_at_call 47; refine (H1.out _ (rdS (by assumption))).mono ?_; rintro e w1 ⟨v1, rfl, hown1, hb1⟩; obtain ⟨A1, d1, rfl, hs1⟩ := SrcI.own hown1))
    have hH := (by assumption : w1.cell? ⟨w.heap.size, 0, none⟩ = some (.int .i64 F) ∧ w1.cell? ⟨w.heap.size, 1, none⟩ = some (.int .i64 R) ∧ w1.cell? ⟨w.heap.size, 2, none⟩ = some (.slice A l.length c) ∧ St w A l c w1)
    obtain ⟨c0, c1, c2, hR, hB, hsz⟩ := hH
    by_cases h1 : z.length = 1
    · obtain ⟨y, rfl⟩ : ∃ y, z = [y] := by
        match z, h1 with
        | [y], _ => exact ⟨y, rfl⟩
      obtain ⟨ad, rfl, hbl, hc⟩ := hs1.at_ (k := 0) (by simp)
      have had : ad.add 0 = ad := by simp [Addr.add]
      rw [had] at hc
      have hkv : (y : Int) = kv := by rw [← HKV.out]; rfl
      clear h1
      simp only [List.getElem_cons_zero] at hc
      simp only [List.length_cons, List.length_nil, Nat.zero_add] at *
      have HKY := Lib.hid hkv
      clear hkv
      go_wp2
      go_ret
      exact ⟨ret_int HKY.out, hB⟩
    · have HN1 := Lib.hid h1
      have hne : ((z.length : Int) != 1) = true := by simp; omega
      clear h1
      go_wp2
      go_ret
      exact ⟨ret_int (by rw [← HKV.out, if_neg HN1.out]), hB⟩
  · have H1 := Lib.hid (fun w hA => rList_any F R l A c (-6) w (by omega) hA)
    have HRS : Hid (∀ w, Calls Tryd.prog 39 #[.bool true] w fun e w' => e = .returned (.int .i64 (-1)) ∧ w = w') := Lib.hid (rside_any true)
    have hm : IntKind.i64.wrap (6 * (-1)) = -6 := rfl
    have hcv : ∀ w, (convert 3 47 (.int .i64 (-6))).run Tryd.prog w = .ok (.int .i8 (-6)) w := fun _ => by kernel_rfl
    rw [show kgN true = -6 from rfl] at hzl ⊢
    obtain ⟨z, hz⟩ : ∃ z, idx (eqP (-6)) l = z := ⟨_, rfl⟩
    rw [hz] at H1 hzl ⊢
    clear hz
    obtain ⟨kv, hkv⟩ : ∃ kv, (if z.length = 1 then ((z[0]?.getD 0 : Nat) : Int) else -1) = kv := ⟨_, rfl⟩
    rw [hkv]
    have HKV := Lib.hid hkv
    clear hkv
    go_enter Tryd.func19, Tryd.ntmps19
    go_wp2_with fail
    obtain ⟨V, hV⟩ : ∃ V, w.alloc (.cells #[.int .i64 F, .int .i64 R, .slice A l.length c] 26) = V := ⟨_, rfl⟩
    have h0 : V.cell? ⟨w.heap.size, 0, none⟩ = some (.int .i64 F) ∧ V.cell? ⟨w.heap.size, 1, none⟩ = some (.int .i64 R) ∧ V.cell? ⟨w.heap.size, 2, none⟩ = some (.slice A l.length c) ∧ St w A l c V := by
      rw [← hV]
      exact ⟨by simp [go_sem], by simp [go_sem], by simp [go_sem], hA.below (box1 _ _), box1 _ _, by simp⟩
    rw [hV]
    clear hV hA
    go_region_held3 (fun w' => w'.cell? ⟨w.heap.size, 0, none⟩ = some (.int .i64 F) ∧ w'.cell? ⟨w.heap.size, 1, none⟩ = some (.int .i64 R) ∧ w'.cell? ⟨w.heap.size, 2, none⟩ = some (.slice A l.length c) ∧ St w A l c w')
      (first | assumption | exact keepS2 (by assumption) (by assumption) | exact keepS (by assumption) (by assumption) | exact keepS (by assumption) ((Below.refl _ _).drew))
      (first
        | (go_at_call 39; refine (HRS.out _).mono ?_; rintro e wx ⟨rfl, rfl⟩)
        | (go_at_call 47; refine (H1.out _ (rdS (by assumption))).mono ?_; rintro e w1 ⟨v1, rfl, hown1, hb1⟩; obtain ⟨A1, d1, rfl, hs1⟩ := SrcI.own hown1))
    have hH := (by assumption : w1.cell? ⟨w.heap.size, 0, none⟩ = some (.int .i64 F) ∧ w1.cell? ⟨w.heap.size, 1, none⟩ = some (.int .i64 R) ∧ w1.cell? ⟨w.heap.size, 2, none⟩ = some (.slice A l.length c) ∧ St w A l c w1)
    obtain ⟨c0, c1, c2, hR, hB, hsz⟩ := hH
    by_cases h1 : z.length = 1
    · obtain ⟨y, rfl⟩ : ∃ y, z = [y] := by
        match z, h1 with
        | [y], _ => exact ⟨y, rfl⟩
      obtain ⟨ad, rfl, hbl, hc⟩ := hs1.at_ (k := 0) (by simp)
      have had : ad.add 0 = ad := by simp [Addr.add]
      rw [had] at hc
      have hkv : (y : Int) = kv := by rw [← HKV.out]; rfl
      clear h1
      simp only [List.getElem_cons_zero] at hc
      simp only [List.length_cons, List.length_nil, Nat.zero_add] at *
      have HKY := Lib.hid hkv
      clear hkv
      go_wp2
      go_ret
      exact ⟨ret_int HKY.out, hB⟩
    · have HN1 := Lib.hid h1
      have hne : ((z.length : Int) != 1) = true := by simp; omega
      clear h1
      go_wp2
      go_ret
      exact ⟨ret_int (by rw [← HKV.out, if_neg HN1.out]), hB⟩

/-- the squares that a side attacks, in order. -/
def attackedL (F R : Int) (l : List Int) (bl : Bool) : List Nat := (List.range l.length).filter fun n => decide (0 < (atkL F R l (n : Int) bl).length)

set_option maxRecDepth 100000 in
set_option maxHeartbeats 4000000 in
theorem rAttacked_any (F R : Int) (l : List Int) (A : Option Addr) (c : Nat) (bl : Bool) (w : World) (hb : vbd F R l) (ho : orA l = true) (hA : RdP w w.heap.size A l c) :
    Calls Tryd.prog 16 #[.agg #[.int .i64 F, .int .i64 R, .slice A l.length c], .bool bl] w fun e w' => ∃ v, e = .returned v ∧ w'.ownsRow w.heap.size 3 1 v (attackedL F R l bl).length (vnats (attackedL F R l bl)) ∧ Below w.heap.size w w' := by
  obtain ⟨i0, hi, hz0, hz1, hz2⟩ := info_parts ints3
  have hlen : l.length ≤ 64 := by have := (vsz_mul hb.1).2; have := hb.2.1; omega
  have HAT := Lib.hid (fun (n : Nat) (hn : n < l.length) w hA => ratkL_any F R l A c (n : Int) bl w hb ho ⟨hb.1, by omega, by have := hb.2.1; omega⟩ hA)
  unfold attackedL
  obtain ⟨P, hP⟩ : ∃ P : Nat → Bool, (fun n : Nat => decide (0 < (atkL F R l (n : Int) bl).length)) = P := ⟨_, rfl⟩
  have HPP := Lib.hid hP
  rw [hP]
  clear hP hb ho
  go_enter Tryd.func16, Tryd.ntmps16
  go_wp2
  obtain ⟨V, hV⟩ : ∃ V, w.alloc (.cells #[.int .i64 F, .int .i64 R, .slice A l.length c] 26) = V := ⟨_, rfl⟩
  have c0 : V.cell? ⟨w.heap.size, 0, none⟩ = some (.int .i64 F) := by rw [← hV]; simp [go_sem]
  have c1 : V.cell? ⟨w.heap.size, 1, none⟩ = some (.int .i64 R) := by rw [← hV]; simp [go_sem]
  have c2 : V.cell? ⟨w.heap.size, 2, none⟩ = some (.slice A l.length c) := by rw [← hV]; simp [go_sem]
  have hR : RdP V w.heap.size A l c := by rw [← hV]; exact hA.below (box1 _ _)
  have hB : Below w.heap.size w V := by rw [← hV]; exact box1 _ _
  have hsz : w.heap.size + 1 ≤ V.heap.size := by rw [← hV]; simp
  rw [hV]
  clear hV hA
  go_loopw [5, 6] (fun v i wr => ∃ k : Nat, k ≤ l.length ∧ i = .int .i64 k ∧ wr.ownsRow V.heap.size 3 1 v ((List.range k).filter P).length (vnats ((List.range k).filter P)) ∧ Below V.heap.size V wr) (fun _ i _ => l.length - (intOf i).toNat)
  case atStart => exact ⟨0, by omega, rfl, World.ownsRow_nil _ _ _ _, Below.refl _ _⟩
  case round =>
    obtain ⟨k, hk, rfl, hown, hBr⟩ := hrel
    have s2 := hBr.size
    have d0 := cBo hBr c0
    have d1 := cBo hBr c1
    have d2 := cBo hBr c2
    by_cases hlt : k < l.length
    · have HRD := Lib.hid ((hR.below (hBr.mono (by omega))).grow (by omega) : RdP wr wr.heap.size A l c)
      have HQ := Lib.hid (HAT.out k hlt)
      have hPk : decide (0 < (atkL F R l (k : Int) bl).length) = P k := by rw [← HPP.out]
      have hfy : P k = true → _ := fun h => pickTo_yes P k h
      have hfn : P k = false → _ := fun h => pickTo_no P k h
      unfold pickTo at hfy hfn
      have HFY := Lib.hid hfy
      have HFN := Lib.hid hfn
      have hfl := pickTo_le P k
      unfold pickTo at hfl
      have HPK := Lib.hid hPk
      clear hfy hfn hPk
      generalize atkL F R l (k : Int) bl = q at *
      go_wp2_with fail
      refine (HQ.out _ HRD.out).mono ?_
      rintro e w2 ⟨v2, rfl, hown2, hb2⟩
      obtain ⟨A2, e2, rfl, hs2⟩ := SrcI.own hown2
      have hownB := own_below hown hb2
      have hB2 := hBr.trans (hb2.mono s2)
      have s3 := hb2.size
      clear hown hBr hown2 hb2 hs2
      cases hb : P k
      · have HFK := Lib.hid (HFN.out hb)
        have hz : decide ((0 : Int) < (q.length : Int)) = false := by have := HPK.out; rw [hb] at this; simp at this ⊢; omega
        have hzn : decide (0 < q.length) = false := HPK.out.trans hb
        clear hb
        generalize (List.range k).filter P = g at *
        go_wp2
        go_roundw
        case rel => exact ⟨k + 1, by omega, by go_num, by rw [HFK.out]; exact hownB, hB2⟩
        case measure => simp [intOf]; omega
      · have HFK := Lib.hid (HFY.out hb)
        have HFL : Hid (((List.range (k + 1)).filter P).length = ((List.range k).filter P).length + 1) := Lib.hid (by rw [HFK.out]; simp)
        have hz : decide ((0 : Int) < (q.length : Int)) = true := by have := HPK.out; rw [hb] at this; simp at this ⊢; omega
        have hzn : decide (0 < q.length) = true := HPK.out.trans hb
        clear hb
        generalize (List.range k).filter P = g at *
        go_wp2_with (at_builtin; (refine wpList_append_own _ rfl _ _ 36 rfl V.heap.size 3 i0 (.int .i64 0) 1 8 Tryd.underlying36 hi hz0 hz1 hz2 rfl (by decide) _ _ _ rfl (hownB.alloc _) ⟨w2.heap.size, 0, none⟩ 1 1 [.int .i64 (k : Int)] rfl rfl ?c1 ?c2 ?c3 ?c4 ?c5 ?_))
        case c1 =>
          intro j u hj
          match j, hj with
          | 0, hj => simp at hj; subst hj; simp [Addr.add]
        case c2 => intro u hu; simp at hu; subst hu; rfl
        case c3 => unfold maxLen; omega
        case c4 => omega
        case c5 => simp; omega
        intro v' w3 hown' hgrow _
        go_wp2
        go_roundw
        case rel =>
          refine ⟨k + 1, by omega, by go_num, ?_, ?_⟩
          · rw [HFL.out, HFK.out, vnats_snoc]; exact hown'
          · exact (hB2.alloc (by omega) _).grown hgrow (by simp; omega) (fun r e => (World.ownsRow.lt hownB r e).1)
        case measure => simp [intOf]; omega
    · have hkl : k = l.length := by omega
      subst hkl
      go_wp2
      go_ret
      exact ⟨_, rfl, World.ownsRow.mono hown (by omega), chain hB hBr⟩

end Go.Proofs.YtjnbjegopddhgaaDoor
