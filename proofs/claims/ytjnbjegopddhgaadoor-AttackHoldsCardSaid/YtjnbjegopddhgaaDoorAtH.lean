/- Attacks, by the document's own functions: the pin line of a piece. -/
import Derived.Test.YtjnbjegopddhgaaDoorAtG

namespace Go.Proofs.YtjnbjegopddhgaaDoor
open Go.RowKit Go.Sort

theorem firstNo_some {b a : List Nat} (h : 0 ≤ firstNo b a) : ∃ i, i ∈ a ∧ i ∉ b ∧ firstNo b a = (i : Int) := by
  unfold firstNo at *
  cases hf : a.find? (fun i : Nat => !hasL (b.map fun i : Nat => (i : Int)) (i : Int)) with
  | none => rw [hf] at h; simp at h
  | some i =>
    have h1 := List.find?_some hf
    have h2 := List.mem_of_find?_eq_some hf
    refine ⟨i, h2, ?_, by simp⟩
    intro hb
    unfold hasL at h1
    simp at h1
    exact h1 i hb rfl
theorem lineB_symm' (F a b : Int) : lineB F b a = lineB F a b := by
  unfold lineB
  rw [Bool.eq_iff_iff]
  simp
  omega
theorem att_line {F R p : Int} {X Y : Nat} {i t : Int} (h1 : attP F R p X i t = true) (h2 : attP F R p Y i t = false) : lineB F i t = true := by
  unfold attP at h1 h2
  by_cases hk : kdP p = 1
  · rw [if_pos hk] at h1 h2; rw [h1] at h2; cases h2
  · rw [if_neg hk] at h1 h2
    simp only [Bool.and_eq_true] at h1
    have h3 := h1.2
    have h4 : reachB F R (kdP p) i t Y = false := by simpa [h1.1] using h2
    unfold reachB at h3 h4
    by_cases e2 : kdP p = 2
    · rw [if_pos e2] at h3 h4; rw [h3] at h4; cases h4
    · rw [if_neg e2] at h3 h4
      by_cases e6 : kdP p = 6
      · rw [if_pos e6] at h3 h4; rw [h3] at h4; cases h4
      · rw [if_neg e6] at h3
        simp only [Bool.and_eq_true] at h3
        exact h3.1.1
theorem set_idx {l : List Int} {n i : Nat} {bl : Bool} (h : i ∈ idx (sdP (sdN bl)) (l.set n 0)) : i ∈ idx (sdP (sdN bl)) l ∧ i ≠ n ∧ (l.set n 0)[i]?.getD 0 = l[i]?.getD 0 := by
  obtain ⟨h1, h2⟩ := idx_mem.1 h
  simp at h1
  by_cases e : i = n
  · subst e
    rw [List.getElem?_set] at h2
    simp [h1] at h2
    cases bl <;> simp [sdP, sgnP, sdN] at h2
  · have e2 : (l.set n 0)[i]?.getD 0 = l[i]?.getD 0 := by rw [List.getElem?_set, if_neg (by omega)]
    rw [e2] at h2
    exact ⟨idx_mem.2 ⟨h1, h2⟩, e, e2⟩
/-- what a pin says: its piece is on a line with the king. -/
theorem pin_facts {F R : Int} {l : List Int} {n : Nat} (h : 0 ≤ pinV F R l n) : ∃ i : Nat, pinV F R l n = (i : Int) ∧ i < l.length ∧ i ≠ n ∧ lineB F (kingV l (decide (l[n]?.getD 0 < 0))) (i : Int) = true := by
  unfold pinV at *
  by_cases hk : (n : Int) = kingV l (decide (l[n]?.getD 0 < 0))
  · rw [if_pos hk] at h; omega
  · rw [if_neg hk] at h ⊢
    obtain ⟨i, h1, h2, h3⟩ := firstNo_some h
    unfold atkL at h1 h2
    rw [List.mem_filter] at h1 h2
    obtain ⟨h4, h5⟩ := h1
    obtain ⟨h6, h7, h8⟩ := set_idx h4
    refine ⟨i, h3, (idx_lt h6).1, h7, ?_⟩
    unfold atkP at h5 h2
    rw [h8] at h5
    have h9 : attP F R (l[i]?.getD 0) (ofL (occL l)) i (kingV l (decide (l[n]?.getD 0 < 0))) = false := by
      rw [← Bool.not_eq_true]
      exact fun e => h2 ⟨h6, e⟩
    rw [lineB_symm']
    exact att_line h5 h9

/-- the squares of a pin line, in order. -/
def linL (F R : Int) (l : List Int) (n : Nat) : List Nat := (List.range l.length).filter fun i => ((i : Int) == pinV F R l n) || (hasL ((betL F R (kingV l (decide (l[n]?.getD 0 < 0))) (pinV F R l n)).map fun i : Nat => (i : Int)) (i : Int) && !(i == n))
theorem RdI.grow' {w : World} {B B' : Nat} {A : Option Addr} {l : List Int} (h : RdI w B A l) (hB : B ≤ B') : RdI w B' A l := fun hl => by
  obtain ⟨ad, e, h1, hc⟩ := h hl
  exact ⟨ad, e, by omega, hc⟩
theorem keepL {w W W' : World} {A : Option Addr} {l : List Int} {c : Nat} {v0 v1 v2 v3 : Value} {q : Addr} (h : (W.cell? ⟨w.heap.size, 0, none⟩ = some v0 ∧ W.cell? ⟨w.heap.size, 1, none⟩ = some v1 ∧ W.cell? ⟨w.heap.size, 2, none⟩ = some v2 ∧ St w A l c W) ∧ W.cell? q = some v3) (hb : Below W.heap.size W W') :
    (W'.cell? ⟨w.heap.size, 0, none⟩ = some v0 ∧ W'.cell? ⟨w.heap.size, 1, none⟩ = some v1 ∧ W'.cell? ⟨w.heap.size, 2, none⟩ = some v2 ∧ St w A l c W') ∧ W'.cell? q = some v3 := ⟨keepS h.1 hb, cBo hb h.2⟩

set_option maxRecDepth 100000 in
set_option maxHeartbeats 4000000 in
theorem rLine_any (F R : Int) (l : List Int) (A : Option Addr) (c : Nat) (n : Nat) (w : World) (hb : vbd F R l) (ho : orA l = true) (hn : n < l.length) (hp0 : l[n]?.getD 0 ≠ 0) (hk0 : 0 ≤ kingV l (decide (l[n]?.getD 0 < 0))) (hpin : 0 ≤ pinV F R l n) (hA : RdP w w.heap.size A l c) :
    Calls Tryd.prog 24 #[.agg #[.int .i64 F, .int .i64 R, .slice A l.length c], .int .i64 n] w fun e w' => ∃ v, e = .returned v ∧ w'.ownsRow w.heap.size 3 1 v (linL F R l n).length (vnats (linL F R l n)) ∧ Below w.heap.size w w' := by
  obtain ⟨i0, hi, hz0, hz1, hz2⟩ := info_parts ints3
  have hlen : l.length ≤ 64 := by have := (vsz_mul hb.1).2; have := hb.2.1; omega
  obtain ⟨pi, hpi, hpl, _, hline⟩ := pin_facts hpin
  have hkv := kingV_at hb hk0
  have hpv : vat F R (pi : Int) := ⟨hb.1, by omega, by have := hb.2.1; omega⟩
  have HP := Lib.hid (fun w hA => rPin_any F R l A c n w hb ho hn hp0 hk0 hA)
  obtain ⟨ad, rfl, hbl, hc⟩ := hA.at_ hn
  unfold linL
  rw [hpi] at HP ⊢
  obtain ⟨p, hp⟩ : ∃ p, l[n]?.getD 0 = p := ⟨_, rfl⟩
  rw [hp] at hc hkv hline ⊢
  have HK := Lib.hid (fun w hA => rKing_any F R l (some ad) c (decide (p < 0)) w hlen hA)
  generalize kingV l (decide (p < 0)) = k at *
  have HBT := Lib.hid (between_any F R k pi hkv hpv hline)
  have hzl : (betL F R k pi).length ≤ 100000 := by
    unfold betL befL
    split
    · have h1 := (List.takeWhile_sublist (fun i : Nat => !((i : Int) == pi)) (l := rayL F R (k % F) (k / F) (sg ((pi : Int) % F - k % F)) (sg ((pi : Int) / F - k / F)))).length_le
      have h2 := rayL_len F R (k % F) (k / F) (sg ((pi : Int) % F - k % F)) (sg ((pi : Int) / F - k / F))
      omega
    · simp
  generalize betL F R k (pi : Int) = z at *
  clear hb ho hp0 hk0 hpin hpi hkv hpv hline hp
  obtain ⟨P, hP⟩ : ∃ P : Nat → Bool, (fun i : Nat => ((i : Int) == (pi : Int)) || (hasL (z.map fun i : Nat => (i : Int)) (i : Int) && !(i == n))) = P := ⟨_, rfl⟩
  have HPP := Lib.hid hP
  rw [hP]
  clear hP
  have hAV : RdP (w.alloc (.cells #[.int .i64 F, .int .i64 R, .slice (some ad) l.length c] 26)) w.heap.size (some ad) l c := hA.below (box1 _ _)
  have hcA := alive (.cells #[.int .i64 F, .int .i64 R, .slice (some ad) l.length c] 26) hc
  go_enter Tryd.func24, Tryd.ntmps24
  go_wp2_with fail
  obtain ⟨V, hV⟩ : ∃ V, w.alloc (.cells #[.int .i64 F, .int .i64 R, .slice (some ad) l.length c] 26) = V := ⟨_, rfl⟩
  have h0 : (V.cell? ⟨w.heap.size, 0, none⟩ = some (.int .i64 F) ∧ V.cell? ⟨w.heap.size, 1, none⟩ = some (.int .i64 R) ∧ V.cell? ⟨w.heap.size, 2, none⟩ = some (.slice (some ad) l.length c) ∧ St w (some ad) l c V) ∧ V.cell? (ad.add n) = some (.int .i8 p) := by
    rw [← hV]
    exact ⟨⟨by simp [go_sem], by simp [go_sem], by simp [go_sem], hAV, box1 _ _, by simp⟩, hcA⟩
  rw [hV]
  clear hV hAV hcA hA hc
  go_region_held3 (fun w' => (w'.cell? ⟨w.heap.size, 0, none⟩ = some (.int .i64 F) ∧ w'.cell? ⟨w.heap.size, 1, none⟩ = some (.int .i64 R) ∧ w'.cell? ⟨w.heap.size, 2, none⟩ = some (.slice (some ad) l.length c) ∧ St w (some ad) l c w') ∧ w'.cell? (ad.add n) = some (.int .i8 p))
    (first | assumption | exact keepL (by assumption) (by assumption) | exact keepL (by assumption) ((Below.refl _ _).drew))
    (first
      | (go_at_call 23; refine (HP.out _ (rdS (And.left (by assumption : (_ ∧ _ ∧ _ ∧ St w (some ad) l c _) ∧ _)))).mono ?_; rintro e w1 ⟨rfl, hb1⟩)
      | (go_at_call 19; refine (HK.out _ (rdS (And.left (by assumption : (_ ∧ _ ∧ _ ∧ St w (some ad) l c _) ∧ _)))).mono ?_; rintro e w2 ⟨rfl, hb2⟩))
  have hH := (by assumption : (w2.cell? ⟨w.heap.size, 0, none⟩ = some (.int .i64 F) ∧ w2.cell? ⟨w.heap.size, 1, none⟩ = some (.int .i64 R) ∧ w2.cell? ⟨w.heap.size, 2, none⟩ = some (.slice (some ad) l.length c) ∧ St w (some ad) l c w2) ∧ w2.cell? (ad.add n) = some (.int .i8 p))
  obtain ⟨⟨c0, c1, c2, hR, hB, hsz⟩, _⟩ := hH
  clear h0 hb1 hb2
  go_wp2_with fail
  refine (HBT.out _).mono ?_
  rintro e w3 ⟨A3, d3, rfl, hA3, hb3⟩
  have c23 := cBo hb3 c2
  have hB3 := chain hB hb3
  have hsz3 := hb3.size
  clear c0 c1 c2 hR hb3
  obtain ⟨zi, hzi⟩ : ∃ zi : List Int, z.map (fun i : Nat => (i : Int)) = zi := ⟨_, rfl⟩
  have HHAS := Lib.hid (fun (m : Int) w hA => rhasN z m A3 d3 w hzl hA)
  rw [hzi] at HHAS HPP hA3
  have HRI := Lib.hid hA3
  clear hzi hA3
  go_wp2
  go_loopw [8, 9] (fun v i wr => ∃ k1 : Nat, k1 ≤ l.length ∧ i = .int .i64 k1 ∧ wr.ownsRow w3.heap.size 3 1 v ((List.range k1).filter P).length (vnats ((List.range k1).filter P)) ∧ Below w3.heap.size w3 wr) (fun _ i _ => l.length - (intOf i).toNat)
  case atStart => exact ⟨0, by omega, rfl, World.ownsRow_nil _ _ _ _, Below.refl _ _⟩
  case round =>
    obtain ⟨k1, hk1, rfl, hown, hBr⟩ := hrel
    have s2 := hBr.size
    have d2 := cBo hBr c23
    by_cases hlt : k1 < l.length
    · have hfy : P k1 = true → _ := fun h => pickTo_yes P k1 h
      have hfn : P k1 = false → _ := fun h => pickTo_no P k1 h
      unfold pickTo at hfy hfn
      have HFY := Lib.hid hfy
      have HFN := Lib.hid hfn
      have hfl := pickTo_le P k1
      unfold pickTo at hfl
      have hPe : (((k1 : Int) == (pi : Int)) || (hasL zi (k1 : Int) && !(k1 == n))) = P k1 := by rw [← HPP.out]
      have HRD := Lib.hid (HRI.out.below hBr |>.grow' hBr.size)
      clear hfy hfn
      by_cases e1 : k1 = pi
      · have f1 : ((k1 : Int) == (pi : Int)) = true := by simp [e1]
        have hPk : P k1 = true := by rw [← hPe, f1]; rfl
        clear hPe e1
        have HFK := Lib.hid (HFY.out hPk)
        have HFL : Hid (((List.range (k1 + 1)).filter P).length = ((List.range k1).filter P).length + 1) := Lib.hid (by rw [HFK.out]; simp)
        clear hPk
        generalize (List.range k1).filter P = g at *
        go_wp2_with (at_builtin; (refine wpList_append_own _ rfl _ _ 36 rfl w3.heap.size 3 i0 (.int .i64 0) 1 8 Tryd.underlying36 hi hz0 hz1 hz2 rfl (by decide) _ _ _ rfl (hown.alloc _) ⟨wr.heap.size, 0, none⟩ 1 1 [.int .i64 (k1 : Int)] rfl rfl ?c1 ?c2 ?c3 ?c4 ?c5 ?_))
        case c1 =>
          intro j u hj
          match j, hj with
          | 0, hj => simp at hj; subst hj; simp [Addr.add]
        case c2 => intro u hu; simp at hu; subst hu; rfl
        case c3 => unfold maxLen; omega
        case c4 => omega
        case c5 => simp; omega
        intro v' w4 hown' hgrow _
        go_wp2
        go_roundw
        case rel =>
          refine ⟨k1 + 1, by omega, by go_num, ?_, ?_⟩
          · rw [HFL.out, HFK.out, vnats_snoc]; exact hown'
          · exact (hBr.alloc (by omega) _).grown hgrow (by simp; omega) (fun r e => (World.ownsRow.lt hown r e).1)
        case measure => simp [intOf]; omega
      · have f1 : ((k1 : Int) == (pi : Int)) = false := by simp; omega
        have HY := Lib.hid (HHAS.out (k1 : Int))
        rw [f1] at hPe
        cases hh : hasL zi (k1 : Int)
        · rw [hh] at HY hPe
          have hPk : P k1 = false := by rw [← hPe]; rfl
          clear hPe e1 hh
          have HFK := Lib.hid (HFN.out hPk)
          clear hPk
          generalize (List.range k1).filter P = g at *
          go_wp2_with fail
          refine (HY.out _ HRD.out).mono ?_
          rintro e wx ⟨rfl, rfl⟩
          go_wp2
          go_roundw
          case rel => exact ⟨k1 + 1, by omega, by go_num, by rw [HFK.out]; exact hown, hBr⟩
          case measure => simp [intOf]; omega
        · rw [hh] at HY hPe
          by_cases e2 : k1 = n
          · have f2 : ((k1 : Int) != (n : Int)) = false := by simp [e2]
            have hPk : P k1 = false := by rw [← hPe, e2]; simp
            clear hPe e1 e2 hh
            have HFK := Lib.hid (HFN.out hPk)
            clear hPk
            generalize (List.range k1).filter P = g at *
            go_wp2_with fail
            refine (HY.out _ HRD.out).mono ?_
            rintro e wx ⟨rfl, rfl⟩
            go_wp2
            go_roundw
            case rel => exact ⟨k1 + 1, by omega, by go_num, by rw [HFK.out]; exact hown, hBr⟩
            case measure => simp [intOf]; omega
          · have f2 : ((k1 : Int) != (n : Int)) = true := by simp; omega
            have hPk : P k1 = true := by rw [← hPe]; simp [e2]
            clear hPe e1 e2 hh
            have HFK := Lib.hid (HFY.out hPk)
            have HFL : Hid (((List.range (k1 + 1)).filter P).length = ((List.range k1).filter P).length + 1) := Lib.hid (by rw [HFK.out]; simp)
            clear hPk
            generalize (List.range k1).filter P = g at *
            go_wp2_with fail
            refine (HY.out _ HRD.out).mono ?_
            rintro e wx ⟨rfl, rfl⟩
            go_wp2_with (at_builtin; (refine wpList_append_own _ rfl _ _ 36 rfl w3.heap.size 3 i0 (.int .i64 0) 1 8 Tryd.underlying36 hi hz0 hz1 hz2 rfl (by decide) _ _ _ rfl (hown.alloc _) ⟨wr.heap.size, 0, none⟩ 1 1 [.int .i64 (k1 : Int)] rfl rfl ?c1 ?c2 ?c3 ?c4 ?c5 ?_))
            case c1 =>
              intro j u hj
              match j, hj with
              | 0, hj => simp at hj; subst hj; simp [Addr.add]
            case c2 => intro u hu; simp at hu; subst hu; rfl
            case c3 => unfold maxLen; omega
            case c4 => omega
            case c5 => simp; omega
            intro v' w4 hown' hgrow _
            go_wp2
            go_roundw
            case rel =>
              refine ⟨k1 + 1, by omega, by go_num, ?_, ?_⟩
              · rw [HFL.out, HFK.out, vnats_snoc]; exact hown'
              · exact (hBr.alloc (by omega) _).grown hgrow (by simp; omega) (fun r e => (World.ownsRow.lt hown r e).1)
            case measure => simp [intOf]; omega
    · have hkl : k1 = l.length := by omega
      subst hkl
      go_wp2
      go_ret
      exact ⟨_, rfl, World.ownsRow.mono hown (by omega), chain hB3 hBr⟩

end Go.Proofs.YtjnbjegopddhgaaDoor
