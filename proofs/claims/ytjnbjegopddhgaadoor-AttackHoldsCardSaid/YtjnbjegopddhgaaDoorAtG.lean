/- Attacks, by the document's own functions: the piece that pins a piece. -/
import Derived.Test.YtjnbjegopddhgaaDoorAtE

namespace Go.Proofs.YtjnbjegopddhgaaDoor
open Go.RowKit Go.Sort

theorem kingV_at {F R : Int} {l : List Int} {bl : Bool} (hb : vbd F R l) (h : 0 ≤ kingV l bl) : vat F R (kingV l bl) := by
  unfold kingV at *
  split at h
  · rename_i h1
    rw [if_pos h1]
    have h2 : (kingL l bl)[0]?.getD 0 ∈ kingL l bl := by
      rw [List.getElem?_eq_getElem (show 0 < (kingL l bl).length by omega)]
      exact List.getElem_mem _
    have h3 := idx_lt h2
    have h4 := hb.2.1
    exact ⟨hb.1, by omega, by omega⟩
  · omega
theorem vbd_set {F R : Int} {l : List Int} (n : Nat) (h : vbd F R l) : vbd F R (l.set n 0) := by
  obtain ⟨h1, h2, h3⟩ := h
  refine ⟨h1, by simpa using h2, fun j hj => ?_⟩
  simp at hj
  rw [List.getElem?_set]
  split
  · split
    · show okP 0; unfold okP; omega
    · rename_i e h; subst e; omega
  · exact h3 j hj
theorem orA_set {l : List Int} (n : Nat) (h : orA l = true) : orA (l.set n 0) = true := by
  unfold orA at *
  rw [List.all_eq_true] at *
  intro x hx
  rcases List.mem_or_eq_of_mem_set hx with h1 | rfl
  · exact h x h1
  · rfl
theorem SrcI.rdI {w : World} {A : Option Addr} {l : List Nat} {c : Nat} (h : SrcI w A l c) : RdI w w.heap.size A (l.map fun i : Nat => (i : Int)) := fun hl => by
  cases A with
  | none => have := (h.1 rfl).1; simp at hl; omega
  | some ad =>
    obtain ⟨h1, h2⟩ := h.2 ad rfl
    refine ⟨ad, rfl, h1, fun j u hu => h2 j _ ?_⟩
    unfold vnats
    rw [List.getElem?_map] at hu ⊢
    cases hj : l[j]? with
    | none => rw [hj] at hu; simp at hu
    | some x => rw [hj] at hu; simp at hu; subst hu; rfl

/-- the first number of a list that is not in another one, or -1. -/
def firstNo (before after : List Nat) : Int := ((after.find? fun i : Nat => !hasL (before.map fun i : Nat => (i : Int)) (i : Int)).map fun i : Nat => (i : Int)).getD (-1)
theorem firstNo_hit {b a : List Nat} {k : Nat} (hk : k < a.length) (h : ∀ j (hj : j < k), hasL (b.map fun i : Nat => (i : Int)) ((a[j]'(by omega) : Nat) : Int) = true) (hn : hasL (b.map fun i : Nat => (i : Int)) ((a[k] : Nat) : Int) = false) : firstNo b a = ((a[k] : Nat) : Int) := by
  unfold firstNo
  have : a.find? (fun i : Nat => !hasL (b.map fun i : Nat => (i : Int)) (i : Int)) = some a[k] := by
    rw [List.find?_eq_some_iff_getElem]
    refine ⟨by simp [hn], k, hk, rfl, fun j hj => ?_⟩
    simp [h j hj]
  rw [this]
  rfl
theorem firstNo_none {b a : List Nat} (h : ∀ j (hj : j < a.length), hasL (b.map fun i : Nat => (i : Int)) ((a[j] : Nat) : Int) = true) : firstNo b a = -1 := by
  unfold firstNo
  have : a.find? (fun i : Nat => !hasL (b.map fun i : Nat => (i : Int)) (i : Int)) = none := by
    rw [List.find?_eq_none]
    intro x hx
    obtain ⟨j, hj, rfl⟩ := List.getElem_of_mem hx
    simp [h j hj]
  rw [this]
  rfl
/-- the square of the piece that pins the piece on a square, or -1. -/
def pinV (F R : Int) (l : List Int) (n : Nat) : Int :=
  if (n : Int) = kingV l (decide (l[n]?.getD 0 < 0)) then -1
  else firstNo (atkL F R l (kingV l (decide (l[n]?.getD 0 < 0))) (decide (0 < l[n]?.getD 0))) (atkL F R (l.set n 0) (kingV l (decide (l[n]?.getD 0 < 0))) (decide (0 < l[n]?.getD 0)))
theorem atkL_len {F R t : Int} {l : List Int} {bl : Bool} (h : l.length ≤ 64) : (atkL F R l t bl).length ≤ 64 := by
  unfold atkL
  exact Nat.le_trans (List.length_filter_le _ _) (Nat.le_trans (idx_len _ _) h)

set_option maxRecDepth 100000 in
set_option maxHeartbeats 4000000 in
theorem rPin_any (F R : Int) (l : List Int) (A : Option Addr) (c : Nat) (n : Nat) (w : World) (hb : vbd F R l) (ho : orA l = true) (hn : n < l.length) (hp0 : l[n]?.getD 0 ≠ 0) (hk0 : 0 ≤ kingV l (decide (l[n]?.getD 0 < 0))) (hA : RdP w w.heap.size A l c) :
    Calls Tryd.prog 23 #[.agg #[.int .i64 F, .int .i64 R, .slice A l.length c], .int .i64 n] w fun e w' => e = .returned (.int .i64 (pinV F R l n)) ∧ Below w.heap.size w w' := by
  have hlen : l.length ≤ 64 := by have := (vsz_mul hb.1).2; have := hb.2.1; omega
  have hkv := kingV_at hb hk0
  obtain ⟨ad, rfl, hbl, hc⟩ := hA.at_ hn
  unfold pinV
  obtain ⟨p, hp⟩ : ∃ p, l[n]?.getD 0 = p := ⟨_, rfl⟩
  rw [hp] at hp0 hk0 hc hkv ⊢
  have HK := Lib.hid (fun w hA => rKing_any F R l (some ad) c (decide (p < 0)) w hlen hA)
  obtain ⟨k, hk⟩ : ∃ k, kingV l (decide (p < 0)) = k := ⟨_, rfl⟩
  rw [hk] at HK hkv ⊢
  have HA1 := Lib.hid (fun w hA => ratkL_any F R l (some ad) c k (decide (0 < p)) w hb ho hkv hA)
  have HA2 := Lib.hid (fun A c w hA => ratkL_any F R (l.set n 0) A c k (decide (0 < p)) w (vbd_set n hb) (orA_set n ho) hkv hA)
  have HPU := Lib.hid (fun w hA => rPut_any F R l (some ad) c n 0 w (by omega) hn hA)
  have h1l := atkL_len (F := F) (R := R) (t := k) (bl := decide (0 < p)) hlen
  have h2l := atkL_len (F := F) (R := R) (t := k) (bl := decide (0 < p)) (show (l.set n 0).length ≤ 64 by simpa using hlen)
  have hz : (p == 0) = false := beq_eq_false_iff_ne.2 hp0
  generalize atkL F R l k (decide (0 < p)) = za at *
  generalize atkL F R (l.set n 0) k (decide (0 < p)) = zb at *
  have hset : (l.set n 0).length = l.length := by simp
  rw [hset] at HA2
  clear hp hp0 hk0 hk hb ho hset hkv
  have hcA := alive (.cells #[.int .i64 F, .int .i64 R, .slice (some ad) l.length c] 26) hc
  have hAV : RdP (w.alloc (.cells #[.int .i64 F, .int .i64 R, .slice (some ad) l.length c] 26)) w.heap.size (some ad) l c := hA.below (box1 _ _)
  have HAV := Lib.hid (hAV.grow (by simp) : RdP (w.alloc (.cells #[.int .i64 F, .int .i64 R, .slice (some ad) l.length c] 26)) (w.alloc (.cells #[.int .i64 F, .int .i64 R, .slice (some ad) l.length c] 26)).heap.size (some ad) l c)
  have h0 : (w.alloc (.cells #[.int .i64 F, .int .i64 R, .slice (some ad) l.length c] 26)).cell? ⟨w.heap.size, 0, none⟩ = some (.int .i64 F) ∧ (w.alloc (.cells #[.int .i64 F, .int .i64 R, .slice (some ad) l.length c] 26)).cell? ⟨w.heap.size, 1, none⟩ = some (.int .i64 R) ∧ (w.alloc (.cells #[.int .i64 F, .int .i64 R, .slice (some ad) l.length c] 26)).cell? ⟨w.heap.size, 2, none⟩ = some (.slice (some ad) l.length c) ∧ St w (some ad) l c (w.alloc (.cells #[.int .i64 F, .int .i64 R, .slice (some ad) l.length c] 26)) :=
    ⟨by simp [go_sem], by simp [go_sem], by simp [go_sem], hAV, box1 _ _, by simp⟩
  have H0 := Lib.hid h0
  clear h0 hA hAV hc
  by_cases hnk : (n : Int) = k
  · rw [if_pos hnk]
    have e1 : ((n : Int) == k) = true := by simp [hnk]
    clear hnk
    go_enter Tryd.func23, Tryd.ntmps23
    go_wp2_with fail
    refine (HK.out _ HAV.out).mono ?_
    rintro e w1 ⟨rfl, hb1⟩
    go_wp2
    go_ret
    exact ⟨rfl, after1 hb1⟩
  · rw [if_neg hnk]
    have e1 : ((n : Int) == k) = false := by simp [hnk]
    clear hnk
    go_enter Tryd.func23, Tryd.ntmps23
    go_wp2_with fail
    refine (HK.out _ HAV.out).mono ?_
    rintro e w1 ⟨rfl, hb1⟩
    have h0 := keepS H0.out hb1
    clear hb1 hcA
    go_wp2_with fail
    go_region_held3 (fun w' => w'.cell? ⟨w.heap.size, 0, none⟩ = some (.int .i64 F) ∧ w'.cell? ⟨w.heap.size, 1, none⟩ = some (.int .i64 R) ∧ w'.cell? ⟨w.heap.size, 2, none⟩ = some (.slice (some ad) l.length c) ∧ St w (some ad) l c w')
      (first | assumption | exact keepS2 (by assumption) (by assumption) | exact keepS (by assumption) (by assumption) | exact keepS (by assumption) ((Below.refl _ _).drew))
      (first
        | (go_at_call 25; refine (HPU.out _ (rdS (by assumption))).mono ?_; rintro e w3 ⟨v3, rfl, hown3, hb3⟩; obtain ⟨A3, d3, rfl, _, hR3⟩ := RdP.own hown3; have hs2 := hs1.below hb3)
        | (go_at_call 14; refine (HA2.out _ _ _ hR3).mono ?_; rintro e w4 ⟨v4, rfl, hown4, hb4⟩; obtain ⟨A4, d4, rfl, hs4⟩ := SrcI.own hown4; have hs3 := hs2.below hb4)
        | (go_at_call 14; refine (HA1.out _ (rdS (by assumption))).mono ?_; rintro e w2 ⟨v2, rfl, hown2, hb2⟩; obtain ⟨A2, d2, rfl, hs1⟩ := SrcI.own hown2))
    have hH := (by assumption : w4.cell? ⟨w.heap.size, 0, none⟩ = some (.int .i64 F) ∧ w4.cell? ⟨w.heap.size, 1, none⟩ = some (.int .i64 R) ∧ w4.cell? ⟨w.heap.size, 2, none⟩ = some (.slice (some ad) l.length c) ∧ St w (some ad) l c w4)
    have hB := hH.2.2.2.2.1
    have hRI := hs3.rdI
    clear hH h0 hs3 hs2 hs1 hb4 hb3 hb2 hown4 hown3 hown2 hR3
    obtain ⟨zi, hzi⟩ : ∃ zi : List Int, za.map (fun i : Nat => (i : Int)) = zi := ⟨_, rfl⟩
    have HHAS := Lib.hid (fun (m : Int) => rhasN za m A2 d2 w4 (by omega) hRI)
    have HFH := Lib.hid (fun (j : Nat) (hj : j < zb.length) => firstNo_hit (b := za) hj)
    have HFN := Lib.hid (firstNo_none (b := za) (a := zb))
    rw [hzi] at HHAS HFH HFN
    obtain ⟨fv, hfv⟩ : ∃ fv, firstNo za zb = fv := ⟨_, rfl⟩
    rw [hfv] at HFH HFN
    have HFV := Lib.hid hfv
    clear hzi hRI hfv
    go_wp2
    go_loop [9] (fun i => ∃ j : Nat, j ≤ zb.length ∧ i = .int .i64 j ∧ Hid (∀ q (hq : q < zb.length), q < j → hasL zi ((zb[q] : Nat) : Int) = true)) (fun i => zb.length - (intOf i).toNat)
    case atStart => exact ⟨0, by omega, rfl, Lib.hid (fun q _ hq => by omega)⟩
    case round =>
      obtain ⟨j, hj, rfl, HO⟩ := hrel
      by_cases hlt : j < zb.length
      · obtain ⟨a4, rfl, hbl4, hc4⟩ := hs4.at_ hlt
        have h1 := HFH.out j hlt (fun q hq => HO.out q (by omega) hq)
        have h2 : hasL zi ((zb[j] : Nat) : Int) = true → Hid (∀ q (hq : q < zb.length), q < j + 1 → hasL zi ((zb[q] : Nat) : Int) = true) := fun h => Lib.hid (fun q hq h3 => by
          by_cases e : q = j
          · subst e; exact h
          · exact HO.out q hq (by omega))
        have H1 := Lib.hid h1
        have H2 := Lib.hid h2
        clear h1 h2
        generalize zb[j] = y at *
        have hy := HHAS.out (y : Int)
        cases hb : hasL zi (y : Int)
        · rw [hb] at hy
          have HY := Lib.hid hy
          have HE := Lib.hid (H1.out hb)
          clear hb hy
          go_wp2_with fail
          refine (HY.out).mono ?_
          rintro e wx ⟨rfl, rfl⟩
          go_wp2
          go_ret
          exact ⟨ret_int (by rw [HFV.out, HE.out]), hB⟩
        · rw [hb] at hy
          have HY := Lib.hid hy
          have HE := Lib.hid (H2.out hb)
          clear hb hy
          go_wp2_with fail
          refine (HY.out).mono ?_
          rintro e wx ⟨rfl, rfl⟩
          go_wp2
          go_round
          case rel => exact ⟨j + 1, by omega, by go_num, HE.out⟩
          case measure => simp [intOf]; omega
      · have hje : j = zb.length := by omega
        subst hje
        have HE := Lib.hid (HFN.out (fun q hq => HO.out q hq hq))
        go_wp2
        go_ret
        exact ⟨ret_int (by rw [HFV.out, HE.out]), hB⟩

end Go.Proofs.YtjnbjegopddhgaaDoor

/- Attacks, by the document's own functions: the pinned pieces of a side. -/
namespace Go.Proofs.YtjnbjegopddhgaaDoor
open Go.RowKit Go.Sort

theorem side_sgn {l : List Int} {n : Nat} {bl : Bool} (h : n ∈ idx (sdP (sdN bl)) l) : decide (l[n]?.getD 0 < 0) = bl ∧ l[n]?.getD 0 ≠ 0 := by
  have h2 := (idx_mem.1 h).2
  unfold sdP sgnP at h2
  generalize l[n]?.getD 0 = x at *
  by_cases h3 : x < 0
  · rw [if_pos h3] at h2
    cases bl <;> simp [sdN] at h2 ⊢ <;> omega
  · rw [if_neg h3] at h2
    by_cases h4 : 0 < x
    · rw [if_pos h4] at h2
      cases bl <;> simp [sdN] at h2 ⊢ <;> omega
    · rw [if_neg h4] at h2
      cases bl <;> simp [sdN] at h2
/-- the squares of a side's pinned pieces, in order. -/
def pinnedL (F R : Int) (l : List Int) (bl : Bool) : List Nat := (idx (sdP (sdN bl)) l).filter fun n => decide (0 ≤ pinV F R l n)

set_option maxRecDepth 100000 in
set_option maxHeartbeats 4000000 in
theorem rPinned_any (F R : Int) (l : List Int) (A : Option Addr) (c : Nat) (bl : Bool) (w : World) (hb : vbd F R l) (ho : orA l = true) (hk0 : 0 ≤ kingV l bl) (hA : RdP w w.heap.size A l c) :
    Calls Tryd.prog 22 #[.agg #[.int .i64 F, .int .i64 R, .slice A l.length c], .bool bl] w fun e w' => ∃ v, e = .returned v ∧ w'.ownsRow w.heap.size 3 1 v (pinnedL F R l bl).length (vnats (pinnedL F R l bl)) ∧ Below w.heap.size w w' := by
  obtain ⟨i0, hi, hz0, hz1, hz2⟩ := info_parts ints3
  have hlen : l.length ≤ 64 := by have := (vsz_mul hb.1).2; have := hb.2.1; omega
  have H1 := Lib.hid (fun w hA => rSideL_any F R l A c (sdN bl) w (by omega) hb.2.2 hA)
  have HATT := Lib.hid (fun n w (hn : n ∈ idx (sdP (sdN bl)) l) hA => rPin_any F R l A c n w hb ho (idx_lt hn).1 (side_sgn hn).2 (by rw [(side_sgn hn).1]; exact hk0) hA)
  have hzl : (idx (sdP (sdN bl)) l).length ≤ 64 := Nat.le_trans (idx_len _ _) hlen
  unfold pinnedL
  have HRS := Lib.hid (rside_any bl)
  generalize sdN bl = s at *
  clear hb ho hk0
  obtain ⟨P, hP⟩ : ∃ P : Nat → Bool, (fun n : Nat => decide (0 ≤ pinV F R l n)) = P := ⟨_, rfl⟩
  have HPP := Lib.hid hP
  rw [hP]
  clear hP
  go_enter Tryd.func22, Tryd.ntmps22
  go_wp2_with fail
  obtain ⟨V, hV⟩ : ∃ V, w.alloc (.cells #[.int .i64 F, .int .i64 R, .slice A l.length c] 26) = V := ⟨_, rfl⟩
  have h0 : V.cell? ⟨w.heap.size, 0, none⟩ = some (.int .i64 F) ∧ V.cell? ⟨w.heap.size, 1, none⟩ = some (.int .i64 R) ∧ V.cell? ⟨w.heap.size, 2, none⟩ = some (.slice A l.length c) ∧ St w A l c V := by
    rw [← hV]
    exact ⟨by simp [go_sem], by simp [go_sem], by simp [go_sem], hA.below (box1 _ _), box1 _ _, by simp⟩
  rw [hV]
  clear hV hA
  go_region_held3 (fun w' => w'.cell? ⟨w.heap.size, 0, none⟩ = some (.int .i64 F) ∧ w'.cell? ⟨w.heap.size, 1, none⟩ = some (.int .i64 R) ∧ w'.cell? ⟨w.heap.size, 2, none⟩ = some (.slice A l.length c) ∧ St w A l c w')
    (first | assumption | exact keepS2 (by assumption) (by assumption) | exact keepS (by assumption) (by assumption) | exact keepS (by assumption) ((Below.refl _ _).drew))
    (first
      | (go_at_call 39; refine (HRS.out _).mono ?_; rintro e wx ⟨rfl, rfl⟩)
      | (go_at_call 38; refine (H1.out _ (rdS (by assumption))).mono ?_; rintro e w1 ⟨v1, rfl, hown1, hb1⟩; obtain ⟨A1, d1, rfl, hs1⟩ := SrcI.own hown1))
  have hH := (by assumption : w1.cell? ⟨w.heap.size, 0, none⟩ = some (.int .i64 F) ∧ w1.cell? ⟨w.heap.size, 1, none⟩ = some (.int .i64 R) ∧ w1.cell? ⟨w.heap.size, 2, none⟩ = some (.slice A l.length c) ∧ St w A l c w1)
  obtain ⟨c0, c1, c2, hR, hB, hsz⟩ := hH
  obtain ⟨z, hz⟩ : ∃ z, idx (sdP s) l = z := ⟨_, rfl⟩
  rw [hz] at hs1 HATT hzl ⊢
  have HZ := Lib.hid hz
  clear hz h0 hb1 hown1
  go_wp2
  go_loopw [5, 7] (fun v i wr => ∃ k : Nat, k ≤ z.length ∧ i = .int .i64 k ∧ wr.ownsRow w1.heap.size 3 1 v ((z.take k).filter P).length (vnats ((z.take k).filter P)) ∧ Below w1.heap.size w1 wr) (fun _ i _ => z.length - (intOf i).toNat)
  case atStart => exact ⟨0, by omega, rfl, World.ownsRow_nil _ _ _ _, Below.refl _ _⟩
  case round =>
    obtain ⟨k, hk, rfl, hown, hBr⟩ := hrel
    have s2 := hBr.size
    by_cases hlt : k < z.length
    · obtain ⟨ad, rfl, hbl, hc⟩ := hs1.at_ hlt
      have d0 := cBo hBr c0
      have d1 := cBo hBr c1
      have d2 := cBo hBr c2
      have dc := cBo hBr hc
      have hmem : z[k] ∈ z := List.getElem_mem hlt
      have hfy := fun h => take_filter_yes (P := P) hlt h
      have hfn := fun h => take_filter_no (P := P) hlt h
      have hfl := filter_len (P := P) (z := z) k
      obtain ⟨y, hy⟩ : ∃ y, z[k] = y := ⟨_, rfl⟩
      rw [hy] at dc hmem hfy hfn
      have HFY := Lib.hid hfy
      have HFN := Lib.hid hfn
      have hPy : decide (0 ≤ pinV F R l y) = P y := by rw [← HPP.out]
      have HPY := Lib.hid hPy
      have HQ := Lib.hid (HATT.out y)
      generalize pinV F R l y = pv at *
      have HRD := Lib.hid hR
      clear hy hc hfy hfn hPy
      have q0 := cell_regrown d0
      have q1 := cell_regrown d1
      have q2 := cell_regrown d2
      have qc := cell_regrown dc
      have cA : ∀ d os, Calls Tryd.prog 23 #[.agg #[.int .i64 F, .int .i64 R, .slice A l.length c], .int .i64 y] (grow (redrawn wr d) os) fun e w'' => e = .returned (.int .i64 pv) ∧ ∃ q : Regrown, w'' = grow (redrawn wr q.d) q.os := fun d os => Calls.regrown_of (HQ.out _ hmem (((HRD.out.below (hBr.mono (by omega))).below ((below_regrown wr d os).mono (by omega))).grow (by have := (below_regrown wr d os).size; omega)))
      clear d0 d1 d2 dc hmem
      cases hb : P y
      · have HFK := Lib.hid (HFN.out hb)
        have hd : decide (0 ≤ pv) = false := HPY.out.trans hb
        clear hb
        generalize (z.take k).filter P = g at *
        go_wp2
        refine wp_region_quiet_below (by kernel_rfl) (by kernel_rfl) ?_
        repeat (go_big_quiet_step ((go_at_call 23; exact cA _ _)))
        refine wpQuiet_nil ?_
        intro _ hw'
        obtain ⟨⟨dq, osq⟩, hw''⟩ := hw'
        subst hw''
        have hRg := below_regrown wr dq osq
        have hown2 := own_below hown hRg
        have hB2 := hBr.trans (hRg.mono s2)
        clear hown hBr hRg
        go_wp2
        go_roundw
        case rel => exact ⟨k + 1, by omega, by go_num, by rw [HFK.out]; exact hown2, hB2⟩
        case measure => simp [intOf]; omega
      · have HFK := Lib.hid (HFY.out hb)
        have HFL : Hid (((z.take (k + 1)).filter P).length = ((z.take k).filter P).length + 1) := Lib.hid (by rw [HFK.out]; simp)
        have hd : decide (0 ≤ pv) = true := HPY.out.trans hb
        clear hb
        generalize (z.take k).filter P = g at *
        go_wp2
        refine wp_region_quiet_below (by kernel_rfl) (by kernel_rfl) ?_
        repeat (go_big_quiet_step ((go_at_call 23; exact cA _ _)))
        refine wpQuiet_nil ?_
        intro _ hw'
        obtain ⟨⟨dq, osq⟩, hw''⟩ := hw'
        subst hw''
        have hRg := below_regrown wr dq osq
        have hown2 := own_below hown hRg
        have hB2 := hBr.trans (hRg.mono s2)
        have hsz2 := hRg.size
        have ec := qc dq osq
        clear hown hBr hRg q0 q1 q2 qc cA
        generalize grow (redrawn wr dq) osq = wc at *
        go_wp2_with (at_builtin; (refine wpList_append_own _ rfl _ _ 36 rfl w1.heap.size 3 i0 (.int .i64 0) 1 8 Tryd.underlying36 hi hz0 hz1 hz2 rfl (by decide) _ _ _ rfl (hown2.alloc _) ⟨wc.heap.size, 0, none⟩ 1 1 [.int .i64 (y : Int)] rfl rfl ?c1 ?c2 ?c3 ?c4 ?c5 ?_))
        case c1 =>
          intro j u hj
          match j, hj with
          | 0, hj => simp at hj; subst hj; simp [Addr.add]
        case c2 => intro u hu; simp at hu; subst hu; rfl
        case c3 => unfold maxLen; omega
        case c4 => omega
        case c5 => simp; omega
        intro v' w3 hown' hgrow _
        go_wp2
        go_roundw
        case rel =>
          refine ⟨k + 1, by omega, by go_num, ?_, ?_⟩
          · rw [HFL.out, HFK.out, vnats_snoc]; exact hown'
          · exact (hB2.alloc (by omega) _).grown hgrow (by simp; omega) (fun r e => (World.ownsRow.lt hown2 r e).1)
        case measure => simp [intOf]; omega
    · have hkl : k = z.length := by omega
      have HE : Hid (z.filter P = (z.take k).filter P) := Lib.hid (by rw [hkl, List.take_length])
      subst hkl
      go_wp2
      go_ret
      exact ⟨_, rfl, by rw [HZ.out, HE.out]; exact World.ownsRow.mono hown (by omega), chain hB hBr⟩

end Go.Proofs.YtjnbjegopddhgaaDoor
