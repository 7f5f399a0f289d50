/- Attacks, by the program: the king's square; the pieces that give check. -/
import Derived.Test.YtjnbjegopddhgaaDoorFrameT

namespace Go.Proofs.YtjnbjegopddhgaaDoor
open Go.RowKit

theorem listOf_idx (P : Int → Bool) (l : List Int) (h : l.length ≤ 64) : listOf (ofL (idx P l)) = idx P l := by
  have e : List.range 64 = List.range l.length ++ (List.range (64 - l.length)).map (l.length + ·) := by
    rw [← List.range_add]
    congr 1
    omega
  unfold listOf
  rw [e, List.filter_append]
  have h2 : ((List.range (64 - l.length)).map (l.length + ·)).filter (fun i => (ofL (idx P l)).testBit i) = [] := by
    rw [List.filter_eq_nil_iff]
    intro i hi
    rw [ofL_bit]
    simp only [decide_eq_true_eq]
    intro hm
    have := (idx_lt hm).1
    obtain ⟨j, _, rfl⟩ := List.mem_map.1 hi
    omega
  rw [h2, List.append_nil]
  show _ = (List.range l.length).filter (fun i => P (l[i]?.getD 0))
  apply List.filter_congr
  intro i hi
  have hi2 := List.mem_range.1 hi
  rw [ofL_bit, Bool.eq_iff_iff, decide_eq_true_eq, idx_mem]
  exact ⟨fun h => h.2, fun h => ⟨hi2, h⟩⟩
theorem kS_six (l : List Int) (bl : Bool) : kS l bl 6 = ofL (kingL l bl) := by
  unfold kS kingL
  congr 2
  funext p
  cases bl <;> simp [kP, eqP, kgN, sdN]
theorem king_ok {l : List Int} {bl : Bool} (hl : l.length ≤ 64) (h : 0 ≤ kingV l bl) : kgA (kS l bl 6) = .tuple #[.int .i64 (kingV l bl), .int .i64 0] := by
  have e := listOf_idx (eqP (kgN bl)) l hl
  have hc : cntB 64 (kS l bl 6) = (kingL l bl).length := by
    rw [kS_six]
    exact congrArg List.length e
  unfold kingV at h ⊢
  split at h
  · rename_i h1
    rw [if_pos h1]
    unfold kgA
    rw [hc, if_pos h1]
    have hne : kS l bl 6 ≠ 0 := by
      intro e0
      rw [e0] at hc
      rw [h1] at hc
      revert hc
      decide
    have hlt : kS l bl 6 < 2 ^ 64 := idx_64 _ l hl
    have hst := listOf_step hne hlt
    have e2 : listOf (kS l bl 6) = kingL l bl := by rw [kS_six]; exact e
    rw [e2] at hst
    rw [hst]
    rfl
  · omega
theorem king_not {l : List Int} {bl : Bool} (hl : l.length ≤ 64) (h : kingV l bl < 0) : kgA (kS l bl 6) = .tuple #[.int .i64 0, .int .i64 9] := by
  have e := listOf_idx (eqP (kgN bl)) l hl
  have hc : cntB 64 (kS l bl 6) = (kingL l bl).length := by
    rw [kS_six]
    exact congrArg List.length e
  unfold kingV at h
  split at h
  · omega
  · rename_i h1
    unfold kgA
    rw [hc, if_neg h1]

set_option maxRecDepth 100000 in
set_option maxHeartbeats 4000000 in
theorem gKing (F R : Int) (l : List Int) (A : Option Addr) (c : Nat) (bl : Bool) (w : World) (hb : vbd F R l) (ho : orA l = true) (hA : RdP w w.heap.size A l c) (hT : T5 w) (hk : 0 ≤ kingV l bl) :
    Calls Tryd.prog 17 #[.agg #[.int .i64 F, .int .i64 R, .slice A l.length c], .bool bl] w fun e w' => e = .returned (.tuple #[.int .i64 (kingV l bl), .int .i64 0]) ∧ Below w.heap.size w w' := by
  have hL := len18 (F := F) (R := R) (S := sS l) (K := kS l) rfl
  obtain ⟨L, hLL⟩ : ∃ L, fieldC F R (sS l) (kS l) = L := ⟨_, rfl⟩
  rw [hLL] at hL
  have HSV := Lib.hid (fun w hA => surv_yes F R l A c hb ho L hLL w hA)
  have HLY := Lib.hid (fun w => lay18 w hLL)
  have HKG := Lib.hid (fun B w hT hc => aKing_any B (kS l bl 6) bl (idx_64 _ l (vbd_64 hb)) w hT hc)
  rw [king_ok (vbd_64 hb) hk] at HKG
  clear hk
  have HA0 := Lib.hid (rdBo (box1 w (.cells #[.int .i64 F, .int .i64 R, .slice A l.length c] 26)) hA)
  have HT := Lib.hid hT
  clear hA hT hb ho hLL
  go_enter Tryd.func17, Tryd.ntmps17
  go_wp2_with fail
  refine (HSV.out _ HA0.out).mono ?_
  rintro e w1 ⟨rfl, hb1⟩
  obtain ⟨V, hst, hFl, hVb, hVs⟩ := HLY.out w1
  have hs1 := hb1.size
  simp only [World.size_alloc] at hs1
  have c0 := hb1.cell (p := ⟨w.heap.size, 0, none⟩) (by simp)
  have c1 := hb1.cell (p := ⟨w.heap.size, 1, none⟩) (by simp)
  simp [go_sem] at c0 c1
  have hB1 := after1 hb1
  have hBv := chain hB1 hVb
  have d0 := (hVb.cell (World.block_lt_of_cell? _ _ c0)).trans c0
  have d1 := (hVb.cell (World.block_lt_of_cell? _ _ c1)).trans c1
  have HFL := Lib.hid hFl
  have hBV := Lib.hid hBv
  clear hb1 HA0 c0 c1 hVb hB1 HLY hVs hFl hBv
  go_wp2_with fail
  refine (HKG.out _ _ (HT.out.below hBV.out).1 (HFL.out.2.2 bl 6 (by omega))).mono ?_
  rintro e w2 ⟨rfl, rfl⟩
  go_wp2
  go_ret2
  exact ⟨rfl, hBV.out⟩
set_option maxRecDepth 100000 in
set_option maxHeartbeats 4000000 in
theorem gKingN (F R : Int) (l : List Int) (A : Option Addr) (c : Nat) (bl : Bool) (w : World) (hb : vbd F R l) (ho : orA l = true) (hA : RdP w w.heap.size A l c) (hT : T5 w) (hk : kingV l bl < 0) :
    Calls Tryd.prog 17 #[.agg #[.int .i64 F, .int .i64 R, .slice A l.length c], .bool bl] w fun e w' => e = .returned (.tuple #[.int .i64 0, .int .i64 9]) ∧ Below w.heap.size w w' := by
  have hL := len18 (F := F) (R := R) (S := sS l) (K := kS l) rfl
  obtain ⟨L, hLL⟩ : ∃ L, fieldC F R (sS l) (kS l) = L := ⟨_, rfl⟩
  rw [hLL] at hL
  have HSV := Lib.hid (fun w hA => surv_yes F R l A c hb ho L hLL w hA)
  have HLY := Lib.hid (fun w => lay18 w hLL)
  have HKG := Lib.hid (fun B w hT hc => aKing_any B (kS l bl 6) bl (idx_64 _ l (vbd_64 hb)) w hT hc)
  rw [king_not (vbd_64 hb) hk] at HKG
  clear hk
  have HA0 := Lib.hid (rdBo (box1 w (.cells #[.int .i64 F, .int .i64 R, .slice A l.length c] 26)) hA)
  have HT := Lib.hid hT
  clear hA hT hb ho hLL
  go_enter Tryd.func17, Tryd.ntmps17
  go_wp2_with fail
  refine (HSV.out _ HA0.out).mono ?_
  rintro e w1 ⟨rfl, hb1⟩
  obtain ⟨V, hst, hFl, hVb, hVs⟩ := HLY.out w1
  have hs1 := hb1.size
  simp only [World.size_alloc] at hs1
  have c0 := hb1.cell (p := ⟨w.heap.size, 0, none⟩) (by simp)
  have c1 := hb1.cell (p := ⟨w.heap.size, 1, none⟩) (by simp)
  simp [go_sem] at c0 c1
  have hB1 := after1 hb1
  have hBv := chain hB1 hVb
  have d0 := (hVb.cell (World.block_lt_of_cell? _ _ c0)).trans c0
  have d1 := (hVb.cell (World.block_lt_of_cell? _ _ c1)).trans c1
  have HFL := Lib.hid hFl
  have hBV := Lib.hid hBv
  clear hb1 HA0 c0 c1 hVb hB1 HLY hVs hFl hBv
  go_wp2_with fail
  refine (HKG.out _ _ (HT.out.below hBV.out).1 (HFL.out.2.2 bl 6 (by omega))).mono ?_
  rintro e w2 ⟨rfl, rfl⟩
  go_wp2
  go_ret2
  exact ⟨rfl, hBV.out⟩
set_option maxRecDepth 100000 in
set_option maxHeartbeats 4000000 in
theorem gKingE (F R : Int) (l : List Int) (A : Option Addr) (c : Nat) (bl : Bool) (w : World) (hlen : l.length ≤ 64) (hA : RdP w w.heap.size A l c) (hg : ¬ (vbd F R l ∧ orA l = true)) :
    Calls Tryd.prog 17 #[.agg #[.int .i64 F, .int .i64 R, .slice A l.length c], .bool bl] w fun e w' => e = .returned (.tuple #[.int .i64 0, .int .i64 2]) ∧ Below w.heap.size w w' := by
  have hL := len18 (F := 0) (R := 0) (S := zS) (K := zK) rfl
  obtain ⟨L, hLL⟩ : ∃ L, fieldC 0 0 zS zK = L := ⟨_, rfl⟩
  rw [hLL] at hL
  have HSV := Lib.hid (fun w hA => surv_no F R l A c hg L hLL w hlen hA)
  have HLY := Lib.hid (fun w => lay18 w hLL)
  have HA0 := Lib.hid (rdBo (box1 w (.cells #[.int .i64 F, .int .i64 R, .slice A l.length c] 26)) hA)
  clear hA hg hLL hlen
  go_enter Tryd.func17, Tryd.ntmps17
  go_wp2_with fail
  refine (HSV.out _ HA0.out).mono ?_
  rintro e w1 ⟨rfl, hb1⟩
  obtain ⟨V, hst, _, hVb, _⟩ := HLY.out w1
  have hBV := Lib.hid (chain (after1 hb1) hVb)
  clear hb1 HA0 HLY hVb
  go_wp2
  go_ret2
  exact ⟨rfl, hBV.out⟩
set_option maxRecDepth 100000 in
set_option maxHeartbeats 4000000 in
theorem gChk (F R : Int) (l : List Int) (A : Option Addr) (c : Nat) (bl : Bool) (w : World) (hb : vbd F R l) (ho : orA l = true) (hA : RdP w w.heap.size A l c) (hT : T5 w) (hk : 0 ≤ kingV l bl) :
    Calls Tryd.prog 18 #[.agg #[.int .i64 F, .int .i64 R, .slice A l.length c], .bool bl] w fun e w' => e = .returned (.tuple #[.int .u64 (ofL (atkL F R l (kingV l bl) (!bl)) : Int), .int .i64 0]) ∧ Below w.heap.size w w' := by
  have hL := len18 (F := F) (R := R) (S := sS l) (K := kS l) rfl
  obtain ⟨L, hLL⟩ : ∃ L, fieldC F R (sS l) (kS l) = L := ⟨_, rfl⟩
  rw [hLL] at hL
  have HSV := Lib.hid (fun w hA => surv_yes F R l A c hb ho L hLL w hA)
  have HLY := Lib.hid (fun w => lay18 w hLL)
  have HKG := Lib.hid (fun B w hT hc => aKing_any B (kS l bl 6) bl (idx_64 _ l (vbd_64 hb)) w hT hc)
  rw [king_ok (vbd_64 hb) hk] at HKG
  have HAT := Lib.hid (fun B w hT hF => aAtk_any F R (kingV l bl) l (!bl) B hb ho (kingV_at hb hk) w hT hF)
  generalize kingV l bl = kv at *
  clear hk
  have HA0 := Lib.hid (rdBo (box1 w (.cells #[.int .i64 F, .int .i64 R, .slice A l.length c] 26)) hA)
  have HT := Lib.hid hT
  clear hA hT hb ho hLL
  go_enter Tryd.func18, Tryd.ntmps18
  go_wp2_with fail
  refine (HSV.out _ HA0.out).mono ?_
  rintro e w1 ⟨rfl, hb1⟩
  obtain ⟨V, hst, hFl, hVb, hVs⟩ := HLY.out w1
  have hs1 := hb1.size
  simp only [World.size_alloc] at hs1
  have c0 := hb1.cell (p := ⟨w.heap.size, 0, none⟩) (by simp)
  have c1 := hb1.cell (p := ⟨w.heap.size, 1, none⟩) (by simp)
  simp [go_sem] at c0 c1
  have hB1 := after1 hb1
  have hBv := chain hB1 hVb
  have d0 := (hVb.cell (World.block_lt_of_cell? _ _ c0)).trans c0
  have d1 := (hVb.cell (World.block_lt_of_cell? _ _ c1)).trans c1
  have HFL := Lib.hid hFl
  have hBV := Lib.hid hBv
  clear hb1 HA0 c0 c1 hVb hB1 HLY hVs hFl hBv
  go_wp2_with fail
  refine (HKG.out _ _ (HT.out.below hBV.out).1 (HFL.out.2.2 bl 6 (by omega))).mono ?_
  rintro e w2 ⟨rfl, rfl⟩
  go_wp2_with fail
  refine (HAT.out _ _ (HT.out.below hBV.out).2 HFL.out).mono ?_
  rintro e w3 ⟨rfl, hb3⟩
  go_wp2
  go_ret2
  exact ⟨rfl, chain hBV.out hb3⟩
set_option maxRecDepth 100000 in
set_option maxHeartbeats 4000000 in
theorem gChkN (F R : Int) (l : List Int) (A : Option Addr) (c : Nat) (bl : Bool) (w : World) (hb : vbd F R l) (ho : orA l = true) (hA : RdP w w.heap.size A l c) (hT : T5 w) (hk : kingV l bl < 0) :
    Calls Tryd.prog 18 #[.agg #[.int .i64 F, .int .i64 R, .slice A l.length c], .bool bl] w fun e w' => e = .returned (.tuple #[.int .u64 0, .int .i64 9]) ∧ Below w.heap.size w w' := by
  have hL := len18 (F := F) (R := R) (S := sS l) (K := kS l) rfl
  obtain ⟨L, hLL⟩ : ∃ L, fieldC F R (sS l) (kS l) = L := ⟨_, rfl⟩
  rw [hLL] at hL
  have HSV := Lib.hid (fun w hA => surv_yes F R l A c hb ho L hLL w hA)
  have HLY := Lib.hid (fun w => lay18 w hLL)
  have HKG := Lib.hid (fun B w hT hc => aKing_any B (kS l bl 6) bl (idx_64 _ l (vbd_64 hb)) w hT hc)
  rw [king_not (vbd_64 hb) hk] at HKG
  clear hk
  have HA0 := Lib.hid (rdBo (box1 w (.cells #[.int .i64 F, .int .i64 R, .slice A l.length c] 26)) hA)
  have HT := Lib.hid hT
  clear hA hT hb ho hLL
  go_enter Tryd.func18, Tryd.ntmps18
  go_wp2_with fail
  refine (HSV.out _ HA0.out).mono ?_
  rintro e w1 ⟨rfl, hb1⟩
  obtain ⟨V, hst, hFl, hVb, hVs⟩ := HLY.out w1
  have hs1 := hb1.size
  simp only [World.size_alloc] at hs1
  have c0 := hb1.cell (p := ⟨w.heap.size, 0, none⟩) (by simp)
  have c1 := hb1.cell (p := ⟨w.heap.size, 1, none⟩) (by simp)
  simp [go_sem] at c0 c1
  have hB1 := after1 hb1
  have hBv := chain hB1 hVb
  have d0 := (hVb.cell (World.block_lt_of_cell? _ _ c0)).trans c0
  have d1 := (hVb.cell (World.block_lt_of_cell? _ _ c1)).trans c1
  have HFL := Lib.hid hFl
  have hBV := Lib.hid hBv
  clear hb1 HA0 c0 c1 hVb hB1 HLY hVs hFl hBv
  go_wp2_with fail
  refine (HKG.out _ _ (HT.out.below hBV.out).1 (HFL.out.2.2 bl 6 (by omega))).mono ?_
  rintro e w2 ⟨rfl, rfl⟩
  go_wp2
  go_ret2
  exact ⟨rfl, hBV.out⟩
set_option maxRecDepth 100000 in
set_option maxHeartbeats 4000000 in
theorem gChkE (F R : Int) (l : List Int) (A : Option Addr) (c : Nat) (bl : Bool) (w : World) (hlen : l.length ≤ 64) (hA : RdP w w.heap.size A l c) (hg : ¬ (vbd F R l ∧ orA l = true)) :
    Calls Tryd.prog 18 #[.agg #[.int .i64 F, .int .i64 R, .slice A l.length c], .bool bl] w fun e w' => e = .returned (.tuple #[.int .u64 0, .int .i64 2]) ∧ Below w.heap.size w w' := by
  have hL := len18 (F := 0) (R := 0) (S := zS) (K := zK) rfl
  obtain ⟨L, hLL⟩ : ∃ L, fieldC 0 0 zS zK = L := ⟨_, rfl⟩
  rw [hLL] at hL
  have HSV := Lib.hid (fun w hA => surv_no F R l A c hg L hLL w hlen hA)
  have HLY := Lib.hid (fun w => lay18 w hLL)
  have HA0 := Lib.hid (rdBo (box1 w (.cells #[.int .i64 F, .int .i64 R, .slice A l.length c] 26)) hA)
  clear hA hg hLL hlen
  go_enter Tryd.func18, Tryd.ntmps18
  go_wp2_with fail
  refine (HSV.out _ HA0.out).mono ?_
  rintro e w1 ⟨rfl, hb1⟩
  obtain ⟨V, hst, _, hVb, _⟩ := HLY.out w1
  have hBV := Lib.hid (chain (after1 hb1) hVb)
  clear hb1 HA0 HLY hVb
  go_wp2
  go_ret2
  exact ⟨rfl, hBV.out⟩

end Go.Proofs.YtjnbjegopddhgaaDoor

/- Attacks, by the program: all squares that a side attacks. -/
namespace Go.Proofs.YtjnbjegopddhgaaDoor
open Go.RowKit Go.Shelf
attribute [local go_sem] Oper.semAt_some

/-- A RANGE OVER THE SQUARES OF A SET, whose body writes into one box. -/
theorem range_each {X : Nat} (hX : X < 18446744073709551616) {n : Nat} (hn : 2 ≤ n) {g : Operand} {ps : Array Tmp} (hps : ps.size = 1) {assign body : Code} {Q : Exit → Act → World → Prop} {A : Act} {V : World} (b S n₀ : Nat) (hS : n₀ ≤ S) (hV : n₀ ≤ V.heap.size) (h1 : 0 + 1 ≤ n₀) (hb : b < V.heap.size)
    (hg : A.eval g = .func (.func 65) #[] #[.pointer (some ⟨b, 0, none⟩)]) (hc : V.cell? ⟨b, 0, none⟩ = some (.int .u64 X)) (hT : Tab V)
    (G : List (Sq X) → Value) (p : List (Sq X) → Prop) (Gx : List (Sq X) → Value) (px : Code → List (Sq X) → Prop)
    (v0 : V.cell? ⟨S, 0, none⟩ = some (G [])) (v1 : V.frozen? ⟨S, 0, none⟩ = false) (p0 : p []) (a₁ : Sq X → Act)
    (hassign : ∀ (l : Nat) (x : Sq X) (W : World) (K : Act → World → Prop), K (a₁ x) W →
      assign.wpIn (Fence.wide.inRound l) (n - 1 - 1) Tryd.prog (Exit.then K (fun _ _ _ => False)) { tmps := (ps.zip #[Value.int .i64 (x.1 : Int)]).foldl (fun t (p, v) => t.setIfInBounds p v) A.tmps, defers := [] } W)
    (hbody : ∀ (l : Nat) (pre : List (Sq X)) (x : Sq X) (W : World), W.cell? ⟨S, 0, none⟩ = some (G pre) → W.frozen? ⟨S, 0, none⟩ = false → ButS S V W → p pre → pre.length < (listOf X).length → body.wpIn (Fence.wide.inRound l) (n - 1 - 1) Tryd.prog (rayPost S G p Gx px (pre ++ [x]) W) (a₁ x) W)
    (hdone : ∀ (D : Nat) (xs : List (Sq X)) (W : World), V.heap.size ≤ D → vals xs = listOf X → W.cell? ⟨S, 0, none⟩ = some (G xs) → W.frozen? ⟨S, 0, none⟩ = false → ButS S V W → p xs → W.heap[D]? = some (.deferred (some [])) → Q .normal { A with defers := { target := .collected D, args := #[] } :: A.defers } W)
    (hstop : ∀ (D : Nat) (c : Code) (pre : List (Sq X)) (W : World), V.heap.size ≤ D → vals pre <+: listOf X → W.cell? ⟨S, 0, none⟩ = some (Gx pre) → W.frozen? ⟨S, 0, none⟩ = false → ButS S V W → px c pre → W.heap[D]? = some (.deferred (some [])) → c.wpIn Fence.wide n Tryd.prog Q { A with defers := { target := .collected D, args := #[] } :: A.defers } W) :
    (Code.rangeFunc g ps assign body).wpIn Fence.wide n Tryd.prog Q A V := by
  refine wpIn_rangeFunc_ownF rfl (by omega) (gf := 65) hg trivial (enters_of Tryd.func65 (by kernel_rfl) rfl)
    (each_stops (n - 1) b n₀ X (by omega) hX V hb h1 hc hT) belowK_t (belowK_b hV) (Below.refl _ _) (fun _ => hps.symm)
    (fun pre W => (W.cell? ⟨S, 0, none⟩ = some (G pre) ∧ W.frozen? ⟨S, 0, none⟩ = false) ∧ ButS S V W ∧ p pre)
    (fun cc pre W => (W.cell? ⟨S, 0, none⟩ = some (Gx pre) ∧ W.frozen? ⟨S, 0, none⟩ = false) ∧ ButS S V W ∧ px cc pre)
    (OwnFrom.and (ownFrom_box _ _) (OwnFrom.and (ownFrom_but (Nat.le_refl _)) (ownFrom_pure _ _)))
    (fun cc => OwnFrom.and (ownFrom_box _ _) (OwnFrom.and (ownFrom_but (Nat.le_refl _)) (ownFrom_pure _ _)))
    ⟨⟨v0, v1⟩, ButS.refl _ _, p0⟩ a₁ hassign ?_ ?_ ?_
  · rintro l pre x W ⟨⟨hSc, hf⟩, hB, hp⟩ hlen
    refine wpIn_mono (hbody l pre x W hSc hf hB hp hlen) ?_
    intro e a' W' h
    have hV2 : n₀ ≤ W.heap.size := Nat.le_trans hV hB.size
    cases e with
    | normal => exact ⟨keeps_but h.2.1 hSc, h.2.1.below hS hV2, h.1, hB.trans h.2.1, h.2.2⟩
    | ret => exact ⟨keeps_but h.2.1 hSc, h.1, hB.trans h.2.1, h.2.2⟩
    | exit id => exact ⟨keeps_but h.2.1 hSc, h.1, hB.trans h.2.1, h.2.2⟩
    | goto t => exact h.elim
    | panic c => exact h.elim
    | outgrown => exact h.elim
  · rintro D xs W hD hxs ⟨⟨hSc, hf⟩, hB, hp⟩ hK
    exact hdone D xs W hD hxs hSc hf hB hp hK
  · rintro D c pre W hD hpre ⟨⟨hSc, hf⟩, hB, hp⟩ hK
    exact hstop D c pre W hD hpre hSc hf hB hp hK

/-! ### what is added up -/
section
variable (F R : Int) (l : List Int) (bl : Bool)
def orK (q base : Nat) (pre : List Nat) : Nat := pre.foldl (fun a (i : Nat) => a ||| ofL (attL F R q bl i (ofL (occL l)))) base
def accB : Nat → Nat
  | 0 => 0
  | k + 1 => orK F R l bl k (accB k) (listOf (kS l bl k))
end
section
variable {F R : Int} {l : List Int} {bl : Bool}
theorem orK_snoc (q base : Nat) (pre : List Nat) (i : Nat) : orK F R l bl q base (pre ++ [i]) = orK F R l bl q base pre ||| ofL (attL F R q bl i (ofL (occL l))) := by simp [orK]
theorem orK_lt (hv : vsz F R) (q : Nat) : ∀ (pre : List Nat) (base : Nat), base < 18446744073709551616 → orK F R l bl q base pre < 18446744073709551616
  | [], _, h => h
  | _ :: pre, _, h => orK_lt hv q pre _ (Nat.or_lt_two_pow (n := 64) h (attL_64 hv ..))
theorem accB_lt (hv : vsz F R) : ∀ k, accB F R l bl k < 18446744073709551616
  | 0 => by simp [accB]
  | k + 1 => orK_lt hv k _ _ (accB_lt hv k)
theorem orK_bit {q : Nat} {j : Nat} : ∀ (pre : List Nat) (base : Nat), (orK F R l bl q base pre).testBit j = true ↔ base.testBit j = true ∨ ∃ i ∈ pre, j ∈ attL F R q bl (i : Int) (ofL (occL l))
  | [], base => by simp [orK]
  | i :: pre, base => by
    have := orK_bit (q := q) (j := j) pre (base ||| ofL (attL F R q bl i (ofL (occL l))))
    show (orK F R l bl q _ pre).testBit j = true ↔ _
    rw [this, Nat.testBit_or, Bool.or_eq_true, ofL_bit, decide_eq_true_eq]
    simp only [List.mem_cons, exists_eq_or_imp]
    rw [or_assoc]
theorem accB_bit {j : Nat} : ∀ k, (accB F R l bl k).testBit j = true ↔ ∃ q, q < k ∧ ∃ i ∈ listOf (kS l bl q), j ∈ attL F R q bl (i : Int) (ofL (occL l))
  | 0 => by simp [accB]
  | k + 1 => by
    unfold accB
    rw [orK_bit, accB_bit k]
    constructor
    · rintro (⟨q, h1, h2⟩ | h)
      · exact ⟨q, by omega, h2⟩
      · exact ⟨k, by omega, h⟩
    · rintro ⟨q, h1, h2⟩
      by_cases e : q = k
      · subst e; exact .inr h2
      · exact .inl ⟨q, by omega, h2⟩
/-- a piece attacks a square. -/
theorem att_fwd {k n : Nat} {a : Int} {X : Nat} (hk : 1 ≤ k) (hn : (n : Int) < F * R) : attP F R (sdN bl * k) X a n = true ↔ n ∈ attL F R k bl a X := by
  obtain ⟨e1, e2⟩ := sdN_kd (bl := bl) hk
  unfold attP
  rw [e1, e2]
  by_cases h : k = 1
  · subst h
    rw [if_pos (by simp)]
    unfold attL
    rw [if_pos rfl]
    exact hasL_nat
  · rw [if_neg (by omega), mem_att hn, if_neg h]
    by_cases hna : a = (n : Int)
    · subst hna
      rw [reachB_ne]
      simp
    · simp [hna]
theorem accB_all (hb : vbd F R l) (ho : orA l = true) : accB F R l bl 7 = ofL (attackedL F R l bl) := by
  have hl := hb.2.1
  apply Nat.eq_of_testBit_eq
  intro j
  rw [Bool.eq_iff_iff, accB_bit, ofL_bit, decide_eq_true_eq]
  unfold attackedL
  rw [List.mem_filter, List.mem_range, decide_eq_true_eq]
  constructor
  · rintro ⟨q, h1, i, hi, h2⟩
    rw [mem_listOf] at hi
    have hq : q ≠ 0 := by
      rintro rfl
      have := hi.2
      rw [kS_zero] at this
      simp at this
    obtain ⟨h4, h5⟩ := (kS_bit (by omega)).1 hi.2
    have hj : (j : Int) < F * R := by
      unfold attL at h2
      split at h2
      · have := (mem_pick.1 h2).1; omega
      · have := (mem_pick.1 h2).1; omega
    refine ⟨by omega, List.length_pos_of_mem (a := i) ?_⟩
    rw [atk_mem]
    refine ⟨⟨h4, by rw [h5]; exact sdP_kind (by omega)⟩, ?_⟩
    rw [h5]
    exact (att_fwd (by omega) hj).2 h2
  · rintro ⟨h1, h2⟩
    obtain ⟨i, hi⟩ := List.exists_mem_of_length_pos h2
    obtain ⟨⟨h3, h4⟩, h5⟩ := atk_mem.1 hi
    obtain ⟨k, k1, k6, e⟩ := orth_kind (orA_at ho h3) h4
    have hl64 := vbd_64 hb
    refine ⟨k, by omega, i, mem_listOf.2 ⟨by omega, (kS_bit k1).2 ⟨h3, e⟩⟩, ?_⟩
    rw [e] at h5
    exact (att_fwd k1 (by omega)).1 h5
end

end Go.Proofs.YtjnbjegopddhgaaDoor
