/- The squares between two squares, by the program. -/
import Derived.RangeFuncFrom
import Derived.Test.YtejlbjbmpdddkaaDoorRpN
namespace Go.Proofs.YtejlbjbmpdddkaaDoor
open Go.RowKit Go.Shelf
attribute [local go_sem] Oper.semAt_some

theorem setCell_heap (w : World) (p : Addr) (v : Value) {k : Nat} (h : p.block ≠ k) : (w.setCell p v).heap[k]? = w.heap[k]? := by
  exact Below.heap_setCell _ _ _ _ (fun e => h e.symm)
theorem bef_pre {L l : List Nat} {x : Nat} {b : Int} (h : l ++ [x] <+: L) (hne : ∀ i ∈ l, (i : Int) ≠ b) (hx : (x : Int) = b) : befL L b = l := by
  obtain ⟨t, rfl⟩ := h
  rw [bef_hit (k := l.length) (by simp) (fun j hj => by
    rw [List.getElem_append_left (by simp; omega), List.getElem_append_left hj]
    exact hne _ (List.getElem_mem hj)) (by simpa using hx)]
  rw [List.append_assoc, List.take_left' rfl]
set_option maxRecDepth 100000 in
set_option maxHeartbeats 2000000 in
theorem pBet_in (F R a b : Int) (ha : vat F R a) (hb : vat F R b) (hl : lineB F a b = true) (w : World) :
    CallsIn Fence.wide 6 Tryd.prog 11 #[.agg #[.int .i64 F, .int .i64 R], .int .i64 a, .int .i64 b] w fun e w' => e = .returned (.tuple #[.int .u64 (ofL (betL F R a b) : Int), .int .i64 0]) ∧ Below w.heap.size w w' := by
  have hv := ha.1
  have hD := pDir_yes F R a b ha hb
  rw [if_pos hl] at hD
  have HD := Lib.hid hD
  have hab : a ≠ b := by
    intro e
    unfold lineB at hl
    rw [e] at hl
    simp at hl
  have hdir := Lib.hid (dir_ne ha hb hab)
  have s0 := sg_bd (b % F - a % F)
  have s1 := sg_bd (b / F - a / F)
  have hbet : betL F R a b = befL (rayL F R (a % F) (a / F) (sg (b % F - a % F)) (sg (b / F - a / F))) b := rfl
  have hmem : b.toNat ∈ rayL F R (a % F) (a / F) (sg (b % F - a % F)) (sg (b / F - a / F)) := by
    obtain ⟨m, m8, hm, hP, hNb, _⟩ := line_ray ha hb hl
    obtain ⟨h1, h2⟩ := rayL_has m8 hP
    have : b.toNat = rayNum F (a % F) (a / F) (sg (b % F - a % F)) (sg (b / F - a / F)) m := by omega
    rw [this, ← h2]
    exact List.getElem_mem h1
  rw [hbet]
  generalize sg (b % F - a % F) = f at *
  generalize sg (b / F - a / F) = r at *
  have hRI : RayIs F R a f r (rayL F R (a % F) (a / F) f r) := .inl ⟨ha, hdir.out, rfl⟩
  have hb0 := hb.2.1
  have H64 := Lib.hid (fun pre : List (El (rayL F R (a % F) (a / F) f r)) => vl_64 hv (pre := pre))
  have HLT := Lib.hid (fun i hi => rayL_lt (F := F) (R := R) (x := a % F) (y := a / F) (f := f) (r := r) hv i hi)
  obtain ⟨m0, m1⟩ := vsz_mul hv
  generalize rayL F R (a % F) (a / F) f r = L at *
  have HM := Lib.hid hmem
  clear hbet hD ha hb hl hab hmem
  refine callsIn_of_wp_marks Tryd.func11 rfl trivial ?_ rfl
  simp only [Tryd.ntmps11, List.size_toArray, List.length_cons, List.length_nil, Nat.reduceAdd, Nat.reduceSub, Array.replicate_succ, Array.replicate_zero, List.push_toArray, List.append_toArray, List.nil_append, List.cons_append]
  gi_wp2_with fail
  refine ⟨trivial, callsIn_wide.2 ((HD.out _).mono ?_)⟩
  rintro e w1 ⟨rfl, hb1⟩
  have z1 := hb1.size
  simp at z1
  have a0 := hb1.cell (p := ⟨w.heap.size, 0, none⟩) (by simp; omega)
  have a1 := hb1.cell (p := ⟨w.heap.size, 1, none⟩) (by simp; omega)
  have a2 := hb1.cell (p := ⟨w.heap.size + 1, 0, none⟩) (by simp)
  simp [go_sem] at a0 a1 a2
  have hB1 : Below w.heap.size w w1 := by
    refine Below.trans ?_ (hb1.mono (by simp; omega))
    go_grown
  clear hb1
  have e0 := alive (.cells #[.int .u64 0] 32) a0
  have e1 := alive (.cells #[.int .u64 0] 32) a1
  have e2 := alive (.cells #[.int .u64 0] 32) a2
  have hB2 : Below w.heap.size w (w1.alloc (.cells #[.int .u64 0] 32)) := hB1.alloc hB1.size _
  gi_wp2_with fail
  refine ⟨trivial, callsIn_wide.2 ((pRay_any F R a f r _).mono ?_)⟩
  rintro e w2 ⟨rfl, rfl⟩
  gi_wp2_with fail
  obtain ⟨V, hV⟩ : ∃ V, ((((w1.alloc (.cells #[.int .u64 0] 32)).alloc (.cells #[.int .i64 F, .int .i64 R] 23)).alloc (.cells #[.int .i64 a] 3)).alloc (.cells #[.int .i64 f] 3)).alloc (.cells #[.int .i64 r] 3) = V := ⟨_, rfl⟩
  have v0 : V.cell? ⟨w1.heap.size, 0, none⟩ = some (.int .u64 ((ofL [] : Nat) : Int)) := by rw [← hV]; exact alive _ (alive _ (alive _ (alive _ (by simp [go_sem]; rfl))))
  have v1 : V.frozen? ⟨w1.heap.size, 0, none⟩ = false := by rw [← hV]; simp [go_sem]
  have v2 : V.cell? ⟨w.heap.size + 1, 0, none⟩ = some (.int .i64 b) := by rw [← hV]; exact alive _ (alive _ (alive _ (alive _ e2)))
  have x0 : V.cell? ⟨w1.heap.size + 1, 0, none⟩ = some (.int .i64 F) := by rw [← hV]; simp [go_sem]
  have x1 : V.cell? ⟨w1.heap.size + 1, 1, none⟩ = some (.int .i64 R) := by rw [← hV]; simp [go_sem]
  have x2 : V.cell? ⟨w1.heap.size + 1 + 1, 0, none⟩ = some (.int .i64 a) := by rw [← hV]; simp [go_sem]
  have x3 : V.cell? ⟨w1.heap.size + 1 + 1 + 1, 0, none⟩ = some (.int .i64 f) := by rw [← hV]; simp [go_sem]
  have x4 : V.cell? ⟨w1.heap.size + 1 + 1 + 1 + 1, 0, none⟩ = some (.int .i64 r) := by rw [← hV]; simp [go_sem]
  have hVs : V.heap.size = w1.heap.size + 5 := by rw [← hV]; simp
  have hVB : Below w.heap.size w V := by
    rw [← hV]
    refine (((hB2.alloc (by simp; omega) _).alloc (by simp; omega) _).alloc (by simp; omega) _).alloc (by simp; omega) _
  rw [hV]
  clear hV e0 e1 e2 hB2 a0 a1 a2
  apply wpIn_rangeFunc_ownF rfl (by omega) (gf := 26) (lb := #[.pointer (some ⟨w1.heap.size + 1, 0, none⟩), .pointer (some ⟨w1.heap.size + 1 + 1, 0, none⟩), .pointer (some ⟨w1.heap.size + 1 + 1 + 1, 0, none⟩), .pointer (some ⟨w1.heap.size + 1 + 1 + 1 + 1, 0, none⟩)]) rfl trivial (enters_of Tryd.func26 (by kernel_rfl) rfl)
    (ray_stops (6 - 1) (w1.heap.size + 1) w.heap.size F R a f r L hRI (by omega) (by omega) (by omega) (by omega) (by omega) V (by omega) (by omega) x0 x1 x2 x3 x4) kpR_t (kpR_b (by omega) (by omega)) (Below.refl _ _) (fun _ => rfl)
    (fun pre W => ((W.cell? ⟨w1.heap.size, 0, none⟩ = some (.int .u64 (ofL (vl pre) : Int)) ∧ W.frozen? ⟨w1.heap.size, 0, none⟩ = false ∧ W.cell? ⟨w.heap.size + 1, 0, none⟩ = some (.int .i64 b)) ∧ (w1.heap.size < W.heap.size ∧ Below w.heap.size w W)) ∧ (∀ i ∈ vl pre, (i : Int) ≠ b))
    (fun cc pre W => (W.cell? ⟨w1.heap.size, 0, none⟩ = some (.int .u64 (ofL (vl pre.dropLast) : Int)) ∧ (w1.heap.size < W.heap.size ∧ Below w.heap.size w W)) ∧ (cc = .exit 0 ∧ (∀ i ∈ vl pre.dropLast, (i : Int) ≠ b) ∧ ∃ q x, pre = q ++ [x] ∧ (x.1 : Int) = b))
    (OwnFrom.and (OwnFrom.and (Own.from (fun s A B row hs hg hr => ⟨cell_kept hs.1 hg hr, (frozen_kept hs.1 hg hr).trans hs.2.1, cell_kept hs.2.2 hg hr⟩) _) (OwnFrom.and (Own.from (fun s A B row hs hg hr => Nat.lt_of_lt_of_le hs hg.size) _) (ownFrom_below (Nat.le_refl _) (by omega)))) (ownFrom_pure _ _))
    (fun cc => OwnFrom.and (OwnFrom.and (ownFrom_cell _ _) (OwnFrom.and (Own.from (fun s A B row hs hg hr => Nat.lt_of_lt_of_le hs hg.size) _) (ownFrom_below (Nat.le_refl _) (by omega)))) (ownFrom_pure _ _))
    ⟨⟨⟨v0, v1, v2⟩, by omega, hVB⟩, fun i hi => by simp [vl] at hi⟩
  case hassign =>
    intro l x W K hK
    gi_wp2
    exact hK
  case hbody =>
    rintro l pre x W ⟨⟨⟨hS, hSf, hb⟩, hsz, hB⟩, hne⟩ hlen
    have HNE := Lib.hid hne
    clear hne hlen v0 v1 v2 x0 x1 x2 x3 x4 hVB
    have hx64 : x.1 < 64 := by have := HLT.out x.1 x.2; omega
    by_cases hxb : (x.1 : Int) = b
    · have t1 : ((x.1 : Int) == b) = true := by simp [hxb]
      gi_wp2
      exact ⟨keeps_below (Below.refl _ _), ⟨by rw [List.dropLast_concat]; exact hS, hsz, hB⟩, rfl, by rw [List.dropLast_concat]; exact HNE.out, pre, x, rfl, hxb⟩
    · have t1 : ((x.1 : Int) == b) = false := beq_eq_false_iff_ne.2 hxb
      have HX := Lib.hid hxb
      have HP := Lib.hid (or_bitN (ofL (vl pre)) x.1 (H64.out pre) hx64)
      have STEP : Hid (ownPostK (KpR w.heap.size (w1.heap.size + 1))
          (fun pre W => ((W.cell? ⟨w1.heap.size, 0, none⟩ = some (.int .u64 (ofL (vl pre) : Int)) ∧ W.frozen? ⟨w1.heap.size, 0, none⟩ = false ∧ W.cell? ⟨w.heap.size + 1, 0, none⟩ = some (.int .i64 b)) ∧ (w1.heap.size < W.heap.size ∧ Below w.heap.size w W)) ∧ (∀ i ∈ vl pre, (i : Int) ≠ b))
          (fun cc pre W => (W.cell? ⟨w1.heap.size, 0, none⟩ = some (.int .u64 (ofL (vl pre.dropLast) : Int)) ∧ (w1.heap.size < W.heap.size ∧ Below w.heap.size w W)) ∧ (cc = .exit 0 ∧ (∀ i ∈ vl pre.dropLast, (i : Int) ≠ b) ∧ ∃ q x, pre = q ++ [x] ∧ (x.1 : Int) = b))
          (pre ++ [x]) W .normal { tmps := #[], defers := [] }
          (W.setCell ⟨w1.heap.size, 0, none⟩ (.int .u64 (bits .or .u64 (ofL (vl pre)) (bitN x.1)))).drew) := by
        refine ⟨(KeepsOthers.setCell _ _ _).trans (KeepsOthers.drew _), ?_, ⟨⟨?_, ?_, ?_⟩, ?_, ?_⟩, ?_⟩
        · exact ⟨((Below.refl _ _).setCell (p := ⟨w1.heap.size, 0, none⟩) hB1.size _).drew, fun k h0 h1 => setCell_heap _ _ _ (by simp; omega)⟩
        · rw [vl_snoc, ofL_snoc, ← HP.out]
          exact World.cell?_setCell_same W ⟨w1.heap.size, 0, none⟩ _ hS
        · exact (World.frozen?_setCell ..).trans hSf
        · exact (World.cell?_setCell_other W ⟨w1.heap.size, 0, none⟩ ⟨w.heap.size + 1, 0, none⟩ _ (fun e => by injection e; omega)).trans hb
        · show w1.heap.size < (W.setCell _ _).heap.size
          simp
          omega
        · exact (hB.setCell (p := ⟨w1.heap.size, 0, none⟩) hB1.size _).drew
        · rw [vl_snoc]
          intro i hi
          rcases List.mem_append.1 hi with h | h
          · exact HNE.out i h
          · rw [List.mem_singleton.1 h]; exact HX.out
      clear HP hxb
      have hmx : Tryd.prog.follows .mixedOrders = true := by kernel_rfl
      gi_wp2
      gi_region_with_o (refine ⟨trivial, ?_⟩; gi_at_call 32; refine (CallsIn.inRound l (callsIn_wide.2 (pSingle_any _ (by omega) (by omega) _))).mono ?_; rintro e w4 ⟨rfl, rfl⟩)
      all_goals gi_wp2
      all_goals exact STEP.out
  case hdone =>
    rintro D ys W hD hys ⟨⟨⟨hS, _⟩, hsz, hB⟩, hne⟩ hK
    exfalso
    rw [← hys] at HM
    exact hne _ HM.out (by omega)
  case hstop =>
    rintro D cc pre W hD hpre ⟨⟨hS, hsz, hB⟩, rfl, hne, q, x, rfl, hxb⟩ hK
    rw [List.dropLast_concat] at hS hne
    have HE : Hid (befL L b = vl q) := Lib.hid (by
      rw [vl_snoc] at hpre
      exact bef_pre hpre hne hxb)
    clear hne hpre
    gi_wp2
    refine ⟨by simp, .inl ⟨_, _, rfl, run_takeDeferred hK, ?_⟩⟩
    exact ⟨_, results_tmp2 rfl _ _ _, by rw [HE.out]; rfl, hB.trans (belowK_b (Nat.le_refl _) W D _ _ (by omega) hK rfl rfl)⟩

/-- Between, where the squares are on a line. -/
theorem pBet_yes (F R a b : Int) (ha : vat F R a) (hb : vat F R b) (hl : lineB F a b = true) (w : World) :
    Calls Tryd.prog 11 #[.agg #[.int .i64 F, .int .i64 R], .int .i64 a, .int .i64 b] w fun e w' => e = .returned (.tuple #[.int .u64 (ofL (betL F R a b) : Int), .int .i64 0]) ∧ Below w.heap.size w w' :=
  callsIn_wide.1 (pBet_in F R a b ha hb hl w)
set_option maxRecDepth 100000 in
set_option maxHeartbeats 400000 in
theorem pBet_none (F R a b : Int) (ha : vat F R a) (hb : vat F R b) (hl : lineB F a b = false) (w : World) :
    Calls Tryd.prog 11 #[.agg #[.int .i64 F, .int .i64 R], .int .i64 a, .int .i64 b] w fun e w' => e = .returned (.tuple #[.int .u64 0, .int .i64 9]) ∧ Below w.heap.size w w' := by
  have hD := pDir_yes F R a b ha hb
  rw [if_neg (by simp [hl])] at hD
  have HD := Lib.hid hD
  clear hD
  go_enter Tryd.func11, Tryd.ntmps11
  go_wp2_with fail
  refine (HD.out _).mono ?_
  rintro e w1 ⟨rfl, hb1⟩
  go_wp2
  go_ret2
  exact ⟨rfl, after2 hb1⟩
set_option maxRecDepth 100000 in
set_option maxHeartbeats 400000 in
theorem pBet_no (F R a b : Int) (h : ¬ (vat F R a ∧ vat F R b)) (w : World) :
    Calls Tryd.prog 11 #[.agg #[.int .i64 F, .int .i64 R], .int .i64 a, .int .i64 b] w fun e w' => e = .returned (.tuple #[.int .u64 0, .int .i64 2]) ∧ Below w.heap.size w w' := by
  have HD := Lib.hid (pDir_no F R a b h)
  go_enter Tryd.func11, Tryd.ntmps11
  go_wp2_with fail
  refine (HD.out _).mono ?_
  rintro e w1 ⟨rfl, hb1⟩
  go_wp2
  go_ret2
  exact ⟨rfl, after2 hb1⟩

end Go.Proofs.YtejlbjbmpdddkaaDoor
