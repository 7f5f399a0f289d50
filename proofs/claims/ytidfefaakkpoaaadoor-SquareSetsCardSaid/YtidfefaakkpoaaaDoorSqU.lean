/- Shift: the set whose squares are moved, without those that leave the board. -/
import Derived.Test.YtidfefaakkpoaaaDoorSqS
import Derived.Test.YtidfefaakkpoaaaDoorSqT
import Derived.RangeFuncFrom
import Derived.Test.YtidfefaakkpoaaaDoorSqV
namespace Go.Proofs.YtidfefaakkpoaaaDoor
open Go.RowKit Go.Shelf
attribute [local go_sem] Oper.semAt_some

theorem alive {w : World} (o : Obj) {p : Addr} {v : Value} (h : w.cell? p = some v) : (w.alloc o).cell? p = some v :=
  (World.cell?_alloc_lt w o p (World.block_lt_of_cell? w p h)).trans h
theorem keeps_below {W W' : World} (h : Below W.heap.size W W') : KeepsOthers W W' := ⟨h.size, fun _ _ hk _ => (h.block _ (Array.getElem?_eq_some_iff.1 hk).1).trans hk⟩

set_option maxRecDepth 100000 in
set_option maxHeartbeats 2000000 in
theorem shift_in (F R df dr : Int) (X : Nat) (hv : vsz F R) (hX : X < 2 ^ (F * R).toNat) (_d0 : -8 ≤ df) (_d1 : df ≤ 8) (_e0 : -8 ≤ dr) (_e1 : dr ≤ 8) (fd : -F < df ∧ df < F ∧ -R < dr ∧ dr < R) (w : World) (hT : Tab w) :
    CallsIn Fence.wide 6 Tryd.prog 41 #[.agg #[.int .i64 F, .int .i64 R], .int .u64 X, .int .i64 df, .int .i64 dr] w fun e w' => e = .returned (.tuple #[.int .u64 (ofL (shl F R df dr (listOf X)) : Int), .int .i64 0]) ∧ Below w.heap.size w w' := by
  obtain ⟨m0, m1⟩ := vsz_mul hv
  have hX64 : X < 18446744073709551616 := by
    have : 2 ^ (F * R).toNat ≤ 2 ^ 64 := Nat.pow_le_pow_right (by decide) (by omega)
    simp at this
    omega
  have hnot : (bits .andNot .u64 (X : Int) (fullN (F * R).toNat : Int) != 0) = false := by rw [andNot_full X _ hX64 (by omega)]; simp [hX]
  have hf8 := hv.2.1
  have hr8 := hv.2.2.2
  have hf3 := hv.1
  have hr3 := hv.2.2.1
  refine callsIn_of_wp_marks Tryd.func41 rfl trivial ?_ rfl
  simp only [Tryd.ntmps41, List.size_toArray, List.length_cons, List.length_nil, Nat.reduceAdd, Nat.reduceSub, Array.replicate_succ, Array.replicate_zero, List.push_toArray, List.append_toArray, List.nil_append, List.cons_append]
  gi_wp2_with fail
  refine ⟨trivial, callsIn_wide.2 ((all_yes F R hv _).mono ?_)⟩
  rintro e w1 ⟨rfl, hb1⟩
  have s1 := hb1.size
  simp at s1
  have a0 := hb1.cell (p := ⟨w.heap.size, 0, none⟩) (by simp; omega)
  have a1 := hb1.cell (p := ⟨w.heap.size, 1, none⟩) (by simp; omega)
  have a2 := hb1.cell (p := ⟨w.heap.size + 1, 0, none⟩) (by simp)
  have a3 := hb1.cell (p := ⟨w.heap.size + 1 + 1, 0, none⟩) (by simp)
  simp [go_sem] at a0 a1 a2 a3
  have hB1 : Below w.heap.size w w1 := by
    refine Below.trans ?_ (hb1.mono (by simp; omega))
    go_grown
  clear hb1
  gi_wp2_with fail
  refine ⟨trivial, callsIn_wide.2 ((tooFar_no F df (by omega) (by omega) fd.1 fd.2.1 _).mono ?_)⟩
  rintro e w2 ⟨rfl, rfl⟩
  gi_wp2_with fail
  refine ⟨trivial, callsIn_wide.2 ((tooFar_no R dr (by omega) (by omega) fd.2.2.1 fd.2.2.2 _).mono ?_)⟩
  rintro e w2 ⟨rfl, rfl⟩
  gi_wp2_with fail
  refine ⟨trivial, callsIn_wide.2 ((each_any X _).mono ?_)⟩
  rintro e w2 ⟨rfl, rfl⟩
  gi_wp2_with fail
  have hn1 := hT.1
  have hB0 : Below w.heap.size w ((w1.alloc (.cells #[.int .u64 0] 28)).alloc (.cells #[.int .u64 X] 28)) := by
    refine (hB1.alloc hB1.size _).alloc (by have := hB1.size; simp; omega) _
  refine wpIn_rangeFunc_ownF rfl (by omega) (gf := 74) (lb := #[.pointer (some ⟨w1.heap.size + 1, 0, none⟩)]) rfl trivial (enters_of Tryd.func74 (by kernel_rfl) rfl)
    (each_stops (6 - 1) (w1.heap.size + 1) w.heap.size X (by omega) hX64 ((w1.alloc (.cells #[.int .u64 0] 28)).alloc (.cells #[.int .u64 X] 28)) (by simp) hn1 (by simp [go_sem]) (hT.below hB0 hn1)) belowK_t (belowK_b (by simp; omega)) (Below.refl _ _) (fun _ => rfl)
    (fun pre W => (W.cell? ⟨w1.heap.size, 0, none⟩ = some (.int .u64 (ofL (shl F R df dr (vals pre)) : Int)) ∧ W.frozen? ⟨w1.heap.size, 0, none⟩ = false ∧ W.cell? ⟨w.heap.size, 0, none⟩ = some (.int .i64 F) ∧ W.cell? ⟨w.heap.size, 1, none⟩ = some (.int .i64 R) ∧ W.cell? ⟨w.heap.size + 1, 0, none⟩ = some (.int .i64 df) ∧ W.cell? ⟨w.heap.size + 1 + 1, 0, none⟩ = some (.int .i64 dr)) ∧ (w1.heap.size < W.heap.size ∧ Below w.heap.size w W))
    (fun _ _ _ => False)
    (OwnFrom.and (Own.from (fun s A B row hs hg hr => ⟨cell_kept hs.1 hg hr, (frozen_kept hs.1 hg hr).trans hs.2.1, cell_kept hs.2.2.1 hg hr, cell_kept hs.2.2.2.1 hg hr, cell_kept hs.2.2.2.2.1 hg hr, cell_kept hs.2.2.2.2.2 hg hr⟩) _) (OwnFrom.and (Own.from (fun s A B row hs hg hr => Nat.lt_of_lt_of_le hs hg.size) _) (ownFrom_below (Nat.le_refl _) (by simp; omega))))
    (fun _ _ _ _ _ hs _ _ => hs)
    ⟨⟨by simp [go_sem]; rfl, by simp [go_sem], alive _ (alive _ a0), alive _ (alive _ a1), alive _ (alive _ a2), alive _ (alive _ a3)⟩, by simp; omega, hB0⟩
    (fun x => { tmps := #[.agg #[.int .i64 F, .int .i64 R], .int .u64 X, .int .i64 df, .int .i64 dr, .pointer (some ⟨w.heap.size, 0, none⟩), undef, .pointer (some ⟨w.heap.size + 1, 0, none⟩), .pointer (some ⟨w.heap.size + 1 + 1, 0, none⟩), .int .u64 0, .int .i64 0, .int .u64 (fullN (F * R).toNat), .int .i64 0, .pointer (some ⟨w1.heap.size, 0, none⟩), .int .i64 (x.1 : Int), undef, undef, .tuple #[.int .u64 (fullN (F * R).toNat), .int .i64 0], .agg #[.int .i64 F, .int .i64 R], .tuple #[.int .u64 (fullN (F * R).toNat), .int .i64 0], .int .u64 (fullN (F * R).toNat), .int .i64 0, .int .i64 0, .bool false, undef, .int .u64 X, .int .u64 (fullN (F * R).toNat), .int .u64 (bits .andNot .u64 X (fullN (F * R).toNat)), .bool false, .pointer (some ⟨w.heap.size, 0, none⟩), .int .i64 F, .int .i64 df, .bool false, .bool false, .pointer (some ⟨w.heap.size, 1, none⟩), .int .i64 R, .int .i64 dr, .bool false, .bool false, .int .u64 X, .func (.func 74) #[] #[.pointer (some ⟨w1.heap.size + 1, 0, none⟩)], .int .i64 (x.1 : Int), undef, undef, undef, undef, undef, undef, undef, undef, undef, undef, undef, undef, undef, undef, undef, undef, undef, undef, undef, undef, undef, undef, undef, undef], defers := [] }) ?assign ?body ?done ?stop
  case assign =>
    intro l x W K hK
    gi_wp2
    exact hK
  case body =>
    rintro l pre x W ⟨⟨hS, hSf, hF, hR, hdf, hdr⟩, hsz, hB⟩ hlen
    have hxb := in_board hX x.2
    have hvat : vat F R (x.1 : Int) := ⟨hv, by omega, by omega⟩
    obtain ⟨p0, p1, p2, p3⟩ := place_bd hv hvat.2.1 hvat.2.2
    gi_wp2_with fail
    refine ⟨trivial, CallsIn.inRound l (callsIn_wide.2 ((place_any F R x.1 hvat _).mono ?_))⟩
    rintro e w2 ⟨rfl, hb2⟩
    have c0 := (hb2.cell (p := ⟨w.heap.size, 0, none⟩) (by simp; omega)).trans hF
    have c1 := (hb2.cell (p := ⟨w.heap.size, 1, none⟩) (by simp; omega)).trans hR
    have c2 := (hb2.cell (p := ⟨w.heap.size + 1, 0, none⟩) (by simp; omega)).trans hdf
    have c3 := (hb2.cell (p := ⟨w.heap.size + 1 + 1, 0, none⟩) (by simp; omega)).trans hdr
    have c4 := (hb2.cell (p := ⟨w1.heap.size, 0, none⟩) hsz).trans hS
    have f4 := (hb2.frozen (p := ⟨w1.heap.size, 0, none⟩) hsz).trans hSf
    gi_wp2
    refine quiet_round (by kernel_rfl) (by kernel_rfl) (by kernel_rfl) ?_
    repeat (gi_big_quiet_step (fail))
    refine wpQuietIn_nil ?_
    intro _ hw'
    obtain ⟨nq, hw''⟩ := hw'
    subst hw''
    gi_wp2_with fail
    by_cases hon : onb F R ((x.1 : Int) % F + df) ((x.1 : Int) / F + dr)
    · refine ⟨trivial, CallsIn.inRound l (callsIn_wide.2 ((onBoard_yes F R _ _ hon _).mono ?_))⟩
      rintro e w3 ⟨rfl, hb3⟩
      have hbb : Below W.heap.size W w3 := chain (drawn hb2 _) hb3
      have hss := hbb.size
      have hlt3 : w1.heap.size < w3.heap.size := Nat.lt_of_lt_of_le hsz hss
      have k0 := (hbb.cell (p := ⟨w.heap.size, 0, none⟩) (by simp; omega)).trans hF
      have k1 := (hbb.cell (p := ⟨w.heap.size, 1, none⟩) (by simp; omega)).trans hR
      have k2 := (hbb.cell (p := ⟨w.heap.size + 1, 0, none⟩) (by simp; omega)).trans hdf
      have k3 := (hbb.cell (p := ⟨w.heap.size + 1 + 1, 0, none⟩) (by simp; omega)).trans hdr
      have k4 := (hbb.cell (p := ⟨w1.heap.size, 0, none⟩) hsz).trans hS
      have g4 := (hbb.frozen (p := ⟨w1.heap.size, 0, none⟩) hsz).trans hSf
      have HE := Lib.hid (shl_yes (l := vals pre) hon)
      have hY := shl_64 (F := F) (R := R) (df := df) (dr := dr) hv (l := vals pre)
      obtain ⟨o0, o1, o2, o3⟩ := id hon
      obtain ⟨q0, q1, q2, _, _⟩ := number_bd hv o0 o1 o2 o3
      have HO := Lib.hid hon
      have HP := Lib.hid (or_bitN (ofL (shl F R df dr (vals pre))) (((x.1 : Int) % F + df) + ((x.1 : Int) / F + dr) * F).toNat hY (by omega))
      have nB : w.heap.size ≤ w1.heap.size := hB1.size
      have STEP : Hid (ownPostK (Below w.heap.size)
          (fun pre W => (W.cell? ⟨w1.heap.size, 0, none⟩ = some (.int .u64 (ofL (shl F R df dr (vals pre)) : Int)) ∧ W.frozen? ⟨w1.heap.size, 0, none⟩ = false ∧ W.cell? ⟨w.heap.size, 0, none⟩ = some (.int .i64 F) ∧ W.cell? ⟨w.heap.size, 1, none⟩ = some (.int .i64 R) ∧ W.cell? ⟨w.heap.size + 1, 0, none⟩ = some (.int .i64 df) ∧ W.cell? ⟨w.heap.size + 1 + 1, 0, none⟩ = some (.int .i64 dr)) ∧ (w1.heap.size < W.heap.size ∧ Below w.heap.size w W))
          (fun _ _ _ => False) (pre ++ [x]) W .normal { tmps := #[], defers := [] }
          ((w3.setCell ⟨w1.heap.size, 0, none⟩ (.int .u64 (bits .or .u64 (ofL (shl F R df dr (vals pre))) (bitN (((x.1 : Int) % F + df) + ((x.1 : Int) / F + dr) * F).toNat)))).alloc (.cells #[.int .i64 F, .int .i64 R] 23)).drew) := by
        have wold : ∀ (b o : Nat) (v : Value), b < w1.heap.size → w3.cell? ⟨b, o, none⟩ = some v → ((w3.setCell ⟨w1.heap.size, 0, none⟩ (.int .u64 (bits .or .u64 (ofL (shl F R df dr (vals pre))) (bitN (((x.1 : Int) % F + df) + ((x.1 : Int) / F + dr) * F).toNat)))).alloc (.cells #[.int .i64 F, .int .i64 R] 23)).drew.cell? ⟨b, o, none⟩ = some v := fun b o v hb hc =>
          alive _ ((World.cell?_setCell_other w3 ⟨w1.heap.size, 0, none⟩ ⟨b, o, none⟩ _ (fun e => by injection e; omega)).trans hc)
        refine ⟨(keeps_below hbb).trans ((KeepsOthers.setCell _ _ _).trans ((KeepsOthers.alloc _ _).trans (KeepsOthers.drew _))), (((hbb.mono (by omega)).setCell (p := ⟨w1.heap.size, 0, none⟩) nB _).alloc (by simp; omega) _).drew, ⟨?_, ?_, wold _ _ _ (by omega) k0, wold _ _ _ (by omega) k1, wold _ _ _ (by omega) k2, wold _ _ _ (by omega) k3⟩, ?_, ((hB.trans ((hbb.mono (by omega)).setCell (p := ⟨w1.heap.size, 0, none⟩) nB _)).alloc (by simp; omega) _).drew⟩
        · rw [vals_snoc, HE.out, ofL_snoc, ← HP.out]
          exact alive _ (World.cell?_setCell_same w3 ⟨w1.heap.size, 0, none⟩ _ k4)
        · have hh : (w3.setCell ⟨w1.heap.size, 0, none⟩ (.int .u64 (bits .or .u64 (ofL (shl F R df dr (vals pre))) (bitN (((x.1 : Int) % F + df) + ((x.1 : Int) / F + dr) * F).toNat)))).frozen? ⟨w1.heap.size, 0, none⟩ = false := (World.frozen?_setCell ..).trans g4
          exact ((box1 _ _).frozen (p := ⟨w1.heap.size, 0, none⟩) (by simp; omega)).trans hh
        · simp
          omega
      clear c0 c1 c2 c3 c4 f4 hon HE HP
      have hmx : Tryd.prog.follows .mixedOrders = true := by kernel_rfl
      gi_wp2
      gi_region_with_o (first
        | (refine ⟨trivial, ?_⟩; gi_at_call 69; refine (CallsIn.inRound l (callsIn_wide.2 (number_ex F R _ _ hv HO.out _))).mono ?_; rintro e w4 ⟨rfl, rfl⟩)
        | (refine ⟨trivial, ?_⟩; gi_at_call 73; refine (CallsIn.inRound l (callsIn_wide.2 (single_any _ (by omega) (by omega) _))).mono ?_; rintro e w4 ⟨rfl, rfl⟩))
      all_goals gi_wp2
      all_goals exact STEP.out
    · refine ⟨trivial, CallsIn.inRound l (callsIn_wide.2 ((onBoard_no F R _ _ hon _).mono ?_))⟩
      rintro e w3 ⟨rfl, hb3⟩
      gi_wp2
      have hbb : Below W.heap.size W w3 := chain (drawn hb2 _) hb3
      have HE := shl_no (l := vals pre) hon
      exact ⟨keeps_below hbb, hbb.mono (by have := hB1.size; omega), ⟨by rw [vals_snoc, HE]; exact (hbb.cell (p := ⟨w1.heap.size, 0, none⟩) hsz).trans hS, (hbb.frozen (p := ⟨w1.heap.size, 0, none⟩) hsz).trans hSf, (hbb.cell (p := ⟨w.heap.size, 0, none⟩) (by simp; omega)).trans hF, (hbb.cell (p := ⟨w.heap.size, 1, none⟩) (by simp; omega)).trans hR, (hbb.cell (p := ⟨w.heap.size + 1, 0, none⟩) (by simp; omega)).trans hdf, (hbb.cell (p := ⟨w.heap.size + 1 + 1, 0, none⟩) (by simp; omega)).trans hdr⟩, Nat.lt_of_lt_of_le hsz hbb.size, hB.trans (hbb.mono (by have := hB1.size; omega))⟩
  case done =>
    rintro D ys W hD hys ⟨⟨hS, _⟩, hsz, hB⟩ hK
    gi_wp2
    refine ⟨by simp, .inl ⟨_, _, rfl, run_takeDeferred hK, ?_⟩⟩
    exact ⟨_, results_tmp2 rfl _ _ _, by rw [← hys]; rfl, hB.trans (belowK_b (Nat.le_refl _) W D _ _ (by have := hB1.size; simp at hD; omega) hK rfl rfl)⟩
  case stop =>
    rintro D c pre W _ _ h _
    exact h.elim

/-- Shift, where no square can leave by too many steps. -/
theorem shift_yes (F R df dr : Int) (X : Nat) (hv : vsz F R) (hX : X < 2 ^ (F * R).toNat) (fd : -F < df ∧ df < F ∧ -R < dr ∧ dr < R) (w : World) (hT : Tab w) :
    Calls Tryd.prog 41 #[.agg #[.int .i64 F, .int .i64 R], .int .u64 X, .int .i64 df, .int .i64 dr] w fun e w' => e = .returned (.tuple #[.int .u64 (ofL (shl F R df dr (listOf X)) : Int), .int .i64 0]) ∧ Below w.heap.size w w' :=
  callsIn_wide.1 (shift_in F R df dr X hv hX (by have := hv.2.1; omega) (by have := hv.2.1; omega) (by have := hv.2.2.2; omega) (by have := hv.2.2.2; omega) fd w hT)

end Go.Proofs.YtidfefaakkpoaaaDoor
