/- Attacks, by the program: Attacked. -/
import Derived.Test.YtjnbjegopddhgaaDoorAuM
import Derived.Test.YtjnbjegopddhgaaDoorAuT

namespace Go.Proofs.YtjnbjegopddhgaaDoor
open Go.RowKit Go.Shelf Go.Sort Go.BigFrame
attribute [local go_sem] Oper.semAt_some

theorem wpIn_store {n : Nat} {P : Program} {o : Oper} {a : Act} {W W2 : World} {K : Act → World → Prop} {Q : Exit → Act → World → Prop} {t : TypeId} {x y : Operand} (ho : o.op = .store t x y) (h : (Instr.storeAt t (a.eval x) (a.eval y)).run P W = .ok () W2) (hk : K (a.put o.dst undef) W2) : o.wpIn Fence.wide n P a W K Q := by
  have e : (execOp a.eval o).run P W = .ok .skip W2 := by
    unfold execOp
    rw [ho]
    simp only [Sem.run_bind, Sem.run_pure, h, Result.andThen]
  unfold Oper.wpIn
  refine ⟨fun _ _ => trivial, ?_⟩
  rw [show Fence.wide.round = none from rfl, Oper.semAt_none, e]
  exact hk
theorem store1 {W : World} {S v : Nat} {u : Value} (hc : W.cell? ⟨S, 0, none⟩ = some u) (hf : W.frozen? ⟨S, 0, none⟩ = false) : (Instr.storeAt 30 (.pointer (some ⟨S, 0, none⟩)) (.int .u64 (v : Int))).run Tryd.prog W = .ok () (W.setCell ⟨S, 0, none⟩ (.int .u64 (v : Int))) := by
  simp [go_sem, hc, hf]

set_option maxRecDepth 100000 in
set_option maxHeartbeats 8000000 in
theorem gAll_false (F R : Int) (l : List Int) (A : Option Addr) (c : Nat) (w : World) (hb : vbd F R l) (ho : orA l = true) (hA : RdP w w.heap.size A l c) (hT : T5 w) :
    CallsIn Fence.wide 6 Tryd.prog 15 #[.agg #[.int .i64 F, .int .i64 R, .slice A l.length c], .bool false] w fun e w' => e = .returned (.tuple #[.int .u64 (ofL (attackedL F R l false) : Int), .int .i64 0]) ∧ Below w.heap.size w w' := by
  have hlen := vbd_64 hb
  have hv := hb.1
  have hL := len18 (F := F) (R := R) (S := sS l) (K := kS l) rfl
  obtain ⟨L, hLL⟩ : ∃ L, fieldC F R (sS l) (kS l) = L := ⟨_, rfl⟩
  rw [hLL] at hL
  have HSV := Lib.hid (fun w hA => surv_yes F R l A c hb ho L hLL w hA)
  have HLY := Lib.hid (fun w => lay18 w hLL)
  have HO := Lib.hid (fun B w h1 h2 => aOcc_any B (sS l false) (sS l true) (idx_64 _ l hlen) (idx_64 _ l hlen) w h1 h2)
  rw [occ_or] at HO
  have HA := Lib.hid (fun (a : Nat) (ha : vat F R (a : Int)) k hk hk6 B w hT h0 h1 => aAtt_any F R (a : Int) k false B (ofL (occL l)) hk hk6 ha (occ_full hb) w hT h0 h1)
  have HS : Hid (∀ B w, Calls Tryd.prog 42 #[.pointer (some ⟨B, 0, none⟩), .bool false] w fun e w' => e = .returned (.pointer (some ⟨B, 2, none⟩)) ∧ w = w') := Lib.hid (fun B w => aSide_any B false w)
  have HALL := Lib.hid (accB_all (bl := false) hb ho)
  have HVAT : Hid (∀ k (i : Nat), 1 ≤ k → i ∈ listOf (kS l false k) → vat F R (i : Int) ∧ i < 64) := Lib.hid (fun k i hk hi => by
    have h1 := mem_listOf.1 hi
    have h2 := (kS_bit hk).1 h1.2
    have := hb.2.1
    exact ⟨⟨hb.1, by omega, by omega⟩, h1.1⟩)
  have HA0 := Lib.hid (rdBo (box1 w (.cells #[.int .i64 F, .int .i64 R, .slice A l.length c] 26)) hA)
  have HA1 := Lib.hid (rdBo (box1 (w.alloc (.cells #[.int .i64 F, .int .i64 R, .slice A l.length c] 26)) (.cells #[.bool false] 4)) HA0.out)
  have HT := Lib.hid hT
  clear hA hT hLL HA0
  refine callsIn_of_wp_marks Tryd.func15 rfl trivial ?_ rfl
  simp only [Tryd.ntmps15, List.size_toArray, List.length_cons, List.length_nil, Nat.reduceAdd, Nat.reduceSub, Array.replicate_succ, Array.replicate_zero, List.push_toArray, List.append_toArray, List.nil_append, List.cons_append]
  gi_wp2_with fail
  refine ⟨trivial, callsIn_wide.2 ((HSV.out _ HA1.out).mono ?_)⟩
  rintro e w1 ⟨rfl, hb1⟩
  obtain ⟨V, hst, hFl, hVb, hVs⟩ := HLY.out w1
  have hs1 := hb1.size
  simp only [World.size_alloc] at hs1
  have c3 := hb1.cell (p := ⟨w.heap.size + 1, 0, none⟩) (by simp)
  simp [go_sem] at c3
  have hB1 := after2 hb1
  have hBv := chain hB1 hVb
  have d3 := (hVb.cell (World.block_lt_of_cell? _ _ c3)).trans c3
  have g3 := alive (.cells #[.int .u64 0] 30) d3
  have hFl2 := hFl.below (box1 V (.cells #[.int .u64 0] 30))
  have q0 := hFl2.2.2 false 0 (by omega)
  have q1 := hFl2.2.2 false 1 (by omega)
  have q2 := hFl2.2.2 false 2 (by omega)
  have q3 := hFl2.2.2 false 3 (by omega)
  have q4 := hFl2.2.2 false 4 (by omega)
  have q5 := hFl2.2.2 false 5 (by omega)
  have q6 := hFl2.2.2 false 6 (by omega)
  simp only [offN, if_false, Bool.false_eq_true, Nat.reduceAdd] at q0 q1 q2 q3 q4 q5 q6
  rw [kS_zero] at q0
  have HFL := Lib.hid hFl2
  have HBV := Lib.hid (hBv.alloc hBv.size (.cells #[.int .u64 0] 30))
  clear hb1 c3 hVb hB1 HLY hFl hBv hFl2 HA1
  gi_wp2_with fail
  refine ⟨trivial, callsIn_wide.2 ((HS.out _ _).mono ?_)⟩
  rintro e w2 ⟨rfl, rfl⟩
  gi_wp2_with fail
  obtain ⟨V0, hV0⟩ : ∃ V0, V.alloc (.cells #[.int .u64 0] 30) = V0 := ⟨_, rfl⟩
  have k3 : V0.cell? ⟨w1.heap.size + 1, 0, none⟩ = some (.int .u64 ((accB F R l false 0 : Nat) : Int)) := by rw [← hV0, ← hVs]; simp [go_sem]; rfl
  have k4 : V0.frozen? ⟨w1.heap.size + 1, 0, none⟩ = false := by rw [← hV0, ← hVs]; simp [go_sem]
  have hs0 : V0.heap.size = w1.heap.size + 2 := by rw [← hV0]; simp; omega
  rw [hV0] at g3 HFL HBV ⊢
  clear hV0 hst hVs d3 q0 q1 q2 q3 q4 q5 q6 hL HSV HS
  have hB0 := HBV.out
  have hF0 := HFL.out
  have hs0' : w1.heap.size + 2 ≤ V0.heap.size := by omega
  clear hs0
  refine wpIn_loop (fun a' w' => ∃ (k : Nat) (m : Int) (Ds : List Nat) (u9 u10 u26 u27 u28 u29 u30 u40 : Value), k ≤ 7 ∧ m = k ∧ (w'.cell? ⟨w1.heap.size + 1, 0, none⟩ = some (.int .u64 ((accB F R l false k : Nat) : Int)) ∧ w'.frozen? ⟨w1.heap.size + 1, 0, none⟩ = false) ∧ ButS (w1.heap.size + 1) V0 w' ∧ MarksAt (w1.heap.size + 1 + 1) Ds w' ∧
      a' = { tmps := #[(.agg #[.int .i64 F, .int .i64 R, .slice A l.length c] : Value), (.bool false : Value), (.pointer (some ⟨w.heap.size, 0, none⟩) : Value), (.pointer (some ⟨w.heap.size + 1, 0, none⟩) : Value), (.int .u64 0 : Value), (.int .i64 0 : Value), (.pointer (some ⟨w1.heap.size, 0, none⟩) : Value), (.int .i64 0 : Value), (.pointer (some ⟨w1.heap.size + 1, 0, none⟩) : Value), u9, u10, undef, (.tuple #[.agg L.toArray, .int .i64 0] : Value), (.agg #[.int .i64 F, .int .i64 R, .slice A l.length c] : Value), (.tuple #[.agg L.toArray, .int .i64 0] : Value), (.agg L.toArray : Value), (.int .i64 0 : Value), (.int .i64 0 : Value), (.bool false : Value), undef, (.bool false : Value), (.pointer (some ⟨w1.heap.size, 2, none⟩) : Value), (.pointer (some ⟨w1.heap.size, 2, none⟩) : Value), (.pointer (some ⟨w1.heap.size, 3, none⟩) : Value), (.agg #[.int .u64 0, .int .u64 (kS l false 1 : Nat), .int .u64 (kS l false 2 : Nat), .int .u64 (kS l false 3 : Nat), .int .u64 (kS l false 4 : Nat), .int .u64 (kS l false 5 : Nat), .int .u64 (kS l false 6 : Nat)] : Value), (.int .i64 m : Value), u26, u27, u28, u29, u30, undef, undef, undef, undef, undef, undef, undef, undef, undef, u40, undef], defers := marks Ds })
    (fun a' _ => 7 - (intOf (a'.tmps.getD 25 undef)).toNat) ?start ?round
  case start => exact ⟨0, 0, [], _, _, _, _, _, _, _, _, Nat.zero_le _, rfl, ⟨k3, k4⟩, ButS.refl _ _, MarksAt.nil _ _, rfl⟩
  case round =>
    rintro _ wr ⟨k, m, Ds, u9, u10, u26, u27, u28, u29, u30, u40, hk, hm, ⟨hS, hSf⟩, hB, hM, rfl⟩
    have e3 := hB.cell g3 (by simp; omega)
    have hsz := hB.size
    clear k3 k4 g3
    by_cases hlt : k < 7
    · rcases seven hlt with rfl | rfl | rfl | rfl | rfl | rfl | rfl
      · obtain rfl : m = 0 := hm
        have hx := fun w' => ix7_0 0 ((kS l false 1 : Nat) : Int) ((kS l false 2 : Nat) : Int) ((kS l false 3 : Nat) : Int) ((kS l false 4 : Nat) : Int) ((kS l false 5 : Nat) : Int) ((kS l false 6 : Nat) : Int) w'
        have hXlt : kS l false 0 < 18446744073709551616 := idx_64 _ l hlen
        have hTr := HT.out.below (hB0.trans (hB.below (B := w.heap.size) (by omega) (by omega)))
        have HTR := Lib.hid hTr
        clear hTr
        gi_wp2_with fail
        refine ⟨trivial, callsIn_wide.2 ((each_any 0 _).mono ?_)⟩
        rintro e w2 ⟨rfl, rfl⟩
        gi_wp2_with fail
        obtain ⟨V1, hV1⟩ : ∃ V1, ((wr.alloc (.cells #[.int .i64 0] 3)).alloc (.cells #[.int .u64 0] 30)) = V1 := ⟨_, rfl⟩
        have b01 : Below wr.heap.size wr V1 := by rw [← hV1]; exact ((Below.refl _ _).alloc (by simp) _).alloc (by simp) _
        have v0 : V1.cell? ⟨w1.heap.size + 1, 0, none⟩ = some (.int .u64 ((orK F R l false 0 (accB F R l false 0) (vals ([] : List (Sq 0))) : Nat) : Int)) := (b01.cell (p := ⟨w1.heap.size + 1, 0, none⟩) (by simp; omega)).trans hS
        have v1 : V1.frozen? ⟨w1.heap.size + 1, 0, none⟩ = false := (b01.frozen (p := ⟨w1.heap.size + 1, 0, none⟩) (by simp; omega)).trans hSf
        have v2 : V1.cell? ⟨w.heap.size + 1, 0, none⟩ = some (.bool false) := (b01.cell (p := ⟨w.heap.size + 1, 0, none⟩) (by simp; omega)).trans e3
        have v3 : V1.cell? ⟨wr.heap.size, 0, none⟩ = some (.int .i64 0) := by rw [← hV1]; exact alive _ (by simp [go_sem])
        have v4 : V1.cell? ⟨wr.heap.size + 1, 0, none⟩ = some (.int .u64 (0 : Nat)) := by rw [← hV1]; simp [go_sem]
        have hV1s : V1.heap.size = wr.heap.size + 2 := by rw [← hV1]; simp
        have hBU : ButS (w1.heap.size + 1) V0 V1 := hB.trans (ButS.of b01)
        have hTV := HTR.out.below b01
        have HTV := Lib.hid hTV
        have HFV := Lib.hid (hF0.but hBU (by omega))
        rw [hV1]
        clear hV1 e3 hTV
        apply range_each (X := 0) (by decide) (by omega) rfl (wr.heap.size + 1) (w1.heap.size + 1) w.heap.size (by omega) (by omega) HT.out.1.1 (by omega) rfl v4 HTV.out.1
          (fun pre => .int .u64 ((orK F R l false 0 (accB F R l false 0) (vals pre) : Nat) : Int)) (fun _ => True) (fun _ => undef) (fun _ _ => False)
          v0 v1 trivial
        case hassign =>
          intro l x W K hK
          gi_wp2
          exact hK
        case hbody =>
          intro l pre x W _ _ _ _ hlen2
          rw [listOf_zero] at hlen2
          simp at hlen2
        case hdone =>
          intro D ys W hD hys hSc hSf2 hW _ hK
          have hE : orK F R l false 0 (accB F R l false 0) (vals ys) = accB F R l false 1 := by rw [hys]; show _ = orK F R l false 0 (accB F R l false 0) (listOf (kS l false 0)); rw [kS_zero]
          rw [hE] at hSc
          have hM2 := hM.cons ((ButS.of b01).trans hW) (by omega) (D := D) (by omega) (by omega) hK
          have hB2 : ButS (w1.heap.size + 1) V0 W := hBU.trans hW
          clear hE hys hK hM
          gi_wp2
          refine ⟨?_, ?_⟩
          · refine ⟨1, 1, D :: Ds, ?_⟩
            repeat apply Exists.intro
            exact ⟨by omega, rfl, ⟨hSc, hSf2⟩, hB2, hM2, rfl⟩
          · simp [intOf]
        case hstop =>
          intro D cc pre W _ _ _ _ _ h
          exact h.elim
      · obtain rfl : m = 1 := hm
        have hx := fun w' => ix7_1 0 ((kS l false 1 : Nat) : Int) ((kS l false 2 : Nat) : Int) ((kS l false 3 : Nat) : Int) ((kS l false 4 : Nat) : Int) ((kS l false 5 : Nat) : Int) ((kS l false 6 : Nat) : Int) w'
        have hXlt : kS l false 1 < 18446744073709551616 := idx_64 _ l hlen
        have hTr := HT.out.below (hB0.trans (hB.below (B := w.heap.size) (by omega) (by omega)))
        have HTR := Lib.hid hTr
        clear hTr
        gi_wp2_with fail
        refine ⟨trivial, callsIn_wide.2 ((each_any (kS l false 1) _).mono ?_)⟩
        rintro e w2 ⟨rfl, rfl⟩
        gi_wp2_with fail
        obtain ⟨V1, hV1⟩ : ∃ V1, ((wr.alloc (.cells #[.int .i64 1] 3)).alloc (.cells #[.int .u64 ((kS l false 1) : Nat)] 30)) = V1 := ⟨_, rfl⟩
        have b01 : Below wr.heap.size wr V1 := by rw [← hV1]; exact ((Below.refl _ _).alloc (by simp) _).alloc (by simp) _
        have v0 : V1.cell? ⟨w1.heap.size + 1, 0, none⟩ = some (.int .u64 ((orK F R l false 1 (accB F R l false 1) (vals ([] : List (Sq (kS l false 1)))) : Nat) : Int)) := (b01.cell (p := ⟨w1.heap.size + 1, 0, none⟩) (by simp; omega)).trans hS
        have v1 : V1.frozen? ⟨w1.heap.size + 1, 0, none⟩ = false := (b01.frozen (p := ⟨w1.heap.size + 1, 0, none⟩) (by simp; omega)).trans hSf
        have v2 : V1.cell? ⟨w.heap.size + 1, 0, none⟩ = some (.bool false) := (b01.cell (p := ⟨w.heap.size + 1, 0, none⟩) (by simp; omega)).trans e3
        have v3 : V1.cell? ⟨wr.heap.size, 0, none⟩ = some (.int .i64 1) := by rw [← hV1]; exact alive _ (by simp [go_sem])
        have v4 : V1.cell? ⟨wr.heap.size + 1, 0, none⟩ = some (.int .u64 ((kS l false 1) : Nat)) := by rw [← hV1]; simp [go_sem]
        have hV1s : V1.heap.size = wr.heap.size + 2 := by rw [← hV1]; simp
        have hBU : ButS (w1.heap.size + 1) V0 V1 := hB.trans (ButS.of b01)
        have hTV := HTR.out.below b01
        have HTV := Lib.hid hTV
        have HFV := Lib.hid (hF0.but hBU (by omega))
        rw [hV1]
        clear hV1 e3 hTV
        apply range_each (X := (kS l false 1)) hXlt (by omega) rfl (wr.heap.size + 1) (w1.heap.size + 1) w.heap.size (by omega) (by omega) HT.out.1.1 (by omega) rfl v4 HTV.out.1
          (fun pre => .int .u64 ((orK F R l false 1 (accB F R l false 1) (vals pre) : Nat) : Int)) (fun _ => True) (fun _ => undef) (fun _ _ => False)
          v0 v1 trivial
        case hassign =>
          intro l x W K hK
          gi_wp2
          exact hK
        case hbody =>
          intro lp pre x W hSc hSf2 hBW _ hlen2
          obtain ⟨hxv, hx64⟩ := HVAT.out 1 x.1 (by omega) x.2
          have HXV := Lib.hid hxv
          have w2c := hBW.cell v2 (by simp; omega)
          have w3c := hBW.cell v3 (by simp; omega)
          have hFW := HFV.out.but hBW (by omega)
          have hszW := hBW.size
          have hTW := HT.out.below (hB0.trans ((hBU.trans hBW).below (B := w.heap.size) (by omega) (by omega)))
          have HFW := Lib.hid hFW
          have HTW := Lib.hid hTW
          have hor := u64_or_nat (orK F R l false 1 (accB F R l false 1) (vals pre)) (ofL (attL F R 1 false (x.1 : Int) (ofL (occL l)))) (orK_lt hv _ _ _ (accB_lt hv _)) (attL_64 hv ..)
          rw [← orK_snoc, ← vals_snoc] at hor
          have HOR := Lib.hid hor
          clear hlen2 hor hFW hTW v0 v1 v2 v3 v4 hxv
          have hmx : Tryd.prog.follows .mixedOrders = true := by kernel_rfl
          have hw1 : IntKind.i8.wrap 1 = 1 := by decide
          have hmem : ofL (attL F R 1 false (x.1 : Int) (ofL (occL l))) = ofL (attL F R 1 false (x.1 : Int) (ofL (occL l))) := rfl
          have z1 := cell_regrown hSc
          have z2 := cell_regrown w2c
          have z3 := cell_regrown w3c
          have cO : ∀ d os, CallsIn Fence.wide (6 - 1 - 1 - 1) Tryd.prog 45 #[.pointer (some ⟨w1.heap.size, 0, none⟩)] (grow (redrawn W d) os) fun e w'' => e = .returned (.int .u64 (ofL (occL l) : Int)) ∧ ∃ q : Regrown, w'' = grow (redrawn W q.d) q.os := fun d os => callsIn_wide.2 (Calls.regrown_of (HO.out _ _ (cell_regrown (HFW.out.2.1 false) d os) (cell_regrown (HFW.out.2.1 true) d os)))
          have cA : ∀ d os, CallsIn Fence.wide (6 - 1 - 1 - 1) Tryd.prog 44 #[.pointer (some ⟨w1.heap.size, 0, none⟩), .int .i8 1, .bool false, .int .i64 (x.1 : Int), .int .u64 (ofL (occL l) : Int)] (grow (redrawn W d) os) fun e w'' => e = .returned (.int .u64 (ofL (attL F R 1 false (x.1 : Int) (ofL (occL l))) : Int)) ∧ ∃ q : Regrown, w'' = grow (redrawn W q.d) q.os := fun d os => callsIn_wide.2 (Calls.regrown_of (HA.out x.1 HXV.out 1 (by omega) (by omega) _ _ (HTW.out.below (below_regrown W d os)).2 (cell_regrown HFW.out.1.1 d os) (cell_regrown HFW.out.1.2 d os)))
          clear hmem
          gi_wp2
          refine tail_round (L := [_, _, _, _, _, _, _, _]) (fun w' => ∃ q : Regrown, w' = grow (redrawn W q.d) q.os) (by kernel_rfl) (by kernel_rfl) (by kernel_rfl) (by kernel_rfl) ⟨⟨W.drawn + 1, #[]⟩, by rw [grow_empty]; rfl⟩ ?_
          repeat (gi_big_quiet_step (fail))
          refine wpQuietIn_want (fun _ _ _ _ => trivial) rfl (fun K hK => ?_)
          gi_big_quiet_op
          apply Exists.intro
          refine ⟨fun _ => cO _ _, ?_⟩
          refine hK _ ?_
          clear hK K
          refine wpQuietIn_want (fun _ _ _ _ => trivial) rfl (fun K hK => ?_)
          gi_big_quiet_op
          apply Exists.intro
          refine ⟨fun _ => cA _ _, ?_⟩
          refine hK _ ?_
          clear hK K
          repeat (gi_big_quiet_step (fail))
          refine wpQuietIn_nil ?_
          intro _ hw'
          obtain ⟨⟨dq, osq⟩, hw''⟩ := hw'
          subst hw''
          have hRg := below_regrown W dq osq
          have r0 := cBo hRg hSc
          have r1 := (hRg.frozen (p := ⟨w1.heap.size + 1, 0, none⟩) (World.block_lt_of_cell? _ _ hSc)).trans hSf2
          rw [HOR.out]
          refine wpIn_store rfl (store1 r0 r1) ?_
          refine ⟨⟨World.cell?_setCell_same _ ⟨w1.heap.size + 1, 0, none⟩ _ r0, (World.frozen?_setCell ..).trans r1⟩, (ButS.of hRg).trans (ButS.set _ _ _), trivial⟩
        case hdone =>
          intro D ys W hD hys hSc hSf2 hW _ hK
          have hE : orK F R l false 1 (accB F R l false 1) (vals ys) = accB F R l false 2 := by rw [hys]; rfl
          rw [hE] at hSc
          have hM2 := hM.cons ((ButS.of b01).trans hW) (by omega) (D := D) (by omega) (by omega) hK
          have hB2 : ButS (w1.heap.size + 1) V0 W := hBU.trans hW
          clear hE hys hK hM
          gi_wp2
          refine ⟨?_, ?_⟩
          · refine ⟨2, 2, D :: Ds, ?_⟩
            repeat apply Exists.intro
            exact ⟨by omega, rfl, ⟨hSc, hSf2⟩, hB2, hM2, rfl⟩
          · simp [intOf]
        case hstop =>
          intro D cc pre W _ _ _ _ _ h
          exact h.elim
      · obtain rfl : m = 2 := hm
        have hx := fun w' => ix7_2 0 ((kS l false 1 : Nat) : Int) ((kS l false 2 : Nat) : Int) ((kS l false 3 : Nat) : Int) ((kS l false 4 : Nat) : Int) ((kS l false 5 : Nat) : Int) ((kS l false 6 : Nat) : Int) w'
        have hXlt : kS l false 2 < 18446744073709551616 := idx_64 _ l hlen
        have hTr := HT.out.below (hB0.trans (hB.below (B := w.heap.size) (by omega) (by omega)))
        have HTR := Lib.hid hTr
        clear hTr
        gi_wp2_with fail
        refine ⟨trivial, callsIn_wide.2 ((each_any (kS l false 2) _).mono ?_)⟩
        rintro e w2 ⟨rfl, rfl⟩
        gi_wp2_with fail
        obtain ⟨V1, hV1⟩ : ∃ V1, ((wr.alloc (.cells #[.int .i64 2] 3)).alloc (.cells #[.int .u64 ((kS l false 2) : Nat)] 30)) = V1 := ⟨_, rfl⟩
        have b01 : Below wr.heap.size wr V1 := by rw [← hV1]; exact ((Below.refl _ _).alloc (by simp) _).alloc (by simp) _
        have v0 : V1.cell? ⟨w1.heap.size + 1, 0, none⟩ = some (.int .u64 ((orK F R l false 2 (accB F R l false 2) (vals ([] : List (Sq (kS l false 2)))) : Nat) : Int)) := (b01.cell (p := ⟨w1.heap.size + 1, 0, none⟩) (by simp; omega)).trans hS
        have v1 : V1.frozen? ⟨w1.heap.size + 1, 0, none⟩ = false := (b01.frozen (p := ⟨w1.heap.size + 1, 0, none⟩) (by simp; omega)).trans hSf
        have v2 : V1.cell? ⟨w.heap.size + 1, 0, none⟩ = some (.bool false) := (b01.cell (p := ⟨w.heap.size + 1, 0, none⟩) (by simp; omega)).trans e3
        have v3 : V1.cell? ⟨wr.heap.size, 0, none⟩ = some (.int .i64 2) := by rw [← hV1]; exact alive _ (by simp [go_sem])
        have v4 : V1.cell? ⟨wr.heap.size + 1, 0, none⟩ = some (.int .u64 ((kS l false 2) : Nat)) := by rw [← hV1]; simp [go_sem]
        have hV1s : V1.heap.size = wr.heap.size + 2 := by rw [← hV1]; simp
        have hBU : ButS (w1.heap.size + 1) V0 V1 := hB.trans (ButS.of b01)
        have hTV := HTR.out.below b01
        have HTV := Lib.hid hTV
        have HFV := Lib.hid (hF0.but hBU (by omega))
        rw [hV1]
        clear hV1 e3 hTV
        apply range_each (X := (kS l false 2)) hXlt (by omega) rfl (wr.heap.size + 1) (w1.heap.size + 1) w.heap.size (by omega) (by omega) HT.out.1.1 (by omega) rfl v4 HTV.out.1
          (fun pre => .int .u64 ((orK F R l false 2 (accB F R l false 2) (vals pre) : Nat) : Int)) (fun _ => True) (fun _ => undef) (fun _ _ => False)
          v0 v1 trivial
        case hassign =>
          intro l x W K hK
          gi_wp2
          exact hK
        case hbody =>
          intro lp pre x W hSc hSf2 hBW _ hlen2
          obtain ⟨hxv, hx64⟩ := HVAT.out 2 x.1 (by omega) x.2
          have HXV := Lib.hid hxv
          have w2c := hBW.cell v2 (by simp; omega)
          have w3c := hBW.cell v3 (by simp; omega)
          have hFW := HFV.out.but hBW (by omega)
          have hszW := hBW.size
          have hTW := HT.out.below (hB0.trans ((hBU.trans hBW).below (B := w.heap.size) (by omega) (by omega)))
          have HFW := Lib.hid hFW
          have HTW := Lib.hid hTW
          have hor := u64_or_nat (orK F R l false 2 (accB F R l false 2) (vals pre)) (ofL (attL F R 2 false (x.1 : Int) (ofL (occL l)))) (orK_lt hv _ _ _ (accB_lt hv _)) (attL_64 hv ..)
          rw [← orK_snoc, ← vals_snoc] at hor
          have HOR := Lib.hid hor
          clear hlen2 hor hFW hTW v0 v1 v2 v3 v4 hxv
          have hmx : Tryd.prog.follows .mixedOrders = true := by kernel_rfl
          have hw1 : IntKind.i8.wrap 2 = 2 := by decide
          have hmem : ofL (attL F R 2 false (x.1 : Int) (ofL (occL l))) = ofL (attL F R 2 false (x.1 : Int) (ofL (occL l))) := rfl
          have z1 := cell_regrown hSc
          have z2 := cell_regrown w2c
          have z3 := cell_regrown w3c
          have cO : ∀ d os, CallsIn Fence.wide (6 - 1 - 1 - 1) Tryd.prog 45 #[.pointer (some ⟨w1.heap.size, 0, none⟩)] (grow (redrawn W d) os) fun e w'' => e = .returned (.int .u64 (ofL (occL l) : Int)) ∧ ∃ q : Regrown, w'' = grow (redrawn W q.d) q.os := fun d os => callsIn_wide.2 (Calls.regrown_of (HO.out _ _ (cell_regrown (HFW.out.2.1 false) d os) (cell_regrown (HFW.out.2.1 true) d os)))
          have cA : ∀ d os, CallsIn Fence.wide (6 - 1 - 1 - 1) Tryd.prog 44 #[.pointer (some ⟨w1.heap.size, 0, none⟩), .int .i8 2, .bool false, .int .i64 (x.1 : Int), .int .u64 (ofL (occL l) : Int)] (grow (redrawn W d) os) fun e w'' => e = .returned (.int .u64 (ofL (attL F R 2 false (x.1 : Int) (ofL (occL l))) : Int)) ∧ ∃ q : Regrown, w'' = grow (redrawn W q.d) q.os := fun d os => callsIn_wide.2 (Calls.regrown_of (HA.out x.1 HXV.out 2 (by omega) (by omega) _ _ (HTW.out.below (below_regrown W d os)).2 (cell_regrown HFW.out.1.1 d os) (cell_regrown HFW.out.1.2 d os)))
          clear hmem
          gi_wp2
          refine tail_round (L := [_, _, _, _, _, _, _, _]) (fun w' => ∃ q : Regrown, w' = grow (redrawn W q.d) q.os) (by kernel_rfl) (by kernel_rfl) (by kernel_rfl) (by kernel_rfl) ⟨⟨W.drawn + 1, #[]⟩, by rw [grow_empty]; rfl⟩ ?_
          repeat (gi_big_quiet_step (fail))
          refine wpQuietIn_want (fun _ _ _ _ => trivial) rfl (fun K hK => ?_)
          gi_big_quiet_op
          apply Exists.intro
          refine ⟨fun _ => cO _ _, ?_⟩
          refine hK _ ?_
          clear hK K
          refine wpQuietIn_want (fun _ _ _ _ => trivial) rfl (fun K hK => ?_)
          gi_big_quiet_op
          apply Exists.intro
          refine ⟨fun _ => cA _ _, ?_⟩
          refine hK _ ?_
          clear hK K
          repeat (gi_big_quiet_step (fail))
          refine wpQuietIn_nil ?_
          intro _ hw'
          obtain ⟨⟨dq, osq⟩, hw''⟩ := hw'
          subst hw''
          have hRg := below_regrown W dq osq
          have r0 := cBo hRg hSc
          have r1 := (hRg.frozen (p := ⟨w1.heap.size + 1, 0, none⟩) (World.block_lt_of_cell? _ _ hSc)).trans hSf2
          rw [HOR.out]
          refine wpIn_store rfl (store1 r0 r1) ?_
          refine ⟨⟨World.cell?_setCell_same _ ⟨w1.heap.size + 1, 0, none⟩ _ r0, (World.frozen?_setCell ..).trans r1⟩, (ButS.of hRg).trans (ButS.set _ _ _), trivial⟩
        case hdone =>
          intro D ys W hD hys hSc hSf2 hW _ hK
          have hE : orK F R l false 2 (accB F R l false 2) (vals ys) = accB F R l false 3 := by rw [hys]; rfl
          rw [hE] at hSc
          have hM2 := hM.cons ((ButS.of b01).trans hW) (by omega) (D := D) (by omega) (by omega) hK
          have hB2 : ButS (w1.heap.size + 1) V0 W := hBU.trans hW
          clear hE hys hK hM
          gi_wp2
          refine ⟨?_, ?_⟩
          · refine ⟨3, 3, D :: Ds, ?_⟩
            repeat apply Exists.intro
            exact ⟨by omega, rfl, ⟨hSc, hSf2⟩, hB2, hM2, rfl⟩
          · simp [intOf]
        case hstop =>
          intro D cc pre W _ _ _ _ _ h
          exact h.elim
      · obtain rfl : m = 3 := hm
        have hx := fun w' => ix7_3 0 ((kS l false 1 : Nat) : Int) ((kS l false 2 : Nat) : Int) ((kS l false 3 : Nat) : Int) ((kS l false 4 : Nat) : Int) ((kS l false 5 : Nat) : Int) ((kS l false 6 : Nat) : Int) w'
        have hXlt : kS l false 3 < 18446744073709551616 := idx_64 _ l hlen
        have hTr := HT.out.below (hB0.trans (hB.below (B := w.heap.size) (by omega) (by omega)))
        have HTR := Lib.hid hTr
        clear hTr
        gi_wp2_with fail
        refine ⟨trivial, callsIn_wide.2 ((each_any (kS l false 3) _).mono ?_)⟩
        rintro e w2 ⟨rfl, rfl⟩
        gi_wp2_with fail
        obtain ⟨V1, hV1⟩ : ∃ V1, ((wr.alloc (.cells #[.int .i64 3] 3)).alloc (.cells #[.int .u64 ((kS l false 3) : Nat)] 30)) = V1 := ⟨_, rfl⟩
        have b01 : Below wr.heap.size wr V1 := by rw [← hV1]; exact ((Below.refl _ _).alloc (by simp) _).alloc (by simp) _
        have v0 : V1.cell? ⟨w1.heap.size + 1, 0, none⟩ = some (.int .u64 ((orK F R l false 3 (accB F R l false 3) (vals ([] : List (Sq (kS l false 3)))) : Nat) : Int)) := (b01.cell (p := ⟨w1.heap.size + 1, 0, none⟩) (by simp; omega)).trans hS
        have v1 : V1.frozen? ⟨w1.heap.size + 1, 0, none⟩ = false := (b01.frozen (p := ⟨w1.heap.size + 1, 0, none⟩) (by simp; omega)).trans hSf
        have v2 : V1.cell? ⟨w.heap.size + 1, 0, none⟩ = some (.bool false) := (b01.cell (p := ⟨w.heap.size + 1, 0, none⟩) (by simp; omega)).trans e3
        have v3 : V1.cell? ⟨wr.heap.size, 0, none⟩ = some (.int .i64 3) := by rw [← hV1]; exact alive _ (by simp [go_sem])
        have v4 : V1.cell? ⟨wr.heap.size + 1, 0, none⟩ = some (.int .u64 ((kS l false 3) : Nat)) := by rw [← hV1]; simp [go_sem]
        have hV1s : V1.heap.size = wr.heap.size + 2 := by rw [← hV1]; simp
        have hBU : ButS (w1.heap.size + 1) V0 V1 := hB.trans (ButS.of b01)
        have hTV := HTR.out.below b01
        have HTV := Lib.hid hTV
        have HFV := Lib.hid (hF0.but hBU (by omega))
        rw [hV1]
        clear hV1 e3 hTV
        apply range_each (X := (kS l false 3)) hXlt (by omega) rfl (wr.heap.size + 1) (w1.heap.size + 1) w.heap.size (by omega) (by omega) HT.out.1.1 (by omega) rfl v4 HTV.out.1
          (fun pre => .int .u64 ((orK F R l false 3 (accB F R l false 3) (vals pre) : Nat) : Int)) (fun _ => True) (fun _ => undef) (fun _ _ => False)
          v0 v1 trivial
        case hassign =>
          intro l x W K hK
          gi_wp2
          exact hK
        case hbody =>
          intro lp pre x W hSc hSf2 hBW _ hlen2
          obtain ⟨hxv, hx64⟩ := HVAT.out 3 x.1 (by omega) x.2
          have HXV := Lib.hid hxv
          have w2c := hBW.cell v2 (by simp; omega)
          have w3c := hBW.cell v3 (by simp; omega)
          have hFW := HFV.out.but hBW (by omega)
          have hszW := hBW.size
          have hTW := HT.out.below (hB0.trans ((hBU.trans hBW).below (B := w.heap.size) (by omega) (by omega)))
          have HFW := Lib.hid hFW
          have HTW := Lib.hid hTW
          have hor := u64_or_nat (orK F R l false 3 (accB F R l false 3) (vals pre)) (ofL (attL F R 3 false (x.1 : Int) (ofL (occL l)))) (orK_lt hv _ _ _ (accB_lt hv _)) (attL_64 hv ..)
          rw [← orK_snoc, ← vals_snoc] at hor
          have HOR := Lib.hid hor
          clear hlen2 hor hFW hTW v0 v1 v2 v3 v4 hxv
          have hmx : Tryd.prog.follows .mixedOrders = true := by kernel_rfl
          have hw1 : IntKind.i8.wrap 3 = 3 := by decide
          have hmem : ofL (attL F R 3 false (x.1 : Int) (ofL (occL l))) = ofL (attL F R 3 false (x.1 : Int) (ofL (occL l))) := rfl
          have z1 := cell_regrown hSc
          have z2 := cell_regrown w2c
          have z3 := cell_regrown w3c
          have cO : ∀ d os, CallsIn Fence.wide (6 - 1 - 1 - 1) Tryd.prog 45 #[.pointer (some ⟨w1.heap.size, 0, none⟩)] (grow (redrawn W d) os) fun e w'' => e = .returned (.int .u64 (ofL (occL l) : Int)) ∧ ∃ q : Regrown, w'' = grow (redrawn W q.d) q.os := fun d os => callsIn_wide.2 (Calls.regrown_of (HO.out _ _ (cell_regrown (HFW.out.2.1 false) d os) (cell_regrown (HFW.out.2.1 true) d os)))
          have cA : ∀ d os, CallsIn Fence.wide (6 - 1 - 1 - 1) Tryd.prog 44 #[.pointer (some ⟨w1.heap.size, 0, none⟩), .int .i8 3, .bool false, .int .i64 (x.1 : Int), .int .u64 (ofL (occL l) : Int)] (grow (redrawn W d) os) fun e w'' => e = .returned (.int .u64 (ofL (attL F R 3 false (x.1 : Int) (ofL (occL l))) : Int)) ∧ ∃ q : Regrown, w'' = grow (redrawn W q.d) q.os := fun d os => callsIn_wide.2 (Calls.regrown_of (HA.out x.1 HXV.out 3 (by omega) (by omega) _ _ (HTW.out.below (below_regrown W d os)).2 (cell_regrown HFW.out.1.1 d os) (cell_regrown HFW.out.1.2 d os)))
          clear hmem
          gi_wp2
          refine tail_round (L := [_, _, _, _, _, _, _, _]) (fun w' => ∃ q : Regrown, w' = grow (redrawn W q.d) q.os) (by kernel_rfl) (by kernel_rfl) (by kernel_rfl) (by kernel_rfl) ⟨⟨W.drawn + 1, #[]⟩, by rw [grow_empty]; rfl⟩ ?_
          repeat (gi_big_quiet_step (fail))
          refine wpQuietIn_want (fun _ _ _ _ => trivial) rfl (fun K hK => ?_)
          gi_big_quiet_op
          apply Exists.intro
          refine ⟨fun _ => cO _ _, ?_⟩
          refine hK _ ?_
          clear hK K
          refine wpQuietIn_want (fun _ _ _ _ => trivial) rfl (fun K hK => ?_)
          gi_big_quiet_op
          apply Exists.intro
          refine ⟨fun _ => cA _ _, ?_⟩
          refine hK _ ?_
          clear hK K
          repeat (gi_big_quiet_step (fail))
          refine wpQuietIn_nil ?_
          intro _ hw'
          obtain ⟨⟨dq, osq⟩, hw''⟩ := hw'
          subst hw''
          have hRg := below_regrown W dq osq
          have r0 := cBo hRg hSc
          have r1 := (hRg.frozen (p := ⟨w1.heap.size + 1, 0, none⟩) (World.block_lt_of_cell? _ _ hSc)).trans hSf2
          rw [HOR.out]
          refine wpIn_store rfl (store1 r0 r1) ?_
          refine ⟨⟨World.cell?_setCell_same _ ⟨w1.heap.size + 1, 0, none⟩ _ r0, (World.frozen?_setCell ..).trans r1⟩, (ButS.of hRg).trans (ButS.set _ _ _), trivial⟩
        case hdone =>
          intro D ys W hD hys hSc hSf2 hW _ hK
          have hE : orK F R l false 3 (accB F R l false 3) (vals ys) = accB F R l false 4 := by rw [hys]; rfl
          rw [hE] at hSc
          have hM2 := hM.cons ((ButS.of b01).trans hW) (by omega) (D := D) (by omega) (by omega) hK
          have hB2 : ButS (w1.heap.size + 1) V0 W := hBU.trans hW
          clear hE hys hK hM
          gi_wp2
          refine ⟨?_, ?_⟩
          · refine ⟨4, 4, D :: Ds, ?_⟩
            repeat apply Exists.intro
            exact ⟨by omega, rfl, ⟨hSc, hSf2⟩, hB2, hM2, rfl⟩
          · simp [intOf]
        case hstop =>
          intro D cc pre W _ _ _ _ _ h
          exact h.elim
      · obtain rfl : m = 4 := hm
        have hx := fun w' => ix7_4 0 ((kS l false 1 : Nat) : Int) ((kS l false 2 : Nat) : Int) ((kS l false 3 : Nat) : Int) ((kS l false 4 : Nat) : Int) ((kS l false 5 : Nat) : Int) ((kS l false 6 : Nat) : Int) w'
        have hXlt : kS l false 4 < 18446744073709551616 := idx_64 _ l hlen
        have hTr := HT.out.below (hB0.trans (hB.below (B := w.heap.size) (by omega) (by omega)))
        have HTR := Lib.hid hTr
        clear hTr
        gi_wp2_with fail
        refine ⟨trivial, callsIn_wide.2 ((each_any (kS l false 4) _).mono ?_)⟩
        rintro e w2 ⟨rfl, rfl⟩
        gi_wp2_with fail
        obtain ⟨V1, hV1⟩ : ∃ V1, ((wr.alloc (.cells #[.int .i64 4] 3)).alloc (.cells #[.int .u64 ((kS l false 4) : Nat)] 30)) = V1 := ⟨_, rfl⟩
        have b01 : Below wr.heap.size wr V1 := by rw [← hV1]; exact ((Below.refl _ _).alloc (by simp) _).alloc (by simp) _
        have v0 : V1.cell? ⟨w1.heap.size + 1, 0, none⟩ = some (.int .u64 ((orK F R l false 4 (accB F R l false 4) (vals ([] : List (Sq (kS l false 4)))) : Nat) : Int)) := (b01.cell (p := ⟨w1.heap.size + 1, 0, none⟩) (by simp; omega)).trans hS
        have v1 : V1.frozen? ⟨w1.heap.size + 1, 0, none⟩ = false := (b01.frozen (p := ⟨w1.heap.size + 1, 0, none⟩) (by simp; omega)).trans hSf
        have v2 : V1.cell? ⟨w.heap.size + 1, 0, none⟩ = some (.bool false) := (b01.cell (p := ⟨w.heap.size + 1, 0, none⟩) (by simp; omega)).trans e3
        have v3 : V1.cell? ⟨wr.heap.size, 0, none⟩ = some (.int .i64 4) := by rw [← hV1]; exact alive _ (by simp [go_sem])
        have v4 : V1.cell? ⟨wr.heap.size + 1, 0, none⟩ = some (.int .u64 ((kS l false 4) : Nat)) := by rw [← hV1]; simp [go_sem]
        have hV1s : V1.heap.size = wr.heap.size + 2 := by rw [← hV1]; simp
        have hBU : ButS (w1.heap.size + 1) V0 V1 := hB.trans (ButS.of b01)
        have hTV := HTR.out.below b01
        have HTV := Lib.hid hTV
        have HFV := Lib.hid (hF0.but hBU (by omega))
        rw [hV1]
        clear hV1 e3 hTV
        apply range_each (X := (kS l false 4)) hXlt (by omega) rfl (wr.heap.size + 1) (w1.heap.size + 1) w.heap.size (by omega) (by omega) HT.out.1.1 (by omega) rfl v4 HTV.out.1
          (fun pre => .int .u64 ((orK F R l false 4 (accB F R l false 4) (vals pre) : Nat) : Int)) (fun _ => True) (fun _ => undef) (fun _ _ => False)
          v0 v1 trivial
        case hassign =>
          intro l x W K hK
          gi_wp2
          exact hK
        case hbody =>
          intro lp pre x W hSc hSf2 hBW _ hlen2
          obtain ⟨hxv, hx64⟩ := HVAT.out 4 x.1 (by omega) x.2
          have HXV := Lib.hid hxv
          have w2c := hBW.cell v2 (by simp; omega)
          have w3c := hBW.cell v3 (by simp; omega)
          have hFW := HFV.out.but hBW (by omega)
          have hszW := hBW.size
          have hTW := HT.out.below (hB0.trans ((hBU.trans hBW).below (B := w.heap.size) (by omega) (by omega)))
          have HFW := Lib.hid hFW
          have HTW := Lib.hid hTW
          have hor := u64_or_nat (orK F R l false 4 (accB F R l false 4) (vals pre)) (ofL (attL F R 4 false (x.1 : Int) (ofL (occL l)))) (orK_lt hv _ _ _ (accB_lt hv _)) (attL_64 hv ..)
          rw [← orK_snoc, ← vals_snoc] at hor
          have HOR := Lib.hid hor
          clear hlen2 hor hFW hTW v0 v1 v2 v3 v4 hxv
          have hmx : Tryd.prog.follows .mixedOrders = true := by kernel_rfl
          have hw1 : IntKind.i8.wrap 4 = 4 := by decide
          have hmem : ofL (attL F R 4 false (x.1 : Int) (ofL (occL l))) = ofL (attL F R 4 false (x.1 : Int) (ofL (occL l))) := rfl
          have z1 := cell_regrown hSc
          have z2 := cell_regrown w2c
          have z3 := cell_regrown w3c
          have cO : ∀ d os, CallsIn Fence.wide (6 - 1 - 1 - 1) Tryd.prog 45 #[.pointer (some ⟨w1.heap.size, 0, none⟩)] (grow (redrawn W d) os) fun e w'' => e = .returned (.int .u64 (ofL (occL l) : Int)) ∧ ∃ q : Regrown, w'' = grow (redrawn W q.d) q.os := fun d os => callsIn_wide.2 (Calls.regrown_of (HO.out _ _ (cell_regrown (HFW.out.2.1 false) d os) (cell_regrown (HFW.out.2.1 true) d os)))
          have cA : ∀ d os, CallsIn Fence.wide (6 - 1 - 1 - 1) Tryd.prog 44 #[.pointer (some ⟨w1.heap.size, 0, none⟩), .int .i8 4, .bool false, .int .i64 (x.1 : Int), .int .u64 (ofL (occL l) : Int)] (grow (redrawn W d) os) fun e w'' => e = .returned (.int .u64 (ofL (attL F R 4 false (x.1 : Int) (ofL (occL l))) : Int)) ∧ ∃ q : Regrown, w'' = grow (redrawn W q.d) q.os := fun d os => callsIn_wide.2 (Calls.regrown_of (HA.out x.1 HXV.out 4 (by omega) (by omega) _ _ (HTW.out.below (below_regrown W d os)).2 (cell_regrown HFW.out.1.1 d os) (cell_regrown HFW.out.1.2 d os)))
          clear hmem
          gi_wp2
          refine tail_round (L := [_, _, _, _, _, _, _, _]) (fun w' => ∃ q : Regrown, w' = grow (redrawn W q.d) q.os) (by kernel_rfl) (by kernel_rfl) (by kernel_rfl) (by kernel_rfl) ⟨⟨W.drawn + 1, #[]⟩, by rw [grow_empty]; rfl⟩ ?_
          repeat (gi_big_quiet_step (fail))
          refine wpQuietIn_want (fun _ _ _ _ => trivial) rfl (fun K hK => ?_)
          gi_big_quiet_op
          apply Exists.intro
          refine ⟨fun _ => cO _ _, ?_⟩
          refine hK _ ?_
          clear hK K
          refine wpQuietIn_want (fun _ _ _ _ => trivial) rfl (fun K hK => ?_)
          gi_big_quiet_op
          apply Exists.intro
          refine ⟨fun _ => cA _ _, ?_⟩
          refine hK _ ?_
          clear hK K
          repeat (gi_big_quiet_step (fail))
          refine wpQuietIn_nil ?_
          intro _ hw'
          obtain ⟨⟨dq, osq⟩, hw''⟩ := hw'
          subst hw''
          have hRg := below_regrown W dq osq
          have r0 := cBo hRg hSc
          have r1 := (hRg.frozen (p := ⟨w1.heap.size + 1, 0, none⟩) (World.block_lt_of_cell? _ _ hSc)).trans hSf2
          rw [HOR.out]
          refine wpIn_store rfl (store1 r0 r1) ?_
          refine ⟨⟨World.cell?_setCell_same _ ⟨w1.heap.size + 1, 0, none⟩ _ r0, (World.frozen?_setCell ..).trans r1⟩, (ButS.of hRg).trans (ButS.set _ _ _), trivial⟩
        case hdone =>
          intro D ys W hD hys hSc hSf2 hW _ hK
          have hE : orK F R l false 4 (accB F R l false 4) (vals ys) = accB F R l false 5 := by rw [hys]; rfl
          rw [hE] at hSc
          have hM2 := hM.cons ((ButS.of b01).trans hW) (by omega) (D := D) (by omega) (by omega) hK
          have hB2 : ButS (w1.heap.size + 1) V0 W := hBU.trans hW
          clear hE hys hK hM
          gi_wp2
          refine ⟨?_, ?_⟩
          · refine ⟨5, 5, D :: Ds, ?_⟩
            repeat apply Exists.intro
            exact ⟨by omega, rfl, ⟨hSc, hSf2⟩, hB2, hM2, rfl⟩
          · simp [intOf]
        case hstop =>
          intro D cc pre W _ _ _ _ _ h
          exact h.elim
      · obtain rfl : m = 5 := hm
        have hx := fun w' => ix7_5 0 ((kS l false 1 : Nat) : Int) ((kS l false 2 : Nat) : Int) ((kS l false 3 : Nat) : Int) ((kS l false 4 : Nat) : Int) ((kS l false 5 : Nat) : Int) ((kS l false 6 : Nat) : Int) w'
        have hXlt : kS l false 5 < 18446744073709551616 := idx_64 _ l hlen
        have hTr := HT.out.below (hB0.trans (hB.below (B := w.heap.size) (by omega) (by omega)))
        have HTR := Lib.hid hTr
        clear hTr
        gi_wp2_with fail
        refine ⟨trivial, callsIn_wide.2 ((each_any (kS l false 5) _).mono ?_)⟩
        rintro e w2 ⟨rfl, rfl⟩
        gi_wp2_with fail
        obtain ⟨V1, hV1⟩ : ∃ V1, ((wr.alloc (.cells #[.int .i64 5] 3)).alloc (.cells #[.int .u64 ((kS l false 5) : Nat)] 30)) = V1 := ⟨_, rfl⟩
        have b01 : Below wr.heap.size wr V1 := by rw [← hV1]; exact ((Below.refl _ _).alloc (by simp) _).alloc (by simp) _
        have v0 : V1.cell? ⟨w1.heap.size + 1, 0, none⟩ = some (.int .u64 ((orK F R l false 5 (accB F R l false 5) (vals ([] : List (Sq (kS l false 5)))) : Nat) : Int)) := (b01.cell (p := ⟨w1.heap.size + 1, 0, none⟩) (by simp; omega)).trans hS
        have v1 : V1.frozen? ⟨w1.heap.size + 1, 0, none⟩ = false := (b01.frozen (p := ⟨w1.heap.size + 1, 0, none⟩) (by simp; omega)).trans hSf
        have v2 : V1.cell? ⟨w.heap.size + 1, 0, none⟩ = some (.bool false) := (b01.cell (p := ⟨w.heap.size + 1, 0, none⟩) (by simp; omega)).trans e3
        have v3 : V1.cell? ⟨wr.heap.size, 0, none⟩ = some (.int .i64 5) := by rw [← hV1]; exact alive _ (by simp [go_sem])
        have v4 : V1.cell? ⟨wr.heap.size + 1, 0, none⟩ = some (.int .u64 ((kS l false 5) : Nat)) := by rw [← hV1]; simp [go_sem]
        have hV1s : V1.heap.size = wr.heap.size + 2 := by rw [← hV1]; simp
        have hBU : ButS (w1.heap.size + 1) V0 V1 := hB.trans (ButS.of b01)
        have hTV := HTR.out.below b01
        have HTV := Lib.hid hTV
        have HFV := Lib.hid (hF0.but hBU (by omega))
        rw [hV1]
        clear hV1 e3 hTV
        apply range_each (X := (kS l false 5)) hXlt (by omega) rfl (wr.heap.size + 1) (w1.heap.size + 1) w.heap.size (by omega) (by omega) HT.out.1.1 (by omega) rfl v4 HTV.out.1
          (fun pre => .int .u64 ((orK F R l false 5 (accB F R l false 5) (vals pre) : Nat) : Int)) (fun _ => True) (fun _ => undef) (fun _ _ => False)
          v0 v1 trivial
        case hassign =>
          intro l x W K hK
          gi_wp2
          exact hK
        case hbody =>
          intro lp pre x W hSc hSf2 hBW _ hlen2
          obtain ⟨hxv, hx64⟩ := HVAT.out 5 x.1 (by omega) x.2
          have HXV := Lib.hid hxv
          have w2c := hBW.cell v2 (by simp; omega)
          have w3c := hBW.cell v3 (by simp; omega)
          have hFW := HFV.out.but hBW (by omega)
          have hszW := hBW.size
          have hTW := HT.out.below (hB0.trans ((hBU.trans hBW).below (B := w.heap.size) (by omega) (by omega)))
          have HFW := Lib.hid hFW
          have HTW := Lib.hid hTW
          have hor := u64_or_nat (orK F R l false 5 (accB F R l false 5) (vals pre)) (ofL (attL F R 5 false (x.1 : Int) (ofL (occL l)))) (orK_lt hv _ _ _ (accB_lt hv _)) (attL_64 hv ..)
          rw [← orK_snoc, ← vals_snoc] at hor
          have HOR := Lib.hid hor
          clear hlen2 hor hFW hTW v0 v1 v2 v3 v4 hxv
          have hmx : Tryd.prog.follows .mixedOrders = true := by kernel_rfl
          have hw1 : IntKind.i8.wrap 5 = 5 := by decide
          have hmem : ofL (attL F R 5 false (x.1 : Int) (ofL (occL l))) = ofL (attL F R 5 false (x.1 : Int) (ofL (occL l))) := rfl
          have z1 := cell_regrown hSc
          have z2 := cell_regrown w2c
          have z3 := cell_regrown w3c
          have cO : ∀ d os, CallsIn Fence.wide (6 - 1 - 1 - 1) Tryd.prog 45 #[.pointer (some ⟨w1.heap.size, 0, none⟩)] (grow (redrawn W d) os) fun e w'' => e = .returned (.int .u64 (ofL (occL l) : Int)) ∧ ∃ q : Regrown, w'' = grow (redrawn W q.d) q.os := fun d os => callsIn_wide.2 (Calls.regrown_of (HO.out _ _ (cell_regrown (HFW.out.2.1 false) d os) (cell_regrown (HFW.out.2.1 true) d os)))
          have cA : ∀ d os, CallsIn Fence.wide (6 - 1 - 1 - 1) Tryd.prog 44 #[.pointer (some ⟨w1.heap.size, 0, none⟩), .int .i8 5, .bool false, .int .i64 (x.1 : Int), .int .u64 (ofL (occL l) : Int)] (grow (redrawn W d) os) fun e w'' => e = .returned (.int .u64 (ofL (attL F R 5 false (x.1 : Int) (ofL (occL l))) : Int)) ∧ ∃ q : Regrown, w'' = grow (redrawn W q.d) q.os := fun d os => callsIn_wide.2 (Calls.regrown_of (HA.out x.1 HXV.out 5 (by omega) (by omega) _ _ (HTW.out.below (below_regrown W d os)).2 (cell_regrown HFW.out.1.1 d os) (cell_regrown HFW.out.1.2 d os)))
          clear hmem
          gi_wp2
          refine tail_round (L := [_, _, _, _, _, _, _, _]) (fun w' => ∃ q : Regrown, w' = grow (redrawn W q.d) q.os) (by kernel_rfl) (by kernel_rfl) (by kernel_rfl) (by kernel_rfl) ⟨⟨W.drawn + 1, #[]⟩, by rw [grow_empty]; rfl⟩ ?_
          repeat (gi_big_quiet_step (fail))
          refine wpQuietIn_want (fun _ _ _ _ => trivial) rfl (fun K hK => ?_)
          gi_big_quiet_op
          apply Exists.intro
          refine ⟨fun _ => cO _ _, ?_⟩
          refine hK _ ?_
          clear hK K
          refine wpQuietIn_want (fun _ _ _ _ => trivial) rfl (fun K hK => ?_)
          gi_big_quiet_op
          apply Exists.intro
          refine ⟨fun _ => cA _ _, ?_⟩
          refine hK _ ?_
          clear hK K
          repeat (gi_big_quiet_step (fail))
          refine wpQuietIn_nil ?_
          intro _ hw'
          obtain ⟨⟨dq, osq⟩, hw''⟩ := hw'
          subst hw''
          have hRg := below_regrown W dq osq
          have r0 := cBo hRg hSc
          have r1 := (hRg.frozen (p := ⟨w1.heap.size + 1, 0, none⟩) (World.block_lt_of_cell? _ _ hSc)).trans hSf2
          rw [HOR.out]
          refine wpIn_store rfl (store1 r0 r1) ?_
          refine ⟨⟨World.cell?_setCell_same _ ⟨w1.heap.size + 1, 0, none⟩ _ r0, (World.frozen?_setCell ..).trans r1⟩, (ButS.of hRg).trans (ButS.set _ _ _), trivial⟩
        case hdone =>
          intro D ys W hD hys hSc hSf2 hW _ hK
          have hE : orK F R l false 5 (accB F R l false 5) (vals ys) = accB F R l false 6 := by rw [hys]; rfl
          rw [hE] at hSc
          have hM2 := hM.cons ((ButS.of b01).trans hW) (by omega) (D := D) (by omega) (by omega) hK
          have hB2 : ButS (w1.heap.size + 1) V0 W := hBU.trans hW
          clear hE hys hK hM
          gi_wp2
          refine ⟨?_, ?_⟩
          · refine ⟨6, 6, D :: Ds, ?_⟩
            repeat apply Exists.intro
            exact ⟨by omega, rfl, ⟨hSc, hSf2⟩, hB2, hM2, rfl⟩
          · simp [intOf]
        case hstop =>
          intro D cc pre W _ _ _ _ _ h
          exact h.elim
      · obtain rfl : m = 6 := hm
        have hx := fun w' => ix7_6 0 ((kS l false 1 : Nat) : Int) ((kS l false 2 : Nat) : Int) ((kS l false 3 : Nat) : Int) ((kS l false 4 : Nat) : Int) ((kS l false 5 : Nat) : Int) ((kS l false 6 : Nat) : Int) w'
        have hXlt : kS l false 6 < 18446744073709551616 := idx_64 _ l hlen
        have hTr := HT.out.below (hB0.trans (hB.below (B := w.heap.size) (by omega) (by omega)))
        have HTR := Lib.hid hTr
        clear hTr
        gi_wp2_with fail
        refine ⟨trivial, callsIn_wide.2 ((each_any (kS l false 6) _).mono ?_)⟩
        rintro e w2 ⟨rfl, rfl⟩
        gi_wp2_with fail
        obtain ⟨V1, hV1⟩ : ∃ V1, ((wr.alloc (.cells #[.int .i64 6] 3)).alloc (.cells #[.int .u64 ((kS l false 6) : Nat)] 30)) = V1 := ⟨_, rfl⟩
        have b01 : Below wr.heap.size wr V1 := by rw [← hV1]; exact ((Below.refl _ _).alloc (by simp) _).alloc (by simp) _
        have v0 : V1.cell? ⟨w1.heap.size + 1, 0, none⟩ = some (.int .u64 ((orK F R l false 6 (accB F R l false 6) (vals ([] : List (Sq (kS l false 6)))) : Nat) : Int)) := (b01.cell (p := ⟨w1.heap.size + 1, 0, none⟩) (by simp; omega)).trans hS
        have v1 : V1.frozen? ⟨w1.heap.size + 1, 0, none⟩ = false := (b01.frozen (p := ⟨w1.heap.size + 1, 0, none⟩) (by simp; omega)).trans hSf
        have v2 : V1.cell? ⟨w.heap.size + 1, 0, none⟩ = some (.bool false) := (b01.cell (p := ⟨w.heap.size + 1, 0, none⟩) (by simp; omega)).trans e3
        have v3 : V1.cell? ⟨wr.heap.size, 0, none⟩ = some (.int .i64 6) := by rw [← hV1]; exact alive _ (by simp [go_sem])
        have v4 : V1.cell? ⟨wr.heap.size + 1, 0, none⟩ = some (.int .u64 ((kS l false 6) : Nat)) := by rw [← hV1]; simp [go_sem]
        have hV1s : V1.heap.size = wr.heap.size + 2 := by rw [← hV1]; simp
        have hBU : ButS (w1.heap.size + 1) V0 V1 := hB.trans (ButS.of b01)
        have hTV := HTR.out.below b01
        have HTV := Lib.hid hTV
        have HFV := Lib.hid (hF0.but hBU (by omega))
        rw [hV1]
        clear hV1 e3 hTV
        apply range_each (X := (kS l false 6)) hXlt (by omega) rfl (wr.heap.size + 1) (w1.heap.size + 1) w.heap.size (by omega) (by omega) HT.out.1.1 (by omega) rfl v4 HTV.out.1
          (fun pre => .int .u64 ((orK F R l false 6 (accB F R l false 6) (vals pre) : Nat) : Int)) (fun _ => True) (fun _ => undef) (fun _ _ => False)
          v0 v1 trivial
        case hassign =>
          intro l x W K hK
          gi_wp2
          exact hK
        case hbody =>
          intro lp pre x W hSc hSf2 hBW _ hlen2
          obtain ⟨hxv, hx64⟩ := HVAT.out 6 x.1 (by omega) x.2
          have HXV := Lib.hid hxv
          have w2c := hBW.cell v2 (by simp; omega)
          have w3c := hBW.cell v3 (by simp; omega)
          have hFW := HFV.out.but hBW (by omega)
          have hszW := hBW.size
          have hTW := HT.out.below (hB0.trans ((hBU.trans hBW).below (B := w.heap.size) (by omega) (by omega)))
          have HFW := Lib.hid hFW
          have HTW := Lib.hid hTW
          have hor := u64_or_nat (orK F R l false 6 (accB F R l false 6) (vals pre)) (ofL (attL F R 6 false (x.1 : Int) (ofL (occL l)))) (orK_lt hv _ _ _ (accB_lt hv _)) (attL_64 hv ..)
          rw [← orK_snoc, ← vals_snoc] at hor
          have HOR := Lib.hid hor
          clear hlen2 hor hFW hTW v0 v1 v2 v3 v4 hxv
          have hmx : Tryd.prog.follows .mixedOrders = true := by kernel_rfl
          have hw1 : IntKind.i8.wrap 6 = 6 := by decide
          have hmem : ofL (attL F R 6 false (x.1 : Int) (ofL (occL l))) = ofL (attL F R 6 false (x.1 : Int) (ofL (occL l))) := rfl
          have z1 := cell_regrown hSc
          have z2 := cell_regrown w2c
          have z3 := cell_regrown w3c
          have cO : ∀ d os, CallsIn Fence.wide (6 - 1 - 1 - 1) Tryd.prog 45 #[.pointer (some ⟨w1.heap.size, 0, none⟩)] (grow (redrawn W d) os) fun e w'' => e = .returned (.int .u64 (ofL (occL l) : Int)) ∧ ∃ q : Regrown, w'' = grow (redrawn W q.d) q.os := fun d os => callsIn_wide.2 (Calls.regrown_of (HO.out _ _ (cell_regrown (HFW.out.2.1 false) d os) (cell_regrown (HFW.out.2.1 true) d os)))
          have cA : ∀ d os, CallsIn Fence.wide (6 - 1 - 1 - 1) Tryd.prog 44 #[.pointer (some ⟨w1.heap.size, 0, none⟩), .int .i8 6, .bool false, .int .i64 (x.1 : Int), .int .u64 (ofL (occL l) : Int)] (grow (redrawn W d) os) fun e w'' => e = .returned (.int .u64 (ofL (attL F R 6 false (x.1 : Int) (ofL (occL l))) : Int)) ∧ ∃ q : Regrown, w'' = grow (redrawn W q.d) q.os := fun d os => callsIn_wide.2 (Calls.regrown_of (HA.out x.1 HXV.out 6 (by omega) (by omega) _ _ (HTW.out.below (below_regrown W d os)).2 (cell_regrown HFW.out.1.1 d os) (cell_regrown HFW.out.1.2 d os)))
          clear hmem
          gi_wp2
          refine tail_round (L := [_, _, _, _, _, _, _, _]) (fun w' => ∃ q : Regrown, w' = grow (redrawn W q.d) q.os) (by kernel_rfl) (by kernel_rfl) (by kernel_rfl) (by kernel_rfl) ⟨⟨W.drawn + 1, #[]⟩, by rw [grow_empty]; rfl⟩ ?_
          repeat (gi_big_quiet_step (fail))
          refine wpQuietIn_want (fun _ _ _ _ => trivial) rfl (fun K hK => ?_)
          gi_big_quiet_op
          apply Exists.intro
          refine ⟨fun _ => cO _ _, ?_⟩
          refine hK _ ?_
          clear hK K
          refine wpQuietIn_want (fun _ _ _ _ => trivial) rfl (fun K hK => ?_)
          gi_big_quiet_op
          apply Exists.intro
          refine ⟨fun _ => cA _ _, ?_⟩
          refine hK _ ?_
          clear hK K
          repeat (gi_big_quiet_step (fail))
          refine wpQuietIn_nil ?_
          intro _ hw'
          obtain ⟨⟨dq, osq⟩, hw''⟩ := hw'
          subst hw''
          have hRg := below_regrown W dq osq
          have r0 := cBo hRg hSc
          have r1 := (hRg.frozen (p := ⟨w1.heap.size + 1, 0, none⟩) (World.block_lt_of_cell? _ _ hSc)).trans hSf2
          rw [HOR.out]
          refine wpIn_store rfl (store1 r0 r1) ?_
          refine ⟨⟨World.cell?_setCell_same _ ⟨w1.heap.size + 1, 0, none⟩ _ r0, (World.frozen?_setCell ..).trans r1⟩, (ButS.of hRg).trans (ButS.set _ _ _), trivial⟩
        case hdone =>
          intro D ys W hD hys hSc hSf2 hW _ hK
          have hE : orK F R l false 6 (accB F R l false 6) (vals ys) = accB F R l false 7 := by rw [hys]; rfl
          rw [hE] at hSc
          have hM2 := hM.cons ((ButS.of b01).trans hW) (by omega) (D := D) (by omega) (by omega) hK
          have hB2 : ButS (w1.heap.size + 1) V0 W := hBU.trans hW
          clear hE hys hK hM
          gi_wp2
          refine ⟨?_, ?_⟩
          · refine ⟨7, 7, D :: Ds, ?_⟩
            repeat apply Exists.intro
            exact ⟨by omega, rfl, ⟨hSc, hSf2⟩, hB2, hM2, rfl⟩
          · simp [intOf]
        case hstop =>
          intro D cc pre W _ _ _ _ _ h
          exact h.elim
    · obtain rfl : k = 7 := by omega
      obtain rfl : m = 7 := hm
      rw [HALL.out] at hS
      clear HALL
      gi_wp2
      refine leaves_marks Ds _ hM (fun w' hw => ?_)
      refine ⟨_, results_tmp2 rfl _ _ _, rfl, ?_⟩
      exact (hB0.trans (hB.below (B := w.heap.size) (by omega) (by omega))).trans (hw.mono (by omega))

set_option maxRecDepth 100000 in
set_option maxHeartbeats 8000000 in
theorem gAll_true (F R : Int) (l : List Int) (A : Option Addr) (c : Nat) (w : World) (hb : vbd F R l) (ho : orA l = true) (hA : RdP w w.heap.size A l c) (hT : T5 w) :
    CallsIn Fence.wide 6 Tryd.prog 15 #[.agg #[.int .i64 F, .int .i64 R, .slice A l.length c], .bool true] w fun e w' => e = .returned (.tuple #[.int .u64 (ofL (attackedL F R l true) : Int), .int .i64 0]) ∧ Below w.heap.size w w' := by
  have hlen := vbd_64 hb
  have hv := hb.1
  have hL := len18 (F := F) (R := R) (S := sS l) (K := kS l) rfl
  obtain ⟨L, hLL⟩ : ∃ L, fieldC F R (sS l) (kS l) = L := ⟨_, rfl⟩
  rw [hLL] at hL
  have HSV := Lib.hid (fun w hA => surv_yes F R l A c hb ho L hLL w hA)
  have HLY := Lib.hid (fun w => lay18 w hLL)
  have HO := Lib.hid (fun B w h1 h2 => aOcc_any B (sS l false) (sS l true) (idx_64 _ l hlen) (idx_64 _ l hlen) w h1 h2)
  rw [occ_or] at HO
  have HA := Lib.hid (fun (a : Nat) (ha : vat F R (a : Int)) k hk hk6 B w hT h0 h1 => aAtt_any F R (a : Int) k true B (ofL (occL l)) hk hk6 ha (occ_full hb) w hT h0 h1)
  have HS : Hid (∀ B w, Calls Tryd.prog 42 #[.pointer (some ⟨B, 0, none⟩), .bool true] w fun e w' => e = .returned (.pointer (some ⟨B, 10, none⟩)) ∧ w = w') := Lib.hid (fun B w => aSide_any B true w)
  have HALL := Lib.hid (accB_all (bl := true) hb ho)
  have HVAT : Hid (∀ k (i : Nat), 1 ≤ k → i ∈ listOf (kS l true k) → vat F R (i : Int) ∧ i < 64) := Lib.hid (fun k i hk hi => by
    have h1 := mem_listOf.1 hi
    have h2 := (kS_bit hk).1 h1.2
    have := hb.2.1
    exact ⟨⟨hb.1, by omega, by omega⟩, h1.1⟩)
  have HA0 := Lib.hid (rdBo (box1 w (.cells #[.int .i64 F, .int .i64 R, .slice A l.length c] 26)) hA)
  have HA1 := Lib.hid (rdBo (box1 (w.alloc (.cells #[.int .i64 F, .int .i64 R, .slice A l.length c] 26)) (.cells #[.bool true] 4)) HA0.out)
  have HT := Lib.hid hT
  clear hA hT hLL HA0
  refine callsIn_of_wp_marks Tryd.func15 rfl trivial ?_ rfl
  simp only [Tryd.ntmps15, List.size_toArray, List.length_cons, List.length_nil, Nat.reduceAdd, Nat.reduceSub, Array.replicate_succ, Array.replicate_zero, List.push_toArray, List.append_toArray, List.nil_append, List.cons_append]
  gi_wp2_with fail
  refine ⟨trivial, callsIn_wide.2 ((HSV.out _ HA1.out).mono ?_)⟩
  rintro e w1 ⟨rfl, hb1⟩
  obtain ⟨V, hst, hFl, hVb, hVs⟩ := HLY.out w1
  have hs1 := hb1.size
  simp only [World.size_alloc] at hs1
  have c3 := hb1.cell (p := ⟨w.heap.size + 1, 0, none⟩) (by simp)
  simp [go_sem] at c3
  have hB1 := after2 hb1
  have hBv := chain hB1 hVb
  have d3 := (hVb.cell (World.block_lt_of_cell? _ _ c3)).trans c3
  have g3 := alive (.cells #[.int .u64 0] 30) d3
  have hFl2 := hFl.below (box1 V (.cells #[.int .u64 0] 30))
  have q0 := hFl2.2.2 true 0 (by omega)
  have q1 := hFl2.2.2 true 1 (by omega)
  have q2 := hFl2.2.2 true 2 (by omega)
  have q3 := hFl2.2.2 true 3 (by omega)
  have q4 := hFl2.2.2 true 4 (by omega)
  have q5 := hFl2.2.2 true 5 (by omega)
  have q6 := hFl2.2.2 true 6 (by omega)
  simp only [offN, if_true, Nat.reduceAdd] at q0 q1 q2 q3 q4 q5 q6
  rw [kS_zero] at q0
  have HFL := Lib.hid hFl2
  have HBV := Lib.hid (hBv.alloc hBv.size (.cells #[.int .u64 0] 30))
  clear hb1 c3 hVb hB1 HLY hFl hBv hFl2 HA1
  gi_wp2_with fail
  refine ⟨trivial, callsIn_wide.2 ((HS.out _ _).mono ?_)⟩
  rintro e w2 ⟨rfl, rfl⟩
  gi_wp2_with fail
  obtain ⟨V0, hV0⟩ : ∃ V0, V.alloc (.cells #[.int .u64 0] 30) = V0 := ⟨_, rfl⟩
  have k3 : V0.cell? ⟨w1.heap.size + 1, 0, none⟩ = some (.int .u64 ((accB F R l true 0 : Nat) : Int)) := by rw [← hV0, ← hVs]; simp [go_sem]; rfl
  have k4 : V0.frozen? ⟨w1.heap.size + 1, 0, none⟩ = false := by rw [← hV0, ← hVs]; simp [go_sem]
  have hs0 : V0.heap.size = w1.heap.size + 2 := by rw [← hV0]; simp; omega
  rw [hV0] at g3 HFL HBV ⊢
  clear hV0 hst hVs d3 q0 q1 q2 q3 q4 q5 q6 hL HSV HS
  have hB0 := HBV.out
  have hF0 := HFL.out
  have hs0' : w1.heap.size + 2 ≤ V0.heap.size := by omega
  clear hs0
  refine wpIn_loop (fun a' w' => ∃ (k : Nat) (m : Int) (Ds : List Nat) (u9 u10 u26 u27 u28 u29 u30 u40 : Value), k ≤ 7 ∧ m = k ∧ (w'.cell? ⟨w1.heap.size + 1, 0, none⟩ = some (.int .u64 ((accB F R l true k : Nat) : Int)) ∧ w'.frozen? ⟨w1.heap.size + 1, 0, none⟩ = false) ∧ ButS (w1.heap.size + 1) V0 w' ∧ MarksAt (w1.heap.size + 1 + 1) Ds w' ∧
      a' = { tmps := #[(.agg #[.int .i64 F, .int .i64 R, .slice A l.length c] : Value), (.bool true : Value), (.pointer (some ⟨w.heap.size, 0, none⟩) : Value), (.pointer (some ⟨w.heap.size + 1, 0, none⟩) : Value), (.int .u64 0 : Value), (.int .i64 0 : Value), (.pointer (some ⟨w1.heap.size, 0, none⟩) : Value), (.int .i64 0 : Value), (.pointer (some ⟨w1.heap.size + 1, 0, none⟩) : Value), u9, u10, undef, (.tuple #[.agg L.toArray, .int .i64 0] : Value), (.agg #[.int .i64 F, .int .i64 R, .slice A l.length c] : Value), (.tuple #[.agg L.toArray, .int .i64 0] : Value), (.agg L.toArray : Value), (.int .i64 0 : Value), (.int .i64 0 : Value), (.bool false : Value), undef, (.bool true : Value), (.pointer (some ⟨w1.heap.size, 10, none⟩) : Value), (.pointer (some ⟨w1.heap.size, 10, none⟩) : Value), (.pointer (some ⟨w1.heap.size, 11, none⟩) : Value), (.agg #[.int .u64 0, .int .u64 (kS l true 1 : Nat), .int .u64 (kS l true 2 : Nat), .int .u64 (kS l true 3 : Nat), .int .u64 (kS l true 4 : Nat), .int .u64 (kS l true 5 : Nat), .int .u64 (kS l true 6 : Nat)] : Value), (.int .i64 m : Value), u26, u27, u28, u29, u30, undef, undef, undef, undef, undef, undef, undef, undef, undef, u40, undef], defers := marks Ds })
    (fun a' _ => 7 - (intOf (a'.tmps.getD 25 undef)).toNat) ?start ?round
  case start => exact ⟨0, 0, [], _, _, _, _, _, _, _, _, Nat.zero_le _, rfl, ⟨k3, k4⟩, ButS.refl _ _, MarksAt.nil _ _, rfl⟩
  case round =>
    rintro _ wr ⟨k, m, Ds, u9, u10, u26, u27, u28, u29, u30, u40, hk, hm, ⟨hS, hSf⟩, hB, hM, rfl⟩
    have e3 := hB.cell g3 (by simp; omega)
    have hsz := hB.size
    clear k3 k4 g3
    by_cases hlt : k < 7
    · rcases seven hlt with rfl | rfl | rfl | rfl | rfl | rfl | rfl
      · obtain rfl : m = 0 := hm
        have hx := fun w' => ix7_0 0 ((kS l true 1 : Nat) : Int) ((kS l true 2 : Nat) : Int) ((kS l true 3 : Nat) : Int) ((kS l true 4 : Nat) : Int) ((kS l true 5 : Nat) : Int) ((kS l true 6 : Nat) : Int) w'
        have hXlt : kS l true 0 < 18446744073709551616 := idx_64 _ l hlen
        have hTr := HT.out.below (hB0.trans (hB.below (B := w.heap.size) (by omega) (by omega)))
        have HTR := Lib.hid hTr
        clear hTr
        gi_wp2_with fail
        refine ⟨trivial, callsIn_wide.2 ((each_any 0 _).mono ?_)⟩
        rintro e w2 ⟨rfl, rfl⟩
        gi_wp2_with fail
        obtain ⟨V1, hV1⟩ : ∃ V1, ((wr.alloc (.cells #[.int .i64 0] 3)).alloc (.cells #[.int .u64 0] 30)) = V1 := ⟨_, rfl⟩
        have b01 : Below wr.heap.size wr V1 := by rw [← hV1]; exact ((Below.refl _ _).alloc (by simp) _).alloc (by simp) _
        have v0 : V1.cell? ⟨w1.heap.size + 1, 0, none⟩ = some (.int .u64 ((orK F R l true 0 (accB F R l true 0) (vals ([] : List (Sq 0))) : Nat) : Int)) := (b01.cell (p := ⟨w1.heap.size + 1, 0, none⟩) (by simp; omega)).trans hS
        have v1 : V1.frozen? ⟨w1.heap.size + 1, 0, none⟩ = false := (b01.frozen (p := ⟨w1.heap.size + 1, 0, none⟩) (by simp; omega)).trans hSf
        have v2 : V1.cell? ⟨w.heap.size + 1, 0, none⟩ = some (.bool true) := (b01.cell (p := ⟨w.heap.size + 1, 0, none⟩) (by simp; omega)).trans e3
        have v3 : V1.cell? ⟨wr.heap.size, 0, none⟩ = some (.int .i64 0) := by rw [← hV1]; exact alive _ (by simp [go_sem])
        have v4 : V1.cell? ⟨wr.heap.size + 1, 0, none⟩ = some (.int .u64 (0 : Nat)) := by rw [← hV1]; simp [go_sem]
        have hV1s : V1.heap.size = wr.heap.size + 2 := by rw [← hV1]; simp
        have hBU : ButS (w1.heap.size + 1) V0 V1 := hB.trans (ButS.of b01)
        have hTV := HTR.out.below b01
        have HTV := Lib.hid hTV
        have HFV := Lib.hid (hF0.but hBU (by omega))
        rw [hV1]
        clear hV1 e3 hTV
        apply range_each (X := 0) (by decide) (by omega) rfl (wr.heap.size + 1) (w1.heap.size + 1) w.heap.size (by omega) (by omega) HT.out.1.1 (by omega) rfl v4 HTV.out.1
          (fun pre => .int .u64 ((orK F R l true 0 (accB F R l true 0) (vals pre) : Nat) : Int)) (fun _ => True) (fun _ => undef) (fun _ _ => False)
          v0 v1 trivial
        case hassign =>
          intro l x W K hK
          gi_wp2
          exact hK
        case hbody =>
          intro l pre x W _ _ _ _ hlen2
          rw [listOf_zero] at hlen2
          simp at hlen2
        case hdone =>
          intro D ys W hD hys hSc hSf2 hW _ hK
          have hE : orK F R l true 0 (accB F R l true 0) (vals ys) = accB F R l true 1 := by rw [hys]; show _ = orK F R l true 0 (accB F R l true 0) (listOf (kS l true 0)); rw [kS_zero]
          rw [hE] at hSc
          have hM2 := hM.cons ((ButS.of b01).trans hW) (by omega) (D := D) (by omega) (by omega) hK
          have hB2 : ButS (w1.heap.size + 1) V0 W := hBU.trans hW
          clear hE hys hK hM
          gi_wp2
          refine ⟨?_, ?_⟩
          · refine ⟨1, 1, D :: Ds, ?_⟩
            repeat apply Exists.intro
            exact ⟨by omega, rfl, ⟨hSc, hSf2⟩, hB2, hM2, rfl⟩
          · simp [intOf]
        case hstop =>
          intro D cc pre W _ _ _ _ _ h
          exact h.elim
      · obtain rfl : m = 1 := hm
        have hx := fun w' => ix7_1 0 ((kS l true 1 : Nat) : Int) ((kS l true 2 : Nat) : Int) ((kS l true 3 : Nat) : Int) ((kS l true 4 : Nat) : Int) ((kS l true 5 : Nat) : Int) ((kS l true 6 : Nat) : Int) w'
        have hXlt : kS l true 1 < 18446744073709551616 := idx_64 _ l hlen
        have hTr := HT.out.below (hB0.trans (hB.below (B := w.heap.size) (by omega) (by omega)))
        have HTR := Lib.hid hTr
        clear hTr
        gi_wp2_with fail
        refine ⟨trivial, callsIn_wide.2 ((each_any (kS l true 1) _).mono ?_)⟩
        rintro e w2 ⟨rfl, rfl⟩
        gi_wp2_with fail
        obtain ⟨V1, hV1⟩ : ∃ V1, ((wr.alloc (.cells #[.int .i64 1] 3)).alloc (.cells #[.int .u64 ((kS l true 1) : Nat)] 30)) = V1 := ⟨_, rfl⟩
        have b01 : Below wr.heap.size wr V1 := by rw [← hV1]; exact ((Below.refl _ _).alloc (by simp) _).alloc (by simp) _
        have v0 : V1.cell? ⟨w1.heap.size + 1, 0, none⟩ = some (.int .u64 ((orK F R l true 1 (accB F R l true 1) (vals ([] : List (Sq (kS l true 1)))) : Nat) : Int)) := (b01.cell (p := ⟨w1.heap.size + 1, 0, none⟩) (by simp; omega)).trans hS
        have v1 : V1.frozen? ⟨w1.heap.size + 1, 0, none⟩ = false := (b01.frozen (p := ⟨w1.heap.size + 1, 0, none⟩) (by simp; omega)).trans hSf
        have v2 : V1.cell? ⟨w.heap.size + 1, 0, none⟩ = some (.bool true) := (b01.cell (p := ⟨w.heap.size + 1, 0, none⟩) (by simp; omega)).trans e3
        have v3 : V1.cell? ⟨wr.heap.size, 0, none⟩ = some (.int .i64 1) := by rw [← hV1]; exact alive _ (by simp [go_sem])
        have v4 : V1.cell? ⟨wr.heap.size + 1, 0, none⟩ = some (.int .u64 ((kS l true 1) : Nat)) := by rw [← hV1]; simp [go_sem]
        have hV1s : V1.heap.size = wr.heap.size + 2 := by rw [← hV1]; simp
        have hBU : ButS (w1.heap.size + 1) V0 V1 := hB.trans (ButS.of b01)
        have hTV := HTR.out.below b01
        have HTV := Lib.hid hTV
        have HFV := Lib.hid (hF0.but hBU (by omega))
        rw [hV1]
        clear hV1 e3 hTV
        apply range_each (X := (kS l true 1)) hXlt (by omega) rfl (wr.heap.size + 1) (w1.heap.size + 1) w.heap.size (by omega) (by omega) HT.out.1.1 (by omega) rfl v4 HTV.out.1
          (fun pre => .int .u64 ((orK F R l true 1 (accB F R l true 1) (vals pre) : Nat) : Int)) (fun _ => True) (fun _ => undef) (fun _ _ => False)
          v0 v1 trivial
        case hassign =>
          intro l x W K hK
          gi_wp2
          exact hK
        case hbody =>
          intro lp pre x W hSc hSf2 hBW _ hlen2
          obtain ⟨hxv, hx64⟩ := HVAT.out 1 x.1 (by omega) x.2
          have HXV := Lib.hid hxv
          have w2c := hBW.cell v2 (by simp; omega)
          have w3c := hBW.cell v3 (by simp; omega)
          have hFW := HFV.out.but hBW (by omega)
          have hszW := hBW.size
          have hTW := HT.out.below (hB0.trans ((hBU.trans hBW).below (B := w.heap.size) (by omega) (by omega)))
          have HFW := Lib.hid hFW
          have HTW := Lib.hid hTW
          have hor := u64_or_nat (orK F R l true 1 (accB F R l true 1) (vals pre)) (ofL (attL F R 1 true (x.1 : Int) (ofL (occL l)))) (orK_lt hv _ _ _ (accB_lt hv _)) (attL_64 hv ..)
          rw [← orK_snoc, ← vals_snoc] at hor
          have HOR := Lib.hid hor
          clear hlen2 hor hFW hTW v0 v1 v2 v3 v4 hxv
          have hmx : Tryd.prog.follows .mixedOrders = true := by kernel_rfl
          have hw1 : IntKind.i8.wrap 1 = 1 := by decide
          have hmem : ofL (attL F R 1 true (x.1 : Int) (ofL (occL l))) = ofL (attL F R 1 true (x.1 : Int) (ofL (occL l))) := rfl
          have z1 := cell_regrown hSc
          have z2 := cell_regrown w2c
          have z3 := cell_regrown w3c
          have cO : ∀ d os, CallsIn Fence.wide (6 - 1 - 1 - 1) Tryd.prog 45 #[.pointer (some ⟨w1.heap.size, 0, none⟩)] (grow (redrawn W d) os) fun e w'' => e = .returned (.int .u64 (ofL (occL l) : Int)) ∧ ∃ q : Regrown, w'' = grow (redrawn W q.d) q.os := fun d os => callsIn_wide.2 (Calls.regrown_of (HO.out _ _ (cell_regrown (HFW.out.2.1 false) d os) (cell_regrown (HFW.out.2.1 true) d os)))
          have cA : ∀ d os, CallsIn Fence.wide (6 - 1 - 1 - 1) Tryd.prog 44 #[.pointer (some ⟨w1.heap.size, 0, none⟩), .int .i8 1, .bool true, .int .i64 (x.1 : Int), .int .u64 (ofL (occL l) : Int)] (grow (redrawn W d) os) fun e w'' => e = .returned (.int .u64 (ofL (attL F R 1 true (x.1 : Int) (ofL (occL l))) : Int)) ∧ ∃ q : Regrown, w'' = grow (redrawn W q.d) q.os := fun d os => callsIn_wide.2 (Calls.regrown_of (HA.out x.1 HXV.out 1 (by omega) (by omega) _ _ (HTW.out.below (below_regrown W d os)).2 (cell_regrown HFW.out.1.1 d os) (cell_regrown HFW.out.1.2 d os)))
          clear hmem
          gi_wp2
          refine tail_round (L := [_, _, _, _, _, _, _, _]) (fun w' => ∃ q : Regrown, w' = grow (redrawn W q.d) q.os) (by kernel_rfl) (by kernel_rfl) (by kernel_rfl) (by kernel_rfl) ⟨⟨W.drawn + 1, #[]⟩, by rw [grow_empty]; rfl⟩ ?_
          repeat (gi_big_quiet_step (fail))
          refine wpQuietIn_want (fun _ _ _ _ => trivial) rfl (fun K hK => ?_)
          gi_big_quiet_op
          apply Exists.intro
          refine ⟨fun _ => cO _ _, ?_⟩
          refine hK _ ?_
          clear hK K
          refine wpQuietIn_want (fun _ _ _ _ => trivial) rfl (fun K hK => ?_)
          gi_big_quiet_op
          apply Exists.intro
          refine ⟨fun _ => cA _ _, ?_⟩
          refine hK _ ?_
          clear hK K
          repeat (gi_big_quiet_step (fail))
          refine wpQuietIn_nil ?_
          intro _ hw'
          obtain ⟨⟨dq, osq⟩, hw''⟩ := hw'
          subst hw''
          have hRg := below_regrown W dq osq
          have r0 := cBo hRg hSc
          have r1 := (hRg.frozen (p := ⟨w1.heap.size + 1, 0, none⟩) (World.block_lt_of_cell? _ _ hSc)).trans hSf2
          rw [HOR.out]
          refine wpIn_store rfl (store1 r0 r1) ?_
          refine ⟨⟨World.cell?_setCell_same _ ⟨w1.heap.size + 1, 0, none⟩ _ r0, (World.frozen?_setCell ..).trans r1⟩, (ButS.of hRg).trans (ButS.set _ _ _), trivial⟩
        case hdone =>
          intro D ys W hD hys hSc hSf2 hW _ hK
          have hE : orK F R l true 1 (accB F R l true 1) (vals ys) = accB F R l true 2 := by rw [hys]; rfl
          rw [hE] at hSc
          have hM2 := hM.cons ((ButS.of b01).trans hW) (by omega) (D := D) (by omega) (by omega) hK
          have hB2 : ButS (w1.heap.size + 1) V0 W := hBU.trans hW
          clear hE hys hK hM
          gi_wp2
          refine ⟨?_, ?_⟩
          · refine ⟨2, 2, D :: Ds, ?_⟩
            repeat apply Exists.intro
            exact ⟨by omega, rfl, ⟨hSc, hSf2⟩, hB2, hM2, rfl⟩
          · simp [intOf]
        case hstop =>
          intro D cc pre W _ _ _ _ _ h
          exact h.elim
      · obtain rfl : m = 2 := hm
        have hx := fun w' => ix7_2 0 ((kS l true 1 : Nat) : Int) ((kS l true 2 : Nat) : Int) ((kS l true 3 : Nat) : Int) ((kS l true 4 : Nat) : Int) ((kS l true 5 : Nat) : Int) ((kS l true 6 : Nat) : Int) w'
        have hXlt : kS l true 2 < 18446744073709551616 := idx_64 _ l hlen
        have hTr := HT.out.below (hB0.trans (hB.below (B := w.heap.size) (by omega) (by omega)))
        have HTR := Lib.hid hTr
        clear hTr
        gi_wp2_with fail
        refine ⟨trivial, callsIn_wide.2 ((each_any (kS l true 2) _).mono ?_)⟩
        rintro e w2 ⟨rfl, rfl⟩
        gi_wp2_with fail
        obtain ⟨V1, hV1⟩ : ∃ V1, ((wr.alloc (.cells #[.int .i64 2] 3)).alloc (.cells #[.int .u64 ((kS l true 2) : Nat)] 30)) = V1 := ⟨_, rfl⟩
        have b01 : Below wr.heap.size wr V1 := by rw [← hV1]; exact ((Below.refl _ _).alloc (by simp) _).alloc (by simp) _
        have v0 : V1.cell? ⟨w1.heap.size + 1, 0, none⟩ = some (.int .u64 ((orK F R l true 2 (accB F R l true 2) (vals ([] : List (Sq (kS l true 2)))) : Nat) : Int)) := (b01.cell (p := ⟨w1.heap.size + 1, 0, none⟩) (by simp; omega)).trans hS
        have v1 : V1.frozen? ⟨w1.heap.size + 1, 0, none⟩ = false := (b01.frozen (p := ⟨w1.heap.size + 1, 0, none⟩) (by simp; omega)).trans hSf
        have v2 : V1.cell? ⟨w.heap.size + 1, 0, none⟩ = some (.bool true) := (b01.cell (p := ⟨w.heap.size + 1, 0, none⟩) (by simp; omega)).trans e3
        have v3 : V1.cell? ⟨wr.heap.size, 0, none⟩ = some (.int .i64 2) := by rw [← hV1]; exact alive _ (by simp [go_sem])
        have v4 : V1.cell? ⟨wr.heap.size + 1, 0, none⟩ = some (.int .u64 ((kS l true 2) : Nat)) := by rw [← hV1]; simp [go_sem]
        have hV1s : V1.heap.size = wr.heap.size + 2 := by rw [← hV1]; simp
        have hBU : ButS (w1.heap.size + 1) V0 V1 := hB.trans (ButS.of b01)
        have hTV := HTR.out.below b01
        have HTV := Lib.hid hTV
        have HFV := Lib.hid (hF0.but hBU (by omega))
        rw [hV1]
        clear hV1 e3 hTV
        apply range_each (X := (kS l true 2)) hXlt (by omega) rfl (wr.heap.size + 1) (w1.heap.size + 1) w.heap.size (by omega) (by omega) HT.out.1.1 (by omega) rfl v4 HTV.out.1
          (fun pre => .int .u64 ((orK F R l true 2 (accB F R l true 2) (vals pre) : Nat) : Int)) (fun _ => True) (fun _ => undef) (fun _ _ => False)
          v0 v1 trivial
        case hassign =>
          intro l x W K hK
          gi_wp2
          exact hK
        case hbody =>
          intro lp pre x W hSc hSf2 hBW _ hlen2
          obtain ⟨hxv, hx64⟩ := HVAT.out 2 x.1 (by omega) x.2
          have HXV := Lib.hid hxv
          have w2c := hBW.cell v2 (by simp; omega)
          have w3c := hBW.cell v3 (by simp; omega)
          have hFW := HFV.out.but hBW (by omega)
          have hszW := hBW.size
          have hTW := HT.out.below (hB0.trans ((hBU.trans hBW).below (B := w.heap.size) (by omega) (by omega)))
          have HFW := Lib.hid hFW
          have HTW := Lib.hid hTW
          have hor := u64_or_nat (orK F R l true 2 (accB F R l true 2) (vals pre)) (ofL (attL F R 2 true (x.1 : Int) (ofL (occL l)))) (orK_lt hv _ _ _ (accB_lt hv _)) (attL_64 hv ..)
          rw [← orK_snoc, ← vals_snoc] at hor
          have HOR := Lib.hid hor
          clear hlen2 hor hFW hTW v0 v1 v2 v3 v4 hxv
          have hmx : Tryd.prog.follows .mixedOrders = true := by kernel_rfl
          have hw1 : IntKind.i8.wrap 2 = 2 := by decide
          have hmem : ofL (attL F R 2 true (x.1 : Int) (ofL (occL l))) = ofL (attL F R 2 true (x.1 : Int) (ofL (occL l))) := rfl
          have z1 := cell_regrown hSc
          have z2 := cell_regrown w2c
          have z3 := cell_regrown w3c
          have cO : ∀ d os, CallsIn Fence.wide (6 - 1 - 1 - 1) Tryd.prog 45 #[.pointer (some ⟨w1.heap.size, 0, none⟩)] (grow (redrawn W d) os) fun e w'' => e = .returned (.int .u64 (ofL (occL l) : Int)) ∧ ∃ q : Regrown, w'' = grow (redrawn W q.d) q.os := fun d os => callsIn_wide.2 (Calls.regrown_of (HO.out _ _ (cell_regrown (HFW.out.2.1 false) d os) (cell_regrown (HFW.out.2.1 true) d os)))
          have cA : ∀ d os, CallsIn Fence.wide (6 - 1 - 1 - 1) Tryd.prog 44 #[.pointer (some ⟨w1.heap.size, 0, none⟩), .int .i8 2, .bool true, .int .i64 (x.1 : Int), .int .u64 (ofL (occL l) : Int)] (grow (redrawn W d) os) fun e w'' => e = .returned (.int .u64 (ofL (attL F R 2 true (x.1 : Int) (ofL (occL l))) : Int)) ∧ ∃ q : Regrown, w'' = grow (redrawn W q.d) q.os := fun d os => callsIn_wide.2 (Calls.regrown_of (HA.out x.1 HXV.out 2 (by omega) (by omega) _ _ (HTW.out.below (below_regrown W d os)).2 (cell_regrown HFW.out.1.1 d os) (cell_regrown HFW.out.1.2 d os)))
          clear hmem
          gi_wp2
          refine tail_round (L := [_, _, _, _, _, _, _, _]) (fun w' => ∃ q : Regrown, w' = grow (redrawn W q.d) q.os) (by kernel_rfl) (by kernel_rfl) (by kernel_rfl) (by kernel_rfl) ⟨⟨W.drawn + 1, #[]⟩, by rw [grow_empty]; rfl⟩ ?_
          repeat (gi_big_quiet_step (fail))
          refine wpQuietIn_want (fun _ _ _ _ => trivial) rfl (fun K hK => ?_)
          gi_big_quiet_op
          apply Exists.intro
          refine ⟨fun _ => cO _ _, ?_⟩
          refine hK _ ?_
          clear hK K
          refine wpQuietIn_want (fun _ _ _ _ => trivial) rfl (fun K hK => ?_)
          gi_big_quiet_op
          apply Exists.intro
          refine ⟨fun _ => cA _ _, ?_⟩
          refine hK _ ?_
          clear hK K
          repeat (gi_big_quiet_step (fail))
          refine wpQuietIn_nil ?_
          intro _ hw'
          obtain ⟨⟨dq, osq⟩, hw''⟩ := hw'
          subst hw''
          have hRg := below_regrown W dq osq
          have r0 := cBo hRg hSc
          have r1 := (hRg.frozen (p := ⟨w1.heap.size + 1, 0, none⟩) (World.block_lt_of_cell? _ _ hSc)).trans hSf2
          rw [HOR.out]
          refine wpIn_store rfl (store1 r0 r1) ?_
          refine ⟨⟨World.cell?_setCell_same _ ⟨w1.heap.size + 1, 0, none⟩ _ r0, (World.frozen?_setCell ..).trans r1⟩, (ButS.of hRg).trans (ButS.set _ _ _), trivial⟩
        case hdone =>
          intro D ys W hD hys hSc hSf2 hW _ hK
          have hE : orK F R l true 2 (accB F R l true 2) (vals ys) = accB F R l true 3 := by rw [hys]; rfl
          rw [hE] at hSc
          have hM2 := hM.cons ((ButS.of b01).trans hW) (by omega) (D := D) (by omega) (by omega) hK
          have hB2 : ButS (w1.heap.size + 1) V0 W := hBU.trans hW
          clear hE hys hK hM
          gi_wp2
          refine ⟨?_, ?_⟩
          · refine ⟨3, 3, D :: Ds, ?_⟩
            repeat apply Exists.intro
            exact ⟨by omega, rfl, ⟨hSc, hSf2⟩, hB2, hM2, rfl⟩
          · simp [intOf]
        case hstop =>
          intro D cc pre W _ _ _ _ _ h
          exact h.elim
      · obtain rfl : m = 3 := hm
        have hx := fun w' => ix7_3 0 ((kS l true 1 : Nat) : Int) ((kS l true 2 : Nat) : Int) ((kS l true 3 : Nat) : Int) ((kS l true 4 : Nat) : Int) ((kS l true 5 : Nat) : Int) ((kS l true 6 : Nat) : Int) w'
        have hXlt : kS l true 3 < 18446744073709551616 := idx_64 _ l hlen
        have hTr := HT.out.below (hB0.trans (hB.below (B := w.heap.size) (by omega) (by omega)))
        have HTR := Lib.hid hTr
        clear hTr
        gi_wp2_with fail
        refine ⟨trivial, callsIn_wide.2 ((each_any (kS l true 3) _).mono ?_)⟩
        rintro e w2 ⟨rfl, rfl⟩
        gi_wp2_with fail
        obtain ⟨V1, hV1⟩ : ∃ V1, ((wr.alloc (.cells #[.int .i64 3] 3)).alloc (.cells #[.int .u64 ((kS l true 3) : Nat)] 30)) = V1 := ⟨_, rfl⟩
        have b01 : Below wr.heap.size wr V1 := by rw [← hV1]; exact ((Below.refl _ _).alloc (by simp) _).alloc (by simp) _
        have v0 : V1.cell? ⟨w1.heap.size + 1, 0, none⟩ = some (.int .u64 ((orK F R l true 3 (accB F R l true 3) (vals ([] : List (Sq (kS l true 3)))) : Nat) : Int)) := (b01.cell (p := ⟨w1.heap.size + 1, 0, none⟩) (by simp; omega)).trans hS
        have v1 : V1.frozen? ⟨w1.heap.size + 1, 0, none⟩ = false := (b01.frozen (p := ⟨w1.heap.size + 1, 0, none⟩) (by simp; omega)).trans hSf
        have v2 : V1.cell? ⟨w.heap.size + 1, 0, none⟩ = some (.bool true) := (b01.cell (p := ⟨w.heap.size + 1, 0, none⟩) (by simp; omega)).trans e3
        have v3 : V1.cell? ⟨wr.heap.size, 0, none⟩ = some (.int .i64 3) := by rw [← hV1]; exact alive _ (by simp [go_sem])
        have v4 : V1.cell? ⟨wr.heap.size + 1, 0, none⟩ = some (.int .u64 ((kS l true 3) : Nat)) := by rw [← hV1]; simp [go_sem]
        have hV1s : V1.heap.size = wr.heap.size + 2 := by rw [← hV1]; simp
        have hBU : ButS (w1.heap.size + 1) V0 V1 := hB.trans (ButS.of b01)
        have hTV := HTR.out.below b01
        have HTV := Lib.hid hTV
        have HFV := Lib.hid (hF0.but hBU (by omega))
        rw [hV1]
        clear hV1 e3 hTV
        apply range_each (X := (kS l true 3)) hXlt (by omega) rfl (wr.heap.size + 1) (w1.heap.size + 1) w.heap.size (by omega) (by omega) HT.out.1.1 (by omega) rfl v4 HTV.out.1
          (fun pre => .int .u64 ((orK F R l true 3 (accB F R l true 3) (vals pre) : Nat) : Int)) (fun _ => True) (fun _ => undef) (fun _ _ => False)
          v0 v1 trivial
        case hassign =>
          intro l x W K hK
          gi_wp2
          exact hK
        case hbody =>
          intro lp pre x W hSc hSf2 hBW _ hlen2
          obtain ⟨hxv, hx64⟩ := HVAT.out 3 x.1 (by omega) x.2
          have HXV := Lib.hid hxv
          have w2c := hBW.cell v2 (by simp; omega)
          have w3c := hBW.cell v3 (by simp; omega)
          have hFW := HFV.out.but hBW (by omega)
          have hszW := hBW.size
          have hTW := HT.out.below (hB0.trans ((hBU.trans hBW).below (B := w.heap.size) (by omega) (by omega)))
          have HFW := Lib.hid hFW
          have HTW := Lib.hid hTW
          have hor := u64_or_nat (orK F R l true 3 (accB F R l true 3) (vals pre)) (ofL (attL F R 3 true (x.1 : Int) (ofL (occL l)))) (orK_lt hv _ _ _ (accB_lt hv _)) (attL_64 hv ..)
          rw [← orK_snoc, ← vals_snoc] at hor
          have HOR := Lib.hid hor
          clear hlen2 hor hFW hTW v0 v1 v2 v3 v4 hxv
          have hmx : Tryd.prog.follows .mixedOrders = true := by kernel_rfl
          have hw1 : IntKind.i8.wrap 3 = 3 := by decide
          have hmem : ofL (attL F R 3 true (x.1 : Int) (ofL (occL l))) = ofL (attL F R 3 true (x.1 : Int) (ofL (occL l))) := rfl
          have z1 := cell_regrown hSc
          have z2 := cell_regrown w2c
          have z3 := cell_regrown w3c
          have cO : ∀ d os, CallsIn Fence.wide (6 - 1 - 1 - 1) Tryd.prog 45 #[.pointer (some ⟨w1.heap.size, 0, none⟩)] (grow (redrawn W d) os) fun e w'' => e = .returned (.int .u64 (ofL (occL l) : Int)) ∧ ∃ q : Regrown, w'' = grow (redrawn W q.d) q.os := fun d os => callsIn_wide.2 (Calls.regrown_of (HO.out _ _ (cell_regrown (HFW.out.2.1 false) d os) (cell_regrown (HFW.out.2.1 true) d os)))
          have cA : ∀ d os, CallsIn Fence.wide (6 - 1 - 1 - 1) Tryd.prog 44 #[.pointer (some ⟨w1.heap.size, 0, none⟩), .int .i8 3, .bool true, .int .i64 (x.1 : Int), .int .u64 (ofL (occL l) : Int)] (grow (redrawn W d) os) fun e w'' => e = .returned (.int .u64 (ofL (attL F R 3 true (x.1 : Int) (ofL (occL l))) : Int)) ∧ ∃ q : Regrown, w'' = grow (redrawn W q.d) q.os := fun d os => callsIn_wide.2 (Calls.regrown_of (HA.out x.1 HXV.out 3 (by omega) (by omega) _ _ (HTW.out.below (below_regrown W d os)).2 (cell_regrown HFW.out.1.1 d os) (cell_regrown HFW.out.1.2 d os)))
          clear hmem
          gi_wp2
          refine tail_round (L := [_, _, _, _, _, _, _, _]) (fun w' => ∃ q : Regrown, w' = grow (redrawn W q.d) q.os) (by kernel_rfl) (by kernel_rfl) (by kernel_rfl) (by kernel_rfl) ⟨⟨W.drawn + 1, #[]⟩, by rw [grow_empty]; rfl⟩ ?_
          repeat (gi_big_quiet_step (fail))
          refine wpQuietIn_want (fun _ _ _ _ => trivial) rfl (fun K hK => ?_)
          gi_big_quiet_op
          apply Exists.intro
          refine ⟨fun _ => cO _ _, ?_⟩
          refine hK _ ?_
          clear hK K
          refine wpQuietIn_want (fun _ _ _ _ => trivial) rfl (fun K hK => ?_)
          gi_big_quiet_op
          apply Exists.intro
          refine ⟨fun _ => cA _ _, ?_⟩
          refine hK _ ?_
          clear hK K
          repeat (gi_big_quiet_step (fail))
          refine wpQuietIn_nil ?_
          intro _ hw'
          obtain ⟨⟨dq, osq⟩, hw''⟩ := hw'
          subst hw''
          have hRg := below_regrown W dq osq
          have r0 := cBo hRg hSc
          have r1 := (hRg.frozen (p := ⟨w1.heap.size + 1, 0, none⟩) (World.block_lt_of_cell? _ _ hSc)).trans hSf2
          rw [HOR.out]
          refine wpIn_store rfl (store1 r0 r1) ?_
          refine ⟨⟨World.cell?_setCell_same _ ⟨w1.heap.size + 1, 0, none⟩ _ r0, (World.frozen?_setCell ..).trans r1⟩, (ButS.of hRg).trans (ButS.set _ _ _), trivial⟩
        case hdone =>
          intro D ys W hD hys hSc hSf2 hW _ hK
          have hE : orK F R l true 3 (accB F R l true 3) (vals ys) = accB F R l true 4 := by rw [hys]; rfl
          rw [hE] at hSc
          have hM2 := hM.cons ((ButS.of b01).trans hW) (by omega) (D := D) (by omega) (by omega) hK
          have hB2 : ButS (w1.heap.size + 1) V0 W := hBU.trans hW
          clear hE hys hK hM
          gi_wp2
          refine ⟨?_, ?_⟩
          · refine ⟨4, 4, D :: Ds, ?_⟩
            repeat apply Exists.intro
            exact ⟨by omega, rfl, ⟨hSc, hSf2⟩, hB2, hM2, rfl⟩
          · simp [intOf]
        case hstop =>
          intro D cc pre W _ _ _ _ _ h
          exact h.elim
      · obtain rfl : m = 4 := hm
        have hx := fun w' => ix7_4 0 ((kS l true 1 : Nat) : Int) ((kS l true 2 : Nat) : Int) ((kS l true 3 : Nat) : Int) ((kS l true 4 : Nat) : Int) ((kS l true 5 : Nat) : Int) ((kS l true 6 : Nat) : Int) w'
        have hXlt : kS l true 4 < 18446744073709551616 := idx_64 _ l hlen
        have hTr := HT.out.below (hB0.trans (hB.below (B := w.heap.size) (by omega) (by omega)))
        have HTR := Lib.hid hTr
        clear hTr
        gi_wp2_with fail
        refine ⟨trivial, callsIn_wide.2 ((each_any (kS l true 4) _).mono ?_)⟩
        rintro e w2 ⟨rfl, rfl⟩
        gi_wp2_with fail
        obtain ⟨V1, hV1⟩ : ∃ V1, ((wr.alloc (.cells #[.int .i64 4] 3)).alloc (.cells #[.int .u64 ((kS l true 4) : Nat)] 30)) = V1 := ⟨_, rfl⟩
        have b01 : Below wr.heap.size wr V1 := by rw [← hV1]; exact ((Below.refl _ _).alloc (by simp) _).alloc (by simp) _
        have v0 : V1.cell? ⟨w1.heap.size + 1, 0, none⟩ = some (.int .u64 ((orK F R l true 4 (accB F R l true 4) (vals ([] : List (Sq (kS l true 4)))) : Nat) : Int)) := (b01.cell (p := ⟨w1.heap.size + 1, 0, none⟩) (by simp; omega)).trans hS
        have v1 : V1.frozen? ⟨w1.heap.size + 1, 0, none⟩ = false := (b01.frozen (p := ⟨w1.heap.size + 1, 0, none⟩) (by simp; omega)).trans hSf
        have v2 : V1.cell? ⟨w.heap.size + 1, 0, none⟩ = some (.bool true) := (b01.cell (p := ⟨w.heap.size + 1, 0, none⟩) (by simp; omega)).trans e3
        have v3 : V1.cell? ⟨wr.heap.size, 0, none⟩ = some (.int .i64 4) := by rw [← hV1]; exact alive _ (by simp [go_sem])
        have v4 : V1.cell? ⟨wr.heap.size + 1, 0, none⟩ = some (.int .u64 ((kS l true 4) : Nat)) := by rw [← hV1]; simp [go_sem]
        have hV1s : V1.heap.size = wr.heap.size + 2 := by rw [← hV1]; simp
        have hBU : ButS (w1.heap.size + 1) V0 V1 := hB.trans (ButS.of b01)
        have hTV := HTR.out.below b01
        have HTV := Lib.hid hTV
        have HFV := Lib.hid (hF0.but hBU (by omega))
        rw [hV1]
        clear hV1 e3 hTV
        apply range_each (X := (kS l true 4)) hXlt (by omega) rfl (wr.heap.size + 1) (w1.heap.size + 1) w.heap.size (by omega) (by omega) HT.out.1.1 (by omega) rfl v4 HTV.out.1
          (fun pre => .int .u64 ((orK F R l true 4 (accB F R l true 4) (vals pre) : Nat) : Int)) (fun _ => True) (fun _ => undef) (fun _ _ => False)
          v0 v1 trivial
        case hassign =>
          intro l x W K hK
          gi_wp2
          exact hK
        case hbody =>
          intro lp pre x W hSc hSf2 hBW _ hlen2
          obtain ⟨hxv, hx64⟩ := HVAT.out 4 x.1 (by omega) x.2
          have HXV := Lib.hid hxv
          have w2c := hBW.cell v2 (by simp; omega)
          have w3c := hBW.cell v3 (by simp; omega)
          have hFW := HFV.out.but hBW (by omega)
          have hszW := hBW.size
          have hTW := HT.out.below (hB0.trans ((hBU.trans hBW).below (B := w.heap.size) (by omega) (by omega)))
          have HFW := Lib.hid hFW
          have HTW := Lib.hid hTW
          have hor := u64_or_nat (orK F R l true 4 (accB F R l true 4) (vals pre)) (ofL (attL F R 4 true (x.1 : Int) (ofL (occL l)))) (orK_lt hv _ _ _ (accB_lt hv _)) (attL_64 hv ..)
          rw [← orK_snoc, ← vals_snoc] at hor
          have HOR := Lib.hid hor
          clear hlen2 hor hFW hTW v0 v1 v2 v3 v4 hxv
          have hmx : Tryd.prog.follows .mixedOrders = true := by kernel_rfl
          have hw1 : IntKind.i8.wrap 4 = 4 := by decide
          have hmem : ofL (attL F R 4 true (x.1 : Int) (ofL (occL l))) = ofL (attL F R 4 true (x.1 : Int) (ofL (occL l))) := rfl
          have z1 := cell_regrown hSc
          have z2 := cell_regrown w2c
          have z3 := cell_regrown w3c
          have cO : ∀ d os, CallsIn Fence.wide (6 - 1 - 1 - 1) Tryd.prog 45 #[.pointer (some ⟨w1.heap.size, 0, none⟩)] (grow (redrawn W d) os) fun e w'' => e = .returned (.int .u64 (ofL (occL l) : Int)) ∧ ∃ q : Regrown, w'' = grow (redrawn W q.d) q.os := fun d os => callsIn_wide.2 (Calls.regrown_of (HO.out _ _ (cell_regrown (HFW.out.2.1 false) d os) (cell_regrown (HFW.out.2.1 true) d os)))
          have cA : ∀ d os, CallsIn Fence.wide (6 - 1 - 1 - 1) Tryd.prog 44 #[.pointer (some ⟨w1.heap.size, 0, none⟩), .int .i8 4, .bool true, .int .i64 (x.1 : Int), .int .u64 (ofL (occL l) : Int)] (grow (redrawn W d) os) fun e w'' => e = .returned (.int .u64 (ofL (attL F R 4 true (x.1 : Int) (ofL (occL l))) : Int)) ∧ ∃ q : Regrown, w'' = grow (redrawn W q.d) q.os := fun d os => callsIn_wide.2 (Calls.regrown_of (HA.out x.1 HXV.out 4 (by omega) (by omega) _ _ (HTW.out.below (below_regrown W d os)).2 (cell_regrown HFW.out.1.1 d os) (cell_regrown HFW.out.1.2 d os)))
          clear hmem
          gi_wp2
          refine tail_round (L := [_, _, _, _, _, _, _, _]) (fun w' => ∃ q : Regrown, w' = grow (redrawn W q.d) q.os) (by kernel_rfl) (by kernel_rfl) (by kernel_rfl) (by kernel_rfl) ⟨⟨W.drawn + 1, #[]⟩, by rw [grow_empty]; rfl⟩ ?_
          repeat (gi_big_quiet_step (fail))
          refine wpQuietIn_want (fun _ _ _ _ => trivial) rfl (fun K hK => ?_)
          gi_big_quiet_op
          apply Exists.intro
          refine ⟨fun _ => cO _ _, ?_⟩
          refine hK _ ?_
          clear hK K
          refine wpQuietIn_want (fun _ _ _ _ => trivial) rfl (fun K hK => ?_)
          gi_big_quiet_op
          apply Exists.intro
          refine ⟨fun _ => cA _ _, ?_⟩
          refine hK _ ?_
          clear hK K
          repeat (gi_big_quiet_step (fail))
          refine wpQuietIn_nil ?_
          intro _ hw'
          obtain ⟨⟨dq, osq⟩, hw''⟩ := hw'
          subst hw''
          have hRg := below_regrown W dq osq
          have r0 := cBo hRg hSc
          have r1 := (hRg.frozen (p := ⟨w1.heap.size + 1, 0, none⟩) (World.block_lt_of_cell? _ _ hSc)).trans hSf2
          rw [HOR.out]
          refine wpIn_store rfl (store1 r0 r1) ?_
          refine ⟨⟨World.cell?_setCell_same _ ⟨w1.heap.size + 1, 0, none⟩ _ r0, (World.frozen?_setCell ..).trans r1⟩, (ButS.of hRg).trans (ButS.set _ _ _), trivial⟩
        case hdone =>
          intro D ys W hD hys hSc hSf2 hW _ hK
          have hE : orK F R l true 4 (accB F R l true 4) (vals ys) = accB F R l true 5 := by rw [hys]; rfl
          rw [hE] at hSc
          have hM2 := hM.cons ((ButS.of b01).trans hW) (by omega) (D := D) (by omega) (by omega) hK
          have hB2 : ButS (w1.heap.size + 1) V0 W := hBU.trans hW
          clear hE hys hK hM
          gi_wp2
          refine ⟨?_, ?_⟩
          · refine ⟨5, 5, D :: Ds, ?_⟩
            repeat apply Exists.intro
            exact ⟨by omega, rfl, ⟨hSc, hSf2⟩, hB2, hM2, rfl⟩
          · simp [intOf]
        case hstop =>
          intro D cc pre W _ _ _ _ _ h
          exact h.elim
      · obtain rfl : m = 5 := hm
        have hx := fun w' => ix7_5 0 ((kS l true 1 : Nat) : Int) ((kS l true 2 : Nat) : Int) ((kS l true 3 : Nat) : Int) ((kS l true 4 : Nat) : Int) ((kS l true 5 : Nat) : Int) ((kS l true 6 : Nat) : Int) w'
        have hXlt : kS l true 5 < 18446744073709551616 := idx_64 _ l hlen
        have hTr := HT.out.below (hB0.trans (hB.below (B := w.heap.size) (by omega) (by omega)))
        have HTR := Lib.hid hTr
        clear hTr
        gi_wp2_with fail
        refine ⟨trivial, callsIn_wide.2 ((each_any (kS l true 5) _).mono ?_)⟩
        rintro e w2 ⟨rfl, rfl⟩
        gi_wp2_with fail
        obtain ⟨V1, hV1⟩ : ∃ V1, ((wr.alloc (.cells #[.int .i64 5] 3)).alloc (.cells #[.int .u64 ((kS l true 5) : Nat)] 30)) = V1 := ⟨_, rfl⟩
        have b01 : Below wr.heap.size wr V1 := by rw [← hV1]; exact ((Below.refl _ _).alloc (by simp) _).alloc (by simp) _
        have v0 : V1.cell? ⟨w1.heap.size + 1, 0, none⟩ = some (.int .u64 ((orK F R l true 5 (accB F R l true 5) (vals ([] : List (Sq (kS l true 5)))) : Nat) : Int)) := (b01.cell (p := ⟨w1.heap.size + 1, 0, none⟩) (by simp; omega)).trans hS
        have v1 : V1.frozen? ⟨w1.heap.size + 1, 0, none⟩ = false := (b01.frozen (p := ⟨w1.heap.size + 1, 0, none⟩) (by simp; omega)).trans hSf
        have v2 : V1.cell? ⟨w.heap.size + 1, 0, none⟩ = some (.bool true) := (b01.cell (p := ⟨w.heap.size + 1, 0, none⟩) (by simp; omega)).trans e3
        have v3 : V1.cell? ⟨wr.heap.size, 0, none⟩ = some (.int .i64 5) := by rw [← hV1]; exact alive _ (by simp [go_sem])
        have v4 : V1.cell? ⟨wr.heap.size + 1, 0, none⟩ = some (.int .u64 ((kS l true 5) : Nat)) := by rw [← hV1]; simp [go_sem]
        have hV1s : V1.heap.size = wr.heap.size + 2 := by rw [← hV1]; simp
        have hBU : ButS (w1.heap.size + 1) V0 V1 := hB.trans (ButS.of b01)
        have hTV := HTR.out.below b01
        have HTV := Lib.hid hTV
        have HFV := Lib.hid (hF0.but hBU (by omega))
        rw [hV1]
        clear hV1 e3 hTV
        apply range_each (X := (kS l true 5)) hXlt (by omega) rfl (wr.heap.size + 1) (w1.heap.size + 1) w.heap.size (by omega) (by omega) HT.out.1.1 (by omega) rfl v4 HTV.out.1
          (fun pre => .int .u64 ((orK F R l true 5 (accB F R l true 5) (vals pre) : Nat) : Int)) (fun _ => True) (fun _ => undef) (fun _ _ => False)
          v0 v1 trivial
        case hassign =>
          intro l x W K hK
          gi_wp2
          exact hK
        case hbody =>
          intro lp pre x W hSc hSf2 hBW _ hlen2
          obtain ⟨hxv, hx64⟩ := HVAT.out 5 x.1 (by omega) x.2
          have HXV := Lib.hid hxv
          have w2c := hBW.cell v2 (by simp; omega)
          have w3c := hBW.cell v3 (by simp; omega)
          have hFW := HFV.out.but hBW (by omega)
          have hszW := hBW.size
          have hTW := HT.out.below (hB0.trans ((hBU.trans hBW).below (B := w.heap.size) (by omega) (by omega)))
          have HFW := Lib.hid hFW
          have HTW := Lib.hid hTW
          have hor := u64_or_nat (orK F R l true 5 (accB F R l true 5) (vals pre)) (ofL (attL F R 5 true (x.1 : Int) (ofL (occL l)))) (orK_lt hv _ _ _ (accB_lt hv _)) (attL_64 hv ..)
          rw [← orK_snoc, ← vals_snoc] at hor
          have HOR := Lib.hid hor
          clear hlen2 hor hFW hTW v0 v1 v2 v3 v4 hxv
          have hmx : Tryd.prog.follows .mixedOrders = true := by kernel_rfl
          have hw1 : IntKind.i8.wrap 5 = 5 := by decide
          have hmem : ofL (attL F R 5 true (x.1 : Int) (ofL (occL l))) = ofL (attL F R 5 true (x.1 : Int) (ofL (occL l))) := rfl
          have z1 := cell_regrown hSc
          have z2 := cell_regrown w2c
          have z3 := cell_regrown w3c
          have cO : ∀ d os, CallsIn Fence.wide (6 - 1 - 1 - 1) Tryd.prog 45 #[.pointer (some ⟨w1.heap.size, 0, none⟩)] (grow (redrawn W d) os) fun e w'' => e = .returned (.int .u64 (ofL (occL l) : Int)) ∧ ∃ q : Regrown, w'' = grow (redrawn W q.d) q.os := fun d os => callsIn_wide.2 (Calls.regrown_of (HO.out _ _ (cell_regrown (HFW.out.2.1 false) d os) (cell_regrown (HFW.out.2.1 true) d os)))
          have cA : ∀ d os, CallsIn Fence.wide (6 - 1 - 1 - 1) Tryd.prog 44 #[.pointer (some ⟨w1.heap.size, 0, none⟩), .int .i8 5, .bool true, .int .i64 (x.1 : Int), .int .u64 (ofL (occL l) : Int)] (grow (redrawn W d) os) fun e w'' => e = .returned (.int .u64 (ofL (attL F R 5 true (x.1 : Int) (ofL (occL l))) : Int)) ∧ ∃ q : Regrown, w'' = grow (redrawn W q.d) q.os := fun d os => callsIn_wide.2 (Calls.regrown_of (HA.out x.1 HXV.out 5 (by omega) (by omega) _ _ (HTW.out.below (below_regrown W d os)).2 (cell_regrown HFW.out.1.1 d os) (cell_regrown HFW.out.1.2 d os)))
          clear hmem
          gi_wp2
          refine tail_round (L := [_, _, _, _, _, _, _, _]) (fun w' => ∃ q : Regrown, w' = grow (redrawn W q.d) q.os) (by kernel_rfl) (by kernel_rfl) (by kernel_rfl) (by kernel_rfl) ⟨⟨W.drawn + 1, #[]⟩, by rw [grow_empty]; rfl⟩ ?_
          repeat (gi_big_quiet_step (fail))
          refine wpQuietIn_want (fun _ _ _ _ => trivial) rfl (fun K hK => ?_)
          gi_big_quiet_op
          apply Exists.intro
          refine ⟨fun _ => cO _ _, ?_⟩
          refine hK _ ?_
          clear hK K
          refine wpQuietIn_want (fun _ _ _ _ => trivial) rfl (fun K hK => ?_)
          gi_big_quiet_op
          apply Exists.intro
          refine ⟨fun _ => cA _ _, ?_⟩
          refine hK _ ?_
          clear hK K
          repeat (gi_big_quiet_step (fail))
          refine wpQuietIn_nil ?_
          intro _ hw'
          obtain ⟨⟨dq, osq⟩, hw''⟩ := hw'
          subst hw''
          have hRg := below_regrown W dq osq
          have r0 := cBo hRg hSc
          have r1 := (hRg.frozen (p := ⟨w1.heap.size + 1, 0, none⟩) (World.block_lt_of_cell? _ _ hSc)).trans hSf2
          rw [HOR.out]
          refine wpIn_store rfl (store1 r0 r1) ?_
          refine ⟨⟨World.cell?_setCell_same _ ⟨w1.heap.size + 1, 0, none⟩ _ r0, (World.frozen?_setCell ..).trans r1⟩, (ButS.of hRg).trans (ButS.set _ _ _), trivial⟩
        case hdone =>
          intro D ys W hD hys hSc hSf2 hW _ hK
          have hE : orK F R l true 5 (accB F R l true 5) (vals ys) = accB F R l true 6 := by rw [hys]; rfl
          rw [hE] at hSc
          have hM2 := hM.cons ((ButS.of b01).trans hW) (by omega) (D := D) (by omega) (by omega) hK
          have hB2 : ButS (w1.heap.size + 1) V0 W := hBU.trans hW
          clear hE hys hK hM
          gi_wp2
          refine ⟨?_, ?_⟩
          · refine ⟨6, 6, D :: Ds, ?_⟩
            repeat apply Exists.intro
            exact ⟨by omega, rfl, ⟨hSc, hSf2⟩, hB2, hM2, rfl⟩
          · simp [intOf]
        case hstop =>
          intro D cc pre W _ _ _ _ _ h
          exact h.elim
      · obtain rfl : m = 6 := hm
        have hx := fun w' => ix7_6 0 ((kS l true 1 : Nat) : Int) ((kS l true 2 : Nat) : Int) ((kS l true 3 : Nat) : Int) ((kS l true 4 : Nat) : Int) ((kS l true 5 : Nat) : Int) ((kS l true 6 : Nat) : Int) w'
        have hXlt : kS l true 6 < 18446744073709551616 := idx_64 _ l hlen
        have hTr := HT.out.below (hB0.trans (hB.below (B := w.heap.size) (by omega) (by omega)))
        have HTR := Lib.hid hTr
        clear hTr
        gi_wp2_with fail
        refine ⟨trivial, callsIn_wide.2 ((each_any (kS l true 6) _).mono ?_)⟩
        rintro e w2 ⟨rfl, rfl⟩
        gi_wp2_with fail
        obtain ⟨V1, hV1⟩ : ∃ V1, ((wr.alloc (.cells #[.int .i64 6] 3)).alloc (.cells #[.int .u64 ((kS l true 6) : Nat)] 30)) = V1 := ⟨_, rfl⟩
        have b01 : Below wr.heap.size wr V1 := by rw [← hV1]; exact ((Below.refl _ _).alloc (by simp) _).alloc (by simp) _
        have v0 : V1.cell? ⟨w1.heap.size + 1, 0, none⟩ = some (.int .u64 ((orK F R l true 6 (accB F R l true 6) (vals ([] : List (Sq (kS l true 6)))) : Nat) : Int)) := (b01.cell (p := ⟨w1.heap.size + 1, 0, none⟩) (by simp; omega)).trans hS
        have v1 : V1.frozen? ⟨w1.heap.size + 1, 0, none⟩ = false := (b01.frozen (p := ⟨w1.heap.size + 1, 0, none⟩) (by simp; omega)).trans hSf
        have v2 : V1.cell? ⟨w.heap.size + 1, 0, none⟩ = some (.bool true) := (b01.cell (p := ⟨w.heap.size + 1, 0, none⟩) (by simp; omega)).trans e3
        have v3 : V1.cell? ⟨wr.heap.size, 0, none⟩ = some (.int .i64 6) := by rw [← hV1]; exact alive _ (by simp [go_sem])
        have v4 : V1.cell? ⟨wr.heap.size + 1, 0, none⟩ = some (.int .u64 ((kS l true 6) : Nat)) := by rw [← hV1]; simp [go_sem]
        have hV1s : V1.heap.size = wr.heap.size + 2 := by rw [← hV1]; simp
        have hBU : ButS (w1.heap.size + 1) V0 V1 := hB.trans (ButS.of b01)
        have hTV := HTR.out.below b01
        have HTV := Lib.hid hTV
        have HFV := Lib.hid (hF0.but hBU (by omega))
        rw [hV1]
        clear hV1 e3 hTV
        apply range_each (X := (kS l true 6)) hXlt (by omega) rfl (wr.heap.size + 1) (w1.heap.size + 1) w.heap.size (by omega) (by omega) HT.out.1.1 (by omega) rfl v4 HTV.out.1
          (fun pre => .int .u64 ((orK F R l true 6 (accB F R l true 6) (vals pre) : Nat) : Int)) (fun _ => True) (fun _ => undef) (fun _ _ => False)
          v0 v1 trivial
        case hassign =>
          intro l x W K hK
          gi_wp2
          exact hK
        case hbody =>
          intro lp pre x W hSc hSf2 hBW _ hlen2
          obtain ⟨hxv, hx64⟩ := HVAT.out 6 x.1 (by omega) x.2
          have HXV := Lib.hid hxv
          have w2c := hBW.cell v2 (by simp; omega)
          have w3c := hBW.cell v3 (by simp; omega)
          have hFW := HFV.out.but hBW (by omega)
          have hszW := hBW.size
          have hTW := HT.out.below (hB0.trans ((hBU.trans hBW).below (B := w.heap.size) (by omega) (by omega)))
          have HFW := Lib.hid hFW
          have HTW := Lib.hid hTW
          have hor := u64_or_nat (orK F R l true 6 (accB F R l true 6) (vals pre)) (ofL (attL F R 6 true (x.1 : Int) (ofL (occL l)))) (orK_lt hv _ _ _ (accB_lt hv _)) (attL_64 hv ..)
          rw [← orK_snoc, ← vals_snoc] at hor
          have HOR := Lib.hid hor
          clear hlen2 hor hFW hTW v0 v1 v2 v3 v4 hxv
          have hmx : Tryd.prog.follows .mixedOrders = true := by kernel_rfl
          have hw1 : IntKind.i8.wrap 6 = 6 := by decide
          have hmem : ofL (attL F R 6 true (x.1 : Int) (ofL (occL l))) = ofL (attL F R 6 true (x.1 : Int) (ofL (occL l))) := rfl
          have z1 := cell_regrown hSc
          have z2 := cell_regrown w2c
          have z3 := cell_regrown w3c
          have cO : ∀ d os, CallsIn Fence.wide (6 - 1 - 1 - 1) Tryd.prog 45 #[.pointer (some ⟨w1.heap.size, 0, none⟩)] (grow (redrawn W d) os) fun e w'' => e = .returned (.int .u64 (ofL (occL l) : Int)) ∧ ∃ q : Regrown, w'' = grow (redrawn W q.d) q.os := fun d os => callsIn_wide.2 (Calls.regrown_of (HO.out _ _ (cell_regrown (HFW.out.2.1 false) d os) (cell_regrown (HFW.out.2.1 true) d os)))
          have cA : ∀ d os, CallsIn Fence.wide (6 - 1 - 1 - 1) Tryd.prog 44 #[.pointer (some ⟨w1.heap.size, 0, none⟩), .int .i8 6, .bool true, .int .i64 (x.1 : Int), .int .u64 (ofL (occL l) : Int)] (grow (redrawn W d) os) fun e w'' => e = .returned (.int .u64 (ofL (attL F R 6 true (x.1 : Int) (ofL (occL l))) : Int)) ∧ ∃ q : Regrown, w'' = grow (redrawn W q.d) q.os := fun d os => callsIn_wide.2 (Calls.regrown_of (HA.out x.1 HXV.out 6 (by omega) (by omega) _ _ (HTW.out.below (below_regrown W d os)).2 (cell_regrown HFW.out.1.1 d os) (cell_regrown HFW.out.1.2 d os)))
          clear hmem
          gi_wp2
          refine tail_round (L := [_, _, _, _, _, _, _, _]) (fun w' => ∃ q : Regrown, w' = grow (redrawn W q.d) q.os) (by kernel_rfl) (by kernel_rfl) (by kernel_rfl) (by kernel_rfl) ⟨⟨W.drawn + 1, #[]⟩, by rw [grow_empty]; rfl⟩ ?_
          repeat (gi_big_quiet_step (fail))
          refine wpQuietIn_want (fun _ _ _ _ => trivial) rfl (fun K hK => ?_)
          gi_big_quiet_op
          apply Exists.intro
          refine ⟨fun _ => cO _ _, ?_⟩
          refine hK _ ?_
          clear hK K
          refine wpQuietIn_want (fun _ _ _ _ => trivial) rfl (fun K hK => ?_)
          gi_big_quiet_op
          apply Exists.intro
          refine ⟨fun _ => cA _ _, ?_⟩
          refine hK _ ?_
          clear hK K
          repeat (gi_big_quiet_step (fail))
          refine wpQuietIn_nil ?_
          intro _ hw'
          obtain ⟨⟨dq, osq⟩, hw''⟩ := hw'
          subst hw''
          have hRg := below_regrown W dq osq
          have r0 := cBo hRg hSc
          have r1 := (hRg.frozen (p := ⟨w1.heap.size + 1, 0, none⟩) (World.block_lt_of_cell? _ _ hSc)).trans hSf2
          rw [HOR.out]
          refine wpIn_store rfl (store1 r0 r1) ?_
          refine ⟨⟨World.cell?_setCell_same _ ⟨w1.heap.size + 1, 0, none⟩ _ r0, (World.frozen?_setCell ..).trans r1⟩, (ButS.of hRg).trans (ButS.set _ _ _), trivial⟩
        case hdone =>
          intro D ys W hD hys hSc hSf2 hW _ hK
          have hE : orK F R l true 6 (accB F R l true 6) (vals ys) = accB F R l true 7 := by rw [hys]; rfl
          rw [hE] at hSc
          have hM2 := hM.cons ((ButS.of b01).trans hW) (by omega) (D := D) (by omega) (by omega) hK
          have hB2 : ButS (w1.heap.size + 1) V0 W := hBU.trans hW
          clear hE hys hK hM
          gi_wp2
          refine ⟨?_, ?_⟩
          · refine ⟨7, 7, D :: Ds, ?_⟩
            repeat apply Exists.intro
            exact ⟨by omega, rfl, ⟨hSc, hSf2⟩, hB2, hM2, rfl⟩
          · simp [intOf]
        case hstop =>
          intro D cc pre W _ _ _ _ _ h
          exact h.elim
    · obtain rfl : k = 7 := by omega
      obtain rfl : m = 7 := hm
      rw [HALL.out] at hS
      clear HALL
      gi_wp2
      refine leaves_marks Ds _ hM (fun w' hw => ?_)
      refine ⟨_, results_tmp2 rfl _ _ _, rfl, ?_⟩
      exact (hB0.trans (hB.below (B := w.heap.size) (by omega) (by omega))).trans (hw.mono (by omega))

theorem gAll (F R : Int) (l : List Int) (A : Option Addr) (c : Nat) (bl : Bool) (w : World) (hb : vbd F R l) (ho : orA l = true) (hA : RdP w w.heap.size A l c) (hT : T5 w) :
    Calls Tryd.prog 15 #[.agg #[.int .i64 F, .int .i64 R, .slice A l.length c], .bool bl] w fun e w' => e = .returned (.tuple #[.int .u64 (ofL (attackedL F R l bl) : Int), .int .i64 0]) ∧ Below w.heap.size w w' := by
  cases bl
  · exact callsIn_wide.1 (gAll_false F R l A c w hb ho hA hT)
  · exact callsIn_wide.1 (gAll_true F R l A c w hb ho hA hT)
set_option maxRecDepth 100000 in
set_option maxHeartbeats 4000000 in
theorem gAllE (F R : Int) (l : List Int) (A : Option Addr) (c : Nat) (bl : Bool) (w : World) (hlen : l.length ≤ 64) (hA : RdP w w.heap.size A l c) (hg : ¬ (vbd F R l ∧ orA l = true)) :
    Calls Tryd.prog 15 #[.agg #[.int .i64 F, .int .i64 R, .slice A l.length c], .bool bl] w fun e w' => e = .returned (.tuple #[.int .u64 0, .int .i64 2]) ∧ Below w.heap.size w w' := by
  have hL := len18 (F := 0) (R := 0) (S := zS) (K := zK) rfl
  obtain ⟨L, hLL⟩ : ∃ L, fieldC 0 0 zS zK = L := ⟨_, rfl⟩
  rw [hLL] at hL
  have HSV := Lib.hid (fun w hA => surv_no F R l A c hg L hLL w hlen hA)
  have HLY := Lib.hid (fun w => lay18 w hLL)
  have HA1 := Lib.hid (rdBo (box1 w (.cells #[.int .i64 F, .int .i64 R, .slice A l.length c] 26)) hA)
  have HA0 := Lib.hid (rdBo (box1 (w.alloc (.cells #[.int .i64 F, .int .i64 R, .slice A l.length c] 26)) (.cells #[.bool bl] 4)) HA1.out)
  clear hA hg hLL hlen
  go_enter Tryd.func15, Tryd.ntmps15
  go_wp2_with fail
  refine (HSV.out _ HA0.out).mono ?_
  rintro e w1 ⟨rfl, hb1⟩
  obtain ⟨V, hst, _, hVb, _⟩ := HLY.out w1
  have hBV := Lib.hid (chain (after2 hb1) hVb)
  clear hb1 HA0 HLY hVb
  go_wp2
  go_ret2
  exact ⟨rfl, hBV.out⟩

end Go.Proofs.YtjnbjegopddhgaaDoor
