/- Attacks, by the program: Line. -/
import Derived.Test.YtjnbjegopddhgaaDoorAuW

namespace Go.Proofs.YtjnbjegopddhgaaDoor
open Go.RowKit Go.Shelf Go.Sort Go.BigFrame
attribute [local go_sem] Oper.semAt_some

set_option maxRecDepth 100000 in
set_option maxHeartbeats 1000000 in
theorem res_cells {fn : Func} {p q : Tmp} (h : fn.results = #[.cell p 30, .cell q 31]) {tmps : Array Value} {W : World} {a b : Nat} {X : Nat} {e : Int} (hp : tmps.getD p undef = .pointer (some ⟨a, 0, none⟩)) (hq : tmps.getD q undef = .pointer (some ⟨b, 0, none⟩)) (ha : W.cell? ⟨a, 0, none⟩ = some (.int .u64 (X : Nat))) (hb : W.cell? ⟨b, 0, none⟩ = some (.int .i64 e)) :
    (results fn tmps).run Tryd.prog W = .ok (.tuple #[.int .u64 (X : Nat), .int .i64 e]) W := by
  have hp' : tmps[p]?.getD undef = .pointer (some ⟨a, 0, none⟩) := by simpa using hp
  have hq' : tmps[q]?.getD undef = .pointer (some ⟨b, 0, none⟩) := by simpa using hq
  simp only [results, h]
  simp [go_sem, hp', hq', ha, hb]
theorem leaves_none {Fe : Fence} {n : Nat} {P : Program} {fn : Func} {tmps : Array Value} {Rr : Ending → World → Prop} {w : World} (h : LeavesIn Fe n P fn tmps Rr [] .returning w) : LeavesInM Fe n P fn tmps Rr [] .returning w := h
theorem set2 {W : World} {a b : Nat} {u v u0 v0 : Value} (hr : W.cell? ⟨a, 0, none⟩ = some u0) (he : W.cell? ⟨b, 0, none⟩ = some v0) (hab : a ≠ b) :
    ((W.setCell ⟨a, 0, none⟩ u).setCell ⟨b, 0, none⟩ v).cell? ⟨a, 0, none⟩ = some u ∧ ((W.setCell ⟨a, 0, none⟩ u).setCell ⟨b, 0, none⟩ v).cell? ⟨b, 0, none⟩ = some v :=
  ⟨(World.cell?_setCell_far _ _ _ _ (by simp; omega)).trans (World.cell?_setCell_same _ ⟨a, 0, none⟩ _ hr), World.cell?_setCell_same _ ⟨b, 0, none⟩ _ ((World.cell?_setCell_far _ _ _ _ (by simp; omega)).trans he)⟩
theorem set2_heap {W : World} {a b : Nat} {u v : Value} {k : Nat} (ha : k ≠ a) (hb : k ≠ b) : ((W.setCell ⟨a, 0, none⟩ u).setCell ⟨b, 0, none⟩ v).heap[k]? = W.heap[k]? :=
  (Below.heap_setCell _ _ _ _ hb).trans (Below.heap_setCell _ _ _ _ ha)
theorem set2_below {n : Nat} {w W : World} {a b : Nat} {u v : Value} (h : Below n w W) (ha : n ≤ a) (hb : n ≤ b) : Below n w ((W.setCell ⟨a, 0, none⟩ u).setCell ⟨b, 0, none⟩ v) :=
  (h.setCell (p := ⟨a, 0, none⟩) ha _).setCell (p := ⟨b, 0, none⟩) hb _

set_option maxRecDepth 100000 in
set_option maxHeartbeats 8000000 in
theorem gLinY (F R : Int) (l : List Int) (A : Option Addr) (c : Nat) (bl : Bool) (t : Int) (w : World) (hb : vbd F R l) (ho : orA l = true) (hA : RdP w w.heap.size A l c) (hT : T5 w) (ht : vat F R t) (hbl : (sS l true).testBit t.toNat = bl) (hk : 0 ≤ kingV l bl) :
    Calls Tryd.prog 21 #[.agg #[.int .i64 F, .int .i64 R, .slice A l.length c], .int .i64 t] w fun e w' => (∃ v, e = .returned v ∧ ((∃ p, p ∈ pinsTo F R l (kingV l bl) bl 3 ∧ p.1 = bitN t.toNat ∧ v = .tuple #[.int .u64 (p.2 : Nat), .int .i64 0]) ∨ ((∀ p ∈ pinsTo F R l (kingV l bl) bl 3, p.1 ≠ bitN t.toNat) ∧ v = .tuple #[.int .u64 0, .int .i64 9]))) ∧ Below w.heap.size w w' := by
  refine (callsIn_wide (n := 6)).1 ?_
  have hlen := vbd_64 hb
  have ht64 : 0 ≤ t ∧ t < 64 := by have := (vsz_mul hb.1).2; have := ht.2; omega
  have hL := len18 (F := F) (R := R) (S := sS l) (K := kS l) rfl
  obtain ⟨L, hLL⟩ : ∃ L, fieldC F R (sS l) (kS l) = L := ⟨_, rfl⟩
  rw [hLL] at hL
  have HSV := Lib.hid (fun w hA => surv_yes F R l A c hb ho L hLL w hA)
  have HLY := Lib.hid (fun w => lay18 w hLL)
  have HT := Lib.hid hT
  have HV := Lib.hid (fun w => valid_yes F R t ht w)
  have HHS : Hid (∀ w, Calls Tryd.prog 49 #[.int .u64 (sS l true : Nat), .int .i64 t] w fun e w' => e = .returned (.bool bl) ∧ w = w') := Lib.hid (fun w => by
    rw [← hbl]
    exact has_in (sS l true) t (idx_64 _ l hlen) ht64.1 ht64.2 w)
  have HSG := Lib.hid (aSingle_any t ht64.1 ht64.2)
  have HKG := Lib.hid (fun B w hT hc => aKing_any B (kS l bl 6) bl (idx_64 _ l hlen) w hT hc)
  rw [king_ok hlen hk] at HKG
  have HKV := Lib.hid (kingV_at hb hk)
  have HLT : Hid (∀ x : PE F R l (kingV l bl) bl, x.1.1 < 18446744073709551616) := Lib.hid (fun x => by
    obtain ⟨n, e, _, h64⟩ := pins_sound hb hk x.2
    rw [e]
    exact bitN_lt h64)
  generalize kingV l bl = kv at *
  have HVB := Lib.hid hb
  have HOR := Lib.hid ho
  obtain ⟨V0, hV0⟩ : ∃ V0, (((w.alloc (.cells #[.int .i64 F, .int .i64 R, .slice A l.length c] 26)).alloc (.cells #[.int .i64 t] 3)).alloc (.cells #[.int .u64 0] 30)).alloc (.cells #[.int .i64 0] 31) = V0 := ⟨_, rfl⟩
  have b0 : Below w.heap.size w V0 := by rw [← hV0]; exact ((((Below.refl _ _).alloc (by simp) _).alloc (by simp) _).alloc (by simp; omega) _).alloc (by simp; omega) _
  have hs0 : V0.heap.size = w.heap.size + 4 := by rw [← hV0]; simp
  have c0 : V0.cell? ⟨w.heap.size, 0, none⟩ = some (.int .i64 F) := by rw [← hV0]; exact alive _ (alive _ (alive _ (by simp [go_sem])))
  have c1 : V0.cell? ⟨w.heap.size, 1, none⟩ = some (.int .i64 R) := by rw [← hV0]; exact alive _ (alive _ (alive _ (by simp [go_sem])))
  have ca : V0.cell? ⟨w.heap.size + 1, 0, none⟩ = some (.int .i64 t) := by rw [← hV0]; exact alive _ (alive _ (by simp [go_sem]))
  have cr : V0.cell? ⟨w.heap.size + 1 + 1, 0, none⟩ = some (.int .u64 0) := by rw [← hV0]; exact alive _ (by simp [go_sem])
  have ce : V0.cell? ⟨w.heap.size + 1 + 1 + 1, 0, none⟩ = some (.int .i64 0) := by rw [← hV0]; simp [go_sem]
  have fr : V0.frozen? ⟨w.heap.size + 1 + 1, 0, none⟩ = false := by rw [← hV0]; simp [go_sem]
  have fe : V0.frozen? ⟨w.heap.size + 1 + 1 + 1, 0, none⟩ = false := by rw [← hV0]; simp [go_sem]
  have HA0 := Lib.hid (rdBo b0 hA)
  have HB0 := Lib.hid b0
  have HV0 := Lib.hid hV0
  clear hV0
  clear hA hT hLL hb ho hk ht hbl hlen b0
  refine callsIn_of_wp_marks Tryd.func21 rfl trivial ?_ rfl
  simp only [Tryd.ntmps21, List.size_toArray, List.length_cons, List.length_nil, Nat.reduceAdd, Nat.reduceSub, Array.replicate_succ, Array.replicate_zero, List.push_toArray, List.append_toArray, List.nil_append, List.cons_append]
  gi_wp2_with fail
  rw [HV0.out]
  clear HV0
  refine ⟨trivial, callsIn_wide.2 ((HSV.out _ HA0.out).mono ?_)⟩
  rintro e w1 ⟨rfl, hb1⟩
  obtain ⟨V, hst, hFl, hVb, hVs⟩ := HLY.out w1
  have hs1 := hb1.size
  have HB1 := Lib.hid (chain (chain HB0.out hb1) hVb)
  have HFL := Lib.hid hFl
  replace c0 := cBo hVb (cBo hb1 c0)
  replace c1 := cBo hVb (cBo hb1 c1)
  replace ca := cBo hVb (cBo hb1 ca)
  replace cr := cBo hVb (cBo hb1 cr)
  replace ce := cBo hVb (cBo hb1 ce)
  replace fr := (hVb.frozen (p := ⟨w.heap.size + 1 + 1, 0, none⟩) (by simp; omega)).trans ((hb1.frozen (p := ⟨w.heap.size + 1 + 1, 0, none⟩) (by simp; omega)).trans fr)
  replace fe := (hVb.frozen (p := ⟨w.heap.size + 1 + 1 + 1, 0, none⟩) (by simp; omega)).trans ((hb1.frozen (p := ⟨w.heap.size + 1 + 1 + 1, 0, none⟩) (by simp; omega)).trans fe)
  have hfa := hFl.2.1 true
  simp only [offN, if_true] at hfa
  clear hb1 hVb HLY hFl HA0 HB0 HSV
  gi_wp2_with fail
  refine ⟨trivial, callsIn_wide.2 ((HV.out _).mono ?_)⟩
  rintro e w2 ⟨rfl, hb2⟩
  have HB2 := Lib.hid (chain HB1.out hb2)
  have HF2 := Lib.hid (HFL.out.below hb2)
  have hs2 := hb2.size
  replace ca := cBo hb2 ca
  replace cr := cBo hb2 cr
  replace ce := cBo hb2 ce
  replace hfa := cBo hb2 hfa
  replace fr := (hb2.frozen (p := ⟨w.heap.size + 1 + 1, 0, none⟩) (by simp; omega)).trans fr
  replace fe := (hb2.frozen (p := ⟨w.heap.size + 1 + 1 + 1, 0, none⟩) (by simp; omega)).trans fe
  clear hb2 HB1 HFL HV hst c0 c1
  gi_wp2_with fail
  refine ⟨trivial, callsIn_wide.2 ((HHS.out _).mono ?_)⟩
  rintro e w3 ⟨rfl, rfl⟩
  gi_wp2_with fail
  refine ⟨trivial, callsIn_wide.2 ((HKG.out _ _ (HT.out.below HB2.out).1 (HF2.out.2.2 bl 6 (by omega))).mono ?_)⟩
  rintro e w4 ⟨rfl, rfl⟩
  gi_wp2_with fail
  refine ⟨trivial, callsIn_wide.2 ((pins_any w1.heap.size kv bl w4).mono ?_)⟩
  rintro e w3 ⟨rfl, hb3, hs3, f3, k3, b3⟩
  have HB3 := Lib.hid (chain HB2.out hb3)
  have HF3 := Lib.hid (HF2.out.below hb3)
  replace ca := cBo hb3 ca
  replace cr := cBo hb3 cr
  replace ce := cBo hb3 ce
  replace fr := (hb3.frozen (p := ⟨w.heap.size + 1 + 1, 0, none⟩) (by simp; omega)).trans fr
  replace fe := (hb3.frozen (p := ⟨w.heap.size + 1 + 1 + 1, 0, none⟩) (by simp; omega)).trans fe
  clear hb3 HF2 HB2 HKG HHS
  gi_wp2_with fail
  apply range_O (α := PE F R l kv bl) (n := 6) (by omega) (gf := 70) (lb := #[.pointer (some ⟨w4.heap.size, 0, none⟩), .pointer (some ⟨w4.heap.size + 1 + 1, 0, none⟩), .pointer (some ⟨w4.heap.size + 1, 0, none⟩)]) rfl (enters_of Tryd.func70 (by kernel_rfl) rfl) (encs := fun x => #[.int .u64 (x.1.1 : Nat), .int .u64 (x.1.2 : Nat)]) (S := w.heap.size) (by omega)
    (pins_O F R kv l bl w4.heap.size w1.heap.size w.heap.size HVB.out HOR.out HKV.out w w3 HT.out (Nat.le_refl _) HB3.out (by omega) (by omega) (by omega) f3 k3 b3 HF3.out) (Below.refl _ _) (fun _ => rfl)
    (fun pre W' => (∀ x ∈ pre, x.1.1 ≠ bitN t.toNat) ∧ ButS w.heap.size w3 W')
    (fun c pre W' => ∃ p : Nat × Nat, (c = .ret ∧ p ∈ pinsTo F R l kv bl 3 ∧ p.1 = bitN t.toNat) ∧ (W'.cell? ⟨w.heap.size + 1 + 1, 0, none⟩ = some (.int .u64 (p.2 : Nat)) ∧ W'.cell? ⟨w.heap.size + 1 + 1 + 1, 0, none⟩ = some (.int .i64 0) ∧ Below w.heap.size w W'))
    (OwnFrom.and (ownFrom_pure _ _) (ownFrom_but (Nat.le_refl _)))
    (fun c => own_ex (OwnFrom.and (ownFrom_cell _ (fun p : Nat × Nat => .int .u64 (p.2 : Nat))) (OwnFrom.and (ownFrom_cell _ (fun _ => .int .i64 0)) (ownFrom_below (by omega) (by omega)))) (Nat.le_refl _) (fun _ p => c = .ret ∧ p ∈ pinsTo F R l kv bl 3 ∧ p.1 = bitN t.toNat))
    ⟨fun x hx => (by cases hx), ButS.refl _ _⟩
  case hassign =>
    intro lp x W1 K hK
    gi_wp2
    exact hK
  case hbody =>
    rintro lp pre x W1 ⟨hpre, hBW⟩ _
    have a1 := hBW.cell ca (by simp)
    have r1 := hBW.cell cr (by simp; omega)
    have e1 := hBW.cell ce (by simp; omega)
    have fr1 : W1.frozen? ⟨w.heap.size + 1 + 1, 0, none⟩ = false := (World.frozen?_of_block (hBW.2.2.2.2 _ (by simp; omega) (by simp; omega))).trans fr
    have fe1 : W1.frozen? ⟨w.heap.size + 1 + 1 + 1, 0, none⟩ = false := (World.frozen?_of_block (hBW.2.2.2.2 _ (by simp; omega) (by simp; omega))).trans fe
    gi_wp2_with fail
    refine ⟨trivial, CallsIn.inRound lp (callsIn_wide.2 ((HSG.out _).mono ?_))⟩
    rintro e w5 ⟨rfl, rfl⟩
    gi_wp2_with fail
    · rename_i hx
      have hx2 : x.1.1 = bitN t.toNat := by
        have h := beq_iff_eq.1 hx
        exact_mod_cast h
      obtain ⟨s1, s2⟩ := set2 (u := .int .u64 (x.1.2 : Nat)) (v := .int .i64 0) r1 e1 (by omega)
      refine ⟨⟨by simp, fun k o hk ho _ => (set2_heap (by omega) (by omega)).trans ho⟩, x.1, ⟨rfl, x.2, hx2⟩, s1, s2, set2_below (HB3.out.trans (hBW.below (Nat.le_refl _) HB3.out.size)) (by omega) (by omega)⟩
    · rename_i hx
      have hx2 : x.1.1 ≠ bitN t.toNat := fun e => by
        rw [e] at hx
        simp at hx
      refine ⟨ButS.refl _ _, fun y hy => ?_, hBW⟩
      rcases List.mem_append.1 hy with hy | hy
      · exact hpre y hy
      · rw [List.mem_singleton.1 hy]; exact hx2
  case hdone =>
    rintro D xs W1 hD hxs ⟨hpre, hBW⟩ hK
    have r1 := hBW.cell cr (by simp; omega)
    have e1 := hBW.cell ce (by simp; omega)
    have fr1 : W1.frozen? ⟨w.heap.size + 1 + 1, 0, none⟩ = false := (World.frozen?_of_block (hBW.2.2.2.2 _ (by simp; omega) (by simp; omega))).trans fr
    have fe1 : W1.frozen? ⟨w.heap.size + 1 + 1 + 1, 0, none⟩ = false := (World.frozen?_of_block (hBW.2.2.2.2 _ (by simp; omega) (by simp; omega))).trans fe
    gi_wp2_with fail
    obtain ⟨s1, s2⟩ := set2 (u := .int .u64 0) (v := .int .i64 9) r1 e1 (by omega)
    have h3 := HB3.out.size
    refine leaves_marks (n₀ := w3.heap.size) [D] _ ((MarksAt.nil _ _).put hD (by simp) ((set2_heap (by omega) (by omega)).trans hK)) (fun w' hw => ⟨_, res_cells (X := 0) rfl rfl rfl ((hw.cell (by simp; omega)).trans s1) ((hw.cell (by simp; omega)).trans s2), ⟨_, rfl, .inr ⟨?_, rfl⟩⟩, ?_⟩)
    · intro p hp
      rw [← hxs] at hp
      obtain ⟨y, hy, rfl⟩ := List.mem_map.1 hp
      exact hpre y hy
    · exact (set2_below (HB3.out.trans (hBW.below (Nat.le_refl _) HB3.out.size)) (by omega) (by omega)).trans (hw.mono (by omega))
  case hstop =>
    rintro D c pre W1 hD _ ⟨p, ⟨rfl, hp1, hp2⟩, hr, he, hBb⟩ hK
    gi_wp2_with fail
    have h3 := HB3.out.size
    exact leaves_marks (n₀ := w3.heap.size) [D] _ ((MarksAt.nil _ _).put hD (by simp) hK) (fun w' hw => ⟨_, res_cells rfl rfl rfl ((hw.cell (by simp; omega)).trans hr) ((hw.cell (by simp; omega)).trans he), ⟨_, rfl, .inl ⟨p, hp1, hp2, rfl⟩⟩, hBb.trans (hw.mono (by omega))⟩)

set_option maxRecDepth 100000 in
set_option maxHeartbeats 8000000 in
theorem gLinK (F R : Int) (l : List Int) (A : Option Addr) (c : Nat) (bl : Bool) (t : Int) (w : World) (hb : vbd F R l) (ho : orA l = true) (hA : RdP w w.heap.size A l c) (hT : T5 w) (ht : vat F R t) (hbl : (sS l true).testBit t.toNat = bl) (hk : kingV l bl < 0) :
    Calls Tryd.prog 21 #[.agg #[.int .i64 F, .int .i64 R, .slice A l.length c], .int .i64 t] w fun e w' => e = .returned (.tuple #[.int .u64 0, .int .i64 9]) ∧ Below w.heap.size w w' := by
  refine (callsIn_wide (n := 6)).1 ?_
  have hlen := vbd_64 hb
  have ht64 : 0 ≤ t ∧ t < 64 := by have := (vsz_mul hb.1).2; have := ht.2; omega
  have hL := len18 (F := F) (R := R) (S := sS l) (K := kS l) rfl
  obtain ⟨L, hLL⟩ : ∃ L, fieldC F R (sS l) (kS l) = L := ⟨_, rfl⟩
  rw [hLL] at hL
  have HSV := Lib.hid (fun w hA => surv_yes F R l A c hb ho L hLL w hA)
  have HLY := Lib.hid (fun w => lay18 w hLL)
  have HT := Lib.hid hT
  have HV := Lib.hid (fun w => valid_yes F R t ht w)
  have HHS : Hid (∀ w, Calls Tryd.prog 49 #[.int .u64 (sS l true : Nat), .int .i64 t] w fun e w' => e = .returned (.bool bl) ∧ w = w') := Lib.hid (fun w => by
    rw [← hbl]
    exact has_in (sS l true) t (idx_64 _ l hlen) ht64.1 ht64.2 w)
  have HSG := Lib.hid (aSingle_any t ht64.1 ht64.2)
  have HKG := Lib.hid (fun B w hT hc => aKing_any B (kS l bl 6) bl (idx_64 _ l hlen) w hT hc)
  rw [king_not hlen hk] at HKG
  have HVB := Lib.hid hb
  have HOR := Lib.hid ho
  obtain ⟨V0, hV0⟩ : ∃ V0, (((w.alloc (.cells #[.int .i64 F, .int .i64 R, .slice A l.length c] 26)).alloc (.cells #[.int .i64 t] 3)).alloc (.cells #[.int .u64 0] 30)).alloc (.cells #[.int .i64 0] 31) = V0 := ⟨_, rfl⟩
  have b0 : Below w.heap.size w V0 := by rw [← hV0]; exact ((((Below.refl _ _).alloc (by simp) _).alloc (by simp) _).alloc (by simp; omega) _).alloc (by simp; omega) _
  have hs0 : V0.heap.size = w.heap.size + 4 := by rw [← hV0]; simp
  have c0 : V0.cell? ⟨w.heap.size, 0, none⟩ = some (.int .i64 F) := by rw [← hV0]; exact alive _ (alive _ (alive _ (by simp [go_sem])))
  have c1 : V0.cell? ⟨w.heap.size, 1, none⟩ = some (.int .i64 R) := by rw [← hV0]; exact alive _ (alive _ (alive _ (by simp [go_sem])))
  have ca : V0.cell? ⟨w.heap.size + 1, 0, none⟩ = some (.int .i64 t) := by rw [← hV0]; exact alive _ (alive _ (by simp [go_sem]))
  have cr : V0.cell? ⟨w.heap.size + 1 + 1, 0, none⟩ = some (.int .u64 0) := by rw [← hV0]; exact alive _ (by simp [go_sem])
  have ce : V0.cell? ⟨w.heap.size + 1 + 1 + 1, 0, none⟩ = some (.int .i64 0) := by rw [← hV0]; simp [go_sem]
  have fr : V0.frozen? ⟨w.heap.size + 1 + 1, 0, none⟩ = false := by rw [← hV0]; simp [go_sem]
  have fe : V0.frozen? ⟨w.heap.size + 1 + 1 + 1, 0, none⟩ = false := by rw [← hV0]; simp [go_sem]
  have HA0 := Lib.hid (rdBo b0 hA)
  have HB0 := Lib.hid b0
  have HV0 := Lib.hid hV0
  clear hV0
  clear hA hT hLL hb ho hk ht hbl hlen b0
  refine callsIn_of_wp_marks Tryd.func21 rfl trivial ?_ rfl
  simp only [Tryd.ntmps21, List.size_toArray, List.length_cons, List.length_nil, Nat.reduceAdd, Nat.reduceSub, Array.replicate_succ, Array.replicate_zero, List.push_toArray, List.append_toArray, List.nil_append, List.cons_append]
  gi_wp2_with fail
  rw [HV0.out]
  clear HV0
  refine ⟨trivial, callsIn_wide.2 ((HSV.out _ HA0.out).mono ?_)⟩
  rintro e w1 ⟨rfl, hb1⟩
  obtain ⟨V, hst, hFl, hVb, hVs⟩ := HLY.out w1
  have hs1 := hb1.size
  have HB1 := Lib.hid (chain (chain HB0.out hb1) hVb)
  have HFL := Lib.hid hFl
  replace c0 := cBo hVb (cBo hb1 c0)
  replace c1 := cBo hVb (cBo hb1 c1)
  replace ca := cBo hVb (cBo hb1 ca)
  replace cr := cBo hVb (cBo hb1 cr)
  replace ce := cBo hVb (cBo hb1 ce)
  replace fr := (hVb.frozen (p := ⟨w.heap.size + 1 + 1, 0, none⟩) (by simp; omega)).trans ((hb1.frozen (p := ⟨w.heap.size + 1 + 1, 0, none⟩) (by simp; omega)).trans fr)
  replace fe := (hVb.frozen (p := ⟨w.heap.size + 1 + 1 + 1, 0, none⟩) (by simp; omega)).trans ((hb1.frozen (p := ⟨w.heap.size + 1 + 1 + 1, 0, none⟩) (by simp; omega)).trans fe)
  have hfa := hFl.2.1 true
  simp only [offN, if_true] at hfa
  clear hb1 hVb HLY hFl HA0 HB0 HSV
  gi_wp2_with fail
  refine ⟨trivial, callsIn_wide.2 ((HV.out _).mono ?_)⟩
  rintro e w2 ⟨rfl, hb2⟩
  have HB2 := Lib.hid (chain HB1.out hb2)
  have HF2 := Lib.hid (HFL.out.below hb2)
  have hs2 := hb2.size
  replace ca := cBo hb2 ca
  replace cr := cBo hb2 cr
  replace ce := cBo hb2 ce
  replace hfa := cBo hb2 hfa
  replace fr := (hb2.frozen (p := ⟨w.heap.size + 1 + 1, 0, none⟩) (by simp; omega)).trans fr
  replace fe := (hb2.frozen (p := ⟨w.heap.size + 1 + 1 + 1, 0, none⟩) (by simp; omega)).trans fe
  clear hb2 HB1 HFL HV hst c0 c1
  gi_wp2_with fail
  refine ⟨trivial, callsIn_wide.2 ((HHS.out _).mono ?_)⟩
  rintro e w3 ⟨rfl, rfl⟩
  gi_wp2_with fail
  refine ⟨trivial, callsIn_wide.2 ((HKG.out _ _ (HT.out.below HB2.out).1 (HF2.out.2.2 bl 6 (by omega))).mono ?_)⟩
  rintro e w4 ⟨rfl, rfl⟩
  gi_wp2_with fail
  obtain ⟨s1, s2⟩ := set2 (u := .int .u64 0) (v := .int .i64 9) cr ce (by omega)
  exact leaves_none ⟨_, res_cells (X := 0) rfl rfl rfl s1 s2, rfl, set2_below HB2.out (by omega) (by omega)⟩

set_option maxRecDepth 100000 in
set_option maxHeartbeats 8000000 in
theorem gLinV (F R : Int) (l : List Int) (A : Option Addr) (c : Nat) (t : Int) (w : World) (hb : vbd F R l) (ho : orA l = true) (hA : RdP w w.heap.size A l c) (hT : T5 w) (ht : ¬ vat F R t) :
    Calls Tryd.prog 21 #[.agg #[.int .i64 F, .int .i64 R, .slice A l.length c], .int .i64 t] w fun e w' => e = .returned (.tuple #[.int .u64 0, .int .i64 2]) ∧ Below w.heap.size w w' := by
  refine (callsIn_wide (n := 6)).1 ?_
  have hlen := vbd_64 hb
  have hL := len18 (F := F) (R := R) (S := sS l) (K := kS l) rfl
  obtain ⟨L, hLL⟩ : ∃ L, fieldC F R (sS l) (kS l) = L := ⟨_, rfl⟩
  rw [hLL] at hL
  have HSV := Lib.hid (fun w hA => surv_yes F R l A c hb ho L hLL w hA)
  have HLY := Lib.hid (fun w => lay18 w hLL)
  have HT := Lib.hid hT
  have HV := Lib.hid (fun w => valid_no F R t ht w)
  have HVB := Lib.hid hb
  have HOR := Lib.hid ho
  obtain ⟨V0, hV0⟩ : ∃ V0, (((w.alloc (.cells #[.int .i64 F, .int .i64 R, .slice A l.length c] 26)).alloc (.cells #[.int .i64 t] 3)).alloc (.cells #[.int .u64 0] 30)).alloc (.cells #[.int .i64 0] 31) = V0 := ⟨_, rfl⟩
  have b0 : Below w.heap.size w V0 := by rw [← hV0]; exact ((((Below.refl _ _).alloc (by simp) _).alloc (by simp) _).alloc (by simp; omega) _).alloc (by simp; omega) _
  have hs0 : V0.heap.size = w.heap.size + 4 := by rw [← hV0]; simp
  have c0 : V0.cell? ⟨w.heap.size, 0, none⟩ = some (.int .i64 F) := by rw [← hV0]; exact alive _ (alive _ (alive _ (by simp [go_sem])))
  have c1 : V0.cell? ⟨w.heap.size, 1, none⟩ = some (.int .i64 R) := by rw [← hV0]; exact alive _ (alive _ (alive _ (by simp [go_sem])))
  have ca : V0.cell? ⟨w.heap.size + 1, 0, none⟩ = some (.int .i64 t) := by rw [← hV0]; exact alive _ (alive _ (by simp [go_sem]))
  have cr : V0.cell? ⟨w.heap.size + 1 + 1, 0, none⟩ = some (.int .u64 0) := by rw [← hV0]; exact alive _ (by simp [go_sem])
  have ce : V0.cell? ⟨w.heap.size + 1 + 1 + 1, 0, none⟩ = some (.int .i64 0) := by rw [← hV0]; simp [go_sem]
  have fr : V0.frozen? ⟨w.heap.size + 1 + 1, 0, none⟩ = false := by rw [← hV0]; simp [go_sem]
  have fe : V0.frozen? ⟨w.heap.size + 1 + 1 + 1, 0, none⟩ = false := by rw [← hV0]; simp [go_sem]
  have HA0 := Lib.hid (rdBo b0 hA)
  have HB0 := Lib.hid b0
  have HV0 := Lib.hid hV0
  clear hV0
  clear hA hT hLL hb ho ht hlen b0
  refine callsIn_of_wp_marks Tryd.func21 rfl trivial ?_ rfl
  simp only [Tryd.ntmps21, List.size_toArray, List.length_cons, List.length_nil, Nat.reduceAdd, Nat.reduceSub, Array.replicate_succ, Array.replicate_zero, List.push_toArray, List.append_toArray, List.nil_append, List.cons_append]
  gi_wp2_with fail
  rw [HV0.out]
  clear HV0
  refine ⟨trivial, callsIn_wide.2 ((HSV.out _ HA0.out).mono ?_)⟩
  rintro e w1 ⟨rfl, hb1⟩
  obtain ⟨V, hst, hFl, hVb, hVs⟩ := HLY.out w1
  have hs1 := hb1.size
  have HB1 := Lib.hid (chain (chain HB0.out hb1) hVb)
  have HFL := Lib.hid hFl
  replace c0 := cBo hVb (cBo hb1 c0)
  replace c1 := cBo hVb (cBo hb1 c1)
  replace ca := cBo hVb (cBo hb1 ca)
  replace cr := cBo hVb (cBo hb1 cr)
  replace ce := cBo hVb (cBo hb1 ce)
  replace fr := (hVb.frozen (p := ⟨w.heap.size + 1 + 1, 0, none⟩) (by simp; omega)).trans ((hb1.frozen (p := ⟨w.heap.size + 1 + 1, 0, none⟩) (by simp; omega)).trans fr)
  replace fe := (hVb.frozen (p := ⟨w.heap.size + 1 + 1 + 1, 0, none⟩) (by simp; omega)).trans ((hb1.frozen (p := ⟨w.heap.size + 1 + 1 + 1, 0, none⟩) (by simp; omega)).trans fe)
  have hfa := hFl.2.1 true
  simp only [offN, if_true] at hfa
  clear hb1 hVb HLY hFl HA0 HB0 HSV
  gi_wp2_with fail
  refine ⟨trivial, callsIn_wide.2 ((HV.out _).mono ?_)⟩
  rintro e w2 ⟨rfl, hb2⟩
  have HB2 := Lib.hid (chain HB1.out hb2)
  have HF2 := Lib.hid (HFL.out.below hb2)
  have hs2 := hb2.size
  replace ca := cBo hb2 ca
  replace cr := cBo hb2 cr
  replace ce := cBo hb2 ce
  replace hfa := cBo hb2 hfa
  replace fr := (hb2.frozen (p := ⟨w.heap.size + 1 + 1, 0, none⟩) (by simp; omega)).trans fr
  replace fe := (hb2.frozen (p := ⟨w.heap.size + 1 + 1 + 1, 0, none⟩) (by simp; omega)).trans fe
  clear hb2 HB1 HFL HV hst c0 c1
  gi_wp2_with fail
  obtain ⟨s1, s2⟩ := set2 (u := .int .u64 0) (v := .int .i64 2) cr ce (by omega)
  exact leaves_none ⟨_, res_cells (X := 0) rfl rfl rfl s1 s2, rfl, set2_below HB2.out (by omega) (by omega)⟩

set_option maxRecDepth 100000 in
set_option maxHeartbeats 8000000 in
theorem gLinE (F R : Int) (l : List Int) (A : Option Addr) (c : Nat) (t : Int) (w : World) (hA : RdP w w.heap.size A l c) (hT : T5 w) (hlen : l.length ≤ 64) (hg : ¬ (vbd F R l ∧ orA l = true)) :
    Calls Tryd.prog 21 #[.agg #[.int .i64 F, .int .i64 R, .slice A l.length c], .int .i64 t] w fun e w' => e = .returned (.tuple #[.int .u64 0, .int .i64 2]) ∧ Below w.heap.size w w' := by
  refine (callsIn_wide (n := 6)).1 ?_
  have hL := len18 (F := 0) (R := 0) (S := zS) (K := zK) rfl
  obtain ⟨L, hLL⟩ : ∃ L, fieldC 0 0 zS zK = L := ⟨_, rfl⟩
  rw [hLL] at hL
  have HSV := Lib.hid (fun w hA => surv_no F R l A c hg L hLL w hlen hA)
  have HLY := Lib.hid (fun w => lay18 w hLL)
  have HT := Lib.hid hT
  obtain ⟨V0, hV0⟩ : ∃ V0, (((w.alloc (.cells #[.int .i64 F, .int .i64 R, .slice A l.length c] 26)).alloc (.cells #[.int .i64 t] 3)).alloc (.cells #[.int .u64 0] 30)).alloc (.cells #[.int .i64 0] 31) = V0 := ⟨_, rfl⟩
  have b0 : Below w.heap.size w V0 := by rw [← hV0]; exact ((((Below.refl _ _).alloc (by simp) _).alloc (by simp) _).alloc (by simp; omega) _).alloc (by simp; omega) _
  have hs0 : V0.heap.size = w.heap.size + 4 := by rw [← hV0]; simp
  have c0 : V0.cell? ⟨w.heap.size, 0, none⟩ = some (.int .i64 F) := by rw [← hV0]; exact alive _ (alive _ (alive _ (by simp [go_sem])))
  have c1 : V0.cell? ⟨w.heap.size, 1, none⟩ = some (.int .i64 R) := by rw [← hV0]; exact alive _ (alive _ (alive _ (by simp [go_sem])))
  have ca : V0.cell? ⟨w.heap.size + 1, 0, none⟩ = some (.int .i64 t) := by rw [← hV0]; exact alive _ (alive _ (by simp [go_sem]))
  have cr : V0.cell? ⟨w.heap.size + 1 + 1, 0, none⟩ = some (.int .u64 0) := by rw [← hV0]; exact alive _ (by simp [go_sem])
  have ce : V0.cell? ⟨w.heap.size + 1 + 1 + 1, 0, none⟩ = some (.int .i64 0) := by rw [← hV0]; simp [go_sem]
  have fr : V0.frozen? ⟨w.heap.size + 1 + 1, 0, none⟩ = false := by rw [← hV0]; simp [go_sem]
  have fe : V0.frozen? ⟨w.heap.size + 1 + 1 + 1, 0, none⟩ = false := by rw [← hV0]; simp [go_sem]
  have HA0 := Lib.hid (rdBo b0 hA)
  have HB0 := Lib.hid b0
  have HV0 := Lib.hid hV0
  clear hV0
  clear hA hT hLL hlen hg b0
  refine callsIn_of_wp_marks Tryd.func21 rfl trivial ?_ rfl
  simp only [Tryd.ntmps21, List.size_toArray, List.length_cons, List.length_nil, Nat.reduceAdd, Nat.reduceSub, Array.replicate_succ, Array.replicate_zero, List.push_toArray, List.append_toArray, List.nil_append, List.cons_append]
  gi_wp2_with fail
  rw [HV0.out]
  clear HV0
  refine ⟨trivial, callsIn_wide.2 ((HSV.out _ HA0.out).mono ?_)⟩
  rintro e w1 ⟨rfl, hb1⟩
  obtain ⟨V, hst, _, hVb, hVs⟩ := HLY.out w1
  have hs1 := hb1.size
  have HB1 := Lib.hid (chain (chain HB0.out hb1) hVb)
  replace c0 := cBo hVb (cBo hb1 c0)
  replace c1 := cBo hVb (cBo hb1 c1)
  replace ca := cBo hVb (cBo hb1 ca)
  replace cr := cBo hVb (cBo hb1 cr)
  replace ce := cBo hVb (cBo hb1 ce)
  replace fr := (hVb.frozen (p := ⟨w.heap.size + 1 + 1, 0, none⟩) (by simp; omega)).trans ((hb1.frozen (p := ⟨w.heap.size + 1 + 1, 0, none⟩) (by simp; omega)).trans fr)
  replace fe := (hVb.frozen (p := ⟨w.heap.size + 1 + 1 + 1, 0, none⟩) (by simp; omega)).trans ((hb1.frozen (p := ⟨w.heap.size + 1 + 1 + 1, 0, none⟩) (by simp; omega)).trans fe)
  clear hb1 hVb HLY HA0 HB0 HSV
  gi_wp2_with fail
  refine ⟨trivial, ?_⟩
  gi_wp2_with fail
  obtain ⟨s1, s2⟩ := set2 (u := .int .u64 0) (v := .int .i64 2) cr ce (by omega)
  exact leaves_none ⟨_, res_cells (X := 0) rfl rfl rfl s1 s2, rfl, set2_below HB1.out (by omega) (by omega)⟩

end Go.Proofs.YtjnbjegopddhgaaDoor
