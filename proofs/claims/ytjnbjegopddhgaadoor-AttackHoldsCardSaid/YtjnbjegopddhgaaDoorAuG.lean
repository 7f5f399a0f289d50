/- Attacks, by the program: the field of a board that is valid, and not orthodox. -/
import Derived.Test.YtjnbjegopddhgaaDoorAuF

namespace Go.Proofs.YtjnbjegopddhgaaDoor
open Go.RowKit

set_option maxRecDepth 100000 in
set_option maxHeartbeats 8000000 in
theorem aSurvey_or (F R : Int) (l : List Int) (A : Option Addr) (c : Nat) (h : vbd F R l) (hor : orA l = false) (w : World) (hA : RdP w w.heap.size A l c) :
    Calls Tryd.prog 31 #[.agg #[.int .i64 F, .int .i64 R, .slice A l.length c]] w fun e w' => e = .returned (.tuple #[fieldV 0 0 zS zK, .int .i64 2]) ∧ Below w.heap.size w w' := by
  have HV := Lib.hid (fun w hA => bValid_yes F R l A c h w hA)
  have hlen : l.length ≤ 64 := by have := (vsz_mul h.1).2; have := h.2.1; omega
  have HP := Lib.hid h.2.2
  have HOR := Lib.hid hor
  clear h hor
  go_enter Tryd.func31, Tryd.ntmps31
  go_wp2_with fail
  refine (HV.out _ ?_).mono ?_
  · exact (hA.below (after1 (box1 _ _))).grow (by simp; omega)
  rintro e w1 ⟨rfl, hb⟩
  have hz := zero_cells (w.alloc (.cells #[.int .i64 F, .int .i64 R, .slice A l.length c] 26))
  have hs := hb.size
  simp only [World.size_alloc] at hs
  obtain ⟨V, hV⟩ : ∃ V, w1.alloc (.cells #[.int .i64 F, .int .i64 R, .int .u64 0, .int .u64 0, .int .u64 0, .int .u64 0, .int .u64 0, .int .u64 0, .int .u64 0, .int .u64 0, .int .u64 0, .int .u64 0, .int .u64 0, .int .u64 0, .int .u64 0, .int .u64 0, .int .u64 0, .int .u64 0] 61) = V := ⟨_, rfl⟩
  have c0 := hb.cell (p := ⟨w.heap.size, 0, none⟩) (by simp; omega)
  have c1 := hb.cell (p := ⟨w.heap.size, 1, none⟩) (by simp; omega)
  have c2 := hb.cell (p := ⟨w.heap.size, 2, none⟩) (by simp; omega)
  simp [go_sem] at c0 c1 c2
  have d2 := alive (.cells #[.int .i64 F, .int .i64 R, .int .u64 0, .int .u64 0, .int .u64 0, .int .u64 0, .int .u64 0, .int .u64 0, .int .u64 0, .int .u64 0, .int .u64 0, .int .u64 0, .int .u64 0, .int .u64 0, .int .u64 0, .int .u64 0, .int .u64 0, .int .u64 0] 61) c2
  have rc : ∀ o, o < 18 → V.cell? ⟨w.heap.size + 1, o, none⟩ = some (zeroF o) := fun o ho => by
    rw [← hV]
    refine alive _ ((hb.cell (p := ⟨w.heap.size + 1, o, none⟩) (by simp)).trans ?_)
    have := (hz o ho).1
    rw [World.size_alloc] at this
    exact this
  have rf : ∀ o, V.frozen? ⟨w.heap.size + 1, o, none⟩ = false := fun o => by
    rw [← hV]
    exact ((box1 w1 _).frozen (p := ⟨w.heap.size + 1, o, none⟩) (by simp; omega)).trans ((hb.frozen (p := ⟨w.heap.size + 1, o, none⟩) (by simp)).trans (by simp [go_sem]))
  have hB : Below w.heap.size w V := by rw [← hV]; exact (after2 hb).alloc (by omega) _
  have hF0 : FldF V w1.heap.size F R (Sn l 0) (Kn l 0) := by
    rw [← hV]
    exact ⟨Fld.new w1 F R zS zK, fun o => by simp [go_sem]⟩
  have hVs : V.heap.size = w1.heap.size + 1 := by rw [← hV]; simp
  have hAV := hA.below hB
  clear hz hb hA
  have HVV := Lib.hid hV
  clear hV
  go_wp2_with fail
  rw [HVV.out] at d2 ⊢
  clear HVV
  go_loopw [3, 5, 6, 17] (fun s3 _ _ i wr => ∃ k : Nat, k ≤ l.length ∧ i = .int .i64 k ∧ s3 = .int .i64 0 ∧ FldF wr w1.heap.size F R (Sn l k) (Kn l k) ∧ ButS w1.heap.size V wr ∧ Hid (∀ j, j < k → orB (l[j]?.getD 0) = true)) (fun _ _ _ i _ => l.length - (intOf i).toNat)
  case atStart => exact ⟨0, by omega, rfl, rfl, hF0, ButS.refl _ _, Lib.hid (fun j hj => by omega)⟩
  case round =>
    obtain ⟨k, hk, rfl, rfl, hF, hBu, HO⟩ := hrel
    have rc2 : ∀ o, o < 18 → wr.cell? ⟨w.heap.size + 1, o, none⟩ = some (zeroF o) := fun o ho => hBu.cell (rc o ho) (by simp; omega)
    have rf2 : ∀ o, wr.frozen? ⟨w.heap.size + 1, o, none⟩ = false := fun o => by
      have e := hBu.2.2.2.2 (w.heap.size + 1) (by omega) (by omega)
      have := rf o
      simp only [World.frozen?, e] at this ⊢
      exact this
    have hBw : Below w.heap.size w wr := hB.trans (hBu.below (by omega) (by omega))
    have HE := Lib.hid (fun j (hj : j < 18) => (⟨_, rc2 j hj⟩ : ∃ u, wr.cell? ⟨w.heap.size + 1, j, none⟩ = some u))
    have hRD := hAV.below (hBu.below (by omega) (by omega))
    clear rc rf hF0 hAV c0 c1 c2 hB
    by_cases hlt : k < l.length
    · obtain ⟨ad, rfl, hbl, hc⟩ := hRD.at_ hlt
      have hVk := HP.out k hlt
      have hno : orB (l[k]?.getD 0) = false → Hid (orA l = false) := fun h => Lib.hid (orA_no hlt h)
      have hyes : orB (l[k]?.getD 0) = true → Hid (∀ j, j < k + 1 → orB (l[j]?.getD 0) = true) := fun h => Lib.hid (fun j hj => by
        by_cases e : j = k
        · rw [e]; exact h
        · exact HO.out j (by omega))
      have HNO := Lib.hid hno
      have HYES := Lib.hid hyes
      clear hRD hno hyes
      obtain ⟨n, hn⟩ : ∃ n, l[k]?.getD 0 = n := ⟨_, rfl⟩
      rw [hn] at hc hVk HNO HYES
      have HN := Lib.hid hn
      clear hn
      unfold okP at hVk
      by_cases h0 : n = 0
      · have hz : (n == 0) = true := by simp [h0]
        have HK := HYES.out (by rw [h0]; rfl)
        have hF2 := fld_same hF (HN.out.trans h0)
        clear h0 rc2 rf2
        go_wp2
        go_roundw
        case rel => exact ⟨k + 1, by omega, by go_num, rfl, hF2, hBu, HK⟩
        case measure => simp [intOf]; omega
      · have hz : (n == 0) = false := beq_eq_false_iff_ne.2 h0
        have ho : orB n = orthB n := by unfold orB; simp [h0]
        rw [ho] at HNO HYES
        have HR := Lib.hid (orth_any n (by omega))
        cases hb : orthB n
        · rw [hb] at HR
          have HK := HNO.out hb
          clear h0 hb ho HNO HYES HK
          go_wp2_with fail
          refine (HR.out _).mono ?_
          rintro e w2 ⟨rfl, rfl⟩
          have HST := Lib.hid (store18 (F := 0) (R := 0) (S := zS) (K := zK) rc2 rf2)
          rw [setCells_putL] at HST
          have hF3 := fld_put (F := 0) (R := 0) (S := zS) (K := zK) HE.out
          have hL := hBw.trans ((putL_but (w.heap.size + 1) (fieldC 0 0 zS zK) wr 0).below (B := w.heap.size) (by omega) hBw.size)
          have HF3 := Lib.hid hF3
          generalize putL (w.heap.size + 1) wr 0 (fieldC 0 0 zS zK) = W2 at *
          clear rc2 rf2 hF hF3 hBu
          go_upto_region 9 with fail
          refine reg_or (L := fieldC 0 0 zS zK) rfl build18 HST.out ?_
          go_wp2
          refine bodyPost_ret (v := .tuple #[fieldV 0 0 zS zK, .int .i64 2]) ?_ rfl ⟨rfl, hL⟩
          exact res18 (fn := Tryd.f31) (p := 2) (u := 3) rfl rfl HF3.out
        · rw [hb] at HR
          have HK := HYES.out hb
          have hr6 : -6 ≤ n ∧ n ≤ 6 := by unfold orthB at hb; simp at hb; omega
          clear hb ho rc2 rf2
          by_cases hneg : n < 0
          · obtain ⟨j, rfl⟩ : ∃ j : Nat, n = -(j : Int) := ⟨(-n).toNat, by omega⟩
            have hw : IntKind.i8.wrap (j : Int) = (j : Int) := IntWalk.i8_in _ (by omega)
            have HADD := Lib.hid (fun W h1 h2 f1 f2 => aAdd_any w1.heap.size 10 j k (Sn l k true) (Kn l k true j) (by omega) (by omega) (Sn_lt (by omega) _) (Kn_lt (by omega) _ _) W h1 h2 f1 f2)
            go_wp2_with fail
            refine (HR.out _).mono ?_
            rintro e w2 ⟨rfl, rfl⟩
            go_wp2_with fail
            refine (HADD.out _ (hF.1.2.1 true) (hF.1.2.2 true j (by omega)) (hF.2 _) (hF.2 _)).mono ?_
            rintro e w2 ⟨rfl, ha⟩
            have hF2 := fld_add (j := j) (bl := true) hF (by omega) (by omega) (HN.out.trans (by simp [sdN])) ha
            have hBu2 := hBu.trans ha.1
            clear ha
            go_wp2
            go_roundw
            case rel => exact ⟨k + 1, by omega, by go_num, rfl, hF2, hBu2, HK⟩
            case measure => simp [intOf]; omega
          · obtain ⟨j, rfl⟩ : ∃ j : Nat, n = (j : Int) := ⟨n.toNat, by omega⟩
            have HADD := Lib.hid (fun W h1 h2 f1 f2 => aAdd_any w1.heap.size 2 j k (Sn l k false) (Kn l k false j) (by omega) (by omega) (Sn_lt (by omega) _) (Kn_lt (by omega) _ _) W h1 h2 f1 f2)
            go_wp2_with fail
            refine (HR.out _).mono ?_
            rintro e w2 ⟨rfl, rfl⟩
            go_wp2_with fail
            refine (HADD.out _ (hF.1.2.1 false) (hF.1.2.2 false j (by omega)) (hF.2 _) (hF.2 _)).mono ?_
            rintro e w2 ⟨rfl, ha⟩
            have hF2 := fld_add (j := j) (bl := false) hF (by omega) (by omega) (HN.out.trans (by simp [sdN])) ha
            have hBu2 := hBu.trans ha.1
            clear ha
            go_wp2
            go_roundw
            case rel => exact ⟨k + 1, by omega, by go_num, rfl, hF2, hBu2, HK⟩
            case measure => simp [intOf]; omega
    · have hkl : k = l.length := by omega
      subst hkl
      have HK := orA_yes HO.out
      rw [HOR.out] at HK
      cases HK
end Go.Proofs.YtjnbjegopddhgaaDoor
