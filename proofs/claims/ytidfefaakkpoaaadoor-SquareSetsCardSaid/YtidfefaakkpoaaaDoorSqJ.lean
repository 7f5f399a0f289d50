/- The program's set of a list of squares, and the reference's set of all squares. -/
import Derived.Test.YtidfefaakkpoaaaDoorSqI
namespace Go.Proofs.YtidfefaakkpoaaaDoor
open Go.RowKit

theorem vat_64 {F R a : Int} (h : vat F R a) : 0 ≤ a ∧ a < 64 := by
  have := vsz_mul h.1
  exact ⟨h.2.1, by have := h.2.2; omega⟩

set_option maxRecDepth 100000 in
set_option maxHeartbeats 1000000 in
theorem of_yes (F R : Int) (l : List Int) (A : Option Addr) (c : Nat) (w : World) (hv : vsz F R) (hlen : l.length ≤ 1000000) (hA : RdI w w.heap.size A l) (h : ∀ j, j < l.length → vat F R (l[j]?.getD 0)) :
    Calls Tryd.prog 35 #[.agg #[.int .i64 F, .int .i64 R], .slice A l.length c] w fun e w' => e = .returned (.tuple #[.int .u64 (ofL (sqs l) : Int), .int .i64 0]) ∧ Below w.heap.size w w' := by
  have H := Lib.hid h
  have H64 : Hid (∀ j, j < l.length → 0 ≤ l[j]?.getD 0 ∧ l[j]?.getD 0 < 64) := Lib.hid fun j hj => vat_64 (h j hj)
  clear h
  go_enter Tryd.func35, Tryd.ntmps35
  go_wp2_with fail
  refine (validSize_yes _ _ hv _).mono ?_
  rintro e w1 ⟨rfl, hb⟩
  have s1 := hb.size
  simp at s1
  have hc0 := hb.cell (p := ⟨w.heap.size, 0, none⟩) (by simp)
  have hc1 := hb.cell (p := ⟨w.heap.size, 1, none⟩) (by simp)
  simp [go_sem] at hc0 hc1
  have hB1 := after1 hb
  have A1 := hA.below hB1
  clear hA hb
  go_wp2_with fail
  go_loopw [6, 8, 14] (fun v _ i wr => ∃ k : Nat, k ≤ l.length ∧ i = .int .i64 k ∧ v = .int .u64 (ofTo l k : Int) ∧ Below w1.heap.size w1 wr) (fun _ _ i _ => l.length - (intOf i).toNat)
  case atStart => exact ⟨0, by omega, rfl, rfl, Below.refl _ _⟩
  case round =>
    obtain ⟨k, hk, rfl, rfl, hB⟩ := hrel
    have s2 := hB.size
    by_cases hlt : k < l.length
    · obtain ⟨ad, rfl, hb, hc⟩ := (A1.below (hB.mono (by omega))).at_ hlt
      have d0 := (hB.cell (p := ⟨w.heap.size, 0, none⟩) (by simp; omega)).trans hc0
      have d1 := (hB.cell (p := ⟨w.heap.size, 1, none⟩) (by simp; omega)).trans hc1
      have hX := ofTo_lt l k H64.out
      obtain ⟨b0, b1⟩ := H64.out k hlt
      have hV := H.out k hlt
      have hs := ofTo_succ l k hlt
      have HS := Lib.hid hs
      clear hs A1
      generalize hn : l[k]?.getD 0 = n at *
      clear hn
      generalize hX' : ofTo l k = X at *
      clear hX'
      go_wp2_with fail
      refine (valid_yes _ _ _ hV _).mono ?_
      rintro e w2 ⟨rfl, hb2⟩
      go_wp2_with fail
      refine (single_any n b0 b1 _).mono ?_
      rintro e w3 ⟨rfl, rfl⟩
      have P := Lib.hid (or_bitN X n.toNat hX (by omega))
      go_wp2
      go_roundw
      case rel => exact ⟨k + 1, by omega, by go_num, by rw [HS.out]; exact vint P.out, chain hB hb2⟩
      case measure => simp [intOf]; omega
    · have hkl : k = l.length := by omega
      subst hkl
      go_wp2
      go_ret2
      exact ⟨ret2 (vint (by rw [ofTo_all])) rfl, chain hB1 hB⟩

set_option maxRecDepth 100000 in
set_option maxHeartbeats 1000000 in
theorem of_bad (F R : Int) (l : List Int) (A : Option Addr) (c : Nat) (w : World) (hv : vsz F R) (hlen : l.length ≤ 1000000) (hA : RdI w w.heap.size A l) (h : ¬ ∀ j, j < l.length → vat F R (l[j]?.getD 0)) :
    Calls Tryd.prog 35 #[.agg #[.int .i64 F, .int .i64 R], .slice A l.length c] w fun e w' => e = .returned (.tuple #[.int .u64 0, .int .i64 2]) ∧ Below w.heap.size w w' := by
  have H := Lib.hid h
  clear h
  go_enter Tryd.func35, Tryd.ntmps35
  go_wp2_with fail
  refine (validSize_yes _ _ hv _).mono ?_
  rintro e w1 ⟨rfl, hb⟩
  have s1 := hb.size
  simp at s1
  have hc0 := hb.cell (p := ⟨w.heap.size, 0, none⟩) (by simp)
  have hc1 := hb.cell (p := ⟨w.heap.size, 1, none⟩) (by simp)
  simp [go_sem] at hc0 hc1
  have hB1 := after1 hb
  have A1 := hA.below hB1
  clear hA hb
  go_wp2_with fail
  go_loopw [6, 8, 14] (fun v _ i wr => ∃ k : Nat, k ≤ l.length ∧ i = .int .i64 k ∧ v = .int .u64 (ofTo l k : Int) ∧ (∀ j, j < k → vat F R (l[j]?.getD 0)) ∧ Below w1.heap.size w1 wr) (fun _ _ i _ => l.length - (intOf i).toNat)
  case atStart => exact ⟨0, by omega, rfl, rfl, fun j hj => absurd hj (by omega), Below.refl _ _⟩
  case round =>
    obtain ⟨k, hk, rfl, rfl, hall, hB⟩ := hrel
    have HA := Lib.hid hall
    clear hall
    have s2 := hB.size
    by_cases hlt : k < l.length
    · obtain ⟨ad, rfl, hb, hc⟩ := (A1.below (hB.mono (by omega))).at_ hlt
      have d0 := (hB.cell (p := ⟨w.heap.size, 0, none⟩) (by simp; omega)).trans hc0
      have d1 := (hB.cell (p := ⟨w.heap.size, 1, none⟩) (by simp; omega)).trans hc1
      by_cases hV : vat F R (l[k]?.getD 0)
      · have HA' : Hid (∀ j, j < k + 1 → vat F R (l[j]?.getD 0)) := Lib.hid fun j hj => if e : j = k then by rw [e]; exact hV else HA.out j (by omega)
        have hX : ofTo l k < 18446744073709551616 := by
          have := ofTo_lt (l.take k) k (fun j hj => by
            simp at hj
            rw [List.getElem?_take_of_lt (by omega)]
            exact vat_64 (HA.out j (by omega)))
          unfold ofTo at this ⊢
          simpa [sqs, List.map_take, List.take_take] using this
        obtain ⟨b0, b1⟩ := vat_64 hV
        have hs := ofTo_succ l k hlt
        have HS := Lib.hid hs
        clear hs A1
        generalize hn : l[k]?.getD 0 = n at *
        clear hn
        generalize hX' : ofTo l k = X at *
        clear hX'
        go_wp2_with fail
        refine (valid_yes _ _ _ hV _).mono ?_
        rintro e w2 ⟨rfl, hb2⟩
        go_wp2_with fail
        refine (single_any n b0 b1 _).mono ?_
        rintro e w3 ⟨rfl, rfl⟩
        have P := Lib.hid (or_bitN X n.toNat hX (by omega))
        go_wp2
        go_roundw
        case rel => exact ⟨k + 1, by omega, by go_num, by rw [HS.out]; exact vint P.out, HA'.out, chain hB hb2⟩
        case measure => simp [intOf]; omega
      · generalize hn : l[k]?.getD 0 = n at *
        clear hn A1
        go_wp2_with fail
        refine (valid_no _ _ _ hV _).mono ?_
        rintro e w2 ⟨rfl, hb2⟩
        go_wp2
        go_ret2
        exact ⟨rfl, chain hB1 (chain hB hb2)⟩
    · have hkl : k = l.length := by omega
      subst hkl
      exact absurd HA.out H.out

set_option maxRecDepth 100000 in
set_option maxHeartbeats 1000000 in
theorem of_no (F R : Int) (v : Value) (w : World) (hv : ¬ vsz F R) :
    Calls Tryd.prog 35 #[.agg #[.int .i64 F, .int .i64 R], v] w fun e w' => e = .returned (.tuple #[.int .u64 0, .int .i64 2]) ∧ Below w.heap.size w w' := by
  go_enter Tryd.func35, Tryd.ntmps35
  go_wp2_with fail
  refine (validSize_no _ _ hv _).mono ?_
  rintro e w1 ⟨rfl, hb⟩
  go_wp2
  go_ret2
  exact ⟨rfl, after1 hb⟩

end Go.Proofs.YtidfefaakkpoaaaDoor
