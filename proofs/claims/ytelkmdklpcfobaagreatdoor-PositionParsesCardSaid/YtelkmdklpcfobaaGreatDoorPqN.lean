/- Positions, by the document: numbers and rights are read. -/
import Derived.Test.YtelkmdklpcfobaaGreatDoorPqS
namespace Go.Proofs.YtelkmdklpcfobaaGreatDoor
open Go.RowKit Go.Sort

set_option maxRecDepth 100000 in
set_option maxHeartbeats 2000000 in
theorem rNumber_any (s : ByteArray) (hs : s.size ≤ 200) (w : World) :
    Calls Tryz.prog 69 #[.string s] w fun e w' => e = .returned (.int .i64 (nmbV s.data.toList)) ∧ Below w.heap.size w w' := by
  have hLs : s.data.toList.length = s.size := by rw [Array.length_toList]; rfl
  have HL := Lib.hid hLs
  clear hLs
  go_enter Tryz.func69, Tryz.ntmps69
  go_wp2
  go_loopw [3, 4] (fun v i wr => ∃ k : Nat, k ≤ s.size ∧ i = .int .i64 k ∧ ∃ n : Nat, v = .int .i64 n ∧ wr = w ∧ (0 < k → s.size ≤ 5) ∧ n < 100000 ∧ Hid (valF (s.data.toList.take k) = n ∧ ∀ c ∈ s.data.toList.take k, isDg c = true)) (fun _ i _ => s.size - (intOf i).toNat)
  case atStart => exact ⟨0, by omega, rfl, 0, rfl, by first | rfl | trivial, by omega, by omega, Lib.hid ⟨by simp [valF], by simp⟩⟩
  case round =>
    obtain ⟨k, hk, rfl, n, rfl, rfl, h5, hn5, HV⟩ := hrel
    by_cases hlt : k < s.size
    · have hT : Hid (s.data.toList.take (k + 1) = s.data.toList.take k ++ [s[k]]) := Lib.hid (by rw [List.take_succ_eq_append_getElem (by rw [HL.out]; exact hlt)]; rfl)
      by_cases hd : isDg s[k] = true ∧ s.size ≤ 5
      · obtain ⟨hd, hz⟩ := hd
        have HV2 : Hid (valF (s.data.toList.take (k + 1)) = n * 10 + (s[k].toNat - 48) ∧ ∀ c ∈ s.data.toList.take (k + 1), isDg c = true) := Lib.hid (by
          rw [hT.out, valF_snoc, HV.out.1]
          refine ⟨rfl, fun c hc => ?_⟩
          rw [List.mem_append, List.mem_singleton] at hc
          rcases hc with hc | rfl
          · exact HV.out.2 c hc
          · exact hd)
        have hb : n * 10 + (s[k].toNat - 48) < 100000 := by
          have h1 := valF_lt _ HV2.out.2
          rw [HV2.out.1, List.length_take, HL.out] at h1
          have h2 : min (k + 1) s.size ≤ 5 := by omega
          have h3 : 10 ^ (min (k + 1) s.size) ≤ 10 ^ 5 := Nat.pow_le_pow_right (by decide) h2
          have h4 : (10 : Nat) ^ 5 = 100000 := by decide
          omega
        have hdg : 48 ≤ s[k].toNat ∧ s[k].toNat ≤ 57 := by unfold isDg at hd; simpa using hd
        obtain ⟨hd1, hd2⟩ := hdg
        have hc : (((10 * (n : Int) + ((s[k].toNat : Int) - 48))) = ((n * 10 + (s[k].toNat - 48) : Nat) : Int)) := by omega
        clear hd hT HV
        go_wp2
        go_roundw
        case rel => exact ⟨k + 1, by omega, by go_num, n * 10 + (s[k].toNat - 48), by go_num, by first | rfl | trivial, by omega, hb, HV2⟩
        case measure => simp [intOf]; omega
      · have HE : Hid (nmbV s.data.toList = -1) := Lib.hid (nmbV_no (Or.inl (fun hh => hd ⟨hh.2 s[k] (by
          have := List.getElem_mem (l := s.data.toList) (n := k) (by rw [HL.out]; exact hlt)
          exact this), by rw [← HL.out]; exact hh.1⟩)))
        have hd1 : s[k].toNat < 48 ∨ (48 ≤ s[k].toNat ∧ 57 < s[k].toNat) ∨ (48 ≤ s[k].toNat ∧ s[k].toNat ≤ 57 ∧ 5 < s.size) := by
          unfold isDg at hd
          simp only [Bool.and_eq_true, decide_eq_true_eq] at hd
          omega
        clear hd hT HV
        rcases hd1 with h1 | ⟨h1, h2⟩ | ⟨h1, h2, h3⟩
        all_goals
          go_wp2
          go_ret
          rw [HE.out]
          exact ⟨rfl, Below.refl _ _⟩
    · have hks : k = s.size := by omega
      subst hks
      have e : s.data.toList.take s.size = s.data.toList := List.take_of_length_le (by rw [HL.out]; exact Nat.le_refl _)
      rw [e] at HV
      clear e
      rcases Nat.eq_zero_or_pos s.size with h0 | h0
      · have HE : Hid (nmbV s.data.toList = -1) := Lib.hid (nmbV_no (Or.inr (Or.inl (List.length_eq_zero_iff.1 (HL.out.trans h0)))))
        go_wp2
        go_ret
        rw [HE.out]
        exact ⟨rfl, Below.refl _ _⟩
      · have HD := Lib.hid (fun w => rDec n (by omega) w)
        have hz := h5 h0
        have hc0 : ((s.size : Int) == 0) = false := beq_eq_false_iff_ne.2 (by omega)
        by_cases hq : bsL (dec n) = s
        · have HE : Hid (nmbV s.data.toList = n) := Lib.hid (by
            rw [nmbV_is (by rw [HL.out]; exact hz) HV.out.2 (fun e => by have := congrArg List.length e; rw [HL.out, List.length_nil] at this; omega) (by rw [HV.out.1, ← hq, bsL_toList]), HV.out.1])
          rw [hq] at HD
          clear hq HV
          go_wp2_with fail
          refine (HD.out _).mono ?_
          rintro e w1 ⟨rfl, hb1⟩
          go_wp2
          go_ret
          rw [HE.out]
          exact ⟨rfl, hb1⟩
        · have HE : Hid (nmbV s.data.toList = -1) := Lib.hid (nmbV_no (Or.inr (Or.inr (fun e => hq (by rw [← HV.out.1, e]; exact bsL_of s)))))
          generalize bsL (dec n) = q at *
          have hnl : ¬ q.toList = s.toList := fun h => hq (str_inj h)
          have hne1 : (q.toList == s.toList) = false := by simpa using hnl
          have hne2 : (q.toList != s.toList) = true := by simpa using hnl
          clear hq HV
          go_wp2_with fail
          refine (HD.out _).mono ?_
          rintro e w1 ⟨rfl, hb1⟩
          go_wp2
          go_ret
          rw [HE.out]
          exact ⟨rfl, hb1⟩

/-- the rights with a text, or -1. -/
def casN (w : List UInt8) : Int := match casV w with | none => -1 | some n => (n : Int)
theorem casV_at {w : List UInt8} {k : Nat} (hk : k < 16) (h : caL k = w) (hu : ∀ j, j < k → caL j ≠ w) : casN w = k := by
  unfold casN casV
  have : (List.range 16).find? (fun n => caL n == w) = some k := by
    refine List.find?_range_eq_some.2 ⟨?_, by simpa using hk, fun j hj => ?_⟩
    · simpa using h
    · simpa using hu j hj
  rw [this]
theorem casV_out {w : List UInt8} (hu : ∀ j, j < 16 → caL j ≠ w) : casN w = -1 := by
  unfold casN casV
  have : (List.range 16).find? (fun n => caL n == w) = none := by
    rw [List.find?_eq_none]
    intro j hj
    simpa using hu j (List.mem_range.1 hj)
  rw [this]

set_option maxRecDepth 100000 in
set_option maxHeartbeats 2000000 in
theorem rCastle_any (s : ByteArray) (w : World) :
    Calls Tryz.prog 70 #[.string s] w fun e w' => e = .returned (.int .i64 (casN s.data.toList)) ∧ Below w.heap.size w w' := by
  go_enter Tryz.func70, Tryz.ntmps70
  go_wp2
  go_loopw [3] (fun i wr => ∃ k : Nat, k ≤ 16 ∧ i = .int .i64 k ∧ wr = w ∧ Hid (∀ j, j < k → caL j ≠ s.data.toList)) (fun i _ => 16 - (intOf i).toNat)
  case atStart => exact ⟨0, by omega, rfl, by first | rfl | trivial, Lib.hid (by omega)⟩
  case round =>
    obtain ⟨k, hk, rfl, rfl, HU⟩ := hrel
    by_cases hlt : k < 16
    · go_wp2
      go_loopw [4, 5] (fun v i wx => ∃ j : Nat, j ≤ 4 ∧ i = .int .i64 j ∧ v = .string (bsL (ckT k j)) ∧ wx = wr) (fun _ i _ => 4 - (intOf i).toNat)
      case atStart => exact ⟨0, by omega, rfl, rfl, by first | rfl | trivial⟩
      case round =>
        obtain ⟨j, hj, rfl, rfl, rfl⟩ := hrel
        have hz : (bsL (ckT k j)).size ≤ 4 := by rw [bsL_size]; have := ckT_len k j; omega
        by_cases hjt : j < 4
        · have hE := Lib.hid (kq_at hjt)
          have hp : ((k : Int) / 2 ^ j).tmod 2 = ((k / 2 ^ j % 2 : Nat) : Int) := by
            rw [Int.ofNat_tmod]
            simp
          by_cases hb : k / 2 ^ j % 2 = 1
          · have hc : (((k : Int) / 2 ^ j).tmod 2 == 1) = true := by rw [hp, hb]; rfl
            have HS : Hid (bsL (ckT k (j + 1)) = bsL (ckT k j) ++ (ByteArray.mk #[75, 81, 107, 113]).extract j (j + 1)) := Lib.hid (by rw [ckT_succ, if_pos hb, ← bsL_append, hE.out])
            clear hp hb
            go_wp2
            go_roundw
            case rel => exact ⟨j + 1, by omega, by go_num, by rw [HS.out], by first | rfl | trivial⟩
            case measure => simp [intOf]; omega
          · have hc : (((k : Int) / 2 ^ j).tmod 2 == 1) = false := by rw [hp]; exact beq_eq_false_iff_ne.2 (by omega)
            have HS : Hid (bsL (ckT k (j + 1)) = bsL (ckT k j)) := Lib.hid (by rw [ckT_succ, if_neg hb, List.append_nil])
            clear hp hb
            go_wp2
            go_roundw
            case rel => exact ⟨j + 1, by omega, by go_num, by rw [HS.out], by first | rfl | trivial⟩
            case measure => simp [intOf]; omega
        · have hj4 : j = 4 := by omega
          subst hj4
          have HC := Lib.hid (ckT_end hlt)
          have HN : ∀ o : List UInt8, caL k = o → (o = s.data.toList → casN s.data.toList = k) ∧ (o ≠ s.data.toList → ∀ j, j < k + 1 → caL j ≠ s.data.toList) := by
            rintro _ rfl
            refine ⟨fun h => casV_at hlt h HU.out, fun h j hj => ?_⟩
            rcases Nat.lt_or_ge j k with hj' | hj'
            · exact HU.out j hj'
            · have : j = k := by omega
              subst this
              exact h
          have HN := Lib.hid HN
          generalize ckT k 4 = cc at *
          by_cases hn : cc = []
          · subst hn
            rw [if_pos rfl] at HC
            rw [show bsL [] = (⟨#[]⟩ : ByteArray) from rfl]
            have hN := HN.out _ HC.out
            by_cases hq : [45] = s.data.toList
            · have HE := Lib.hid (hN.1 hq)
              have hqs : s = ⟨#[45]⟩ := by rw [← bsL_of s, ← hq]; rfl
              subst hqs
              clear hN hq HN
              go_wp2
              go_ret
              rw [HE.out]
              exact ⟨rfl, Below.refl _ _⟩
            · have HU2 := Lib.hid (hN.2 hq)
              have hne1 : (([45] : List UInt8) == s.toList) = false := by rw [ByteArray.toList_eq]; exact beq_eq_false_iff_ne.2 hq
              clear hN hq HN
              go_wp2
              go_roundw
              case rel => exact ⟨k + 1, by omega, by go_num, by first | rfl | trivial, HU2⟩
              case measure => simp [intOf]; omega
          · rw [if_neg hn] at HC
            have hN := HN.out _ HC.out
            have hn0 : (bsL cc).toList.isEmpty = false := by rw [bsL_ne]; simpa using hn
            by_cases hq : cc = s.data.toList
            · have HE := Lib.hid (hN.1 hq)
              have hqs : bsL cc = s := by rw [hq, bsL_of]
              rw [hqs] at hn0 hz ⊢
              clear hN hq HN hqs
              go_wp2
              go_ret
              rw [HE.out]
              exact ⟨rfl, Below.refl _ _⟩
            · have HU2 := Lib.hid (hN.2 hq)
              have hnl : ¬ (bsL cc).toList = s.toList := fun h => hq (by rw [← bsL_toList cc, str_inj h])
              have hne1 : ((bsL cc).toList == s.toList) = false := by simpa using hnl
              clear hN hq HN
              generalize bsL cc = q at *
              go_wp2
              go_roundw
              case rel => exact ⟨k + 1, by omega, by go_num, by first | rfl | trivial, HU2⟩
              case measure => simp [intOf]; omega
    · have HE : Hid (casN s.data.toList = -1) := by
        have h16 : k = 16 := by omega
        subst h16
        exact Lib.hid (casV_out HU.out)
      go_wp2
      go_ret
      rw [HE.out]
      exact ⟨rfl, Below.refl _ _⟩

end Go.Proofs.YtelkmdklpcfobaaGreatDoor
