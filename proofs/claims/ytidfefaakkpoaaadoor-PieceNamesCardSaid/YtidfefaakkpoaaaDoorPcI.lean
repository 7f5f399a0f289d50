/- Names that somebody may give: the reference's Given gives the answer of the program's ValidName. -/
import Derived.Test.YtidfefaakkpoaaaDoorPcG
namespace Go.Proofs.YtidfefaakkpoaaaDoor
open Go.RowKit

set_option maxRecDepth 100000 in
set_option maxHeartbeats 4000000 in
theorem given_any (s : ByteArray) (b : Bool) (hb : b = true ↔ givP s) (hs : s.size ≤ 100) (w : World) :
    Calls Tryd.prog 64 #[.string s] w fun e w' => e = .returned (.bool b) ∧ w = w' := by
  have HB := Lib.hid hb
  clear hb
  go_enter Tryd.func64, Tryd.ntmps64
  go_wp2
  go_loop [3] (fun i => ∃ k : Nat, k ≤ s.size ∧ i = .int .i64 k ∧ Hid (0 < k → ∃ h : 0 < s.size, letN (s[0]'h).toNat = true) ∧ Hid (∀ j (h : j < s.size), j < k → (letN (s[j]'h).toNat || othN (s[j]'h).toNat) = true)) (fun i => s.size - (intOf i).toNat)
  case atStart => exact ⟨0, by omega, rfl, Lib.hid fun h => absurd h (by omega), Lib.hid fun j _ hj => absurd hj (by omega)⟩
  case round =>
    obtain ⟨k, hk, rfl, HF, HN⟩ := hrel
    by_cases hlt : k < s.size
    · have go : (letN (s[k]'hlt).toNat || othN (s[k]'hlt).toNat) = true → Hid (∀ j (h : j < s.size), j < k + 1 → (letN (s[j]'h).toNat || othN (s[j]'h).toNat) = true) := fun h => Lib.hid fun j hj hjk => by
        by_cases e : j = k
        · subst e; exact h
        · exact HN.out j hj (by omega)
      by_cases hL : letN (s[k]'hlt).toNat = true
      · have HG := go (by simp [hL])
        have HF' : Hid (0 < k + 1 → ∃ h : 0 < s.size, letN (s[0]'h).toNat = true) := Lib.hid fun _ => by
          by_cases hk0 : k = 0
          · subst hk0; exact ⟨hlt, hL⟩
          · exact HF.out (by omega)
        rcases bf_letter hL with h | h
        all_goals
          obtain ⟨d1, d2, d3, d4, d5, d6, d7, d8⟩ := h
          clear hL go HN HF
          go_wp2
          go_round
          case rel => exact ⟨k + 1, by omega, by go_num, HF', HG⟩
          case measure => simp [intOf]; omega
      · by_cases hk0 : k = 0
        · have hbf : b = false := b_false fun h => by
            obtain ⟨_, h1⟩ := (HB.out.1 h).2.1
            subst hk0
            exact hL h1
          subst hbf
          subst hk0
          rcases bf_any (s[0]'hlt).toNat with ⟨hl, _⟩ | ⟨hl, h | h | h | h | h | h | h⟩
          · exact absurd hl hL
          all_goals
            obtain ⟨d1, d2, d3, d4, d5, d6, d7, d8⟩ := h
            clear hL go HN HF hl HB
            go_wp2
            go_ret
            exact ⟨rfl, rfl⟩
        · have hkz : ((k : Int) == 0) = false := beq_eq_false_iff_ne.2 (by omega)
          by_cases hO : othN (s[k]'hlt).toNat = true
          · have HG := go (by simp [hO])
            have HF' : Hid (0 < k + 1 → ∃ h : 0 < s.size, letN (s[0]'h).toNat = true) := Lib.hid fun _ => HF.out (by omega)
            rcases bf_other hO with h | h | h
            all_goals
              obtain ⟨d1, d2, d3, d4, d5, d6, d7, d8⟩ := h
              clear hL hO go HN HF
              go_wp2
              go_round
              case rel => exact ⟨k + 1, by omega, by go_num, HF', HG⟩
              case measure => simp [intOf]; omega
          · have hbf : b = false := b_false fun h => by
              have := (HB.out.1 h).2.2 k hlt
              rw [Bool.or_eq_true] at this
              exact this.elim hL hO
            subst hbf
            rcases bf_none hL hO with h | h | h | h
            all_goals
              obtain ⟨d1, d2, d3, d4, d5, d6, d7, d8⟩ := h
              clear hL hO go HN HF HB
              go_wp2
              go_ret
              exact ⟨rfl, rfl⟩
    · have hkl : k = s.size := by omega
      subst hkl
      by_cases hz : 0 < s.size
      · by_cases h32 : s.size ≤ 32
        · have hbt : b = true := HB.out.2 ⟨h32, HF.out hz, fun j hj => HN.out j hj hj⟩
          subst hbt
          have d1 : decide ((0 : Int) < (s.size : Int)) = true := decide_eq_true (by omega)
          have d2 : decide ((s.size : Int) ≤ 32) = true := decide_eq_true (by omega)
          clear HF HN HB
          go_wp2
          go_ret
          exact ⟨rfl, rfl⟩
        · have hbf : b = false := b_false fun h => h32 (HB.out.1 h).1
          subst hbf
          have d1 : decide ((0 : Int) < (s.size : Int)) = true := decide_eq_true (by omega)
          have d2 : decide ((s.size : Int) ≤ 32) = false := decide_eq_false (by omega)
          clear HF HN HB
          go_wp2
          go_ret
          exact ⟨rfl, rfl⟩
      · have hbf : b = false := b_false fun h => by have := (HB.out.1 h).2.1.1; omega
        subst hbf
        have d1 : decide ((0 : Int) < (s.size : Int)) = false := decide_eq_false (by omega)
        clear HF HN HB
        go_wp2
        go_ret
        exact ⟨rfl, rfl⟩

end Go.Proofs.YtidfefaakkpoaaaDoor
