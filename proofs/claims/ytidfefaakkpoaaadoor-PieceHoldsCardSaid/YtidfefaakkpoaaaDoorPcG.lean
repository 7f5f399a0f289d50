/- Names that somebody may give: the program's ValidName and the reference's Given give one answer. -/
import Derived.Test.YtidfefaakkpoaaaDoorPcE
namespace Go.Proofs.YtidfefaakkpoaaaDoor
open Go.RowKit

theorem b_false {b : Bool} (h : ¬ b = true) : b = false := by cases b <;> simp_all

set_option maxRecDepth 100000 in
set_option maxHeartbeats 2000000 in
theorem validName_any (s : ByteArray) (b : Bool) (hb : b = true ↔ givP s) (hs : s.size ≤ 100) (w : World) :
    Calls Tryd.prog 63 #[.string s] w fun e w' => e = .returned (.bool b) ∧ w = w' := by
  have HB := Lib.hid hb
  clear hb
  by_cases h0 : s.size = 0
  · have he : s = ⟨#[]⟩ := by
      obtain ⟨⟨l⟩⟩ := s
      simp [ByteArray.size] at h0
      subst h0
      rfl
    have hq : s.toList = [] := by rw [he, ByteArray.toList_eq]
    have hbf : b = false := b_false fun h => by have := (HB.out.1 h).2.1.1; omega
    subst hbf
    clear he HB
    go_enter Tryd.func63, Tryd.ntmps63
    go_wp2
    go_ret
    exact ⟨rfl, rfl⟩
  · have hq : ¬ s.toList = [] := fun e => h0 (by
      rw [ByteArray.toList_eq] at e
      obtain ⟨⟨l⟩⟩ := s
      simp at e
      subst e
      rfl)
    have hq2 : s.toList.isEmpty = false := by rw [Bool.eq_false_iff]; intro h; exact hq (List.isEmpty_iff.1 h)
    by_cases h32 : 32 < s.size
    · have hbf : b = false := b_false fun h => by have := (HB.out.1 h).1; omega
      subst hbf
      clear HB
      go_enter Tryd.func63, Tryd.ntmps63
      go_wp2
      go_ret
      exact ⟨rfl, rfl⟩
    · have hz : 0 < s.size := by omega
      have h32' : ¬ 32 < (s.size : Int) := by omega
      by_cases hl : letN (s[0]'hz).toNat = true
      · have HL := Lib.hid hl
        clear hl
        go_enter Tryd.func63, Tryd.ntmps63
        go_wp2_with fail
        refine (isLetter_as _ true HL.out _).mono ?_
        rintro e w1 ⟨rfl, rfl⟩
        go_wp2
        go_loop [19] (fun i => ∃ k : Nat, k ≤ s.size ∧ i = .int .i64 k ∧ Hid (∀ j (h : j < s.size), j < k → (letN (s[j]'h).toNat || othN (s[j]'h).toNat) = true)) (fun i => s.size - (intOf i).toNat)
        case atStart => exact ⟨0, by omega, rfl, Lib.hid fun j _ hj => absurd hj (by omega)⟩
        case round =>
          obtain ⟨k, hk, rfl, HN⟩ := hrel
          by_cases hlt : k < s.size
          · have go : (letN (s[k]'hlt).toNat || othN (s[k]'hlt).toNat) = true → Hid (∀ j (h : j < s.size), j < k + 1 → (letN (s[j]'h).toNat || othN (s[j]'h).toNat) = true) := fun h => Lib.hid fun j hj hjk => by
              by_cases e : j = k
              · subst e; exact h
              · exact HN.out j hj (by omega)
            cases hL : letN (s[k]'hlt).toNat
            · cases hD : digN (s[k]'hlt).toNat
              · by_cases e45 : (s[k]'hlt).toNat = 45
                · have q45 : (((s[k]'hlt).toNat : Int) != 45) = false := by rw [e45]; rfl
                  have HG := go (by simp [othN, e45])
                  have HL2 := Lib.hid hL
                  have HD2 := Lib.hid hD
                  clear hL hD e45 go HN
                  go_wp2_with fail
                  refine (isLetter_as _ false HL2.out _).mono ?_
                  rintro e w1 ⟨rfl, rfl⟩
                  go_wp2_with fail
                  refine (isDigit_as _ false HD2.out _).mono ?_
                  rintro e w1 ⟨rfl, rfl⟩
                  go_wp2
                  go_round
                  case rel => exact ⟨k + 1, by omega, by go_num, HG⟩
                  case measure => simp [intOf]; omega
                · have q45 : (((s[k]'hlt).toNat : Int) != 45) = true := by rw [bne_iff_ne]; omega
                  by_cases e95 : (s[k]'hlt).toNat = 95
                  · have q95 : (((s[k]'hlt).toNat : Int) != 95) = false := by rw [e95]; rfl
                    have HG := go (by simp [othN, e95])
                    have HL2 := Lib.hid hL
                    have HD2 := Lib.hid hD
                    clear hL hD e45 e95 go HN
                    go_wp2_with fail
                    refine (isLetter_as _ false HL2.out _).mono ?_
                    rintro e w1 ⟨rfl, rfl⟩
                    go_wp2_with fail
                    refine (isDigit_as _ false HD2.out _).mono ?_
                    rintro e w1 ⟨rfl, rfl⟩
                    go_wp2
                    go_round
                    case rel => exact ⟨k + 1, by omega, by go_num, HG⟩
                    case measure => simp [intOf]; omega
                  · have q95 : (((s[k]'hlt).toNat : Int) != 95) = true := by rw [bne_iff_ne]; omega
                    have hbf : b = false := b_false fun h => by
                      have := (HB.out.1 h).2.2 k hlt
                      simp [hL, othN, hD, e45, e95] at this
                    subst hbf
                    have HL2 := Lib.hid hL
                    have HD2 := Lib.hid hD
                    clear hL hD e45 e95 go HN HB
                    go_wp2_with fail
                    refine (isLetter_as _ false HL2.out _).mono ?_
                    rintro e w1 ⟨rfl, rfl⟩
                    go_wp2_with fail
                    refine (isDigit_as _ false HD2.out _).mono ?_
                    rintro e w1 ⟨rfl, rfl⟩
                    go_wp2
                    go_ret
                    exact ⟨rfl, rfl⟩
              · have HG := go (by simp [othN, hD])
                have HL2 := Lib.hid hL
                have HD2 := Lib.hid hD
                clear hL hD go HN
                go_wp2_with fail
                refine (isLetter_as _ false HL2.out _).mono ?_
                rintro e w1 ⟨rfl, rfl⟩
                go_wp2_with fail
                refine (isDigit_as _ true HD2.out _).mono ?_
                rintro e w1 ⟨rfl, rfl⟩
                go_wp2
                go_round
                case rel => exact ⟨k + 1, by omega, by go_num, HG⟩
                case measure => simp [intOf]; omega
            · have HG := go (by simp [hL])
              have HL2 := Lib.hid hL
              clear hL go HN
              go_wp2_with fail
              refine (isLetter_as _ true HL2.out _).mono ?_
              rintro e w1 ⟨rfl, rfl⟩
              go_wp2
              go_round
              case rel => exact ⟨k + 1, by omega, by go_num, HG⟩
              case measure => simp [intOf]; omega
          · have hkl : k = s.size := by omega
            subst hkl
            have hbt : b = true := HB.out.2 ⟨by omega, ⟨hz, HL.out⟩, fun j hj => HN.out j hj hj⟩
            subst hbt
            clear HB
            go_wp2
            go_ret
            exact ⟨rfl, rfl⟩
      · have hbf : b = false := b_false fun h => by
          obtain ⟨_, h1⟩ := (HB.out.1 h).2.1
          exact hl h1
        subst hbf
        have HL := Lib.hid (b_false hl)
        clear hl HB
        go_enter Tryd.func63, Tryd.ntmps63
        go_wp2_with fail
        refine (isLetter_as _ false HL.out _).mono ?_
        rintro e w1 ⟨rfl, rfl⟩
        go_wp2
        go_ret
        exact ⟨rfl, rfl⟩

end Go.Proofs.YtidfefaakkpoaaaDoor
