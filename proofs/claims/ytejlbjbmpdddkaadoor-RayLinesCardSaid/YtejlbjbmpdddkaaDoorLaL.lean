/- The law of lines: it answers true, and changes nothing that lay before. -/
import Derived.Test.YtejlbjbmpdddkaaDoorRkE
namespace Go.Proofs.YtejlbjbmpdddkaaDoor
open Go.RowKit Go.Shelf Go.Sort

set_option maxRecDepth 100000 in
set_option maxHeartbeats 2000000 in
theorem law_rlines (F R a b : Int) (w : World) (hT : Tb w) :
    Calls Tryd.prog 4 #[.agg #[.int .i64 F, .int .i64 R], .int .i64 a, .int .i64 b] w fun e w' => e = .returned (.bool true) ∧ Below w.heap.size w w' := by
  by_cases ha : vat F R a
  · by_cases hb' : vat F R b
    · obtain ⟨m0, m1⟩ := vsz_mul ha.1
      cases hl : lineB F a b
      · have HB := Lib.hid (pBet_none F R a b ha hb' hl)
        have hD := pDir_yes F R a b ha hb'
        rw [if_neg (by simp [hl])] at hD
        have HD := Lib.hid hD
        have hL := line_any F R a b ha hb'
        unfold lineV at hL
        rw [if_neg (by simp [hl])] at hL
        have HL := Lib.hid hL
        have HVA := Lib.hid (refValid_yes F R a ha)
        have HVB := Lib.hid (refValid_yes F R b hb')
        clear hD hL hl ha hb' m0 m1
        go_enter Tryd.func4, Tryd.ntmps4
        have B : Below w.heap.size w (w.alloc (.cells #[.int .i64 F, .int .i64 R] 23)) := box1 _ _
        have c0 : (w.alloc (.cells #[.int .i64 F, .int .i64 R] 23)).cell? ⟨w.heap.size, 0, none⟩ = some (.int .i64 F) := by simp [go_sem]
        have c1 : (w.alloc (.cells #[.int .i64 F, .int .i64 R] 23)).cell? ⟨w.heap.size, 1, none⟩ = some (.int .i64 R) := by simp [go_sem]
        go_wp2_with fail
        refine (HB.out _).mono ?_
        rintro e w1 ⟨rfl, hb⟩
        replace c0 := cB hb c0
        replace c1 := cB hb c1
        replace B := chain B hb
        clear hb
        go_wp2_with fail
        refine (HD.out _).mono ?_
        rintro e w2 ⟨rfl, hb⟩
        replace c0 := cB hb c0
        replace c1 := cB hb c1
        replace B := chain B hb
        clear hb
        go_wp2_with fail
        refine (HVA.out _).mono ?_
        rintro e w3 ⟨rfl, hb⟩
        replace c0 := cB hb c0
        replace c1 := cB hb c1
        replace B := chain B hb
        clear hb
        go_wp2_with fail
        refine (HVB.out _).mono ?_
        rintro e w4 ⟨rfl, hb⟩
        replace c0 := cB hb c0
        replace c1 := cB hb c1
        replace B := chain B hb
        clear hb
        go_wp2_with fail
        refine (HL.out _).mono ?_
        rintro e w5 ⟨rfl, hb⟩
        replace c0 := cB hb c0
        replace c1 := cB hb c1
        replace B := chain B hb
        clear hb
        go_wp2_with fail
        refine (known_any _ (hT.below B)).mono ?_
        rintro e w6 ⟨rfl, hb⟩
        replace c0 := cB hb c0
        replace c1 := cB hb c1
        replace B := chain B hb
        clear hb
        go_wp2
        go_ret
        exact ⟨rfl, B⟩
      · have HB := Lib.hid (pBet_yes F R a b ha hb' hl)
        have hD := pDir_yes F R a b ha hb'
        rw [if_pos hl] at hD
        have hL := line_any F R a b ha hb'
        unfold lineV at hL
        rw [if_pos hl] at hL
        have HBT := Lib.hid (between_any F R a b ha hb' hl)
        have HVA := Lib.hid (refValid_yes F R a ha)
        have HVB := Lib.hid (refValid_yes F R b hb')
        have H64 := Lib.hid (bet_64 (a := a) (b := b) ha.1)
        have HLN := Lib.hid (bet_len (F := F) (R := R) (a := a) (b := b))
        generalize betL F R a b = bl at *
        generalize sg (b % F - a % F) = sf at *
        generalize sg (b / F - a / F) = sr at *
        have HD := Lib.hid hD
        have HL := Lib.hid hL
        clear hD hL hl ha hb' m0 m1
        go_enter Tryd.func4, Tryd.ntmps4
        have B : Below w.heap.size w (w.alloc (.cells #[.int .i64 F, .int .i64 R] 23)) := box1 _ _
        have c0 : (w.alloc (.cells #[.int .i64 F, .int .i64 R] 23)).cell? ⟨w.heap.size, 0, none⟩ = some (.int .i64 F) := by simp [go_sem]
        have c1 : (w.alloc (.cells #[.int .i64 F, .int .i64 R] 23)).cell? ⟨w.heap.size, 1, none⟩ = some (.int .i64 R) := by simp [go_sem]
        go_wp2_with fail
        refine (HB.out _).mono ?_
        rintro e w1 ⟨rfl, hb⟩
        replace c0 := cB hb c0
        replace c1 := cB hb c1
        replace B := chain B hb
        clear hb
        go_wp2_with fail
        refine (HD.out _).mono ?_
        rintro e w2 ⟨rfl, hb⟩
        replace c0 := cB hb c0
        replace c1 := cB hb c1
        replace B := chain B hb
        clear hb
        go_wp2_with fail
        refine (HVA.out _).mono ?_
        rintro e w3 ⟨rfl, hb⟩
        replace c0 := cB hb c0
        replace c1 := cB hb c1
        replace B := chain B hb
        clear hb
        go_wp2_with fail
        refine (HVB.out _).mono ?_
        rintro e w4 ⟨rfl, hb⟩
        replace c0 := cB hb c0
        replace c1 := cB hb c1
        replace B := chain B hb
        clear hb
        go_wp2_with fail
        refine (HL.out _).mono ?_
        rintro e w5 ⟨rfl, hb⟩
        replace c0 := cB hb c0
        replace c1 := cB hb c1
        replace B := chain B hb
        clear hb
        go_wp2_with fail
        refine (HBT.out _).mono ?_
        rintro e w6 ⟨A, c, rfl, hA, hb⟩
        replace c0 := cB hb c0
        replace c1 := cB hb c1
        replace B := chain B hb
        clear hb
        go_wp2_with fail
        refine (refOfN bl A c _ HLN.out hA H64.out).mono ?_
        rintro e wx ⟨rfl, rfl⟩
        go_wp2_with fail
        refine (known_any _ (hT.below B)).mono ?_
        rintro e w7 ⟨rfl, hb⟩
        replace c0 := cB hb c0
        replace c1 := cB hb c1
        replace B := chain B hb
        clear hb
        go_wp2
        go_ret
        exact ⟨rfl, B⟩
    · have HB := Lib.hid (pBet_no F R a b (fun h => hb' h.2))
      have HD := Lib.hid (pDir_no F R a b (fun h => hb' h.2))
      have HVA := Lib.hid (refValid_yes F R a ha)
      have HVB := Lib.hid (refValid_no F R b hb')
      clear ha hb'
      go_enter Tryd.func4, Tryd.ntmps4
      have B : Below w.heap.size w (w.alloc (.cells #[.int .i64 F, .int .i64 R] 23)) := box1 _ _
      have c0 : (w.alloc (.cells #[.int .i64 F, .int .i64 R] 23)).cell? ⟨w.heap.size, 0, none⟩ = some (.int .i64 F) := by simp [go_sem]
      have c1 : (w.alloc (.cells #[.int .i64 F, .int .i64 R] 23)).cell? ⟨w.heap.size, 1, none⟩ = some (.int .i64 R) := by simp [go_sem]
      go_wp2_with fail
      refine (HB.out _).mono ?_
      rintro e w1 ⟨rfl, hb⟩
      replace c0 := cB hb c0
      replace c1 := cB hb c1
      replace B := chain B hb
      clear hb
      go_wp2_with fail
      refine (HD.out _).mono ?_
      rintro e w2 ⟨rfl, hb⟩
      replace c0 := cB hb c0
      replace c1 := cB hb c1
      replace B := chain B hb
      clear hb
      go_wp2_with fail
      refine (HVA.out _).mono ?_
      rintro e w3 ⟨rfl, hb⟩
      replace c0 := cB hb c0
      replace c1 := cB hb c1
      replace B := chain B hb
      clear hb
      go_wp2_with fail
      refine (HVB.out _).mono ?_
      rintro e w4 ⟨rfl, hb⟩
      replace c0 := cB hb c0
      replace c1 := cB hb c1
      replace B := chain B hb
      clear hb
      go_wp2_with fail
      refine (known_any _ (hT.below B)).mono ?_
      rintro e w5 ⟨rfl, hb⟩
      replace c0 := cB hb c0
      replace c1 := cB hb c1
      replace B := chain B hb
      clear hb
      go_wp2
      go_ret
      exact ⟨rfl, B⟩
  · have HB := Lib.hid (pBet_no F R a b (fun h => ha h.1))
    have HD := Lib.hid (pDir_no F R a b (fun h => ha h.1))
    have HVA := Lib.hid (refValid_no F R a ha)
    clear ha
    go_enter Tryd.func4, Tryd.ntmps4
    have B : Below w.heap.size w (w.alloc (.cells #[.int .i64 F, .int .i64 R] 23)) := box1 _ _
    have c0 : (w.alloc (.cells #[.int .i64 F, .int .i64 R] 23)).cell? ⟨w.heap.size, 0, none⟩ = some (.int .i64 F) := by simp [go_sem]
    have c1 : (w.alloc (.cells #[.int .i64 F, .int .i64 R] 23)).cell? ⟨w.heap.size, 1, none⟩ = some (.int .i64 R) := by simp [go_sem]
    go_wp2_with fail
    refine (HB.out _).mono ?_
    rintro e w1 ⟨rfl, hb⟩
    replace c0 := cB hb c0
    replace c1 := cB hb c1
    replace B := chain B hb
    clear hb
    go_wp2_with fail
    refine (HD.out _).mono ?_
    rintro e w2 ⟨rfl, hb⟩
    replace c0 := cB hb c0
    replace c1 := cB hb c1
    replace B := chain B hb
    clear hb
    go_wp2_with fail
    refine (HVA.out _).mono ?_
    rintro e w3 ⟨rfl, hb⟩
    replace c0 := cB hb c0
    replace c1 := cB hb c1
    replace B := chain B hb
    clear hb
    go_wp2_with fail
    refine (known_any _ (hT.below B)).mono ?_
    rintro e w4 ⟨rfl, hb⟩
    replace c0 := cB hb c0
    replace c1 := cB hb c1
    replace B := chain B hb
    clear hb
    go_wp2
    go_ret
    exact ⟨rfl, B⟩

end Go.Proofs.YtejlbjbmpdddkaaDoor
