/- The law of reaches: it answers true, and changes nothing that lay before. -/
import Derived.Test.YtejlbjbmpdddkaaDoorRkE
namespace Go.Proofs.YtejlbjbmpdddkaaDoor
open Go.RowKit Go.Shelf Go.Sort

set_option maxRecDepth 100000 in
set_option maxHeartbeats 2000000 in
theorem law_rreaches (F R k a : Int) (X : Nat) (hX64 : X < 18446744073709551616) (w : World) (hT : Tb w) :
    Calls Tryd.prog 5 #[.agg #[.int .i64 F, .int .i64 R], .int .i8 k, .int .i64 a, .int .u64 X] w fun e w' => e = .returned (.bool true) ∧ Below w.heap.size w w' := by
  by_cases ha : vat F R a
  · by_cases hX : X < 2 ^ (F * R).toNat
    · by_cases hk : k = 2 ∨ k = 3 ∨ k = 4 ∨ k = 5 ∨ k = 6
      · have HP := Lib.hid (fun w hT => pReach_yes F R a k hk ha X hX w hT)
        have HR := Lib.hid (rReach_any F R k a hk ha X hX64)
        have HVA := Lib.hid (refValid_yes F R a ha)
        have HO := Lib.hid (fun w => refOn_any F R X hX64 w true (by simp [ha.1, hX]))
        have H64 := Lib.hid (pick_64 (P := fun b => reachB F R k a (b : Int) X) ha.1)
        have HLN := Lib.hid (pick_len (P := fun b => reachB F R k a (b : Int) X) ha.1)
        change Hid (∀ i ∈ reachL F R k a X, i < 64) at H64
        change Hid ((reachL F R k a X).length ≤ 1000000) at HLN
        generalize reachL F R k a X = z at *
        have k2 : ¬ k < 2 := by omega
        have k6 : ¬ 6 < k := by omega
        clear ha hk hX
        go_enter Tryd.func5, Tryd.ntmps5
        have B : Below w.heap.size w (w.alloc (.cells #[.int .i64 F, .int .i64 R] 23)) := box1 _ _
        have c0 : (w.alloc (.cells #[.int .i64 F, .int .i64 R] 23)).cell? ⟨w.heap.size, 0, none⟩ = some (.int .i64 F) := by simp [go_sem]
        have c1 : (w.alloc (.cells #[.int .i64 F, .int .i64 R] 23)).cell? ⟨w.heap.size, 1, none⟩ = some (.int .i64 R) := by simp [go_sem]
        go_wp2_with fail
        refine (HP.out _ (hT.below B)).mono ?_
        rintro e w1 ⟨rfl, hb⟩
        replace c0 := cB hb c0
        replace c1 := cB hb c1
        replace B := chain B hb
        clear hb
        go_wp2_with fail
        refine (HVA.out _).mono ?_
        rintro e w2 ⟨rfl, hb⟩
        replace c0 := cB hb c0
        replace c1 := cB hb c1
        replace B := chain B hb
        clear hb
        go_wp2_with fail
        refine (HO.out _).mono ?_
        rintro e w3 ⟨rfl, hb⟩
        replace c0 := cB hb c0
        replace c1 := cB hb c1
        replace B := chain B hb
        clear hb
        go_wp2_with fail
        refine (HR.out _).mono ?_
        rintro e w4 ⟨v, rfl, hown, hb⟩
        obtain ⟨A, c, rfl, hcap, hA⟩ := RdI.own' hown
        clear hown hcap
        replace c0 := cB hb c0
        replace c1 := cB hb c1
        replace B := chain B hb
        clear hb
        go_wp2_with fail
        refine (refOfN z A c _ HLN.out hA H64.out).mono ?_
        rintro e wx ⟨rfl, rfl⟩
        go_wp2_with fail
        refine (known_any _ (hT.below B)).mono ?_
        rintro e w5 ⟨rfl, hb⟩
        replace c0 := cB hb c0
        replace c1 := cB hb c1
        replace B := chain B hb
        clear hb
        go_wp2
        go_ret
        exact ⟨rfl, B⟩
      · have hk2 : k < 2 ∨ 6 < k := by omega
        have HP := Lib.hid (fun w hT => pReach_kind F R a k hk2 ha X hX w hT)
        have HVA := Lib.hid (refValid_yes F R a ha)
        have HO := Lib.hid (fun w => refOn_any F R X hX64 w true (by simp [ha.1, hX]))
        clear ha hk hX
        rcases hk2 with hk2 | hk2
        · skip
          go_enter Tryd.func5, Tryd.ntmps5
          have B : Below w.heap.size w (w.alloc (.cells #[.int .i64 F, .int .i64 R] 23)) := box1 _ _
          have c0 : (w.alloc (.cells #[.int .i64 F, .int .i64 R] 23)).cell? ⟨w.heap.size, 0, none⟩ = some (.int .i64 F) := by simp [go_sem]
          have c1 : (w.alloc (.cells #[.int .i64 F, .int .i64 R] 23)).cell? ⟨w.heap.size, 1, none⟩ = some (.int .i64 R) := by simp [go_sem]
          go_wp2_with fail
          refine (HP.out _ (hT.below B)).mono ?_
          rintro e w1 ⟨rfl, hb⟩
          replace c0 := cB hb c0
          replace c1 := cB hb c1
          replace B := chain B hb
          clear hb
          go_wp2_with fail
          refine (HVA.out _).mono ?_
          rintro e w2 ⟨rfl, hb⟩
          replace c0 := cB hb c0
          replace c1 := cB hb c1
          replace B := chain B hb
          clear hb
          go_wp2_with fail
          refine (HO.out _).mono ?_
          rintro e w3 ⟨rfl, hb⟩
          replace c0 := cB hb c0
          replace c1 := cB hb c1
          replace B := chain B hb
          clear hb
          go_wp2_with fail
          refine (known_any _ (hT.below B)).mono ?_
          rintro e w4 ⟨rfl, hb⟩
          replace c0 := cB hb c0
          replace c1 := cB hb c1
          replace B := chain B hb
          clear hb
          go_wp2
          go_ret
          exact ⟨rfl, B⟩
        · have hk3 : ¬ k < 2 := by omega
          go_enter Tryd.func5, Tryd.ntmps5
          have B : Below w.heap.size w (w.alloc (.cells #[.int .i64 F, .int .i64 R] 23)) := box1 _ _
          have c0 : (w.alloc (.cells #[.int .i64 F, .int .i64 R] 23)).cell? ⟨w.heap.size, 0, none⟩ = some (.int .i64 F) := by simp [go_sem]
          have c1 : (w.alloc (.cells #[.int .i64 F, .int .i64 R] 23)).cell? ⟨w.heap.size, 1, none⟩ = some (.int .i64 R) := by simp [go_sem]
          go_wp2_with fail
          refine (HP.out _ (hT.below B)).mono ?_
          rintro e w1 ⟨rfl, hb⟩
          replace c0 := cB hb c0
          replace c1 := cB hb c1
          replace B := chain B hb
          clear hb
          go_wp2_with fail
          refine (HVA.out _).mono ?_
          rintro e w2 ⟨rfl, hb⟩
          replace c0 := cB hb c0
          replace c1 := cB hb c1
          replace B := chain B hb
          clear hb
          go_wp2_with fail
          refine (HO.out _).mono ?_
          rintro e w3 ⟨rfl, hb⟩
          replace c0 := cB hb c0
          replace c1 := cB hb c1
          replace B := chain B hb
          clear hb
          go_wp2_with fail
          refine (known_any _ (hT.below B)).mono ?_
          rintro e w4 ⟨rfl, hb⟩
          replace c0 := cB hb c0
          replace c1 := cB hb c1
          replace B := chain B hb
          clear hb
          go_wp2
          go_ret
          exact ⟨rfl, B⟩
    · have HP := Lib.hid (pReach_set F R a k ha X hX64 hX)
      have HVA := Lib.hid (refValid_yes F R a ha)
      have HO := Lib.hid (fun w => refOn_any F R X hX64 w false (by simp [ha.1, hX]))
      clear ha hX
      go_enter Tryd.func5, Tryd.ntmps5
      have B : Below w.heap.size w (w.alloc (.cells #[.int .i64 F, .int .i64 R] 23)) := box1 _ _
      have c0 : (w.alloc (.cells #[.int .i64 F, .int .i64 R] 23)).cell? ⟨w.heap.size, 0, none⟩ = some (.int .i64 F) := by simp [go_sem]
      have c1 : (w.alloc (.cells #[.int .i64 F, .int .i64 R] 23)).cell? ⟨w.heap.size, 1, none⟩ = some (.int .i64 R) := by simp [go_sem]
      go_wp2_with fail
      refine (HP.out _).mono ?_
      rintro e w1 ⟨rfl, hb⟩
      replace c0 := cB hb c0
      replace c1 := cB hb c1
      replace B := chain B hb
      clear hb
      go_wp2_with fail
      refine (HVA.out _).mono ?_
      rintro e w2 ⟨rfl, hb⟩
      replace c0 := cB hb c0
      replace c1 := cB hb c1
      replace B := chain B hb
      clear hb
      go_wp2_with fail
      refine (HO.out _).mono ?_
      rintro e w3 ⟨rfl, hb⟩
      replace c0 := cB hb c0
      replace c1 := cB hb c1
      replace B := chain B hb
      clear hb
      go_wp2_with fail
      refine (known_any _ (hT.below B)).mono ?_
      rintro e w4 ⟨rfl, hb⟩
      replace c0 := cB hb c0
      replace c1 := cB hb c1
      replace B := chain B hb
      clear hb
      go_wp2
      go_ret
      exact ⟨rfl, B⟩
  · have HP := Lib.hid (pReach_off F R a k ha X)
    have HVA := Lib.hid (refValid_no F R a ha)
    clear ha
    go_enter Tryd.func5, Tryd.ntmps5
    have B : Below w.heap.size w (w.alloc (.cells #[.int .i64 F, .int .i64 R] 23)) := box1 _ _
    have c0 : (w.alloc (.cells #[.int .i64 F, .int .i64 R] 23)).cell? ⟨w.heap.size, 0, none⟩ = some (.int .i64 F) := by simp [go_sem]
    have c1 : (w.alloc (.cells #[.int .i64 F, .int .i64 R] 23)).cell? ⟨w.heap.size, 1, none⟩ = some (.int .i64 R) := by simp [go_sem]
    go_wp2_with fail
    refine (HP.out _).mono ?_
    rintro e w1 ⟨rfl, hb⟩
    replace c0 := cB hb c0
    replace c1 := cB hb c1
    replace B := chain B hb
    clear hb
    go_wp2_with fail
    refine (HVA.out _).mono ?_
    rintro e w2 ⟨rfl, hb⟩
    replace c0 := cB hb c0
    replace c1 := cB hb c1
    replace B := chain B hb
    clear hb
    go_wp2_with fail
    refine (known_any _ (hT.below B)).mono ?_
    rintro e w3 ⟨rfl, hb⟩
    replace c0 := cB hb c0
    replace c1 := cB hb c1
    replace B := chain B hb
    clear hb
    go_wp2
    go_ret
    exact ⟨rfl, B⟩

end Go.Proofs.YtejlbjbmpdddkaaDoor
