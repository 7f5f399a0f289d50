/- The theorem of rays: its statement's function answers true, and changes nothing that lay before. -/
import Derived.Test.YtejlbjbmpdddkaaDoorRkF
import Derived.Lib.QuietBelow
namespace Go.Proofs.YtejlbjbmpdddkaaDoor
open Go.RowKit Go.Shelf Go.Sort

theorem or_bits (X Y : Nat) (hX : X < 18446744073709551616) (hY : Y < 18446744073709551616) : bits .or .u64 (X : Int) (Y : Int) = ((X ||| Y : Nat) : Int) := u64_or_nat X Y hX hY
theorem or_lt2 {X Y n : Nat} (hX : X < 2 ^ n) (hY : Y < 2 ^ n) : X ||| Y < 2 ^ n := Nat.or_lt_two_pow hX hY

set_option maxRecDepth 100000 in
set_option maxHeartbeats 2000000 in
theorem law_rholds (F R a b k : Int) (X Y : Nat) (hX64 : X < 18446744073709551616) (hY64 : Y < 18446744073709551616) (w : World) (hT : Tb w) :
    Calls Tryd.prog 7 #[.agg #[.int .i64 F, .int .i64 R], .int .i64 a, .int .i64 b, .int .i8 k, .int .u64 X, .int .u64 Y] w fun e w' => e = .returned (.bool true) ∧ Below w.heap.size w w' := by
  by_cases ha : vat F R a
  · by_cases hb' : vat F R b
    · by_cases hk : k = 2 ∨ k = 3 ∨ k = 4 ∨ k = 5 ∨ k = 6
      · by_cases hX : X < 2 ^ (F * R).toNat
        · by_cases hY : Y < 2 ^ (F * R).toNat
          · have HVA := Lib.hid (refValid_yes F R a ha)
            have HVB := Lib.hid (refValid_yes F R b hb')
            have HOX := Lib.hid (fun w => refOn_any F R X hX64 w true (by simp [ha.1, hX]))
            have HOY := Lib.hid (fun w => refOn_any F R Y hY64 w true (by simp [ha.1, hY]))
            have HP1 := Lib.hid (fun w hT => pReach_yes F R a k hk ha X hX w hT)
            have HP2 := Lib.hid (fun w hT => pReach_yes F R b k hk hb' X hX w hT)
            have h3 := fun w hT => pReach_yes F R a k hk ha (X ||| Y) (or_lt2 hX hY) w hT
            rw [← or_bits X Y hX64 hY64] at h3
            have HP3 := Lib.hid h3
            have HP4 := Lib.hid (fun w hT => pReach_yes F R a 5 (by omega) ha X hX w hT)
            have HP5 := Lib.hid (fun w hT => pReach_yes F R a 4 (by omega) ha X hX w hT)
            have HP6 := Lib.hid (fun w hT => pReach_yes F R a 3 (by omega) ha X hX w hT)
            have HW := Lib.hid (pPawn_yes F R a false ha)
            have HL := Lib.hid (pPawn_yes F R b true hb')
            have a0 := ha.2.1
            have b0 := hb'.2.1
            have a1 : a ≤ 64 := by have := (vat_bit ha).2; omega
            have b1 : b ≤ 64 := by have := (vat_bit hb').2; omega
            have k2 : ¬ k < 2 := by omega
            have k6 : ¬ 6 < k := by omega
            have F1 := Lib.hid (rh_symm (k := k) ha hb' X)
            have F2 := Lib.hid (rh_mono (k := k) ha X Y)
            have F3 := Lib.hid (rh_queen ha X)
            have F4 := Lib.hid (rh_apart ha X)
            have F5 := Lib.hid (rh_pawn ha hb')
            generalize ofL (reachL F R k a (X ||| Y)) = p3 at *
            generalize ofL (reachL F R 5 a X) = p4 at *
            generalize ofL (reachL F R 4 a X) = p5 at *
            generalize ofL (reachL F R 3 a X) = p6 at *
            generalize ofL (reachL F R k a X) = p1 at *
            generalize ofL (reachL F R k b X) = p2 at *
            generalize ofL (pawnL F R a false) = p7 at *
            generalize ofL (pawnL F R b true) = p8 at *
            clear h3 ha hb' hk hX hY hX64 hY64
            go_enter Tryd.func7, Tryd.ntmps7
            have B : Below w.heap.size w (w.alloc (.cells #[.int .i64 F, .int .i64 R] 23)) := box1 _ _
            have c0 : (w.alloc (.cells #[.int .i64 F, .int .i64 R] 23)).cell? ⟨w.heap.size, 0, none⟩ = some (.int .i64 F) := by simp [go_sem]
            have c1 : (w.alloc (.cells #[.int .i64 F, .int .i64 R] 23)).cell? ⟨w.heap.size, 1, none⟩ = some (.int .i64 R) := by simp [go_sem]
            go_wp2_with fail
            refine (HVA.out _).mono ?_
            rintro e w1 ⟨rfl, hb⟩
            replace c0 := cB hb c0
            replace c1 := cB hb c1
            replace B := chain B hb
            clear hb
            go_wp2_with fail
            refine (HVB.out _).mono ?_
            rintro e w2 ⟨rfl, hb⟩
            replace c0 := cB hb c0
            replace c1 := cB hb c1
            replace B := chain B hb
            clear hb
            go_wp2_with fail
            refine (HOX.out _).mono ?_
            rintro e w3 ⟨rfl, hb⟩
            replace c0 := cB hb c0
            replace c1 := cB hb c1
            replace B := chain B hb
            clear hb
            go_wp2_with fail
            refine (HOY.out _).mono ?_
            rintro e w4 ⟨rfl, hb⟩
            replace c0 := cB hb c0
            replace c1 := cB hb c1
            replace B := chain B hb
            clear hb
            go_wp2_with fail
            refine (HP1.out _ (hT.below B)).mono ?_
            rintro e w5 ⟨rfl, hb⟩
            replace c0 := cB hb c0
            replace c1 := cB hb c1
            replace B := chain B hb
            clear hb
            go_wp2_with fail
            refine (HP2.out _ (hT.below B)).mono ?_
            rintro e w6 ⟨rfl, hb⟩
            replace c0 := cB hb c0
            replace c1 := cB hb c1
            replace B := chain B hb
            clear hb
            go_wp2_with fail
            refine (HP3.out _ (hT.below B)).mono ?_
            rintro e w7 ⟨rfl, hb⟩
            replace c0 := cB hb c0
            replace c1 := cB hb c1
            replace B := chain B hb
            clear hb
            have f1 := F1.out
            have f2 := F2.out
            go_wp2_with fail
            go_quiet (fail)
            clear f1 f2
            replace B := below_dr B nq
            replace c0 : (w7.drewN nq).cell? ⟨w.heap.size, 0, none⟩ = some (.int .i64 F) := c0
            replace c1 : (w7.drewN nq).cell? ⟨w.heap.size, 1, none⟩ = some (.int .i64 R) := c1
            generalize w7.drewN nq = wy at *
            go_wp2_with fail
            refine (HP4.out _ (hT.below B)).mono ?_
            rintro e w9 ⟨rfl, hb⟩
            replace c0 := cB hb c0
            replace c1 := cB hb c1
            replace B := chain B hb
            clear hb
            go_wp2_with fail
            refine (HP5.out _ (hT.below B)).mono ?_
            rintro e w10 ⟨rfl, hb⟩
            replace c0 := cB hb c0
            replace c1 := cB hb c1
            replace B := chain B hb
            clear hb
            go_wp2_with fail
            refine (HP6.out _ (hT.below B)).mono ?_
            rintro e w11 ⟨rfl, hb⟩
            replace c0 := cB hb c0
            replace c1 := cB hb c1
            replace B := chain B hb
            clear hb
            have f3 := F3.out
            have f4 := F4.out
            go_wp2_with fail
            refine (HW.out _).mono ?_
            rintro e w12 ⟨rfl, hb⟩
            replace c0 := cB hb c0
            replace c1 := cB hb c1
            replace B := chain B hb
            clear hb
            clear f3 f4
            go_wp2_with fail
            refine (HL.out _).mono ?_
            rintro e w13 ⟨rfl, hb⟩
            replace c0 := cB hb c0
            replace c1 := cB hb c1
            replace B := chain B hb
            clear hb
            have hTW := hT.below B
            have f5 := F5.out
            have cK : ∀ d os, Calls Tryd.prog 10 #[] (grow (redrawn w13 d) os) fun e w'' => e = .returned (.bool true) ∧ ∃ p : Regrown, w'' = grow (redrawn w13 p.d) p.os := fun d os => Calls.regrown_of (known_any _ (hTW.below (below_regrown _ d os)))
            go_wp2_with fail
            refine wp_region_quiet_below (by kernel_rfl) (by kernel_rfl) ?_
            repeat (go_big_quiet_step ((go_at_call 10; exact cK _ _)))
            refine wpQuiet_nil ?_
            intro _ hw'
            obtain ⟨⟨dq, osq⟩, hw''⟩ := hw'
            subst hw''
            clear f5
            go_wp2
            go_ret
            exact ⟨rfl, chain B (below_regrown _ dq osq)⟩
          · have HVA := Lib.hid (refValid_yes F R a ha)
            have HVB := Lib.hid (refValid_yes F R b hb')
            have HOX := Lib.hid (fun w => refOn_any F R X hX64 w true (by simp [ha.1, hX]))
            have HOY := Lib.hid (fun w => refOn_any F R Y hY64 w false (by simp [ha.1, hY]))
            have k2 : ¬ k < 2 := by omega
            have k6 : ¬ 6 < k := by omega
            clear ha hb' hk hX hY
            go_enter Tryd.func7, Tryd.ntmps7
            have B : Below w.heap.size w (w.alloc (.cells #[.int .i64 F, .int .i64 R] 23)) := box1 _ _
            have c0 : (w.alloc (.cells #[.int .i64 F, .int .i64 R] 23)).cell? ⟨w.heap.size, 0, none⟩ = some (.int .i64 F) := by simp [go_sem]
            have c1 : (w.alloc (.cells #[.int .i64 F, .int .i64 R] 23)).cell? ⟨w.heap.size, 1, none⟩ = some (.int .i64 R) := by simp [go_sem]
            go_wp2_with fail
            refine (HVA.out _).mono ?_
            rintro e w1 ⟨rfl, hb⟩
            replace c0 := cB hb c0
            replace c1 := cB hb c1
            replace B := chain B hb
            clear hb
            go_wp2_with fail
            refine (HVB.out _).mono ?_
            rintro e w2 ⟨rfl, hb⟩
            replace c0 := cB hb c0
            replace c1 := cB hb c1
            replace B := chain B hb
            clear hb
            go_wp2_with fail
            refine (HOX.out _).mono ?_
            rintro e w3 ⟨rfl, hb⟩
            replace c0 := cB hb c0
            replace c1 := cB hb c1
            replace B := chain B hb
            clear hb
            go_wp2_with fail
            refine (HOY.out _).mono ?_
            rintro e w4 ⟨rfl, hb⟩
            replace c0 := cB hb c0
            replace c1 := cB hb c1
            replace B := chain B hb
            clear hb
            go_wp2_with fail
            refine (known_any _ (hT.below B)).mono ?_
            rintro e w5 ⟨rfl, hb⟩
            replace c0 := cB hb c0
            replace c1 := cB hb c1
            replace B := chain B hb
            clear hb
            go_wp2
            go_ret
            exact ⟨rfl, B⟩
        · have HVA := Lib.hid (refValid_yes F R a ha)
          have HVB := Lib.hid (refValid_yes F R b hb')
          have HOX := Lib.hid (fun w => refOn_any F R X hX64 w false (by simp [ha.1, hX]))
          have k2 : ¬ k < 2 := by omega
          have k6 : ¬ 6 < k := by omega
          clear ha hb' hk hX
          go_enter Tryd.func7, Tryd.ntmps7
          have B : Below w.heap.size w (w.alloc (.cells #[.int .i64 F, .int .i64 R] 23)) := box1 _ _
          have c0 : (w.alloc (.cells #[.int .i64 F, .int .i64 R] 23)).cell? ⟨w.heap.size, 0, none⟩ = some (.int .i64 F) := by simp [go_sem]
          have c1 : (w.alloc (.cells #[.int .i64 F, .int .i64 R] 23)).cell? ⟨w.heap.size, 1, none⟩ = some (.int .i64 R) := by simp [go_sem]
          go_wp2_with fail
          refine (HVA.out _).mono ?_
          rintro e w1 ⟨rfl, hb⟩
          replace c0 := cB hb c0
          replace c1 := cB hb c1
          replace B := chain B hb
          clear hb
          go_wp2_with fail
          refine (HVB.out _).mono ?_
          rintro e w2 ⟨rfl, hb⟩
          replace c0 := cB hb c0
          replace c1 := cB hb c1
          replace B := chain B hb
          clear hb
          go_wp2_with fail
          refine (HOX.out _).mono ?_
          rintro e w3 ⟨rfl, hb⟩
          replace c0 := cB hb c0
          replace c1 := cB hb c1
          replace B := chain B hb
          clear hb
          go_wp2_with fail
          refine (known_any _ (hT.below B)).mono ?_
          rintro e w4 ⟨rfl, hb⟩
          replace c0 := cB hb c0
          replace c1 := cB hb c1
          replace B := chain B hb
          clear hb
          go_wp2
          go_ret
          exact ⟨rfl, B⟩
      · have hk2 : k < 2 ∨ 6 < k := by omega
        have HVA := Lib.hid (refValid_yes F R a ha)
        have HVB := Lib.hid (refValid_yes F R b hb')
        clear ha hb' hk
        rcases hk2 with hk2 | hk2
        · skip
          go_enter Tryd.func7, Tryd.ntmps7
          have B : Below w.heap.size w (w.alloc (.cells #[.int .i64 F, .int .i64 R] 23)) := box1 _ _
          have c0 : (w.alloc (.cells #[.int .i64 F, .int .i64 R] 23)).cell? ⟨w.heap.size, 0, none⟩ = some (.int .i64 F) := by simp [go_sem]
          have c1 : (w.alloc (.cells #[.int .i64 F, .int .i64 R] 23)).cell? ⟨w.heap.size, 1, none⟩ = some (.int .i64 R) := by simp [go_sem]
          go_wp2_with fail
          refine (HVA.out _).mono ?_
          rintro e w1 ⟨rfl, hb⟩
          replace c0 := cB hb c0
          replace c1 := cB hb c1
          replace B := chain B hb
          clear hb
          go_wp2_with fail
          refine (HVB.out _).mono ?_
          rintro e w2 ⟨rfl, hb⟩
          replace c0 := cB hb c0
          replace c1 := cB hb c1
          replace B := chain B hb
          clear hb
          go_wp2_with fail
          refine (known_any _ (hT.below B)).mono ?_
          rintro e w3 ⟨rfl, hb⟩
          replace c0 := cB hb c0
          replace c1 := cB hb c1
          replace B := chain B hb
          clear hb
          go_wp2
          go_ret
          exact ⟨rfl, B⟩
        · have hk3 : ¬ k < 2 := by omega
          go_enter Tryd.func7, Tryd.ntmps7
          have B : Below w.heap.size w (w.alloc (.cells #[.int .i64 F, .int .i64 R] 23)) := box1 _ _
          have c0 : (w.alloc (.cells #[.int .i64 F, .int .i64 R] 23)).cell? ⟨w.heap.size, 0, none⟩ = some (.int .i64 F) := by simp [go_sem]
          have c1 : (w.alloc (.cells #[.int .i64 F, .int .i64 R] 23)).cell? ⟨w.heap.size, 1, none⟩ = some (.int .i64 R) := by simp [go_sem]
          go_wp2_with fail
          refine (HVA.out _).mono ?_
          rintro e w1 ⟨rfl, hb⟩
          replace c0 := cB hb c0
          replace c1 := cB hb c1
          replace B := chain B hb
          clear hb
          go_wp2_with fail
          refine (HVB.out _).mono ?_
          rintro e w2 ⟨rfl, hb⟩
          replace c0 := cB hb c0
          replace c1 := cB hb c1
          replace B := chain B hb
          clear hb
          go_wp2_with fail
          refine (known_any _ (hT.below B)).mono ?_
          rintro e w3 ⟨rfl, hb⟩
          replace c0 := cB hb c0
          replace c1 := cB hb c1
          replace B := chain B hb
          clear hb
          go_wp2
          go_ret
          exact ⟨rfl, B⟩
    · have HVA := Lib.hid (refValid_yes F R a ha)
      have HVB := Lib.hid (refValid_no F R b hb')
      clear ha hb'
      go_enter Tryd.func7, Tryd.ntmps7
      have B : Below w.heap.size w (w.alloc (.cells #[.int .i64 F, .int .i64 R] 23)) := box1 _ _
      have c0 : (w.alloc (.cells #[.int .i64 F, .int .i64 R] 23)).cell? ⟨w.heap.size, 0, none⟩ = some (.int .i64 F) := by simp [go_sem]
      have c1 : (w.alloc (.cells #[.int .i64 F, .int .i64 R] 23)).cell? ⟨w.heap.size, 1, none⟩ = some (.int .i64 R) := by simp [go_sem]
      go_wp2_with fail
      refine (HVA.out _).mono ?_
      rintro e w1 ⟨rfl, hb⟩
      replace c0 := cB hb c0
      replace c1 := cB hb c1
      replace B := chain B hb
      clear hb
      go_wp2_with fail
      refine (HVB.out _).mono ?_
      rintro e w2 ⟨rfl, hb⟩
      replace c0 := cB hb c0
      replace c1 := cB hb c1
      replace B := chain B hb
      clear hb
      go_wp2_with fail
      refine (known_any _ (hT.below B)).mono ?_
      rintro e w3 ⟨rfl, hb⟩
      replace c0 := cB hb c0
      replace c1 := cB hb c1
      replace B := chain B hb
      clear hb
      go_wp2
      go_ret
      exact ⟨rfl, B⟩
  · have HVA := Lib.hid (refValid_no F R a ha)
    clear ha
    go_enter Tryd.func7, Tryd.ntmps7
    have B : Below w.heap.size w (w.alloc (.cells #[.int .i64 F, .int .i64 R] 23)) := box1 _ _
    have c0 : (w.alloc (.cells #[.int .i64 F, .int .i64 R] 23)).cell? ⟨w.heap.size, 0, none⟩ = some (.int .i64 F) := by simp [go_sem]
    have c1 : (w.alloc (.cells #[.int .i64 F, .int .i64 R] 23)).cell? ⟨w.heap.size, 1, none⟩ = some (.int .i64 R) := by simp [go_sem]
    go_wp2_with fail
    refine (HVA.out _).mono ?_
    rintro e w1 ⟨rfl, hb⟩
    replace c0 := cB hb c0
    replace c1 := cB hb c1
    replace B := chain B hb
    clear hb
    go_wp2_with fail
    refine (known_any _ (hT.below B)).mono ?_
    rintro e w2 ⟨rfl, hb⟩
    replace c0 := cB hb c0
    replace c1 := cB hb c1
    replace B := chain B hb
    clear hb
    go_wp2
    go_ret
    exact ⟨rfl, B⟩

end Go.Proofs.YtejlbjbmpdddkaaDoor
