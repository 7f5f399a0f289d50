/- The law of pawns: it answers true, and changes nothing that lay before. -/
import Derived.Test.YtejlbjbmpdddkaaDoorRkE
namespace Go.Proofs.YtejlbjbmpdddkaaDoor
open Go.RowKit Go.Shelf Go.Sort

set_option maxRecDepth 100000 in
set_option maxHeartbeats 2000000 in
theorem law_rpawns (F R a : Int) (bl : Bool) (X : Nat) (hX64 : X < 18446744073709551616) (w : World) (hT : Tb w) :
    Calls Tryd.prog 6 #[.agg #[.int .i64 F, .int .i64 R], .bool bl, .int .i64 a, .int .u64 X] w fun e w' => e = .returned (.bool true) ∧ Below w.heap.size w w' := by
  by_cases ha : vat F R a
  · by_cases hX : X < 2 ^ (F * R).toNat
    · have HP := Lib.hid (pPawn_yes F R a bl ha)
      have HS := Lib.hid (pSteps_yes F R a bl ha X hX)
      have HRP := Lib.hid (rPawn_any F R a bl ha)
      have HRS := Lib.hid (rSteps_any F R a bl ha X hX64)
      have HVA := Lib.hid (refValid_yes F R a ha)
      have HO := Lib.hid (fun w => refOn_any F R X hX64 w true (by simp [ha.1, hX]))
      have H64p := Lib.hid (pick_64 (P := fun b => pawnB F a bl (b : Int)) ha.1)
      have HLNp := Lib.hid (pick_len (P := fun b => pawnB F a bl (b : Int)) ha.1)
      change Hid (∀ i ∈ pawnL F R a bl, i < 64) at H64p
      change Hid ((pawnL F R a bl).length ≤ 1000000) at HLNp
      generalize pawnL F R a bl = zp at *
      have H64s := Lib.hid (pick_64 (P := fun b => stepB R (a / F) (numV F R (a % F) (a / F + fwd bl)) (numV F R (a % F) (a / F + 2 * fwd bl)) bl X (b : Int)) ha.1)
      have HLNs := Lib.hid (pick_len (P := fun b => stepB R (a / F) (numV F R (a % F) (a / F + fwd bl)) (numV F R (a % F) (a / F + 2 * fwd bl)) bl X (b : Int)) ha.1)
      change Hid (∀ i ∈ stepL F R a bl X, i < 64) at H64s
      change Hid ((stepL F R a bl X).length ≤ 1000000) at HLNs
      generalize stepL F R a bl X = zs at *
      clear ha hX
      go_enter Tryd.func6, Tryd.ntmps6
      have B : Below w.heap.size w (w.alloc (.cells #[.int .i64 F, .int .i64 R] 23)) := box1 _ _
      have c0 : (w.alloc (.cells #[.int .i64 F, .int .i64 R] 23)).cell? ⟨w.heap.size, 0, none⟩ = some (.int .i64 F) := by simp [go_sem]
      have c1 : (w.alloc (.cells #[.int .i64 F, .int .i64 R] 23)).cell? ⟨w.heap.size, 1, none⟩ = some (.int .i64 R) := by simp [go_sem]
      go_wp2_with fail
      refine (HP.out _).mono ?_
      rintro e w1 ⟨rfl, hb⟩
      replace c0 := cB hb c0
      replace c1 := cB hb c1
      replace B := chain B hb
      clear hb
      go_wp2_with fail
      refine (HS.out _).mono ?_
      rintro e w2 ⟨rfl, hb⟩
      replace c0 := cB hb c0
      replace c1 := cB hb c1
      replace B := chain B hb
      clear hb
      go_wp2_with fail
      refine (HVA.out _).mono ?_
      rintro e w3 ⟨rfl, hb⟩
      replace c0 := cB hb c0
      replace c1 := cB hb c1
      replace B := chain B hb
      clear hb
      go_wp2_with fail
      refine (HRP.out _).mono ?_
      rintro e w4 ⟨v, rfl, hown, hb⟩
      obtain ⟨A, c, rfl, hcap, hA⟩ := RdI.own' hown
      clear hown hcap
      replace c0 := cB hb c0
      replace c1 := cB hb c1
      replace B := chain B hb
      clear hb
      go_wp2_with fail
      refine (refOfN zp A c _ HLNp.out hA H64p.out).mono ?_
      rintro e wx ⟨rfl, rfl⟩
      clear hA
      go_wp2_with fail
      refine (HO.out _).mono ?_
      rintro e w5 ⟨rfl, hb⟩
      replace c0 := cB hb c0
      replace c1 := cB hb c1
      replace B := chain B hb
      clear hb
      go_wp2_with fail
      refine (HRS.out _).mono ?_
      rintro e w6 ⟨v, rfl, hown, hb⟩
      obtain ⟨A2, c2, rfl, hcap, hA⟩ := RdI.own' hown
      clear hown hcap
      replace c0 := cB hb c0
      replace c1 := cB hb c1
      replace B := chain B hb
      clear hb
      go_wp2_with fail
      refine (refOfN zs A2 c2 _ HLNs.out hA H64s.out).mono ?_
      rintro e wx ⟨rfl, rfl⟩
      go_wp2_with fail
      refine (known_any _ (hT.below B)).mono ?_
      rintro e w7 ⟨rfl, hb⟩
      replace c0 := cB hb c0
      replace c1 := cB hb c1
      replace B := chain B hb
      clear hb
      go_wp2
      go_ret
      exact ⟨rfl, B⟩
    · have HP := Lib.hid (pPawn_yes F R a bl ha)
      have HS := Lib.hid (pSteps_set F R a bl ha X hX64 hX)
      have HRP := Lib.hid (rPawn_any F R a bl ha)
      have HVA := Lib.hid (refValid_yes F R a ha)
      have HO := Lib.hid (fun w => refOn_any F R X hX64 w false (by simp [ha.1, hX]))
      have H64p := Lib.hid (pick_64 (P := fun b => pawnB F a bl (b : Int)) ha.1)
      have HLNp := Lib.hid (pick_len (P := fun b => pawnB F a bl (b : Int)) ha.1)
      change Hid (∀ i ∈ pawnL F R a bl, i < 64) at H64p
      change Hid ((pawnL F R a bl).length ≤ 1000000) at HLNp
      generalize pawnL F R a bl = zp at *
      clear ha hX
      go_enter Tryd.func6, Tryd.ntmps6
      have B : Below w.heap.size w (w.alloc (.cells #[.int .i64 F, .int .i64 R] 23)) := box1 _ _
      have c0 : (w.alloc (.cells #[.int .i64 F, .int .i64 R] 23)).cell? ⟨w.heap.size, 0, none⟩ = some (.int .i64 F) := by simp [go_sem]
      have c1 : (w.alloc (.cells #[.int .i64 F, .int .i64 R] 23)).cell? ⟨w.heap.size, 1, none⟩ = some (.int .i64 R) := by simp [go_sem]
      go_wp2_with fail
      refine (HP.out _).mono ?_
      rintro e w1 ⟨rfl, hb⟩
      replace c0 := cB hb c0
      replace c1 := cB hb c1
      replace B := chain B hb
      clear hb
      go_wp2_with fail
      refine (HS.out _).mono ?_
      rintro e w2 ⟨rfl, hb⟩
      replace c0 := cB hb c0
      replace c1 := cB hb c1
      replace B := chain B hb
      clear hb
      go_wp2_with fail
      refine (HVA.out _).mono ?_
      rintro e w3 ⟨rfl, hb⟩
      replace c0 := cB hb c0
      replace c1 := cB hb c1
      replace B := chain B hb
      clear hb
      go_wp2_with fail
      refine (HRP.out _).mono ?_
      rintro e w4 ⟨v, rfl, hown, hb⟩
      obtain ⟨A, c, rfl, hcap, hA⟩ := RdI.own' hown
      clear hown hcap
      replace c0 := cB hb c0
      replace c1 := cB hb c1
      replace B := chain B hb
      clear hb
      go_wp2_with fail
      refine (refOfN zp A c _ HLNp.out hA H64p.out).mono ?_
      rintro e wx ⟨rfl, rfl⟩
      clear hA
      go_wp2_with fail
      refine (HO.out _).mono ?_
      rintro e w5 ⟨rfl, hb⟩
      replace c0 := cB hb c0
      replace c1 := cB hb c1
      replace B := chain B hb
      clear hb
      go_wp2_with fail
      refine (known_any _ (hT.below B)).mono ?_
      rintro e w6 ⟨rfl, hb⟩
      replace c0 := cB hb c0
      replace c1 := cB hb c1
      replace B := chain B hb
      clear hb
      go_wp2
      go_ret
      exact ⟨rfl, B⟩
  · have HP := Lib.hid (pPawn_no F R a bl ha)
    have HS := Lib.hid (pSteps_off F R a bl ha X)
    have HVA := Lib.hid (refValid_no F R a ha)
    clear ha
    go_enter Tryd.func6, Tryd.ntmps6
    have B : Below w.heap.size w (w.alloc (.cells #[.int .i64 F, .int .i64 R] 23)) := box1 _ _
    have c0 : (w.alloc (.cells #[.int .i64 F, .int .i64 R] 23)).cell? ⟨w.heap.size, 0, none⟩ = some (.int .i64 F) := by simp [go_sem]
    have c1 : (w.alloc (.cells #[.int .i64 F, .int .i64 R] 23)).cell? ⟨w.heap.size, 1, none⟩ = some (.int .i64 R) := by simp [go_sem]
    go_wp2_with fail
    refine (HP.out _).mono ?_
    rintro e w1 ⟨rfl, hb⟩
    replace c0 := cB hb c0
    replace c1 := cB hb c1
    replace B := chain B hb
    clear hb
    go_wp2_with fail
    refine (HS.out _).mono ?_
    rintro e w2 ⟨rfl, hb⟩
    replace c0 := cB hb c0
    replace c1 := cB hb c1
    replace B := chain B hb
    clear hb
    go_wp2_with fail
    refine (HVA.out _).mono ?_
    rintro e w3 ⟨rfl, hb⟩
    replace c0 := cB hb c0
    replace c1 := cB hb c1
    replace B := chain B hb
    clear hb
    go_wp2_with fail
    refine (known_any _ (hT.below B)).mono ?_
    rintro e w4 ⟨rfl, hb⟩
    replace c0 := cB hb c0
    replace c1 := cB hb c1
    replace B := chain B hb
    clear hb
    go_wp2
    go_ret
    exact ⟨rfl, B⟩

end Go.Proofs.YtejlbjbmpdddkaaDoor
