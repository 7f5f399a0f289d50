/- The law of valid and equal boards and of copies: it answers true, and changes nothing that lay before. -/
import Derived.Test.YtolohfkenglpcaaDoorBkD
import Derived.Test.YtolohfkenglpcaaDoorSqJ
import Derived.Lib.QuietBelow
namespace Go.Proofs.YtolohfkenglpcaaDoor
open Go.RowKit

set_option maxRecDepth 100000 in
set_option maxHeartbeats 2000000 in
theorem law_bvalid (F R : Int) (l : List Int) (A : Option Addr) (c : Nat) (F' R' : Int) (l' : List Int) (A' : Option Addr) (c' : Nat) (w : World) (hA : RdP w w.heap.size A l c) (hA' : RdP w w.heap.size A' l' c') (hK : Kinds w) :
    Calls Tryd.prog 3 #[.agg #[.int .i64 F, .int .i64 R, .slice A l.length c], .agg #[.int .i64 F', .int .i64 R', .slice A' l'.length c']] w fun e w' => e = .returned (.bool true) ∧ Below w.heap.size w w' := by
  have HK0 := Lib.hid hK
  have HA0 := Lib.hid hA
  have B : Below w.heap.size w ((w.alloc (.cells #[.int .i64 F, .int .i64 R, .slice A l.length c] 26)).alloc (.cells #[.int .i64 F', .int .i64 R', .slice A' l'.length c'] 26)) := after1 (box1 _ _)
  replace hA := rdB B hA
  replace hA' := rdB B hA'
  replace hK := hK.below B hK.1
  have q0 : ((w.alloc (.cells #[.int .i64 F, .int .i64 R, .slice A l.length c] 26)).alloc (.cells #[.int .i64 F', .int .i64 R', .slice A' l'.length c'] 26)).cell? ⟨w.heap.size, 0, none⟩ = some (.int .i64 F) := by simp [go_sem]
  have q1 : ((w.alloc (.cells #[.int .i64 F, .int .i64 R, .slice A l.length c] 26)).alloc (.cells #[.int .i64 F', .int .i64 R', .slice A' l'.length c'] 26)).cell? ⟨w.heap.size, 1, none⟩ = some (.int .i64 R) := by simp [go_sem]
  have q2 : ((w.alloc (.cells #[.int .i64 F, .int .i64 R, .slice A l.length c] 26)).alloc (.cells #[.int .i64 F', .int .i64 R', .slice A' l'.length c'] 26)).cell? ⟨w.heap.size, 2, none⟩ = some (.slice A l.length c) := by simp [go_sem]
  have r0 : ((w.alloc (.cells #[.int .i64 F, .int .i64 R, .slice A l.length c] 26)).alloc (.cells #[.int .i64 F', .int .i64 R', .slice A' l'.length c'] 26)).cell? ⟨w.heap.size + 1, 0, none⟩ = some (.int .i64 F') := by simp [go_sem]
  have r1 : ((w.alloc (.cells #[.int .i64 F, .int .i64 R, .slice A l.length c] 26)).alloc (.cells #[.int .i64 F', .int .i64 R', .slice A' l'.length c'] 26)).cell? ⟨w.heap.size + 1, 1, none⟩ = some (.int .i64 R') := by simp [go_sem]
  have r2 : ((w.alloc (.cells #[.int .i64 F, .int .i64 R, .slice A l.length c] 26)).alloc (.cells #[.int .i64 F', .int .i64 R', .slice A' l'.length c'] 26)).cell? ⟨w.heap.size + 1, 2, none⟩ = some (.slice A' l'.length c') := by simp [go_sem]
  obtain ⟨tv, htv⟩ := bool_of (vbd F R l)
  obtain ⟨te, hte⟩ := bool_of (F = F' ∧ R = R' ∧ l = l')
  replace htv := Lib.hid htv
  replace hte := Lib.hid hte
  by_cases hs : l.length ≤ 70
  · by_cases hs' : l'.length ≤ 70
    · go_enter Tryd.func3, Tryd.ntmps3
      go_wp2_with fail
      refine (small_yes F R l A c hs _).mono ?_
      rintro e w1 ⟨rfl, b1⟩
      replace q0 := cellB b1 q0
      replace q1 := cellB b1 q1
      replace q2 := cellB b1 q2
      replace r0 := cellB b1 r0
      replace r1 := cellB b1 r1
      replace r2 := cellB b1 r2
      replace hA := rdB b1 hA
      replace hA' := rdB b1 hA'
      replace hK := hK.below b1 hK.1
      replace B := chain B b1
      clear b1
      go_wp2_with fail
      refine (small_yes F' R' l' A' c' hs' _).mono ?_
      rintro e w2 ⟨rfl, b2⟩
      replace q0 := cellB b2 q0
      replace q1 := cellB b2 q1
      replace q2 := cellB b2 q2
      replace r0 := cellB b2 r0
      replace r1 := cellB b2 r1
      replace r2 := cellB b2 r2
      replace hA := rdB b2 hA
      replace hA' := rdB b2 hA'
      replace hK := hK.below b2 hK.1
      replace B := chain B b2
      clear b2
      have z1 := Lib.hid (World.block_lt_of_cell? _ _ r0)
      go_wp2_with fail
      refine (copy_any F R l A c _ (by omega) hA).mono ?_
      rintro e w3 ⟨vc, rfl, hoc, b3⟩
      obtain ⟨Ac, cc, rfl, hc, ho⟩ := own_parts hoc
      clear hoc
      have z2 := Lib.hid (own_block ho)
      replace q0 := cellB b3 q0
      replace q1 := cellB b3 q1
      replace q2 := cellB b3 q2
      replace r0 := cellB b3 r0
      replace r1 := cellB b3 r1
      replace r2 := cellB b3 r2
      replace hA := rdB b3 hA
      replace hA' := rdB b3 hA'
      replace hK := hK.below b3 hK.1
      replace B := chain B b3
      clear b3
      have bx := box1 w3 (.cells #[.int .i64 F, .int .i64 R, .slice Ac l.length cc] 26)
      replace q0 := cellB bx q0
      replace q1 := cellB bx q1
      replace q2 := cellB bx q2
      replace r0 := cellB bx r0
      replace r1 := cellB bx r1
      replace r2 := cellB bx r2
      replace hA := rdB bx hA
      replace hA' := rdB bx hA'
      replace hc := rdB bx hc
      replace ho := own_below ho bx
      replace hK := hK.below bx hK.1
      replace B := chain B bx
      clear bx
      have u0 : (w3.alloc (.cells #[.int .i64 F, .int .i64 R, .slice Ac l.length cc] 26)).cell? ⟨w3.heap.size, 0, none⟩ = some (.int .i64 F) := by simp [go_sem]
      have u1 : (w3.alloc (.cells #[.int .i64 F, .int .i64 R, .slice Ac l.length cc] 26)).cell? ⟨w3.heap.size, 1, none⟩ = some (.int .i64 R) := by simp [go_sem]
      have u2 : (w3.alloc (.cells #[.int .i64 F, .int .i64 R, .slice Ac l.length cc] 26)).cell? ⟨w3.heap.size, 2, none⟩ = some (.slice Ac l.length cc) := by simp [go_sem]
      go_wp2_with fail
      generalize (w3.alloc (.cells #[.int .i64 F, .int .i64 R, .slice Ac l.length cc] 26)) = wu at *
      have h100 := Lib.hid (show l.length ≤ 100000 by omega)
      have HhA := Lib.hid (fun W (h : Below wu.heap.size wu W) => (hA.below h).grow h.size)
      have HhA' := Lib.hid (fun W (h : Below wu.heap.size wu W) => (hA'.below h).grow h.size)
      have Hhc := Lib.hid (fun W (h : Below wu.heap.size wu W) => (hc.below h).grow h.size)
      have G1 := Lib.hid (fun (n : Nat) (os : Array Obj) => bValid_as F R l A c tv htv.out (Go.Sort.grow (redrawn wu n) os) h100.out (HhA.out _ (below_regrown wu n os)))
      have G2 := Lib.hid (fun (n : Nat) (os : Array Obj) => rbValid_as F R l A c tv htv.out (Go.Sort.grow (redrawn wu n) os) h100.out (HhA.out _ (below_regrown wu n os)))
      have G3 := Lib.hid (fun (n : Nat) (os : Array Obj) => equal_as F R F' R' l l' A A' c c' te hte.out (Go.Sort.grow (redrawn wu n) os) h100.out (HhA.out _ (below_regrown wu n os)) (HhA'.out _ (below_regrown wu n os)))
      have G4 := Lib.hid (fun (n : Nat) (os : Array Obj) => same_as F R F' R' l l' A A' c c' te hte.out (Go.Sort.grow (redrawn wu n) os) h100.out (HhA.out _ (below_regrown wu n os)) (HhA'.out _ (below_regrown wu n os)))
      have G5 := Lib.hid (fun (n : Nat) (os : Array Obj) => same_yes F R l A Ac c cc (Go.Sort.grow (redrawn wu n) os) h100.out (HhA.out _ (below_regrown wu n os)) (Hhc.out _ (below_regrown wu n os)))
      have sq0 := cell_regrown q0
      have sq1 := cell_regrown q1
      have sq2 := cell_regrown q2
      have sr0 := cell_regrown r0
      have sr1 := cell_regrown r1
      have sr2 := cell_regrown r2
      have su0 := cell_regrown u0
      have su1 := cell_regrown u1
      have su2 := cell_regrown u2
      refine wp_region_quiet_below (by kernel_rfl) (by kernel_rfl) ?_
      repeat (go_big_quiet_step ((first | (go_at_call 12; exact Calls.regrown_of (G1.out _ _)) | (go_at_call 13; exact Calls.regrown_of (G2.out _ _)) | (go_at_call 14; exact Calls.regrown_of (G3.out _ _)) | (go_at_call_of 15 Ac; exact Calls.regrown_of (G5.out _ _)) | (go_at_call 15; exact Calls.regrown_of (G4.out _ _)))))
      refine wpQuiet_nil ?_
      intro _ hw'
      obtain ⟨⟨dq, osq⟩, hw''⟩ := hw'
      subst hw''
      clear HhA HhA' Hhc G1 G2 G3 G4 G5 sq0 sq1 sq2 sr0 sr1 sr2 su0 su1 su2
      have hR := below_regrown wu dq osq
      replace q0 := cellB hR q0
      replace q1 := cellB hR q1
      replace q2 := cellB hR q2
      replace r0 := cellB hR r0
      replace r1 := cellB hR r1
      replace r2 := cellB hR r2
      replace u0 := cellB hR u0
      replace u1 := cellB hR u1
      replace u2 := cellB hR u2
      replace hA := rdB hR hA
      replace hA' := rdB hR hA'
      replace hc := rdB hR hc
      replace ho := own_below ho hR
      replace hK := hK.below hR hK.1
      replace B := chain B hR
      clear hR
      generalize Go.Sort.grow (redrawn wu dq) osq = wx at *
      have z3 := Lib.hid (World.block_lt_of_cell? _ _ u0)
      go_wp2_with fail
      refine (rCopy_any F R l A c _ (by omega) hA).mono ?_
      rintro e w4 ⟨vd, rfl, hod, b4⟩
      obtain ⟨Ad, cd, rfl, hd, hod'⟩ := own_parts hod
      have z4 := Lib.hid (own_block hod')
      have z5 := Lib.hid b4.size
      clear hod hod'
      replace q0 := cellB b4 q0
      replace q1 := cellB b4 q1
      replace q2 := cellB b4 q2
      replace r0 := cellB b4 r0
      replace r1 := cellB b4 r1
      replace r2 := cellB b4 r2
      replace u0 := cellB b4 u0
      replace u1 := cellB b4 u1
      replace u2 := cellB b4 u2
      replace hA := rdB b4 hA
      replace hA' := rdB b4 hA'
      replace hc := rdB b4 hc
      replace ho := own_below ho b4
      replace hK := hK.below b4 hK.1
      replace B := chain B b4
      clear b4
      have bx := box1 w4 (.cells #[.int .i64 F, .int .i64 R, .slice Ad l.length cd] 26)
      replace q0 := cellB bx q0
      replace q1 := cellB bx q1
      replace q2 := cellB bx q2
      replace r0 := cellB bx r0
      replace r1 := cellB bx r1
      replace r2 := cellB bx r2
      replace u0 := cellB bx u0
      replace u1 := cellB bx u1
      replace u2 := cellB bx u2
      replace hA := rdB bx hA
      replace hA' := rdB bx hA'
      replace hc := rdB bx hc
      replace hd := rdB bx hd
      replace ho := own_below ho bx
      replace hK := hK.below bx hK.1
      replace B := chain B bx
      clear bx
      have v0 : (w4.alloc (.cells #[.int .i64 F, .int .i64 R, .slice Ad l.length cd] 26)).cell? ⟨w4.heap.size, 0, none⟩ = some (.int .i64 F) := by simp [go_sem]
      have v1 : (w4.alloc (.cells #[.int .i64 F, .int .i64 R, .slice Ad l.length cd] 26)).cell? ⟨w4.heap.size, 1, none⟩ = some (.int .i64 R) := by simp [go_sem]
      have v2 : (w4.alloc (.cells #[.int .i64 F, .int .i64 R, .slice Ad l.length cd] 26)).cell? ⟨w4.heap.size, 2, none⟩ = some (.slice Ad l.length cd) := by simp [go_sem]
      go_wp2_with fail
      generalize (w4.alloc (.cells #[.int .i64 F, .int .i64 R, .slice Ad l.length cd] 26)) = wv at *
      have z1' : w.heap.size + 1 < w2.heap.size := z1.out
      have z2' := z2.out
      have z3' : w3.heap.size < wx.heap.size := z3.out
      have z4' := z4.out
      have z5' := z5.out
      by_cases hz : 0 < l.length
      · obtain ⟨g, rfl, hg0, hg1, hrow⟩ := Row.of ho hz
        obtain ⟨ad, hAd, had, _⟩ := HA0.out.2 hz
        obtain ⟨zg0, zg1⟩ := z2' _ rfl
        simp only at zg0 zg1
        have hneA : Hid (∀ a', A = some a' → a'.block ≠ g) := Lib.hid (by intro a' ha'; rw [hAd] at ha'; injection ha' with ha'; subst ha'; omega)
        have hneD : Hid (∀ a', Ad = some a' → a'.block ≠ g) := Lib.hid (by intro a' ha'; have := (z4' a' ha').1; omega)
        clear z1 z2 z3 z4 z5 z2' z4' ho hAd had
        go_loopw [44] (fun i wr => ∃ k : Nat, k ≤ l.length ∧ i = .int .i64 k ∧ But g wv wr ∧ Row wr w2.heap.size 32 g cc l.length) (fun i _ => l.length - (intOf i).toNat)
        case atStart => exact ⟨0, by omega, rfl, But.refl _ _, hrow⟩
        case round =>
          obtain ⟨k, hk, rfl, hB, hr⟩ := hrel
          have hu2 := hB.cell u2 (by simp; omega)
          by_cases hlt : k < l.length
          · obtain ⟨⟨xk, hx⟩, hf⟩ := hr.at_ hlt
            go_wp2
            go_roundw
            case rel => exact ⟨k + 1, by omega, by go_num, hB.setCell _ _, hr.stored _ _⟩
            case measure => simp [intOf]; omega
          · have hkl : k = l.length := by omega
            subst hkl
            replace q0 := hB.cell q0 (by simp; omega)
            replace q1 := hB.cell q1 (by simp; omega)
            replace q2 := hB.cell q2 (by simp; omega)
            replace v0 := hB.cell v0 (by simp; omega)
            replace v1 := hB.cell v1 (by simp; omega)
            replace v2 := hB.cell v2 (by simp; omega)
            replace hA := hB.rd hA hneA.out
            replace hd := hB.rd hd hneD.out
            replace B := hB.below B (by omega)
            replace hK := HK0.out.below B HK0.out.1
            clear hB hr hu2
            go_wp2_with fail
            refine (same_yes F R l A Ad c cd _ h100.out hA hd).mono ?_
            rintro e w5 ⟨rfl, b5⟩
            replace q0 := cellB b5 q0
            replace q1 := cellB b5 q1
            replace q2 := cellB b5 q2
            replace v0 := cellB b5 v0
            replace v1 := cellB b5 v1
            replace v2 := cellB b5 v2
            replace hA := rdB b5 hA
            replace hd := rdB b5 hd
            replace hK := hK.below b5 hK.1
            replace B := chain B b5
            clear b5
            go_wp2_with fail
            refine (knownB_any _ hK).mono ?_
            rintro e w6 ⟨rfl, b6⟩
            replace q0 := cellB b6 q0
            replace q1 := cellB b6 q1
            replace q2 := cellB b6 q2
            replace v0 := cellB b6 v0
            replace v1 := cellB b6 v1
            replace v2 := cellB b6 v2
            replace hA := rdB b6 hA
            replace hd := rdB b6 hd
            replace hK := hK.below b6 hK.1
            replace B := chain B b6
            clear b6
            go_wp2
            go_ret
            exact ⟨rfl, B⟩
      · have hl0 : l.length = 0 := by omega
        have hd0 : decide (0 < l.length) = false := decide_eq_false (by omega)
        have HL := Lib.hid hl0
        clear hl0 hz
        go_loopw [44] (fun i wr => i = .int .i64 0 ∧ wr = wv) (fun _ _ => 0)
        case atStart => exact ⟨rfl, rfl⟩
        case round =>
          obtain ⟨rfl, rfl⟩ := hrel
          go_wp2_with fail
          refine (same_yes F R l A Ad c cd _ h100.out hA hd).mono ?_
          rintro e w5 ⟨rfl, b5⟩
          replace q0 := cellB b5 q0
          replace q1 := cellB b5 q1
          replace q2 := cellB b5 q2
          replace v0 := cellB b5 v0
          replace v1 := cellB b5 v1
          replace v2 := cellB b5 v2
          replace hA := rdB b5 hA
          replace hd := rdB b5 hd
          replace hK := hK.below b5 hK.1
          replace B := chain B b5
          clear b5
          go_wp2_with fail
          refine (knownB_any _ hK).mono ?_
          rintro e w6 ⟨rfl, b6⟩
          replace q0 := cellB b6 q0
          replace q1 := cellB b6 q1
          replace q2 := cellB b6 q2
          replace v0 := cellB b6 v0
          replace v1 := cellB b6 v1
          replace v2 := cellB b6 v2
          replace hA := rdB b6 hA
          replace hd := rdB b6 hd
          replace hK := hK.below b6 hK.1
          replace B := chain B b6
          clear b6
          go_wp2
          go_ret
          exact ⟨rfl, B⟩
    · go_enter Tryd.func3, Tryd.ntmps3
      go_wp2_with fail
      refine (small_yes F R l A c hs _).mono ?_
      rintro e w1 ⟨rfl, b1⟩
      replace q0 := cellB b1 q0
      replace q1 := cellB b1 q1
      replace q2 := cellB b1 q2
      replace r0 := cellB b1 r0
      replace r1 := cellB b1 r1
      replace r2 := cellB b1 r2
      replace hA := rdB b1 hA
      replace hA' := rdB b1 hA'
      replace hK := hK.below b1 hK.1
      replace B := chain B b1
      clear b1
      go_wp2_with fail
      refine (small_no F' R' l' A' c' (by omega) _).mono ?_
      rintro e w2 ⟨rfl, b2⟩
      replace q0 := cellB b2 q0
      replace q1 := cellB b2 q1
      replace q2 := cellB b2 q2
      replace r0 := cellB b2 r0
      replace r1 := cellB b2 r1
      replace r2 := cellB b2 r2
      replace hA := rdB b2 hA
      replace hA' := rdB b2 hA'
      replace hK := hK.below b2 hK.1
      replace B := chain B b2
      clear b2
      go_wp2_with fail
      refine (knownB_any _ hK).mono ?_
      rintro e w3 ⟨rfl, b3⟩
      replace q0 := cellB b3 q0
      replace q1 := cellB b3 q1
      replace q2 := cellB b3 q2
      replace r0 := cellB b3 r0
      replace r1 := cellB b3 r1
      replace r2 := cellB b3 r2
      replace hA := rdB b3 hA
      replace hA' := rdB b3 hA'
      replace hK := hK.below b3 hK.1
      replace B := chain B b3
      clear b3
      go_wp2
      go_ret
      exact ⟨rfl, B⟩
  · go_enter Tryd.func3, Tryd.ntmps3
    go_wp2_with fail
    refine (small_no F R l A c (by omega) _).mono ?_
    rintro e w1 ⟨rfl, b1⟩
    replace q0 := cellB b1 q0
    replace q1 := cellB b1 q1
    replace q2 := cellB b1 q2
    replace r0 := cellB b1 r0
    replace r1 := cellB b1 r1
    replace r2 := cellB b1 r2
    replace hA := rdB b1 hA
    replace hA' := rdB b1 hA'
    replace hK := hK.below b1 hK.1
    replace B := chain B b1
    clear b1
    go_wp2_with fail
    refine (knownB_any _ hK).mono ?_
    rintro e w2 ⟨rfl, b2⟩
    replace q0 := cellB b2 q0
    replace q1 := cellB b2 q1
    replace q2 := cellB b2 q2
    replace r0 := cellB b2 r0
    replace r1 := cellB b2 r1
    replace r2 := cellB b2 r2
    replace hA := rdB b2 hA
    replace hA' := rdB b2 hA'
    replace hK := hK.below b2 hK.1
    replace B := chain B b2
    clear b2
    go_wp2
    go_ret
    exact ⟨rfl, B⟩

end Go.Proofs.YtolohfkenglpcaaDoor
