/- The law of empty boards and of pieces put on boards: it answers true, and changes nothing that lay before. -/
import Derived.Test.YtolohfkenglpcaaDoorBkD
import Derived.Test.YtolohfkenglpcaaDoorSqJ
import Derived.Lib.QuietBelow
import Derived.Deep.DeepCutAuto
namespace Go.Proofs.YtolohfkenglpcaaDoor
open Go.RowKit

set_option maxRecDepth 100000 in
set_option maxHeartbeats 16000000 in
theorem law_bputs (F R : Int) (l : List Int) (A : Option Addr) (c : Nat) (a p : Int) (w : World) (hA : RdP w w.heap.size A l c) (hK : Kinds w) :
    Calls Tryd.prog 4 #[.agg #[.int .i64 F, .int .i64 R, .slice A l.length c], .int .i64 a, .int .i8 p] w fun e w' => e = .returned (.bool true) ∧ Below w.heap.size w w' := by
  have HK0 := Lib.hid hK
  have HA0 := Lib.hid hA
  have B : Below w.heap.size w (w.alloc (.cells #[.int .i64 F, .int .i64 R, .slice A l.length c] 26)) := box1 _ _
  replace hA := rdB B hA
  replace hK := hK.below B hK.1
  have q0 : (w.alloc (.cells #[.int .i64 F, .int .i64 R, .slice A l.length c] 26)).cell? ⟨w.heap.size, 0, none⟩ = some (.int .i64 F) := by simp [go_sem]
  have q1 : (w.alloc (.cells #[.int .i64 F, .int .i64 R, .slice A l.length c] 26)).cell? ⟨w.heap.size, 1, none⟩ = some (.int .i64 R) := by simp [go_sem]
  have q2 : (w.alloc (.cells #[.int .i64 F, .int .i64 R, .slice A l.length c] 26)).cell? ⟨w.heap.size, 2, none⟩ = some (.slice A l.length c) := by simp [go_sem]
  by_cases hs : l.length ≤ 70
  · by_cases hv : vsz F R
    · obtain ⟨z, hz⟩ : ∃ z, z = List.replicate (F * R).toNat (0 : Int) := ⟨_, rfl⟩
      replace hz := Lib.hid hz
      have h100 : Hid (z.length ≤ 100000) := Lib.hid (by rw [hz.out, List.length_replicate]; have := vsz_mul hv; omega)
      by_cases hb : vbd F R l
      · by_cases ha : vat F R a
        · by_cases hp : okP p
          · obtain ⟨N, rfl⟩ : ∃ N : Nat, a = (N : Int) := ⟨a.toNat, by have := ha.2.1; omega⟩
            obtain ⟨y, hy⟩ : ∃ y, y = l.set N p := ⟨_, rfl⟩
            replace hy := Lib.hid hy
            have hN : Hid (N < l.length) := Lib.hid (by have := hb.2.1; have := ha.2.2; omega)
            have hpos : Hid (0 < l.length) := Lib.hid (by have := hN.out; omega)
            have hpos2 : Hid (0 < y.length) := Lib.hid (by rw [hy.out, List.length_set]; exact hpos.out)
            have h200 : Hid (l.length ≤ 100000) := Lib.hid (by omega)
            have h300 : Hid (y.length ≤ 100000) := Lib.hid (by rw [hy.out, List.length_set]; omega)
            go_enter Tryd.func4, Tryd.ntmps4
            go_wp2_with fail
            refine (small_yes F R l A c hs _).mono ?_
            rintro e w1 ⟨rfl, b1⟩
            replace q0 := cellB b1 q0
            replace q1 := cellB b1 q1
            replace q2 := cellB b1 q2
            replace hA := rdB b1 hA
            replace hK := hK.below b1 hK.1
            replace B := chain B b1
            clear b1
            go_wp2_with fail
            refine (rCopy_any F R l A c _ (by omega) hA).mono ?_
            rintro e w2 ⟨vo, rfl, hoo, b2⟩
            obtain ⟨Ao, co, rfl, ho, hoo'⟩ := own_parts hoo
            clear hoo hoo'
            replace q0 := cellB b2 q0
            replace q1 := cellB b2 q1
            replace q2 := cellB b2 q2
            replace hA := rdB b2 hA
            replace hK := hK.below b2 hK.1
            replace B := chain B b2
            clear b2
            have bx := box1 w2 (.cells #[.int .i64 F, .int .i64 R, .slice Ao l.length co] 26)
            replace q0 := cellB bx q0
            replace q1 := cellB bx q1
            replace q2 := cellB bx q2
            replace hA := rdB bx hA
            replace ho := rdB bx ho
            replace hK := hK.below bx hK.1
            replace B := chain B bx
            clear bx
            have u0 : (w2.alloc (.cells #[.int .i64 F, .int .i64 R, .slice Ao l.length co] 26)).cell? ⟨w2.heap.size, 0, none⟩ = some (.int .i64 F) := by simp [go_sem]
            have u1 : (w2.alloc (.cells #[.int .i64 F, .int .i64 R, .slice Ao l.length co] 26)).cell? ⟨w2.heap.size, 1, none⟩ = some (.int .i64 R) := by simp [go_sem]
            have u2 : (w2.alloc (.cells #[.int .i64 F, .int .i64 R, .slice Ao l.length co] 26)).cell? ⟨w2.heap.size, 2, none⟩ = some (.slice Ao l.length co) := by simp [go_sem]
            go_wp2_with fail
            refine (bEmpty_as F R hv z hz.out _).mono ?_
            rintro e w3 ⟨ve, rfl, hoe, b3⟩
            obtain ⟨Ae, ce, rfl, he, hoe'⟩ := own_parts hoe
            clear hoe hoe'
            replace q0 := cellB b3 q0
            replace q1 := cellB b3 q1
            replace q2 := cellB b3 q2
            replace u0 := cellB b3 u0
            replace u1 := cellB b3 u1
            replace u2 := cellB b3 u2
            replace hA := rdB b3 hA
            replace ho := rdB b3 ho
            replace hK := hK.below b3 hK.1
            replace B := chain B b3
            clear b3
            have bx := box1 w3 (.cells #[.int .i64 F, .int .i64 R, .slice Ae z.length ce] 26)
            replace q0 := cellB bx q0
            replace q1 := cellB bx q1
            replace q2 := cellB bx q2
            replace u0 := cellB bx u0
            replace u1 := cellB bx u1
            replace u2 := cellB bx u2
            replace hA := rdB bx hA
            replace ho := rdB bx ho
            replace he := rdB bx he
            replace hK := hK.below bx hK.1
            replace B := chain B bx
            clear bx
            have v0 : (w3.alloc (.cells #[.int .i64 F, .int .i64 R, .slice Ae z.length ce] 26)).cell? ⟨w3.heap.size, 0, none⟩ = some (.int .i64 F) := by simp [go_sem]
            have v1 : (w3.alloc (.cells #[.int .i64 F, .int .i64 R, .slice Ae z.length ce] 26)).cell? ⟨w3.heap.size, 1, none⟩ = some (.int .i64 R) := by simp [go_sem]
            have v2 : (w3.alloc (.cells #[.int .i64 F, .int .i64 R, .slice Ae z.length ce] 26)).cell? ⟨w3.heap.size, 2, none⟩ = some (.slice Ae z.length ce) := by simp [go_sem]
            have za := Lib.hid (RdP.lt hA hpos.out)
            have zo := Lib.hid (RdP.lt ho hpos.out)
            have zq := Lib.hid (World.block_lt_of_cell? _ _ q0)
            have zu := Lib.hid (World.block_lt_of_cell? _ _ u0)
            go_wp2_with fail
            refine (put_as F R l A c N p y hy.out _ hb ha hp hA).mono ?_
            rintro e w4 ⟨vp, rfl, hop, b4⟩
            obtain ⟨Ap, cp, rfl, hq, hop⟩ := own_parts hop
            have zp := Lib.hid (own_block hop)
            replace q0 := cellB b4 q0
            replace q1 := cellB b4 q1
            replace q2 := cellB b4 q2
            replace u0 := cellB b4 u0
            replace u1 := cellB b4 u1
            replace u2 := cellB b4 u2
            replace v0 := cellB b4 v0
            replace v1 := cellB b4 v1
            replace v2 := cellB b4 v2
            replace hA := rdB b4 hA
            replace ho := rdB b4 ho
            replace he := rdB b4 he
            replace hK := hK.below b4 hK.1
            replace B := chain B b4
            clear b4
            have bx := box1 w4 (.cells #[.int .i64 F, .int .i64 R, .slice Ap y.length cp] 26)
            replace q0 := cellB bx q0
            replace q1 := cellB bx q1
            replace q2 := cellB bx q2
            replace u0 := cellB bx u0
            replace u1 := cellB bx u1
            replace u2 := cellB bx u2
            replace v0 := cellB bx v0
            replace v1 := cellB bx v1
            replace v2 := cellB bx v2
            replace hA := rdB bx hA
            replace ho := rdB bx ho
            replace he := rdB bx he
            replace hq := rdB bx hq
            replace hop := own_below hop bx
            replace hK := hK.below bx hK.1
            replace B := chain B bx
            clear bx
            have t0 : (w4.alloc (.cells #[.int .i64 F, .int .i64 R, .slice Ap y.length cp] 26)).cell? ⟨w4.heap.size, 0, none⟩ = some (.int .i64 F) := by simp [go_sem]
            have t1 : (w4.alloc (.cells #[.int .i64 F, .int .i64 R, .slice Ap y.length cp] 26)).cell? ⟨w4.heap.size, 1, none⟩ = some (.int .i64 R) := by simp [go_sem]
            have t2 : (w4.alloc (.cells #[.int .i64 F, .int .i64 R, .slice Ap y.length cp] 26)).cell? ⟨w4.heap.size, 2, none⟩ = some (.slice Ap y.length cp) := by simp [go_sem]
            go_wp2_with fail
            refine (same_yes F R l Ao A co c _ (by omega) ho hA).mono ?_
            rintro e w5 ⟨rfl, b5⟩
            replace q0 := cellB b5 q0
            replace q1 := cellB b5 q1
            replace q2 := cellB b5 q2
            replace u0 := cellB b5 u0
            replace u1 := cellB b5 u1
            replace u2 := cellB b5 u2
            replace v0 := cellB b5 v0
            replace v1 := cellB b5 v1
            replace v2 := cellB b5 v2
            replace t0 := cellB b5 t0
            replace t1 := cellB b5 t1
            replace t2 := cellB b5 t2
            replace hA := rdB b5 hA
            replace ho := rdB b5 ho
            replace he := rdB b5 he
            replace hq := rdB b5 hq
            replace hop := own_below hop b5
            replace hK := hK.below b5 hK.1
            replace B := chain B b5
            clear b5
            go_wp2_with fail
            refine (refSize_yes F R hv _).mono ?_
            rintro e w6 ⟨rfl, b6⟩
            replace q0 := cellB b6 q0
            replace q1 := cellB b6 q1
            replace q2 := cellB b6 q2
            replace u0 := cellB b6 u0
            replace u1 := cellB b6 u1
            replace u2 := cellB b6 u2
            replace v0 := cellB b6 v0
            replace v1 := cellB b6 v1
            replace v2 := cellB b6 v2
            replace t0 := cellB b6 t0
            replace t1 := cellB b6 t1
            replace t2 := cellB b6 t2
            replace hA := rdB b6 hA
            replace ho := rdB b6 ho
            replace he := rdB b6 he
            replace hq := rdB b6 hq
            replace hop := own_below hop b6
            replace hK := hK.below b6 hK.1
            replace B := chain B b6
            clear b6
            go_wp2_with fail
            go_cut [57] (fun s57 wx => s57 = .bool false ∧ Below w6.heap.size w6 wx)
            case first =>
              go_region_with (first | (go_at_call 20; refine (rEmpty_as F R hv z hz.out _).mono ?_; rintro e wE ⟨vE, rfl, hoE, bE⟩; obtain ⟨AE, cE, rfl, hE, hoE'⟩ := own_parts hoE; have v0' := cellB bE v0; have v1' := cellB bE v1; have v2' := cellB bE v2; have he' := rdB bE he) | (go_at_call 15; refine (same_yes F R z Ae AE ce cE _ h100.out he' hE).mono ?_; rintro e wS ⟨rfl, bS⟩))
              all_goals (go_wp2_with fail; (conv => arg 2; simp [Act.put]); go_meet; case rel => exact ⟨rfl, chain ⟨bE.os, bE.tape, bE.output, bE.size, bE.block⟩ bS⟩)
            case rest =>
              obtain ⟨rfl, hR⟩ := hcut
              replace q0 := cellB hR q0
              replace q1 := cellB hR q1
              replace q2 := cellB hR q2
              replace u0 := cellB hR u0
              replace u1 := cellB hR u1
              replace u2 := cellB hR u2
              replace v0 := cellB hR v0
              replace v1 := cellB hR v1
              replace v2 := cellB hR v2
              replace t0 := cellB hR t0
              replace t1 := cellB hR t1
              replace t2 := cellB hR t2
              replace hA := rdB hR hA
              replace ho := rdB hR ho
              replace he := rdB hR he
              replace hq := rdB hR hq
              replace hop := own_below hop hR
              replace hK := hK.below hR hK.1
              replace B := chain B hR
              clear hR
              go_wp2_with fail
              refine (rbValid_yes F R l A c hb _ hA).mono ?_
              rintro e w7 ⟨rfl, b7⟩
              replace q0 := cellB b7 q0
              replace q1 := cellB b7 q1
              replace q2 := cellB b7 q2
              replace u0 := cellB b7 u0
              replace u1 := cellB b7 u1
              replace u2 := cellB b7 u2
              replace v0 := cellB b7 v0
              replace v1 := cellB b7 v1
              replace v2 := cellB b7 v2
              replace t0 := cellB b7 t0
              replace t1 := cellB b7 t1
              replace t2 := cellB b7 t2
              replace hA := rdB b7 hA
              replace ho := rdB b7 ho
              replace he := rdB b7 he
              replace hq := rdB b7 hq
              replace hop := own_below hop b7
              replace hK := hK.below b7 hK.1
              replace B := chain B b7
              clear b7
              go_wp2_with fail
              refine (refValid_yes F R _ ha _).mono ?_
              rintro e w8 ⟨rfl, b8⟩
              replace q0 := cellB b8 q0
              replace q1 := cellB b8 q1
              replace q2 := cellB b8 q2
              replace u0 := cellB b8 u0
              replace u1 := cellB b8 u1
              replace u2 := cellB b8 u2
              replace v0 := cellB b8 v0
              replace v1 := cellB b8 v1
              replace v2 := cellB b8 v2
              replace t0 := cellB b8 t0
              replace t1 := cellB b8 t1
              replace t2 := cellB b8 t2
              replace hA := rdB b8 hA
              replace ho := rdB b8 ho
              replace he := rdB b8 he
              replace hq := rdB b8 hq
              replace hop := own_below hop b8
              replace hK := hK.below b8 hK.1
              replace B := chain B b8
              clear b8
              go_wp2_with fail
              refine (rpValid_yes p hp _).mono ?_
              rintro e w9 ⟨rfl, rfl⟩
              go_wp2_with fail
              have hAd : RdP w8.drew w8.drew.heap.size A l c := hA
              go_cut [93] (fun s93 wx => s93 = .bool false ∧ Below w8.heap.size w8 wx)
              case first =>
                go_region_with (first | (go_at_call 23; refine (rPut_as F R l A c N p y hy.out w8.drew h200.out hN.out hAd).mono ?_; rintro e wE ⟨vE, rfl, hoE, bE⟩; obtain ⟨AE, cE, rfl, hE, hoE'⟩ := own_parts hoE; have t0' := cellB bE t0; have t1' := cellB bE t1; have t2' := cellB bE t2; have hq' := rdB bE hq) | (go_at_call 15; refine (same_yes F R y Ap AE cp cE _ h300.out hq' hE).mono ?_; rintro e wS ⟨rfl, bS⟩))
                all_goals (go_wp2_with fail; (conv => arg 2; simp [Act.put]); go_meet; case rel => exact ⟨rfl, chain ⟨bE.os, bE.tape, bE.output, bE.size, bE.block⟩ bS⟩)
              case rest =>
                obtain ⟨rfl, hR⟩ := hcut
                replace q0 := cellB hR q0
                replace q1 := cellB hR q1
                replace q2 := cellB hR q2
                replace u0 := cellB hR u0
                replace u1 := cellB hR u1
                replace u2 := cellB hR u2
                replace v0 := cellB hR v0
                replace v1 := cellB hR v1
                replace v2 := cellB hR v2
                replace t0 := cellB hR t0
                replace t1 := cellB hR t1
                replace t2 := cellB hR t2
                replace hA := rdB hR hA
                replace ho := rdB hR ho
                replace he := rdB hR he
                replace hq := rdB hR hq
                replace hop := own_below hop hR
                replace hK := hK.below hR hK.1
                replace B := chain B hR
                clear hR
                obtain ⟨g, rfl, hg0, hg1, hrow⟩ := Row.of hop hpos2.out
                have za' := za.out
                have zo' := zo.out
                have zq' := zq.out
                have zu' := zu.out
                have zp' := (zp.out _ rfl).2
                simp only at zq' zu' zp'
                have hneA : Hid (∀ a', A = some a' → a'.block ≠ g) := Lib.hid (by intro a' ha'; have := za' a' ha'; omega)
                have hneO : Hid (∀ a', Ao = some a' → a'.block ≠ g) := Lib.hid (by intro a' ha'; have := zo' a' ha'; omega)
                have hbw : w.heap.size ≤ g := by omega
                clear za zo zq zu zp za' zo' hop
                go_wp2_with fail
                go_loopw [97] (fun i wr => ∃ k : Nat, k ≤ y.length ∧ i = .int .i64 k ∧ But g wc wr ∧ Row wr (w3.alloc (.cells #[.int .i64 F, .int .i64 R, .slice Ae z.length ce] 26)).heap.size 32 g cp y.length) (fun i _ => y.length - (intOf i).toNat)
                case atStart => exact ⟨0, by omega, rfl, But.refl _ _, hrow⟩
                case round =>
                  obtain ⟨k, hk, rfl, hB, hr⟩ := hrel
                  have ht2 := hB.cell t2 (by simp; omega)
                  have h301 := h300.out
                  by_cases hlt : k < y.length
                  · obtain ⟨⟨xk, hx⟩, hf⟩ := hr.at_ hlt
                    go_wp2
                    go_roundw
                    case rel => exact ⟨k + 1, by omega, by go_num, hB.setCell _ _, hr.stored _ _⟩
                    case measure => simp [intOf]; omega
                  · have hkl : k = y.length := by omega
                    subst hkl
                    replace q0 := hB.cell q0 (by simp; omega)
                    replace q1 := hB.cell q1 (by simp; omega)
                    replace q2 := hB.cell q2 (by simp; omega)
                    replace u0 := hB.cell u0 (by simp; omega)
                    replace u1 := hB.cell u1 (by simp; omega)
                    replace u2 := hB.cell u2 (by simp; omega)
                    replace hA := hB.rd hA hneA.out
                    replace ho := hB.rd ho hneO.out
                    replace B := hB.below B hbw
                    replace hK := HK0.out.below B HK0.out.1
                    clear hB hr ht2 hrow he hq v0 v1 v2 t0 t1 t2
                    go_wp2_with fail
                    refine (same_yes F R l Ao A co c _ h200.out ho hA).mono ?_
                    rintro e w10 ⟨rfl, b10⟩
                    replace q0 := cellB b10 q0
                    replace q1 := cellB b10 q1
                    replace q2 := cellB b10 q2
                    replace u0 := cellB b10 u0
                    replace u1 := cellB b10 u1
                    replace u2 := cellB b10 u2
                    replace hA := rdB b10 hA
                    replace ho := rdB b10 ho
                    replace hK := hK.below b10 hK.1
                    replace B := chain B b10
                    clear b10
                    go_wp2_with fail
                    refine (knownB_any _ hK).mono ?_
                    rintro e w11 ⟨rfl, b11⟩
                    replace q0 := cellB b11 q0
                    replace q1 := cellB b11 q1
                    replace q2 := cellB b11 q2
                    replace u0 := cellB b11 u0
                    replace u1 := cellB b11 u1
                    replace u2 := cellB b11 u2
                    replace hA := rdB b11 hA
                    replace ho := rdB b11 ho
                    replace hK := hK.below b11 hK.1
                    replace B := chain B b11
                    clear b11
                    go_wp2
                    go_ret
                    exact ⟨rfl, B⟩
          · have hno : Hid (¬ (vbd F R l ∧ vat F R a ∧ okP p)) := Lib.hid (fun h => hp h.2.2)
            go_enter Tryd.func4, Tryd.ntmps4
            go_wp2_with fail
            refine (small_yes F R l A c hs _).mono ?_
            rintro e w1 ⟨rfl, b1⟩
            replace q0 := cellB b1 q0
            replace q1 := cellB b1 q1
            replace q2 := cellB b1 q2
            replace hA := rdB b1 hA
            replace hK := hK.below b1 hK.1
            replace B := chain B b1
            clear b1
            go_wp2_with fail
            refine (rCopy_any F R l A c _ (by omega) hA).mono ?_
            rintro e w2 ⟨vo, rfl, hoo, b2⟩
            obtain ⟨Ao, co, rfl, ho, hoo'⟩ := own_parts hoo
            clear hoo hoo'
            replace q0 := cellB b2 q0
            replace q1 := cellB b2 q1
            replace q2 := cellB b2 q2
            replace hA := rdB b2 hA
            replace hK := hK.below b2 hK.1
            replace B := chain B b2
            clear b2
            have bx := box1 w2 (.cells #[.int .i64 F, .int .i64 R, .slice Ao l.length co] 26)
            replace q0 := cellB bx q0
            replace q1 := cellB bx q1
            replace q2 := cellB bx q2
            replace hA := rdB bx hA
            replace ho := rdB bx ho
            replace hK := hK.below bx hK.1
            replace B := chain B bx
            clear bx
            have u0 : (w2.alloc (.cells #[.int .i64 F, .int .i64 R, .slice Ao l.length co] 26)).cell? ⟨w2.heap.size, 0, none⟩ = some (.int .i64 F) := by simp [go_sem]
            have u1 : (w2.alloc (.cells #[.int .i64 F, .int .i64 R, .slice Ao l.length co] 26)).cell? ⟨w2.heap.size, 1, none⟩ = some (.int .i64 R) := by simp [go_sem]
            have u2 : (w2.alloc (.cells #[.int .i64 F, .int .i64 R, .slice Ao l.length co] 26)).cell? ⟨w2.heap.size, 2, none⟩ = some (.slice Ao l.length co) := by simp [go_sem]
            go_wp2_with fail
            refine (bEmpty_as F R hv z hz.out _).mono ?_
            rintro e w3 ⟨ve, rfl, hoe, b3⟩
            obtain ⟨Ae, ce, rfl, he, hoe'⟩ := own_parts hoe
            clear hoe hoe'
            replace q0 := cellB b3 q0
            replace q1 := cellB b3 q1
            replace q2 := cellB b3 q2
            replace u0 := cellB b3 u0
            replace u1 := cellB b3 u1
            replace u2 := cellB b3 u2
            replace hA := rdB b3 hA
            replace ho := rdB b3 ho
            replace hK := hK.below b3 hK.1
            replace B := chain B b3
            clear b3
            have bx := box1 w3 (.cells #[.int .i64 F, .int .i64 R, .slice Ae z.length ce] 26)
            replace q0 := cellB bx q0
            replace q1 := cellB bx q1
            replace q2 := cellB bx q2
            replace u0 := cellB bx u0
            replace u1 := cellB bx u1
            replace u2 := cellB bx u2
            replace hA := rdB bx hA
            replace ho := rdB bx ho
            replace he := rdB bx he
            replace hK := hK.below bx hK.1
            replace B := chain B bx
            clear bx
            have v0 : (w3.alloc (.cells #[.int .i64 F, .int .i64 R, .slice Ae z.length ce] 26)).cell? ⟨w3.heap.size, 0, none⟩ = some (.int .i64 F) := by simp [go_sem]
            have v1 : (w3.alloc (.cells #[.int .i64 F, .int .i64 R, .slice Ae z.length ce] 26)).cell? ⟨w3.heap.size, 1, none⟩ = some (.int .i64 R) := by simp [go_sem]
            have v2 : (w3.alloc (.cells #[.int .i64 F, .int .i64 R, .slice Ae z.length ce] 26)).cell? ⟨w3.heap.size, 2, none⟩ = some (.slice Ae z.length ce) := by simp [go_sem]
            go_wp2_with fail
            refine (put_no F R l A c a p _ (by omega) hno.out hA).mono ?_
            rintro e w4 ⟨rfl, b4⟩
            replace q0 := cellB b4 q0
            replace q1 := cellB b4 q1
            replace q2 := cellB b4 q2
            replace u0 := cellB b4 u0
            replace u1 := cellB b4 u1
            replace u2 := cellB b4 u2
            replace v0 := cellB b4 v0
            replace v1 := cellB b4 v1
            replace v2 := cellB b4 v2
            replace hA := rdB b4 hA
            replace ho := rdB b4 ho
            replace he := rdB b4 he
            replace hK := hK.below b4 hK.1
            replace B := chain B b4
            clear b4
            have bx := box1 w4 (.cells #[.int .i64 0, .int .i64 0, .slice none 0 0] 26)
            replace q0 := cellB bx q0
            replace q1 := cellB bx q1
            replace q2 := cellB bx q2
            replace u0 := cellB bx u0
            replace u1 := cellB bx u1
            replace u2 := cellB bx u2
            replace v0 := cellB bx v0
            replace v1 := cellB bx v1
            replace v2 := cellB bx v2
            replace hA := rdB bx hA
            replace ho := rdB bx ho
            replace he := rdB bx he
            replace hK := hK.below bx hK.1
            replace B := chain B bx
            clear bx
            have t0 : (w4.alloc (.cells #[.int .i64 0, .int .i64 0, .slice none 0 0] 26)).cell? ⟨w4.heap.size, 0, none⟩ = some (.int .i64 0) := by simp [go_sem]
            have t1 : (w4.alloc (.cells #[.int .i64 0, .int .i64 0, .slice none 0 0] 26)).cell? ⟨w4.heap.size, 1, none⟩ = some (.int .i64 0) := by simp [go_sem]
            have t2 : (w4.alloc (.cells #[.int .i64 0, .int .i64 0, .slice none 0 0] 26)).cell? ⟨w4.heap.size, 2, none⟩ = some (.slice none 0 0) := by simp [go_sem]
            go_wp2_with fail
            refine (same_yes F R l Ao A co c _ (by omega) ho hA).mono ?_
            rintro e w5 ⟨rfl, b5⟩
            replace q0 := cellB b5 q0
            replace q1 := cellB b5 q1
            replace q2 := cellB b5 q2
            replace u0 := cellB b5 u0
            replace u1 := cellB b5 u1
            replace u2 := cellB b5 u2
            replace v0 := cellB b5 v0
            replace v1 := cellB b5 v1
            replace v2 := cellB b5 v2
            replace t0 := cellB b5 t0
            replace t1 := cellB b5 t1
            replace t2 := cellB b5 t2
            replace hA := rdB b5 hA
            replace ho := rdB b5 ho
            replace he := rdB b5 he
            replace hK := hK.below b5 hK.1
            replace B := chain B b5
            clear b5
            go_wp2_with fail
            refine (refSize_yes F R hv _).mono ?_
            rintro e w6 ⟨rfl, b6⟩
            replace q0 := cellB b6 q0
            replace q1 := cellB b6 q1
            replace q2 := cellB b6 q2
            replace u0 := cellB b6 u0
            replace u1 := cellB b6 u1
            replace u2 := cellB b6 u2
            replace v0 := cellB b6 v0
            replace v1 := cellB b6 v1
            replace v2 := cellB b6 v2
            replace t0 := cellB b6 t0
            replace t1 := cellB b6 t1
            replace t2 := cellB b6 t2
            replace hA := rdB b6 hA
            replace ho := rdB b6 ho
            replace he := rdB b6 he
            replace hK := hK.below b6 hK.1
            replace B := chain B b6
            clear b6
            go_wp2_with fail
            go_cut [57] (fun s57 wx => s57 = .bool false ∧ Below w6.heap.size w6 wx)
            case first =>
              go_region_with (first | (go_at_call 20; refine (rEmpty_as F R hv z hz.out _).mono ?_; rintro e wE ⟨vE, rfl, hoE, bE⟩; obtain ⟨AE, cE, rfl, hE, hoE'⟩ := own_parts hoE; have v0' := cellB bE v0; have v1' := cellB bE v1; have v2' := cellB bE v2; have he' := rdB bE he) | (go_at_call 15; refine (same_yes F R z Ae AE ce cE _ h100.out he' hE).mono ?_; rintro e wS ⟨rfl, bS⟩))
              all_goals (go_wp2_with fail; (conv => arg 2; simp [Act.put]); go_meet; case rel => exact ⟨rfl, chain ⟨bE.os, bE.tape, bE.output, bE.size, bE.block⟩ bS⟩)
            case rest =>
              obtain ⟨rfl, hR⟩ := hcut
              replace q0 := cellB hR q0
              replace q1 := cellB hR q1
              replace q2 := cellB hR q2
              replace u0 := cellB hR u0
              replace u1 := cellB hR u1
              replace u2 := cellB hR u2
              replace v0 := cellB hR v0
              replace v1 := cellB hR v1
              replace v2 := cellB hR v2
              replace t0 := cellB hR t0
              replace t1 := cellB hR t1
              replace t2 := cellB hR t2
              replace hA := rdB hR hA
              replace ho := rdB hR ho
              replace he := rdB hR he
              replace hK := hK.below hR hK.1
              replace B := chain B hR
              clear hR
              go_wp2_with fail
              refine (rbValid_yes F R l A c hb _ hA).mono ?_
              rintro e w7 ⟨rfl, b7⟩
              replace q0 := cellB b7 q0
              replace q1 := cellB b7 q1
              replace q2 := cellB b7 q2
              replace u0 := cellB b7 u0
              replace u1 := cellB b7 u1
              replace u2 := cellB b7 u2
              replace v0 := cellB b7 v0
              replace v1 := cellB b7 v1
              replace v2 := cellB b7 v2
              replace t0 := cellB b7 t0
              replace t1 := cellB b7 t1
              replace t2 := cellB b7 t2
              replace hA := rdB b7 hA
              replace ho := rdB b7 ho
              replace he := rdB b7 he
              replace hK := hK.below b7 hK.1
              replace B := chain B b7
              clear b7
              go_wp2_with fail
              refine (refValid_yes F R _ ha _).mono ?_
              rintro e w8 ⟨rfl, b8⟩
              replace q0 := cellB b8 q0
              replace q1 := cellB b8 q1
              replace q2 := cellB b8 q2
              replace u0 := cellB b8 u0
              replace u1 := cellB b8 u1
              replace u2 := cellB b8 u2
              replace v0 := cellB b8 v0
              replace v1 := cellB b8 v1
              replace v2 := cellB b8 v2
              replace t0 := cellB b8 t0
              replace t1 := cellB b8 t1
              replace t2 := cellB b8 t2
              replace hA := rdB b8 hA
              replace ho := rdB b8 ho
              replace he := rdB b8 he
              replace hK := hK.below b8 hK.1
              replace B := chain B b8
              clear b8
              go_wp2_with fail
              refine (rpValid_no p hp _).mono ?_
              rintro e w9 ⟨rfl, rfl⟩
              go_wp2_with fail
              refine (same_yes 0 0 [] none none 0 0 _ (by simp) (rd_nil _ _) (rd_nil _ _)).mono ?_
              rintro e w10 ⟨rfl, b10⟩
              replace q0 := cellB b10 q0
              replace q1 := cellB b10 q1
              replace q2 := cellB b10 q2
              replace u0 := cellB b10 u0
              replace u1 := cellB b10 u1
              replace u2 := cellB b10 u2
              replace v0 := cellB b10 v0
              replace v1 := cellB b10 v1
              replace v2 := cellB b10 v2
              replace t0 := cellB b10 t0
              replace t1 := cellB b10 t1
              replace t2 := cellB b10 t2
              replace hA := rdB b10 hA
              replace ho := rdB b10 ho
              replace he := rdB b10 he
              replace hK := hK.below b10 hK.1
              replace B := chain B b10
              clear b10
              go_wp2_with fail
              refine (knownB_any _ hK).mono ?_
              rintro e w11 ⟨rfl, b11⟩
              replace q0 := cellB b11 q0
              replace q1 := cellB b11 q1
              replace q2 := cellB b11 q2
              replace u0 := cellB b11 u0
              replace u1 := cellB b11 u1
              replace u2 := cellB b11 u2
              replace v0 := cellB b11 v0
              replace v1 := cellB b11 v1
              replace v2 := cellB b11 v2
              replace t0 := cellB b11 t0
              replace t1 := cellB b11 t1
              replace t2 := cellB b11 t2
              replace hA := rdB b11 hA
              replace ho := rdB b11 ho
              replace he := rdB b11 he
              replace hK := hK.below b11 hK.1
              replace B := chain B b11
              clear b11
              go_wp2
              go_ret
              exact ⟨rfl, B⟩
        · have hno : Hid (¬ (vbd F R l ∧ vat F R a ∧ okP p)) := Lib.hid (fun h => ha h.2.1)
          go_enter Tryd.func4, Tryd.ntmps4
          go_wp2_with fail
          refine (small_yes F R l A c hs _).mono ?_
          rintro e w1 ⟨rfl, b1⟩
          replace q0 := cellB b1 q0
          replace q1 := cellB b1 q1
          replace q2 := cellB b1 q2
          replace hA := rdB b1 hA
          replace hK := hK.below b1 hK.1
          replace B := chain B b1
          clear b1
          go_wp2_with fail
          refine (rCopy_any F R l A c _ (by omega) hA).mono ?_
          rintro e w2 ⟨vo, rfl, hoo, b2⟩
          obtain ⟨Ao, co, rfl, ho, hoo'⟩ := own_parts hoo
          clear hoo hoo'
          replace q0 := cellB b2 q0
          replace q1 := cellB b2 q1
          replace q2 := cellB b2 q2
          replace hA := rdB b2 hA
          replace hK := hK.below b2 hK.1
          replace B := chain B b2
          clear b2
          have bx := box1 w2 (.cells #[.int .i64 F, .int .i64 R, .slice Ao l.length co] 26)
          replace q0 := cellB bx q0
          replace q1 := cellB bx q1
          replace q2 := cellB bx q2
          replace hA := rdB bx hA
          replace ho := rdB bx ho
          replace hK := hK.below bx hK.1
          replace B := chain B bx
          clear bx
          have u0 : (w2.alloc (.cells #[.int .i64 F, .int .i64 R, .slice Ao l.length co] 26)).cell? ⟨w2.heap.size, 0, none⟩ = some (.int .i64 F) := by simp [go_sem]
          have u1 : (w2.alloc (.cells #[.int .i64 F, .int .i64 R, .slice Ao l.length co] 26)).cell? ⟨w2.heap.size, 1, none⟩ = some (.int .i64 R) := by simp [go_sem]
          have u2 : (w2.alloc (.cells #[.int .i64 F, .int .i64 R, .slice Ao l.length co] 26)).cell? ⟨w2.heap.size, 2, none⟩ = some (.slice Ao l.length co) := by simp [go_sem]
          go_wp2_with fail
          refine (bEmpty_as F R hv z hz.out _).mono ?_
          rintro e w3 ⟨ve, rfl, hoe, b3⟩
          obtain ⟨Ae, ce, rfl, he, hoe'⟩ := own_parts hoe
          clear hoe hoe'
          replace q0 := cellB b3 q0
          replace q1 := cellB b3 q1
          replace q2 := cellB b3 q2
          replace u0 := cellB b3 u0
          replace u1 := cellB b3 u1
          replace u2 := cellB b3 u2
          replace hA := rdB b3 hA
          replace ho := rdB b3 ho
          replace hK := hK.below b3 hK.1
          replace B := chain B b3
          clear b3
          have bx := box1 w3 (.cells #[.int .i64 F, .int .i64 R, .slice Ae z.length ce] 26)
          replace q0 := cellB bx q0
          replace q1 := cellB bx q1
          replace q2 := cellB bx q2
          replace u0 := cellB bx u0
          replace u1 := cellB bx u1
          replace u2 := cellB bx u2
          replace hA := rdB bx hA
          replace ho := rdB bx ho
          replace he := rdB bx he
          replace hK := hK.below bx hK.1
          replace B := chain B bx
          clear bx
          have v0 : (w3.alloc (.cells #[.int .i64 F, .int .i64 R, .slice Ae z.length ce] 26)).cell? ⟨w3.heap.size, 0, none⟩ = some (.int .i64 F) := by simp [go_sem]
          have v1 : (w3.alloc (.cells #[.int .i64 F, .int .i64 R, .slice Ae z.length ce] 26)).cell? ⟨w3.heap.size, 1, none⟩ = some (.int .i64 R) := by simp [go_sem]
          have v2 : (w3.alloc (.cells #[.int .i64 F, .int .i64 R, .slice Ae z.length ce] 26)).cell? ⟨w3.heap.size, 2, none⟩ = some (.slice Ae z.length ce) := by simp [go_sem]
          go_wp2_with fail
          refine (put_no F R l A c a p _ (by omega) hno.out hA).mono ?_
          rintro e w4 ⟨rfl, b4⟩
          replace q0 := cellB b4 q0
          replace q1 := cellB b4 q1
          replace q2 := cellB b4 q2
          replace u0 := cellB b4 u0
          replace u1 := cellB b4 u1
          replace u2 := cellB b4 u2
          replace v0 := cellB b4 v0
          replace v1 := cellB b4 v1
          replace v2 := cellB b4 v2
          replace hA := rdB b4 hA
          replace ho := rdB b4 ho
          replace he := rdB b4 he
          replace hK := hK.below b4 hK.1
          replace B := chain B b4
          clear b4
          have bx := box1 w4 (.cells #[.int .i64 0, .int .i64 0, .slice none 0 0] 26)
          replace q0 := cellB bx q0
          replace q1 := cellB bx q1
          replace q2 := cellB bx q2
          replace u0 := cellB bx u0
          replace u1 := cellB bx u1
          replace u2 := cellB bx u2
          replace v0 := cellB bx v0
          replace v1 := cellB bx v1
          replace v2 := cellB bx v2
          replace hA := rdB bx hA
          replace ho := rdB bx ho
          replace he := rdB bx he
          replace hK := hK.below bx hK.1
          replace B := chain B bx
          clear bx
          have t0 : (w4.alloc (.cells #[.int .i64 0, .int .i64 0, .slice none 0 0] 26)).cell? ⟨w4.heap.size, 0, none⟩ = some (.int .i64 0) := by simp [go_sem]
          have t1 : (w4.alloc (.cells #[.int .i64 0, .int .i64 0, .slice none 0 0] 26)).cell? ⟨w4.heap.size, 1, none⟩ = some (.int .i64 0) := by simp [go_sem]
          have t2 : (w4.alloc (.cells #[.int .i64 0, .int .i64 0, .slice none 0 0] 26)).cell? ⟨w4.heap.size, 2, none⟩ = some (.slice none 0 0) := by simp [go_sem]
          go_wp2_with fail
          refine (same_yes F R l Ao A co c _ (by omega) ho hA).mono ?_
          rintro e w5 ⟨rfl, b5⟩
          replace q0 := cellB b5 q0
          replace q1 := cellB b5 q1
          replace q2 := cellB b5 q2
          replace u0 := cellB b5 u0
          replace u1 := cellB b5 u1
          replace u2 := cellB b5 u2
          replace v0 := cellB b5 v0
          replace v1 := cellB b5 v1
          replace v2 := cellB b5 v2
          replace t0 := cellB b5 t0
          replace t1 := cellB b5 t1
          replace t2 := cellB b5 t2
          replace hA := rdB b5 hA
          replace ho := rdB b5 ho
          replace he := rdB b5 he
          replace hK := hK.below b5 hK.1
          replace B := chain B b5
          clear b5
          go_wp2_with fail
          refine (refSize_yes F R hv _).mono ?_
          rintro e w6 ⟨rfl, b6⟩
          replace q0 := cellB b6 q0
          replace q1 := cellB b6 q1
          replace q2 := cellB b6 q2
          replace u0 := cellB b6 u0
          replace u1 := cellB b6 u1
          replace u2 := cellB b6 u2
          replace v0 := cellB b6 v0
          replace v1 := cellB b6 v1
          replace v2 := cellB b6 v2
          replace t0 := cellB b6 t0
          replace t1 := cellB b6 t1
          replace t2 := cellB b6 t2
          replace hA := rdB b6 hA
          replace ho := rdB b6 ho
          replace he := rdB b6 he
          replace hK := hK.below b6 hK.1
          replace B := chain B b6
          clear b6
          go_wp2_with fail
          go_cut [57] (fun s57 wx => s57 = .bool false ∧ Below w6.heap.size w6 wx)
          case first =>
            go_region_with (first | (go_at_call 20; refine (rEmpty_as F R hv z hz.out _).mono ?_; rintro e wE ⟨vE, rfl, hoE, bE⟩; obtain ⟨AE, cE, rfl, hE, hoE'⟩ := own_parts hoE; have v0' := cellB bE v0; have v1' := cellB bE v1; have v2' := cellB bE v2; have he' := rdB bE he) | (go_at_call 15; refine (same_yes F R z Ae AE ce cE _ h100.out he' hE).mono ?_; rintro e wS ⟨rfl, bS⟩))
            all_goals (go_wp2_with fail; (conv => arg 2; simp [Act.put]); go_meet; case rel => exact ⟨rfl, chain ⟨bE.os, bE.tape, bE.output, bE.size, bE.block⟩ bS⟩)
          case rest =>
            obtain ⟨rfl, hR⟩ := hcut
            replace q0 := cellB hR q0
            replace q1 := cellB hR q1
            replace q2 := cellB hR q2
            replace u0 := cellB hR u0
            replace u1 := cellB hR u1
            replace u2 := cellB hR u2
            replace v0 := cellB hR v0
            replace v1 := cellB hR v1
            replace v2 := cellB hR v2
            replace t0 := cellB hR t0
            replace t1 := cellB hR t1
            replace t2 := cellB hR t2
            replace hA := rdB hR hA
            replace ho := rdB hR ho
            replace he := rdB hR he
            replace hK := hK.below hR hK.1
            replace B := chain B hR
            clear hR
            go_wp2_with fail
            refine (rbValid_yes F R l A c hb _ hA).mono ?_
            rintro e w7 ⟨rfl, b7⟩
            replace q0 := cellB b7 q0
            replace q1 := cellB b7 q1
            replace q2 := cellB b7 q2
            replace u0 := cellB b7 u0
            replace u1 := cellB b7 u1
            replace u2 := cellB b7 u2
            replace v0 := cellB b7 v0
            replace v1 := cellB b7 v1
            replace v2 := cellB b7 v2
            replace t0 := cellB b7 t0
            replace t1 := cellB b7 t1
            replace t2 := cellB b7 t2
            replace hA := rdB b7 hA
            replace ho := rdB b7 ho
            replace he := rdB b7 he
            replace hK := hK.below b7 hK.1
            replace B := chain B b7
            clear b7
            go_wp2_with fail
            refine (refValid_no F R a ha _).mono ?_
            rintro e w8 ⟨rfl, b8⟩
            replace q0 := cellB b8 q0
            replace q1 := cellB b8 q1
            replace q2 := cellB b8 q2
            replace u0 := cellB b8 u0
            replace u1 := cellB b8 u1
            replace u2 := cellB b8 u2
            replace v0 := cellB b8 v0
            replace v1 := cellB b8 v1
            replace v2 := cellB b8 v2
            replace t0 := cellB b8 t0
            replace t1 := cellB b8 t1
            replace t2 := cellB b8 t2
            replace hA := rdB b8 hA
            replace ho := rdB b8 ho
            replace he := rdB b8 he
            replace hK := hK.below b8 hK.1
            replace B := chain B b8
            clear b8
            go_wp2_with fail
            refine (same_yes 0 0 [] none none 0 0 _ (by simp) (rd_nil _ _) (rd_nil _ _)).mono ?_
            rintro e w9 ⟨rfl, b9⟩
            replace q0 := cellB b9 q0
            replace q1 := cellB b9 q1
            replace q2 := cellB b9 q2
            replace u0 := cellB b9 u0
            replace u1 := cellB b9 u1
            replace u2 := cellB b9 u2
            replace v0 := cellB b9 v0
            replace v1 := cellB b9 v1
            replace v2 := cellB b9 v2
            replace t0 := cellB b9 t0
            replace t1 := cellB b9 t1
            replace t2 := cellB b9 t2
            replace hA := rdB b9 hA
            replace ho := rdB b9 ho
            replace he := rdB b9 he
            replace hK := hK.below b9 hK.1
            replace B := chain B b9
            clear b9
            go_wp2_with fail
            refine (knownB_any _ hK).mono ?_
            rintro e w10 ⟨rfl, b10⟩
            replace q0 := cellB b10 q0
            replace q1 := cellB b10 q1
            replace q2 := cellB b10 q2
            replace u0 := cellB b10 u0
            replace u1 := cellB b10 u1
            replace u2 := cellB b10 u2
            replace v0 := cellB b10 v0
            replace v1 := cellB b10 v1
            replace v2 := cellB b10 v2
            replace t0 := cellB b10 t0
            replace t1 := cellB b10 t1
            replace t2 := cellB b10 t2
            replace hA := rdB b10 hA
            replace ho := rdB b10 ho
            replace he := rdB b10 he
            replace hK := hK.below b10 hK.1
            replace B := chain B b10
            clear b10
            go_wp2
            go_ret
            exact ⟨rfl, B⟩
      · have hno : Hid (¬ (vbd F R l ∧ vat F R a ∧ okP p)) := Lib.hid (fun h => hb h.1)
        go_enter Tryd.func4, Tryd.ntmps4
        go_wp2_with fail
        refine (small_yes F R l A c hs _).mono ?_
        rintro e w1 ⟨rfl, b1⟩
        replace q0 := cellB b1 q0
        replace q1 := cellB b1 q1
        replace q2 := cellB b1 q2
        replace hA := rdB b1 hA
        replace hK := hK.below b1 hK.1
        replace B := chain B b1
        clear b1
        go_wp2_with fail
        refine (rCopy_any F R l A c _ (by omega) hA).mono ?_
        rintro e w2 ⟨vo, rfl, hoo, b2⟩
        obtain ⟨Ao, co, rfl, ho, hoo'⟩ := own_parts hoo
        clear hoo hoo'
        replace q0 := cellB b2 q0
        replace q1 := cellB b2 q1
        replace q2 := cellB b2 q2
        replace hA := rdB b2 hA
        replace hK := hK.below b2 hK.1
        replace B := chain B b2
        clear b2
        have bx := box1 w2 (.cells #[.int .i64 F, .int .i64 R, .slice Ao l.length co] 26)
        replace q0 := cellB bx q0
        replace q1 := cellB bx q1
        replace q2 := cellB bx q2
        replace hA := rdB bx hA
        replace ho := rdB bx ho
        replace hK := hK.below bx hK.1
        replace B := chain B bx
        clear bx
        have u0 : (w2.alloc (.cells #[.int .i64 F, .int .i64 R, .slice Ao l.length co] 26)).cell? ⟨w2.heap.size, 0, none⟩ = some (.int .i64 F) := by simp [go_sem]
        have u1 : (w2.alloc (.cells #[.int .i64 F, .int .i64 R, .slice Ao l.length co] 26)).cell? ⟨w2.heap.size, 1, none⟩ = some (.int .i64 R) := by simp [go_sem]
        have u2 : (w2.alloc (.cells #[.int .i64 F, .int .i64 R, .slice Ao l.length co] 26)).cell? ⟨w2.heap.size, 2, none⟩ = some (.slice Ao l.length co) := by simp [go_sem]
        go_wp2_with fail
        refine (bEmpty_as F R hv z hz.out _).mono ?_
        rintro e w3 ⟨ve, rfl, hoe, b3⟩
        obtain ⟨Ae, ce, rfl, he, hoe'⟩ := own_parts hoe
        clear hoe hoe'
        replace q0 := cellB b3 q0
        replace q1 := cellB b3 q1
        replace q2 := cellB b3 q2
        replace u0 := cellB b3 u0
        replace u1 := cellB b3 u1
        replace u2 := cellB b3 u2
        replace hA := rdB b3 hA
        replace ho := rdB b3 ho
        replace hK := hK.below b3 hK.1
        replace B := chain B b3
        clear b3
        have bx := box1 w3 (.cells #[.int .i64 F, .int .i64 R, .slice Ae z.length ce] 26)
        replace q0 := cellB bx q0
        replace q1 := cellB bx q1
        replace q2 := cellB bx q2
        replace u0 := cellB bx u0
        replace u1 := cellB bx u1
        replace u2 := cellB bx u2
        replace hA := rdB bx hA
        replace ho := rdB bx ho
        replace he := rdB bx he
        replace hK := hK.below bx hK.1
        replace B := chain B bx
        clear bx
        have v0 : (w3.alloc (.cells #[.int .i64 F, .int .i64 R, .slice Ae z.length ce] 26)).cell? ⟨w3.heap.size, 0, none⟩ = some (.int .i64 F) := by simp [go_sem]
        have v1 : (w3.alloc (.cells #[.int .i64 F, .int .i64 R, .slice Ae z.length ce] 26)).cell? ⟨w3.heap.size, 1, none⟩ = some (.int .i64 R) := by simp [go_sem]
        have v2 : (w3.alloc (.cells #[.int .i64 F, .int .i64 R, .slice Ae z.length ce] 26)).cell? ⟨w3.heap.size, 2, none⟩ = some (.slice Ae z.length ce) := by simp [go_sem]
        go_wp2_with fail
        refine (put_no F R l A c a p _ (by omega) hno.out hA).mono ?_
        rintro e w4 ⟨rfl, b4⟩
        replace q0 := cellB b4 q0
        replace q1 := cellB b4 q1
        replace q2 := cellB b4 q2
        replace u0 := cellB b4 u0
        replace u1 := cellB b4 u1
        replace u2 := cellB b4 u2
        replace v0 := cellB b4 v0
        replace v1 := cellB b4 v1
        replace v2 := cellB b4 v2
        replace hA := rdB b4 hA
        replace ho := rdB b4 ho
        replace he := rdB b4 he
        replace hK := hK.below b4 hK.1
        replace B := chain B b4
        clear b4
        have bx := box1 w4 (.cells #[.int .i64 0, .int .i64 0, .slice none 0 0] 26)
        replace q0 := cellB bx q0
        replace q1 := cellB bx q1
        replace q2 := cellB bx q2
        replace u0 := cellB bx u0
        replace u1 := cellB bx u1
        replace u2 := cellB bx u2
        replace v0 := cellB bx v0
        replace v1 := cellB bx v1
        replace v2 := cellB bx v2
        replace hA := rdB bx hA
        replace ho := rdB bx ho
        replace he := rdB bx he
        replace hK := hK.below bx hK.1
        replace B := chain B bx
        clear bx
        have t0 : (w4.alloc (.cells #[.int .i64 0, .int .i64 0, .slice none 0 0] 26)).cell? ⟨w4.heap.size, 0, none⟩ = some (.int .i64 0) := by simp [go_sem]
        have t1 : (w4.alloc (.cells #[.int .i64 0, .int .i64 0, .slice none 0 0] 26)).cell? ⟨w4.heap.size, 1, none⟩ = some (.int .i64 0) := by simp [go_sem]
        have t2 : (w4.alloc (.cells #[.int .i64 0, .int .i64 0, .slice none 0 0] 26)).cell? ⟨w4.heap.size, 2, none⟩ = some (.slice none 0 0) := by simp [go_sem]
        go_wp2_with fail
        refine (same_yes F R l Ao A co c _ (by omega) ho hA).mono ?_
        rintro e w5 ⟨rfl, b5⟩
        replace q0 := cellB b5 q0
        replace q1 := cellB b5 q1
        replace q2 := cellB b5 q2
        replace u0 := cellB b5 u0
        replace u1 := cellB b5 u1
        replace u2 := cellB b5 u2
        replace v0 := cellB b5 v0
        replace v1 := cellB b5 v1
        replace v2 := cellB b5 v2
        replace t0 := cellB b5 t0
        replace t1 := cellB b5 t1
        replace t2 := cellB b5 t2
        replace hA := rdB b5 hA
        replace ho := rdB b5 ho
        replace he := rdB b5 he
        replace hK := hK.below b5 hK.1
        replace B := chain B b5
        clear b5
        go_wp2_with fail
        refine (refSize_yes F R hv _).mono ?_
        rintro e w6 ⟨rfl, b6⟩
        replace q0 := cellB b6 q0
        replace q1 := cellB b6 q1
        replace q2 := cellB b6 q2
        replace u0 := cellB b6 u0
        replace u1 := cellB b6 u1
        replace u2 := cellB b6 u2
        replace v0 := cellB b6 v0
        replace v1 := cellB b6 v1
        replace v2 := cellB b6 v2
        replace t0 := cellB b6 t0
        replace t1 := cellB b6 t1
        replace t2 := cellB b6 t2
        replace hA := rdB b6 hA
        replace ho := rdB b6 ho
        replace he := rdB b6 he
        replace hK := hK.below b6 hK.1
        replace B := chain B b6
        clear b6
        go_wp2_with fail
        go_cut [57] (fun s57 wx => s57 = .bool false ∧ Below w6.heap.size w6 wx)
        case first =>
          go_region_with (first | (go_at_call 20; refine (rEmpty_as F R hv z hz.out _).mono ?_; rintro e wE ⟨vE, rfl, hoE, bE⟩; obtain ⟨AE, cE, rfl, hE, hoE'⟩ := own_parts hoE; have v0' := cellB bE v0; have v1' := cellB bE v1; have v2' := cellB bE v2; have he' := rdB bE he) | (go_at_call 15; refine (same_yes F R z Ae AE ce cE _ h100.out he' hE).mono ?_; rintro e wS ⟨rfl, bS⟩))
          all_goals (go_wp2_with fail; (conv => arg 2; simp [Act.put]); go_meet; case rel => exact ⟨rfl, chain ⟨bE.os, bE.tape, bE.output, bE.size, bE.block⟩ bS⟩)
        case rest =>
          obtain ⟨rfl, hR⟩ := hcut
          replace q0 := cellB hR q0
          replace q1 := cellB hR q1
          replace q2 := cellB hR q2
          replace u0 := cellB hR u0
          replace u1 := cellB hR u1
          replace u2 := cellB hR u2
          replace v0 := cellB hR v0
          replace v1 := cellB hR v1
          replace v2 := cellB hR v2
          replace t0 := cellB hR t0
          replace t1 := cellB hR t1
          replace t2 := cellB hR t2
          replace hA := rdB hR hA
          replace ho := rdB hR ho
          replace he := rdB hR he
          replace hK := hK.below hR hK.1
          replace B := chain B hR
          clear hR
          go_wp2_with fail
          refine (rbValid_no F R l A c hb _ (by omega) hA).mono ?_
          rintro e w7 ⟨rfl, b7⟩
          replace q0 := cellB b7 q0
          replace q1 := cellB b7 q1
          replace q2 := cellB b7 q2
          replace u0 := cellB b7 u0
          replace u1 := cellB b7 u1
          replace u2 := cellB b7 u2
          replace v0 := cellB b7 v0
          replace v1 := cellB b7 v1
          replace v2 := cellB b7 v2
          replace t0 := cellB b7 t0
          replace t1 := cellB b7 t1
          replace t2 := cellB b7 t2
          replace hA := rdB b7 hA
          replace ho := rdB b7 ho
          replace he := rdB b7 he
          replace hK := hK.below b7 hK.1
          replace B := chain B b7
          clear b7
          go_wp2_with fail
          refine (same_yes 0 0 [] none none 0 0 _ (by simp) (rd_nil _ _) (rd_nil _ _)).mono ?_
          rintro e w8 ⟨rfl, b8⟩
          replace q0 := cellB b8 q0
          replace q1 := cellB b8 q1
          replace q2 := cellB b8 q2
          replace u0 := cellB b8 u0
          replace u1 := cellB b8 u1
          replace u2 := cellB b8 u2
          replace v0 := cellB b8 v0
          replace v1 := cellB b8 v1
          replace v2 := cellB b8 v2
          replace t0 := cellB b8 t0
          replace t1 := cellB b8 t1
          replace t2 := cellB b8 t2
          replace hA := rdB b8 hA
          replace ho := rdB b8 ho
          replace he := rdB b8 he
          replace hK := hK.below b8 hK.1
          replace B := chain B b8
          clear b8
          go_wp2_with fail
          refine (knownB_any _ hK).mono ?_
          rintro e w9 ⟨rfl, b9⟩
          replace q0 := cellB b9 q0
          replace q1 := cellB b9 q1
          replace q2 := cellB b9 q2
          replace u0 := cellB b9 u0
          replace u1 := cellB b9 u1
          replace u2 := cellB b9 u2
          replace v0 := cellB b9 v0
          replace v1 := cellB b9 v1
          replace v2 := cellB b9 v2
          replace t0 := cellB b9 t0
          replace t1 := cellB b9 t1
          replace t2 := cellB b9 t2
          replace hA := rdB b9 hA
          replace ho := rdB b9 ho
          replace he := rdB b9 he
          replace hK := hK.below b9 hK.1
          replace B := chain B b9
          clear b9
          go_wp2
          go_ret
          exact ⟨rfl, B⟩
    · have hno : Hid (¬ (vbd F R l ∧ vat F R a ∧ okP p)) := Lib.hid (fun h => hv h.1.1)
      go_enter Tryd.func4, Tryd.ntmps4
      go_wp2_with fail
      refine (small_yes F R l A c hs _).mono ?_
      rintro e w1 ⟨rfl, b1⟩
      replace q0 := cellB b1 q0
      replace q1 := cellB b1 q1
      replace q2 := cellB b1 q2
      replace hA := rdB b1 hA
      replace hK := hK.below b1 hK.1
      replace B := chain B b1
      clear b1
      go_wp2_with fail
      refine (rCopy_any F R l A c _ (by omega) hA).mono ?_
      rintro e w2 ⟨vo, rfl, hoo, b2⟩
      obtain ⟨Ao, co, rfl, ho, hoo'⟩ := own_parts hoo
      clear hoo hoo'
      replace q0 := cellB b2 q0
      replace q1 := cellB b2 q1
      replace q2 := cellB b2 q2
      replace hA := rdB b2 hA
      replace hK := hK.below b2 hK.1
      replace B := chain B b2
      clear b2
      have bx := box1 w2 (.cells #[.int .i64 F, .int .i64 R, .slice Ao l.length co] 26)
      replace q0 := cellB bx q0
      replace q1 := cellB bx q1
      replace q2 := cellB bx q2
      replace hA := rdB bx hA
      replace ho := rdB bx ho
      replace hK := hK.below bx hK.1
      replace B := chain B bx
      clear bx
      have u0 : (w2.alloc (.cells #[.int .i64 F, .int .i64 R, .slice Ao l.length co] 26)).cell? ⟨w2.heap.size, 0, none⟩ = some (.int .i64 F) := by simp [go_sem]
      have u1 : (w2.alloc (.cells #[.int .i64 F, .int .i64 R, .slice Ao l.length co] 26)).cell? ⟨w2.heap.size, 1, none⟩ = some (.int .i64 R) := by simp [go_sem]
      have u2 : (w2.alloc (.cells #[.int .i64 F, .int .i64 R, .slice Ao l.length co] 26)).cell? ⟨w2.heap.size, 2, none⟩ = some (.slice Ao l.length co) := by simp [go_sem]
      go_wp2_with fail
      refine (bEmpty_no F R hv _).mono ?_
      rintro e w3 ⟨rfl, b3⟩
      replace q0 := cellB b3 q0
      replace q1 := cellB b3 q1
      replace q2 := cellB b3 q2
      replace u0 := cellB b3 u0
      replace u1 := cellB b3 u1
      replace u2 := cellB b3 u2
      replace hA := rdB b3 hA
      replace ho := rdB b3 ho
      replace hK := hK.below b3 hK.1
      replace B := chain B b3
      clear b3
      have bx := box1 w3 (.cells #[.int .i64 0, .int .i64 0, .slice none 0 0] 26)
      replace q0 := cellB bx q0
      replace q1 := cellB bx q1
      replace q2 := cellB bx q2
      replace u0 := cellB bx u0
      replace u1 := cellB bx u1
      replace u2 := cellB bx u2
      replace hA := rdB bx hA
      replace ho := rdB bx ho
      replace hK := hK.below bx hK.1
      replace B := chain B bx
      clear bx
      have v0 : (w3.alloc (.cells #[.int .i64 0, .int .i64 0, .slice none 0 0] 26)).cell? ⟨w3.heap.size, 0, none⟩ = some (.int .i64 0) := by simp [go_sem]
      have v1 : (w3.alloc (.cells #[.int .i64 0, .int .i64 0, .slice none 0 0] 26)).cell? ⟨w3.heap.size, 1, none⟩ = some (.int .i64 0) := by simp [go_sem]
      have v2 : (w3.alloc (.cells #[.int .i64 0, .int .i64 0, .slice none 0 0] 26)).cell? ⟨w3.heap.size, 2, none⟩ = some (.slice none 0 0) := by simp [go_sem]
      go_wp2_with fail
      refine (put_no F R l A c a p _ (by omega) hno.out hA).mono ?_
      rintro e w4 ⟨rfl, b4⟩
      replace q0 := cellB b4 q0
      replace q1 := cellB b4 q1
      replace q2 := cellB b4 q2
      replace u0 := cellB b4 u0
      replace u1 := cellB b4 u1
      replace u2 := cellB b4 u2
      replace v0 := cellB b4 v0
      replace v1 := cellB b4 v1
      replace v2 := cellB b4 v2
      replace hA := rdB b4 hA
      replace ho := rdB b4 ho
      replace hK := hK.below b4 hK.1
      replace B := chain B b4
      clear b4
      have bx := box1 w4 (.cells #[.int .i64 0, .int .i64 0, .slice none 0 0] 26)
      replace q0 := cellB bx q0
      replace q1 := cellB bx q1
      replace q2 := cellB bx q2
      replace u0 := cellB bx u0
      replace u1 := cellB bx u1
      replace u2 := cellB bx u2
      replace v0 := cellB bx v0
      replace v1 := cellB bx v1
      replace v2 := cellB bx v2
      replace hA := rdB bx hA
      replace ho := rdB bx ho
      replace hK := hK.below bx hK.1
      replace B := chain B bx
      clear bx
      have t0 : (w4.alloc (.cells #[.int .i64 0, .int .i64 0, .slice none 0 0] 26)).cell? ⟨w4.heap.size, 0, none⟩ = some (.int .i64 0) := by simp [go_sem]
      have t1 : (w4.alloc (.cells #[.int .i64 0, .int .i64 0, .slice none 0 0] 26)).cell? ⟨w4.heap.size, 1, none⟩ = some (.int .i64 0) := by simp [go_sem]
      have t2 : (w4.alloc (.cells #[.int .i64 0, .int .i64 0, .slice none 0 0] 26)).cell? ⟨w4.heap.size, 2, none⟩ = some (.slice none 0 0) := by simp [go_sem]
      go_wp2_with fail
      refine (same_yes F R l Ao A co c _ (by omega) ho hA).mono ?_
      rintro e w5 ⟨rfl, b5⟩
      replace q0 := cellB b5 q0
      replace q1 := cellB b5 q1
      replace q2 := cellB b5 q2
      replace u0 := cellB b5 u0
      replace u1 := cellB b5 u1
      replace u2 := cellB b5 u2
      replace v0 := cellB b5 v0
      replace v1 := cellB b5 v1
      replace v2 := cellB b5 v2
      replace t0 := cellB b5 t0
      replace t1 := cellB b5 t1
      replace t2 := cellB b5 t2
      replace hA := rdB b5 hA
      replace ho := rdB b5 ho
      replace hK := hK.below b5 hK.1
      replace B := chain B b5
      clear b5
      go_wp2_with fail
      refine (refSize_no F R hv _).mono ?_
      rintro e w6 ⟨rfl, b6⟩
      replace q0 := cellB b6 q0
      replace q1 := cellB b6 q1
      replace q2 := cellB b6 q2
      replace u0 := cellB b6 u0
      replace u1 := cellB b6 u1
      replace u2 := cellB b6 u2
      replace v0 := cellB b6 v0
      replace v1 := cellB b6 v1
      replace v2 := cellB b6 v2
      replace t0 := cellB b6 t0
      replace t1 := cellB b6 t1
      replace t2 := cellB b6 t2
      replace hA := rdB b6 hA
      replace ho := rdB b6 ho
      replace hK := hK.below b6 hK.1
      replace B := chain B b6
      clear b6
      go_wp2_with fail
      refine (same_yes 0 0 [] none none 0 0 _ (by simp) (rd_nil _ _) (rd_nil _ _)).mono ?_
      rintro e w7 ⟨rfl, b7⟩
      replace q0 := cellB b7 q0
      replace q1 := cellB b7 q1
      replace q2 := cellB b7 q2
      replace u0 := cellB b7 u0
      replace u1 := cellB b7 u1
      replace u2 := cellB b7 u2
      replace v0 := cellB b7 v0
      replace v1 := cellB b7 v1
      replace v2 := cellB b7 v2
      replace t0 := cellB b7 t0
      replace t1 := cellB b7 t1
      replace t2 := cellB b7 t2
      replace hA := rdB b7 hA
      replace ho := rdB b7 ho
      replace hK := hK.below b7 hK.1
      replace B := chain B b7
      clear b7
      go_wp2_with fail
      refine (rbValid_no F R l A c (fun h => hv h.1) _ (by omega) hA).mono ?_
      rintro e w8 ⟨rfl, b8⟩
      replace q0 := cellB b8 q0
      replace q1 := cellB b8 q1
      replace q2 := cellB b8 q2
      replace u0 := cellB b8 u0
      replace u1 := cellB b8 u1
      replace u2 := cellB b8 u2
      replace v0 := cellB b8 v0
      replace v1 := cellB b8 v1
      replace v2 := cellB b8 v2
      replace t0 := cellB b8 t0
      replace t1 := cellB b8 t1
      replace t2 := cellB b8 t2
      replace hA := rdB b8 hA
      replace ho := rdB b8 ho
      replace hK := hK.below b8 hK.1
      replace B := chain B b8
      clear b8
      go_wp2_with fail
      refine (same_yes 0 0 [] none none 0 0 _ (by simp) (rd_nil _ _) (rd_nil _ _)).mono ?_
      rintro e w9 ⟨rfl, b9⟩
      replace q0 := cellB b9 q0
      replace q1 := cellB b9 q1
      replace q2 := cellB b9 q2
      replace u0 := cellB b9 u0
      replace u1 := cellB b9 u1
      replace u2 := cellB b9 u2
      replace v0 := cellB b9 v0
      replace v1 := cellB b9 v1
      replace v2 := cellB b9 v2
      replace t0 := cellB b9 t0
      replace t1 := cellB b9 t1
      replace t2 := cellB b9 t2
      replace hA := rdB b9 hA
      replace ho := rdB b9 ho
      replace hK := hK.below b9 hK.1
      replace B := chain B b9
      clear b9
      go_wp2_with fail
      refine (knownB_any _ hK).mono ?_
      rintro e w10 ⟨rfl, b10⟩
      replace q0 := cellB b10 q0
      replace q1 := cellB b10 q1
      replace q2 := cellB b10 q2
      replace u0 := cellB b10 u0
      replace u1 := cellB b10 u1
      replace u2 := cellB b10 u2
      replace v0 := cellB b10 v0
      replace v1 := cellB b10 v1
      replace v2 := cellB b10 v2
      replace t0 := cellB b10 t0
      replace t1 := cellB b10 t1
      replace t2 := cellB b10 t2
      replace hA := rdB b10 hA
      replace ho := rdB b10 ho
      replace hK := hK.below b10 hK.1
      replace B := chain B b10
      clear b10
      go_wp2
      go_ret
      exact ⟨rfl, B⟩
  · go_enter Tryd.func4, Tryd.ntmps4
    go_wp2_with fail
    refine (small_no F R l A c (by omega) _).mono ?_
    rintro e w1 ⟨rfl, b1⟩
    replace q0 := cellB b1 q0
    replace q1 := cellB b1 q1
    replace q2 := cellB b1 q2
    replace hA := rdB b1 hA
    replace hK := hK.below b1 hK.1
    replace B := chain B b1
    clear b1
    go_wp2_with fail
    refine (knownB_any _ hK).mono ?_
    rintro e w2 ⟨rfl, b2⟩
    replace q0 := cellB b2 q0
    replace q1 := cellB b2 q1
    replace q2 := cellB b2 q2
    replace hA := rdB b2 hA
    replace hK := hK.below b2 hK.1
    replace B := chain B b2
    clear b2
    go_wp2
    go_ret
    exact ⟨rfl, B⟩

end Go.Proofs.YtolohfkenglpcaaDoor
