/- The theorem of boards: it answers true, and changes nothing that lay before. -/
import Derived.Test.YtolohfkenglpcaaDoorBkE
import Derived.Test.YtolohfkenglpcaaDoorSqJ
import Derived.Lib.QuietBelow
import Derived.Deep.DeepCutAuto
namespace Go.Proofs.YtolohfkenglpcaaDoor
open Go.RowKit

set_option maxRecDepth 100000 in
set_option maxHeartbeats 4000000 in
theorem law_bholds (F R : Int) (l : List Int) (A : Option Addr) (c : Nat) (a p q : Int) (s : ByteArray) (w : World) (hcap : l.length ≤ c) (hA : RdP w w.heap.size A l c) (hK : Kinds w) :
    Calls Tryd.prog 8 #[.agg #[.int .i64 F, .int .i64 R, .slice A l.length c], .int .i64 a, .int .i8 p, .int .i8 q, .string s] w fun e w' => e = .returned (.bool true) ∧ Below w.heap.size w w' := by
  have B : Below w.heap.size w (w.alloc (.cells #[.int .i64 F, .int .i64 R, .slice A l.length c] 26)) := box1 _ _
  replace hA := rdB B hA
  replace hK := hK.below B hK.1
  replace hcap := Lib.hid hcap
  have q0 : (w.alloc (.cells #[.int .i64 F, .int .i64 R, .slice A l.length c] 26)).cell? ⟨w.heap.size, 0, none⟩ = some (.int .i64 F) := by simp [go_sem]
  have q1 : (w.alloc (.cells #[.int .i64 F, .int .i64 R, .slice A l.length c] 26)).cell? ⟨w.heap.size, 1, none⟩ = some (.int .i64 R) := by simp [go_sem]
  have q2 : (w.alloc (.cells #[.int .i64 F, .int .i64 R, .slice A l.length c] 26)).cell? ⟨w.heap.size, 2, none⟩ = some (.slice A l.length c) := by simp [go_sem]
  by_cases hs : l.length ≤ 70
  · by_cases hb : vbd F R l
    · by_cases ha : vat F R a
      · by_cases hp : okP p
        · by_cases hq : okP q
          · by_cases hz : s.size ≤ 200
            · have hz' : decide ((200 : Int) < (s.size : Int)) = false := decide_eq_false (by omega)
              replace hz := Lib.hid hz
              obtain ⟨t, ht⟩ : ∃ t, t = textB F.toNat R.toNat l := ⟨_, rfl⟩
              replace ht := Lib.hid ht
              have hl64 := Lib.hid (vbd_len hb)
              go_enter Tryd.func8, Tryd.ntmps8
              go_wp2_with fail
              refine (small_yes F R l A c hs _).mono ?_
              rintro e w1 ⟨rfl, b1⟩
              replace q0 := cellB b1 q0
              replace q1 := cellB b1 q1
              replace q2 := cellB b1 q2
              replace hA := rdB b1 hA
              replace hK := hK.below b1 hK.1
              replace B := chain B b1
              clear b1
              go_wp2_with fail
              refine (rbValid_yes F R l A c hb _ hA).mono ?_
              rintro e w2 ⟨rfl, b2⟩
              replace q0 := cellB b2 q0
              replace q1 := cellB b2 q1
              replace q2 := cellB b2 q2
              replace hA := rdB b2 hA
              replace hK := hK.below b2 hK.1
              replace B := chain B b2
              clear b2
              go_wp2_with fail
              refine (refValid_yes F R a ha _).mono ?_
              rintro e w3 ⟨rfl, b3⟩
              replace q0 := cellB b3 q0
              replace q1 := cellB b3 q1
              replace q2 := cellB b3 q2
              replace hA := rdB b3 hA
              replace hK := hK.below b3 hK.1
              replace B := chain B b3
              clear b3
              go_wp2_with fail
              refine (rpValid_yes p hp _).mono ?_
              rintro e w4 ⟨rfl, rfl⟩
              go_wp2_with fail
              refine (rpValid_yes q hq _).mono ?_
              rintro e w5 ⟨rfl, rfl⟩
              go_wp2_with fail
              refine (text_as F R l t ht.out A c _ hb hcap.out hA hK).mono ?_
              rintro e w6 ⟨rfl, b6⟩
              replace q0 := cellB b6 q0
              replace q1 := cellB b6 q1
              replace q2 := cellB b6 q2
              replace hA := rdB b6 hA
              replace hK := hK.below b6 hK.1
              replace B := chain B b6
              clear b6
              go_wp2_with fail
              refine (parse_back F R l t ht.out hb _ hK).mono ?_
              rintro e w7 ⟨v1, rfl, ho1, b7⟩
              obtain ⟨A1, c1, rfl, hc1, r1⟩ := RdP.own ho1
              clear ho1
              replace hc1 := Lib.hid hc1
              replace q0 := cellB b7 q0
              replace q1 := cellB b7 q1
              replace q2 := cellB b7 q2
              replace hA := rdB b7 hA
              replace hK := hK.below b7 hK.1
              replace B := chain B b7
              clear b7
              have bx := box1 w7 (.cells #[.int .i64 F, .int .i64 R, .slice A1 l.length c1] 26)
              replace q0 := cellB bx q0
              replace q1 := cellB bx q1
              replace q2 := cellB bx q2
              replace hA := rdB bx hA
              replace r1 := rdB bx r1
              replace hK := hK.below bx hK.1
              replace B := chain B bx
              clear bx
              have u0 : (w7.alloc (.cells #[.int .i64 F, .int .i64 R, .slice A1 l.length c1] 26)).cell? ⟨w7.heap.size, 0, none⟩ = some (.int .i64 F) := by simp [go_sem]
              have u1 : (w7.alloc (.cells #[.int .i64 F, .int .i64 R, .slice A1 l.length c1] 26)).cell? ⟨w7.heap.size, 1, none⟩ = some (.int .i64 R) := by simp [go_sem]
              have u2 : (w7.alloc (.cells #[.int .i64 F, .int .i64 R, .slice A1 l.length c1] 26)).cell? ⟨w7.heap.size, 2, none⟩ = some (.slice A1 l.length c1) := by simp [go_sem]
              go_wp2_with fail
              refine (same_yes F R l A1 A c1 c _ (by omega) r1 hA).mono ?_
              rintro e w8 ⟨rfl, b8⟩
              replace q0 := cellB b8 q0
              replace q1 := cellB b8 q1
              replace q2 := cellB b8 q2
              replace u0 := cellB b8 u0
              replace u1 := cellB b8 u1
              replace u2 := cellB b8 u2
              replace hA := rdB b8 hA
              replace r1 := rdB b8 r1
              replace hK := hK.below b8 hK.1
              replace B := chain B b8
              clear b8
              clear u0 u1 u2 r1
              cases hps : parseB s.data.toList with
              | none =>
                replace hps := Lib.hid hps
                go_wp2_with fail
                refine (parse_any' s _ hz.out hK).mono ?_
                intro e w9 hR
                rw [hps.out] at hR
                obtain ⟨rfl, b9⟩ := hR
                replace q0 := cellB b9 q0
                replace q1 := cellB b9 q1
                replace q2 := cellB b9 q2
                replace hA := rdB b9 hA
                replace hK := hK.below b9 hK.1
                replace B := chain B b9
                clear b9
                have bx := box1 w9 (.cells #[.int .i64 0, .int .i64 0, .slice none 0 0] 26)
                replace q0 := cellB bx q0
                replace q1 := cellB bx q1
                replace q2 := cellB bx q2
                replace hA := rdB bx hA
                replace hK := hK.below bx hK.1
                replace B := chain B bx
                clear bx
                have u0 : (w9.alloc (.cells #[.int .i64 0, .int .i64 0, .slice none 0 0] 26)).cell? ⟨w9.heap.size, 0, none⟩ = some (.int .i64 0) := by simp [go_sem]
                have u1 : (w9.alloc (.cells #[.int .i64 0, .int .i64 0, .slice none 0 0] 26)).cell? ⟨w9.heap.size, 1, none⟩ = some (.int .i64 0) := by simp [go_sem]
                have u2 : (w9.alloc (.cells #[.int .i64 0, .int .i64 0, .slice none 0 0] 26)).cell? ⟨w9.heap.size, 2, none⟩ = some (.slice none 0 0) := by simp [go_sem]
                obtain ⟨N, rfl⟩ : ∃ N : Nat, a = (N : Int) := ⟨a.toNat, by have := ha.2.1; omega⟩
                have hN : N < l.length := by have := hb.2.1; have := ha.2.2; omega
                obtain ⟨tt, htt⟩ := bool_of (p = q)
                have eq1 : (p == q) = tt := by rw [Bool.eq_iff_iff, htt]; simp
                have rest0 := put_rest q p l N hN hl64.out
                have here0 := put_here q p l N hN hl64.out tt htt
                have one0 : IntKind.u64.wrap ((2 : Int) ^ min N 64) = ((bitN N : Nat) : Int) := by have e := pow_wrap (N : Int) (by have := hl64.out; omega); rw [Nat.min_eq_left (by have := hl64.out; omega)]; simpa using e
                obtain ⟨y, hy⟩ : ∃ y, y = l.set N p := ⟨_, rfl⟩
                have hvy : vbd F R y := by rw [hy]; exact vbd_set hb hp hN
                have hly : y.length = l.length := by rw [hy, List.length_set]
                rw [← hy] at rest0 here0
                have wb0 := and_none (P := sdP 1) (Q := sdP (-1)) (l := y) (vbd_len hvy) sd_wb
                have wn0 := and_none (P := sdP 1) (Q := eqP 0) (l := y) (vbd_len hvy) (fun x => sd_zero 1 x (by decide))
                have bn0 := and_none (P := sdP (-1)) (Q := eqP 0) (l := y) (vbd_len hvy) (fun x => sd_zero (-1) x (by decide))
                have all0 := or_all y (vbd_len hvy)
                have hfl : fullN y.length = fullN (F * R).toNat := by rw [show (F * R).toNat = y.length by have := hvy.2.1; omega]
                rw [hfl] at all0
                obtain ⟨X, hX⟩ : ∃ Z, Z = setP (eqP q) y := ⟨_, rfl⟩
                obtain ⟨Y, hY⟩ : ∃ Z, Z = setP (eqP q) l := ⟨_, rfl⟩
                obtain ⟨Wh, hWh⟩ : ∃ Z, Z = setP (sdP 1) y := ⟨_, rfl⟩
                obtain ⟨Bl, hBl⟩ : ∃ Z, Z = setP (sdP (-1)) y := ⟨_, rfl⟩
                obtain ⟨No, hNo⟩ : ∃ Z, Z = setP (eqP 0) y := ⟨_, rfl⟩
                obtain ⟨O, hO⟩ : ∃ Z, Z = bitN N := ⟨_, rfl⟩
                obtain ⟨Fu, hFu⟩ : ∃ Z, Z = fullN (F * R).toNat := ⟨_, rfl⟩
                rw [← hX, ← hY, ← hO] at rest0
                rw [← hX, ← hO] at here0
                rw [← hO] at one0
                rw [← hWh, ← hBl] at wb0
                rw [← hWh, ← hNo] at wn0
                rw [← hBl, ← hNo] at bn0
                rw [← hWh, ← hBl, ← hNo, ← hFu] at all0
                have hne : (bits .andNot .u64 (X : Int) (O : Int) != bits .andNot .u64 (Y : Int) (O : Int)) = false := by rw [rest0]; simp
                have all1 : (bits .or .u64 (bits .or .u64 (Wh : Int) (Bl : Int)) (No : Int) == (Fu : Int)) = true := by rw [all0]; simp
                replace hX := Lib.hid hX
                replace hY := Lib.hid hY
                replace hWh := Lib.hid hWh
                replace hBl := Lib.hid hBl
                replace hNo := Lib.hid hNo
                replace hFu := Lib.hid hFu
                replace hy := Lib.hid hy
                replace hvy := Lib.hid hvy
                have hsz : Hid (vsz F R) := Lib.hid hb.1
                have h100 : Hid (y.length ≤ 100000) := Lib.hid (by omega)
                clear rest0 all0 hfl hO hly htt hN
                go_wp2_with fail
                refine (put_as F R l A c N p y hy.out _ hb ha hp hA).mono ?_
                rintro e w10 ⟨vp, rfl, hop, b10⟩
                obtain ⟨Ap, cp, rfl, _, hr⟩ := RdP.own hop
                clear hop
                replace q0 := cellB b10 q0
                replace q1 := cellB b10 q1
                replace q2 := cellB b10 q2
                replace u0 := cellB b10 u0
                replace u1 := cellB b10 u1
                replace u2 := cellB b10 u2
                replace hA := rdB b10 hA
                replace hK := hK.below b10 hK.1
                replace B := chain B b10
                clear b10
                have bx := box1 w10 (.cells #[.int .i64 F, .int .i64 R, .slice Ap y.length cp] 26)
                replace q0 := cellB bx q0
                replace q1 := cellB bx q1
                replace q2 := cellB bx q2
                replace u0 := cellB bx u0
                replace u1 := cellB bx u1
                replace u2 := cellB bx u2
                replace hA := rdB bx hA
                replace hr := rdB bx hr
                replace hK := hK.below bx hK.1
                replace B := chain B bx
                clear bx
                have t0 : (w10.alloc (.cells #[.int .i64 F, .int .i64 R, .slice Ap y.length cp] 26)).cell? ⟨w10.heap.size, 0, none⟩ = some (.int .i64 F) := by simp [go_sem]
                have t1 : (w10.alloc (.cells #[.int .i64 F, .int .i64 R, .slice Ap y.length cp] 26)).cell? ⟨w10.heap.size, 1, none⟩ = some (.int .i64 R) := by simp [go_sem]
                have t2 : (w10.alloc (.cells #[.int .i64 F, .int .i64 R, .slice Ap y.length cp] 26)).cell? ⟨w10.heap.size, 2, none⟩ = some (.slice Ap y.length cp) := by simp [go_sem]
                go_wp2_with fail
                refine (find_as' F R y Ap cp q X hX.out _ hvy.out hq hr).mono ?_
                rintro e w11 ⟨rfl, b11⟩
                replace q0 := cellB b11 q0
                replace q1 := cellB b11 q1
                replace q2 := cellB b11 q2
                replace u0 := cellB b11 u0
                replace u1 := cellB b11 u1
                replace u2 := cellB b11 u2
                replace t0 := cellB b11 t0
                replace t1 := cellB b11 t1
                replace t2 := cellB b11 t2
                replace hA := rdB b11 hA
                replace hr := rdB b11 hr
                replace hK := hK.below b11 hK.1
                replace B := chain B b11
                clear b11
                go_wp2_with fail
                refine (find_as' F R l A c q Y hY.out _ hb hq hA).mono ?_
                rintro e w12 ⟨rfl, b12⟩
                replace q0 := cellB b12 q0
                replace q1 := cellB b12 q1
                replace q2 := cellB b12 q2
                replace u0 := cellB b12 u0
                replace u1 := cellB b12 u1
                replace u2 := cellB b12 u2
                replace t0 := cellB b12 t0
                replace t1 := cellB b12 t1
                replace t2 := cellB b12 t2
                replace hA := rdB b12 hA
                replace hr := rdB b12 hr
                replace hK := hK.below b12 hK.1
                replace B := chain B b12
                clear b12
                go_wp2_with fail
                refine (sides_as F R y Ap cp Wh Bl hWh.out hBl.out _ hvy.out hr).mono ?_
                rintro e w13 ⟨rfl, b13⟩
                replace q0 := cellB b13 q0
                replace q1 := cellB b13 q1
                replace q2 := cellB b13 q2
                replace u0 := cellB b13 u0
                replace u1 := cellB b13 u1
                replace u2 := cellB b13 u2
                replace t0 := cellB b13 t0
                replace t1 := cellB b13 t1
                replace t2 := cellB b13 t2
                replace hA := rdB b13 hA
                replace hr := rdB b13 hr
                replace hK := hK.below b13 hK.1
                replace B := chain B b13
                clear b13
                go_wp2_with fail
                refine (find_as' F R y Ap cp 0 No hNo.out _ hvy.out ⟨by decide, by decide⟩ hr).mono ?_
                rintro e w14 ⟨rfl, b14⟩
                replace q0 := cellB b14 q0
                replace q1 := cellB b14 q1
                replace q2 := cellB b14 q2
                replace u0 := cellB b14 u0
                replace u1 := cellB b14 u1
                replace u2 := cellB b14 u2
                replace t0 := cellB b14 t0
                replace t1 := cellB b14 t1
                replace t2 := cellB b14 t2
                replace hA := rdB b14 hA
                replace hr := rdB b14 hr
                replace hK := hK.below b14 hK.1
                replace B := chain B b14
                clear b14
                go_wp2_with fail
                refine (refAll_any F R hsz.out _).mono ?_
                rintro e w15 ⟨rfl, b15⟩
                rw [← hFu.out]
                replace q0 := cellB b15 q0
                replace q1 := cellB b15 q1
                replace q2 := cellB b15 q2
                replace u0 := cellB b15 u0
                replace u1 := cellB b15 u1
                replace u2 := cellB b15 u2
                replace t0 := cellB b15 t0
                replace t1 := cellB b15 t1
                replace t2 := cellB b15 t2
                replace hA := rdB b15 hA
                replace hr := rdB b15 hr
                replace hK := hK.below b15 hK.1
                replace B := chain B b15
                clear b15
                go_wp2_with fail
                refine (knownB_any _ hK).mono ?_
                rintro e w16 ⟨rfl, b16⟩
                replace q0 := cellB b16 q0
                replace q1 := cellB b16 q1
                replace q2 := cellB b16 q2
                replace u0 := cellB b16 u0
                replace u1 := cellB b16 u1
                replace u2 := cellB b16 u2
                replace t0 := cellB b16 t0
                replace t1 := cellB b16 t1
                replace t2 := cellB b16 t2
                replace hA := rdB b16 hA
                replace hr := rdB b16 hr
                replace hK := hK.below b16 hK.1
                replace B := chain B b16
                clear b16
                go_wp2
                go_ret
                exact ⟨rfl, B⟩
              | some st =>
                obtain ⟨f, r, ps⟩ := st
                have hps2 := read_back hps
                have hl2 := Lib.hid (vbd_len hps2.1)
                replace hps2 := Lib.hid hps2
                replace hps := Lib.hid hps
                go_wp2_with fail
                refine (parse_any' s _ hz.out hK).mono ?_
                intro e w9 hR
                rw [hps.out] at hR
                obtain ⟨v2, rfl, ho2, b9⟩ := hR
                obtain ⟨A2, c2, rfl, hc2, r2⟩ := RdP.own ho2
                clear ho2
                replace hc2 := Lib.hid hc2
                replace q0 := cellB b9 q0
                replace q1 := cellB b9 q1
                replace q2 := cellB b9 q2
                replace hA := rdB b9 hA
                replace hK := hK.below b9 hK.1
                replace B := chain B b9
                clear b9
                have bx := box1 w9 (.cells #[.int .i64 f, .int .i64 r, .slice A2 ps.length c2] 26)
                replace q0 := cellB bx q0
                replace q1 := cellB bx q1
                replace q2 := cellB bx q2
                replace hA := rdB bx hA
                replace r2 := rdB bx r2
                replace hK := hK.below bx hK.1
                replace B := chain B bx
                clear bx
                have u0 : (w9.alloc (.cells #[.int .i64 f, .int .i64 r, .slice A2 ps.length c2] 26)).cell? ⟨w9.heap.size, 0, none⟩ = some (.int .i64 f) := by simp [go_sem]
                have u1 : (w9.alloc (.cells #[.int .i64 f, .int .i64 r, .slice A2 ps.length c2] 26)).cell? ⟨w9.heap.size, 1, none⟩ = some (.int .i64 r) := by simp [go_sem]
                have u2 : (w9.alloc (.cells #[.int .i64 f, .int .i64 r, .slice A2 ps.length c2] 26)).cell? ⟨w9.heap.size, 2, none⟩ = some (.slice A2 ps.length c2) := by simp [go_sem]
                go_wp2_with fail
                refine (text_of_read f r ps s hps.out A2 c2 _ hc2.out r2 hK).mono ?_
                rintro e w10 ⟨rfl, b10⟩
                replace q0 := cellB b10 q0
                replace q1 := cellB b10 q1
                replace q2 := cellB b10 q2
                replace u0 := cellB b10 u0
                replace u1 := cellB b10 u1
                replace u2 := cellB b10 u2
                replace hA := rdB b10 hA
                replace r2 := rdB b10 r2
                replace hK := hK.below b10 hK.1
                replace B := chain B b10
                clear b10
                clear u0 u1 u2 r2
                obtain ⟨N, rfl⟩ : ∃ N : Nat, a = (N : Int) := ⟨a.toNat, by have := ha.2.1; omega⟩
                have hN : N < l.length := by have := hb.2.1; have := ha.2.2; omega
                obtain ⟨tt, htt⟩ := bool_of (p = q)
                have eq1 : (p == q) = tt := by rw [Bool.eq_iff_iff, htt]; simp
                have rest0 := put_rest q p l N hN hl64.out
                have here0 := put_here q p l N hN hl64.out tt htt
                have one0 : IntKind.u64.wrap ((2 : Int) ^ min N 64) = ((bitN N : Nat) : Int) := by have e := pow_wrap (N : Int) (by have := hl64.out; omega); rw [Nat.min_eq_left (by have := hl64.out; omega)]; simpa using e
                obtain ⟨y, hy⟩ : ∃ y, y = l.set N p := ⟨_, rfl⟩
                have hvy : vbd F R y := by rw [hy]; exact vbd_set hb hp hN
                have hly : y.length = l.length := by rw [hy, List.length_set]
                rw [← hy] at rest0 here0
                have wb0 := and_none (P := sdP 1) (Q := sdP (-1)) (l := y) (vbd_len hvy) sd_wb
                have wn0 := and_none (P := sdP 1) (Q := eqP 0) (l := y) (vbd_len hvy) (fun x => sd_zero 1 x (by decide))
                have bn0 := and_none (P := sdP (-1)) (Q := eqP 0) (l := y) (vbd_len hvy) (fun x => sd_zero (-1) x (by decide))
                have all0 := or_all y (vbd_len hvy)
                have hfl : fullN y.length = fullN (F * R).toNat := by rw [show (F * R).toNat = y.length by have := hvy.2.1; omega]
                rw [hfl] at all0
                obtain ⟨X, hX⟩ : ∃ Z, Z = setP (eqP q) y := ⟨_, rfl⟩
                obtain ⟨Y, hY⟩ : ∃ Z, Z = setP (eqP q) l := ⟨_, rfl⟩
                obtain ⟨Wh, hWh⟩ : ∃ Z, Z = setP (sdP 1) y := ⟨_, rfl⟩
                obtain ⟨Bl, hBl⟩ : ∃ Z, Z = setP (sdP (-1)) y := ⟨_, rfl⟩
                obtain ⟨No, hNo⟩ : ∃ Z, Z = setP (eqP 0) y := ⟨_, rfl⟩
                obtain ⟨O, hO⟩ : ∃ Z, Z = bitN N := ⟨_, rfl⟩
                obtain ⟨Fu, hFu⟩ : ∃ Z, Z = fullN (F * R).toNat := ⟨_, rfl⟩
                rw [← hX, ← hY, ← hO] at rest0
                rw [← hX, ← hO] at here0
                rw [← hO] at one0
                rw [← hWh, ← hBl] at wb0
                rw [← hWh, ← hNo] at wn0
                rw [← hBl, ← hNo] at bn0
                rw [← hWh, ← hBl, ← hNo, ← hFu] at all0
                have hne : (bits .andNot .u64 (X : Int) (O : Int) != bits .andNot .u64 (Y : Int) (O : Int)) = false := by rw [rest0]; simp
                have all1 : (bits .or .u64 (bits .or .u64 (Wh : Int) (Bl : Int)) (No : Int) == (Fu : Int)) = true := by rw [all0]; simp
                replace hX := Lib.hid hX
                replace hY := Lib.hid hY
                replace hWh := Lib.hid hWh
                replace hBl := Lib.hid hBl
                replace hNo := Lib.hid hNo
                replace hFu := Lib.hid hFu
                replace hy := Lib.hid hy
                replace hvy := Lib.hid hvy
                have hsz : Hid (vsz F R) := Lib.hid hb.1
                have h100 : Hid (y.length ≤ 100000) := Lib.hid (by omega)
                clear rest0 all0 hfl hO hly htt hN
                go_wp2_with fail
                refine (put_as F R l A c N p y hy.out _ hb ha hp hA).mono ?_
                rintro e w11 ⟨vp, rfl, hop, b11⟩
                obtain ⟨Ap, cp, rfl, _, hr⟩ := RdP.own hop
                clear hop
                replace q0 := cellB b11 q0
                replace q1 := cellB b11 q1
                replace q2 := cellB b11 q2
                replace hA := rdB b11 hA
                replace hK := hK.below b11 hK.1
                replace B := chain B b11
                clear b11
                have bx := box1 w11 (.cells #[.int .i64 F, .int .i64 R, .slice Ap y.length cp] 26)
                replace q0 := cellB bx q0
                replace q1 := cellB bx q1
                replace q2 := cellB bx q2
                replace hA := rdB bx hA
                replace hr := rdB bx hr
                replace hK := hK.below bx hK.1
                replace B := chain B bx
                clear bx
                have t0 : (w11.alloc (.cells #[.int .i64 F, .int .i64 R, .slice Ap y.length cp] 26)).cell? ⟨w11.heap.size, 0, none⟩ = some (.int .i64 F) := by simp [go_sem]
                have t1 : (w11.alloc (.cells #[.int .i64 F, .int .i64 R, .slice Ap y.length cp] 26)).cell? ⟨w11.heap.size, 1, none⟩ = some (.int .i64 R) := by simp [go_sem]
                have t2 : (w11.alloc (.cells #[.int .i64 F, .int .i64 R, .slice Ap y.length cp] 26)).cell? ⟨w11.heap.size, 2, none⟩ = some (.slice Ap y.length cp) := by simp [go_sem]
                go_wp2_with fail
                refine (find_as' F R y Ap cp q X hX.out _ hvy.out hq hr).mono ?_
                rintro e w12 ⟨rfl, b12⟩
                replace q0 := cellB b12 q0
                replace q1 := cellB b12 q1
                replace q2 := cellB b12 q2
                replace t0 := cellB b12 t0
                replace t1 := cellB b12 t1
                replace t2 := cellB b12 t2
                replace hA := rdB b12 hA
                replace hr := rdB b12 hr
                replace hK := hK.below b12 hK.1
                replace B := chain B b12
                clear b12
                go_wp2_with fail
                refine (find_as' F R l A c q Y hY.out _ hb hq hA).mono ?_
                rintro e w13 ⟨rfl, b13⟩
                replace q0 := cellB b13 q0
                replace q1 := cellB b13 q1
                replace q2 := cellB b13 q2
                replace t0 := cellB b13 t0
                replace t1 := cellB b13 t1
                replace t2 := cellB b13 t2
                replace hA := rdB b13 hA
                replace hr := rdB b13 hr
                replace hK := hK.below b13 hK.1
                replace B := chain B b13
                clear b13
                go_wp2_with fail
                refine (sides_as F R y Ap cp Wh Bl hWh.out hBl.out _ hvy.out hr).mono ?_
                rintro e w14 ⟨rfl, b14⟩
                replace q0 := cellB b14 q0
                replace q1 := cellB b14 q1
                replace q2 := cellB b14 q2
                replace t0 := cellB b14 t0
                replace t1 := cellB b14 t1
                replace t2 := cellB b14 t2
                replace hA := rdB b14 hA
                replace hr := rdB b14 hr
                replace hK := hK.below b14 hK.1
                replace B := chain B b14
                clear b14
                go_wp2_with fail
                refine (find_as' F R y Ap cp 0 No hNo.out _ hvy.out ⟨by decide, by decide⟩ hr).mono ?_
                rintro e w15 ⟨rfl, b15⟩
                replace q0 := cellB b15 q0
                replace q1 := cellB b15 q1
                replace q2 := cellB b15 q2
                replace t0 := cellB b15 t0
                replace t1 := cellB b15 t1
                replace t2 := cellB b15 t2
                replace hA := rdB b15 hA
                replace hr := rdB b15 hr
                replace hK := hK.below b15 hK.1
                replace B := chain B b15
                clear b15
                go_wp2_with fail
                refine (refAll_any F R hsz.out _).mono ?_
                rintro e w16 ⟨rfl, b16⟩
                rw [← hFu.out]
                replace q0 := cellB b16 q0
                replace q1 := cellB b16 q1
                replace q2 := cellB b16 q2
                replace t0 := cellB b16 t0
                replace t1 := cellB b16 t1
                replace t2 := cellB b16 t2
                replace hA := rdB b16 hA
                replace hr := rdB b16 hr
                replace hK := hK.below b16 hK.1
                replace B := chain B b16
                clear b16
                go_wp2_with fail
                refine (knownB_any _ hK).mono ?_
                rintro e w17 ⟨rfl, b17⟩
                replace q0 := cellB b17 q0
                replace q1 := cellB b17 q1
                replace q2 := cellB b17 q2
                replace t0 := cellB b17 t0
                replace t1 := cellB b17 t1
                replace t2 := cellB b17 t2
                replace hA := rdB b17 hA
                replace hr := rdB b17 hr
                replace hK := hK.below b17 hK.1
                replace B := chain B b17
                clear b17
                go_wp2
                go_ret
                exact ⟨rfl, B⟩
            · have hz' : decide ((200 : Int) < (s.size : Int)) = true := decide_eq_true (by omega)
              go_enter Tryd.func8, Tryd.ntmps8
              go_wp2_with fail
              refine (small_yes F R l A c hs _).mono ?_
              rintro e w1 ⟨rfl, b1⟩
              replace q0 := cellB b1 q0
              replace q1 := cellB b1 q1
              replace q2 := cellB b1 q2
              replace hA := rdB b1 hA
              replace hK := hK.below b1 hK.1
              replace B := chain B b1
              clear b1
              go_wp2_with fail
              refine (rbValid_yes F R l A c hb _ hA).mono ?_
              rintro e w2 ⟨rfl, b2⟩
              replace q0 := cellB b2 q0
              replace q1 := cellB b2 q1
              replace q2 := cellB b2 q2
              replace hA := rdB b2 hA
              replace hK := hK.below b2 hK.1
              replace B := chain B b2
              clear b2
              go_wp2_with fail
              refine (refValid_yes F R a ha _).mono ?_
              rintro e w3 ⟨rfl, b3⟩
              replace q0 := cellB b3 q0
              replace q1 := cellB b3 q1
              replace q2 := cellB b3 q2
              replace hA := rdB b3 hA
              replace hK := hK.below b3 hK.1
              replace B := chain B b3
              clear b3
              go_wp2_with fail
              refine (rpValid_yes p hp _).mono ?_
              rintro e w4 ⟨rfl, rfl⟩
              go_wp2_with fail
              refine (rpValid_yes q hq _).mono ?_
              rintro e w5 ⟨rfl, rfl⟩
              go_wp2_with fail
              refine (knownB_any _ hK).mono ?_
              rintro e w6 ⟨rfl, b6⟩
              replace q0 := cellB b6 q0
              replace q1 := cellB b6 q1
              replace q2 := cellB b6 q2
              replace hA := rdB b6 hA
              replace hK := hK.below b6 hK.1
              replace B := chain B b6
              clear b6
              go_wp2
              go_ret
              exact ⟨rfl, B⟩
          · go_enter Tryd.func8, Tryd.ntmps8
            go_wp2_with fail
            refine (small_yes F R l A c hs _).mono ?_
            rintro e w1 ⟨rfl, b1⟩
            replace q0 := cellB b1 q0
            replace q1 := cellB b1 q1
            replace q2 := cellB b1 q2
            replace hA := rdB b1 hA
            replace hK := hK.below b1 hK.1
            replace B := chain B b1
            clear b1
            go_wp2_with fail
            refine (rbValid_yes F R l A c hb _ hA).mono ?_
            rintro e w2 ⟨rfl, b2⟩
            replace q0 := cellB b2 q0
            replace q1 := cellB b2 q1
            replace q2 := cellB b2 q2
            replace hA := rdB b2 hA
            replace hK := hK.below b2 hK.1
            replace B := chain B b2
            clear b2
            go_wp2_with fail
            refine (refValid_yes F R a ha _).mono ?_
            rintro e w3 ⟨rfl, b3⟩
            replace q0 := cellB b3 q0
            replace q1 := cellB b3 q1
            replace q2 := cellB b3 q2
            replace hA := rdB b3 hA
            replace hK := hK.below b3 hK.1
            replace B := chain B b3
            clear b3
            go_wp2_with fail
            refine (rpValid_yes p hp _).mono ?_
            rintro e w4 ⟨rfl, rfl⟩
            go_wp2_with fail
            refine (rpValid_no q hq _).mono ?_
            rintro e w5 ⟨rfl, rfl⟩
            go_wp2_with fail
            refine (knownB_any _ hK).mono ?_
            rintro e w6 ⟨rfl, b6⟩
            replace q0 := cellB b6 q0
            replace q1 := cellB b6 q1
            replace q2 := cellB b6 q2
            replace hA := rdB b6 hA
            replace hK := hK.below b6 hK.1
            replace B := chain B b6
            clear b6
            go_wp2
            go_ret
            exact ⟨rfl, B⟩
        · go_enter Tryd.func8, Tryd.ntmps8
          go_wp2_with fail
          refine (small_yes F R l A c hs _).mono ?_
          rintro e w1 ⟨rfl, b1⟩
          replace q0 := cellB b1 q0
          replace q1 := cellB b1 q1
          replace q2 := cellB b1 q2
          replace hA := rdB b1 hA
          replace hK := hK.below b1 hK.1
          replace B := chain B b1
          clear b1
          go_wp2_with fail
          refine (rbValid_yes F R l A c hb _ hA).mono ?_
          rintro e w2 ⟨rfl, b2⟩
          replace q0 := cellB b2 q0
          replace q1 := cellB b2 q1
          replace q2 := cellB b2 q2
          replace hA := rdB b2 hA
          replace hK := hK.below b2 hK.1
          replace B := chain B b2
          clear b2
          go_wp2_with fail
          refine (refValid_yes F R a ha _).mono ?_
          rintro e w3 ⟨rfl, b3⟩
          replace q0 := cellB b3 q0
          replace q1 := cellB b3 q1
          replace q2 := cellB b3 q2
          replace hA := rdB b3 hA
          replace hK := hK.below b3 hK.1
          replace B := chain B b3
          clear b3
          go_wp2_with fail
          refine (rpValid_no p hp _).mono ?_
          rintro e w4 ⟨rfl, rfl⟩
          go_wp2_with fail
          refine (knownB_any _ hK).mono ?_
          rintro e w5 ⟨rfl, b5⟩
          replace q0 := cellB b5 q0
          replace q1 := cellB b5 q1
          replace q2 := cellB b5 q2
          replace hA := rdB b5 hA
          replace hK := hK.below b5 hK.1
          replace B := chain B b5
          clear b5
          go_wp2
          go_ret
          exact ⟨rfl, B⟩
      · go_enter Tryd.func8, Tryd.ntmps8
        go_wp2_with fail
        refine (small_yes F R l A c hs _).mono ?_
        rintro e w1 ⟨rfl, b1⟩
        replace q0 := cellB b1 q0
        replace q1 := cellB b1 q1
        replace q2 := cellB b1 q2
        replace hA := rdB b1 hA
        replace hK := hK.below b1 hK.1
        replace B := chain B b1
        clear b1
        go_wp2_with fail
        refine (rbValid_yes F R l A c hb _ hA).mono ?_
        rintro e w2 ⟨rfl, b2⟩
        replace q0 := cellB b2 q0
        replace q1 := cellB b2 q1
        replace q2 := cellB b2 q2
        replace hA := rdB b2 hA
        replace hK := hK.below b2 hK.1
        replace B := chain B b2
        clear b2
        go_wp2_with fail
        refine (refValid_no F R a ha _).mono ?_
        rintro e w3 ⟨rfl, b3⟩
        replace q0 := cellB b3 q0
        replace q1 := cellB b3 q1
        replace q2 := cellB b3 q2
        replace hA := rdB b3 hA
        replace hK := hK.below b3 hK.1
        replace B := chain B b3
        clear b3
        go_wp2_with fail
        refine (knownB_any _ hK).mono ?_
        rintro e w4 ⟨rfl, b4⟩
        replace q0 := cellB b4 q0
        replace q1 := cellB b4 q1
        replace q2 := cellB b4 q2
        replace hA := rdB b4 hA
        replace hK := hK.below b4 hK.1
        replace B := chain B b4
        clear b4
        go_wp2
        go_ret
        exact ⟨rfl, B⟩
    · go_enter Tryd.func8, Tryd.ntmps8
      go_wp2_with fail
      refine (small_yes F R l A c hs _).mono ?_
      rintro e w1 ⟨rfl, b1⟩
      replace q0 := cellB b1 q0
      replace q1 := cellB b1 q1
      replace q2 := cellB b1 q2
      replace hA := rdB b1 hA
      replace hK := hK.below b1 hK.1
      replace B := chain B b1
      clear b1
      go_wp2_with fail
      refine (rbValid_no F R l A c hb _ (by omega) hA).mono ?_
      rintro e w2 ⟨rfl, b2⟩
      replace q0 := cellB b2 q0
      replace q1 := cellB b2 q1
      replace q2 := cellB b2 q2
      replace hA := rdB b2 hA
      replace hK := hK.below b2 hK.1
      replace B := chain B b2
      clear b2
      go_wp2_with fail
      refine (knownB_any _ hK).mono ?_
      rintro e w3 ⟨rfl, b3⟩
      replace q0 := cellB b3 q0
      replace q1 := cellB b3 q1
      replace q2 := cellB b3 q2
      replace hA := rdB b3 hA
      replace hK := hK.below b3 hK.1
      replace B := chain B b3
      clear b3
      go_wp2
      go_ret
      exact ⟨rfl, B⟩
  · go_enter Tryd.func8, Tryd.ntmps8
    go_wp2_with fail
    refine (small_no F R l A c (by omega) _).mono ?_
    rintro e w1 ⟨rfl, b1⟩
    replace q0 := cellB b1 q0
    replace q1 := cellB b1 q1
    replace q2 := cellB b1 q2
    replace hA := rdB b1 hA
    replace hK := hK.below b1 hK.1
    replace B := chain B b1
    clear b1
    go_wp2_with fail
    refine (knownB_any _ hK).mono ?_
    rintro e w2 ⟨rfl, b2⟩
    replace q0 := cellB b2 q0
    replace q1 := cellB b2 q1
    replace q2 := cellB b2 q2
    replace hA := rdB b2 hA
    replace hK := hK.below b2 hK.1
    replace B := chain B b2
    clear b2
    go_wp2
    go_ret
    exact ⟨rfl, B⟩

end Go.Proofs.YtolohfkenglpcaaDoor
