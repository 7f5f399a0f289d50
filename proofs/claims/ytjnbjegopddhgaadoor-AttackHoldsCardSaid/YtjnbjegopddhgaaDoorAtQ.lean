/- The theorem of attacks: it answers true, given what the program's functions answer. -/
import Derived.Test.YtjnbjegopddhgaaDoorAtP
namespace Go.Proofs.YtjnbjegopddhgaaDoor
open Go.RowKit Go.Sort

/-- what a region of the theorem leaves: the board's cells, the piece, what the program's answers hang on. -/
def St5 (T : World → Prop) (w : World) (A : Option Addr) (l : List Int) (c : Nat) (g : Addr) (p : Int) (W : World) : Prop := T W ∧ W.cell? g = some (.int .i8 p) ∧ RdP W W.heap.size A l c ∧ Below w.heap.size w W
theorem keep5 {T : World → Prop} (HC : AtkC T) {w W W' : World} {A : Option Addr} {l : List Int} {c : Nat} {g : Addr} {p : Int} {a0 a1 a2 : Addr} {v0 v1 v2 : Value} (h : W.cell? a0 = some v0 ∧ W.cell? a1 = some v1 ∧ W.cell? a2 = some v2 ∧ St5 T w A l c g p W) (hb : Below W.heap.size W W') :
    W'.cell? a0 = some v0 ∧ W'.cell? a1 = some v1 ∧ W'.cell? a2 = some v2 ∧ St5 T w A l c g p W' := by
  obtain ⟨h0, h1, h2, h3, h4, h5, h6⟩ := h
  exact ⟨cB5 hb h0, cB5 hb h1, cB5 hb h2, HC.below _ _ h3 hb, cB5 hb h4, rB5 hb h5, chain h6 hb⟩
theorem rd5 {T : World → Prop} {w W : World} {A : Option Addr} {l : List Int} {c : Nat} {g : Addr} {p : Int} {a b d : Prop} (h : a ∧ b ∧ d ∧ St5 T w A l c g p W) : RdP W W.heap.size A l c := h.2.2.2.2.2.1
theorem tt5 {T : World → Prop} {w W : World} {A : Option Addr} {l : List Int} {c : Nat} {g : Addr} {p : Int} {a b d : Prop} (h : a ∧ b ∧ d ∧ St5 T w A l c g p W) : T W := h.2.2.2.1
theorem bit_at5 (p : Nat) (hp : p < 18446744073709551616) (n : Int) : bits .and .u64 ((p : Int) / 2 ^ n.toNat) 1 = ((p.testBit n.toNat).toNat : Int) := by
  have e : (p : Int) / 2 ^ n.toNat = ((p >>> n.toNat : Nat) : Int) := by
    rw [Nat.shiftRight_eq_div_pow]
    simp
  have hl : p >>> n.toNat < 18446744073709551616 := by
    rw [Nat.shiftRight_eq_div_pow]
    exact Nat.lt_of_le_of_lt (Nat.div_le_self _ _) hp
  rw [e]
  have := u64_and_nat (p >>> n.toNat) 1 hl (by decide)
  rw [show ((1 : Nat) : Int) = 1 from rfl] at this
  rw [this, Nat.testBit, Nat.and_comm, Nat.one_and_eq_mod_two]
  rcases Nat.mod_two_eq_zero_or_one (p >>> n.toNat) with h | h <;> simp [h]
theorem andNot_bit5 (X Z j : Nat) (hX : X < 18446744073709551616) (hZ : Z < 18446744073709551616) : (X &&& (18446744073709551615 - Z)).testBit j = (X.testBit j && !Z.testBit j) := by
  have e : 18446744073709551615 - Z = 2 ^ 64 - (Z + 1) := by omega
  rw [e, Nat.testBit_and, Nat.testBit_two_pow_sub_succ (by simpa using hZ)]
  by_cases h : j < 64
  · simp [h]
  · have := bit_high (X := X) (n := 64) (j := j) (by simpa using hX) (by omega)
    simp [this]
theorem andNot_sub5 (p q : Nat) (hp : p < 18446744073709551616) (hq : q < 18446744073709551616) (h : ∀ j, p.testBit j = true → q.testBit j = true) : (bits .andNot .u64 (p : Int) (q : Int) != 0) = false := by
  rw [u64_andNot_nat p q hp hq]
  have : p &&& (18446744073709551615 - q) = 0 := by
    apply Nat.eq_of_testBit_eq
    intro j
    rw [andNot_bit5 p q j hp hq, Nat.zero_testBit]
    cases hj : p.testBit j
    · rfl
    · simp [h j hj]
  rw [this]
  rfl

theorem ofl_64 {l : List Nat} (h : ∀ i ∈ l, i < 64) : ofL l < 18446744073709551616 := by
  have := ofL_lt (l := l) (n := 64) h
  simpa using this
theorem orA_at5 {l : List Int} {n : Nat} (h : orA l = true) (hn : n < l.length) : orB (l[n]?.getD 0) = true := by
  unfold orA at h
  rw [List.all_eq_true] at h
  rw [List.getElem?_eq_getElem hn]
  exact h _ (List.getElem_mem hn)
/-- attacked just if there is an attacker, as the program writes it. -/
theorem f_att {F R : Int} {l : List Int} {bl : Bool} {n : Nat} (hb : vbd F R l) (hn : n < l.length) : ((ofL (atkL F R l (n : Int) bl) : Int) != 0) = (bits .and .u64 ((ofL (attackedL F R l bl) : Int) / 2 ^ n) 1 == 1) := by
  have h64 := vbd_64 hb
  have := bit_at5 (ofL (attackedL F R l bl)) (ofl_64 (fun i hi => Nat.lt_of_lt_of_le (attacked_lt hi) h64)) (n : Int)
  rw [Int.toNat_natCast] at this
  rw [this, ofL_bit, Bool.eq_iff_iff]
  have hi := attacked_iff (F := F) (R := R) (bl := bl) hn
  by_cases h : n ∈ attackedL F R l bl
  · have h2 := hi.1 h
    simp [h]
    omega
  · have h2 : ofL (atkL F R l (n : Int) bl) = 0 := by
      by_cases h3 : ofL (atkL F R l (n : Int) bl) = 0
      · exact h3
      · exact absurd (hi.2 h3) h
    simp [h, h2]
set_option maxRecDepth 100000 in
set_option maxHeartbeats 4000000 in
theorem law_ahol {T : World → Prop} (HC0 : AtkC T) (F R : Int) (l : List Int) (A : Option Addr) (c : Nat) (bl : Bool) (t : Int) (w : World) (hA : RdP w w.heap.size A l c) (hT : T w) :
    Calls Tryd.prog 7 #[.agg #[.int .i64 F, .int .i64 R, .slice A l.length c], .bool bl, .int .i64 t] w fun e w' => e = .returned (.bool true) ∧ Below w.heap.size w w' := by
  have HC := Lib.hid HC0
  clear HC0
  have B : Below w.heap.size w (w.alloc (.cells #[.int .i64 F, .int .i64 R, .slice A l.length c] 26)) := box1 _ _
  replace hA := rB5 B hA
  replace hT := HC.out.below _ _ hT B
  have q0 : (w.alloc (.cells #[.int .i64 F, .int .i64 R, .slice A l.length c] 26)).cell? ⟨w.heap.size, 0, none⟩ = some (.int .i64 F) := by simp [go_sem]
  have q1 : (w.alloc (.cells #[.int .i64 F, .int .i64 R, .slice A l.length c] 26)).cell? ⟨w.heap.size, 1, none⟩ = some (.int .i64 R) := by simp [go_sem]
  have q2 : (w.alloc (.cells #[.int .i64 F, .int .i64 R, .slice A l.length c] 26)).cell? ⟨w.heap.size, 2, none⟩ = some (.slice A l.length c) := by simp [go_sem]
  by_cases hs : l.length ≤ 64
  · have HS := Lib.hid hs
    clear hs
    by_cases hb : vbd F R l ∧ orA l = true
    · have HB := Lib.hid hb
      clear hb
      by_cases ht : vat F R t
      · obtain ⟨n, rfl⟩ : ∃ n : Nat, t = (n : Int) := ⟨t.toNat, by have := ht.2.1; omega⟩
        have HV := Lib.hid ht
        have hn : n < l.length := by have := HB.out.1.2.1; have := ht.2.2; omega
        have hn64 : (n : Int) ≤ 64 := by have := HS.out; omega
        have HNL := Lib.hid hn
        clear ht
        obtain ⟨ad, rfl, hbl, hc⟩ := hA.at_ hn
        obtain ⟨p, hp⟩ : ∃ p, l[n]?.getD 0 = p := ⟨_, rfl⟩
        rw [hp] at hc
        have HPP := Lib.hid hp
        clear hp
        have HFA : Hid (((ofL (atkL F R l (n : Int) bl) : Int) != 0) = (bits .and .u64 ((ofL (attackedL F R l bl) : Int) / 2 ^ n) 1 == 1)) := Lib.hid (f_att HB.out.1 HNL.out)
        have HR1 := Lib.hid (fun (w : World) hA hT => HC.out.atk F R l (some ad) c (n : Int) bl w HB.out.1 HB.out.2 hA hT HV.out)
        have HR2 := Lib.hid (fun (w : World) hA hT => HC.out.all F R l (some ad) c bl w HB.out.1 HB.out.2 hA hT)
        generalize ofL (atkL F R l (n : Int) bl) = xx at *
        generalize ofL (attackedL F R l bl) = yy at *
        have hd : Hid (decide (l[n]?.getD 0 < 0) = decide (p < 0)) := Lib.hid (by rw [HPP.out])
        have HRK := Lib.hid (fun (w : World) hA hT h0 => HC.out.king F R l (some ad) c (decide (p < 0)) w HB.out.1 HB.out.2 hA hT h0)
        have HRKN := Lib.hid (fun (w : World) hA hT h0 => HC.out.kingN F R l (some ad) c (decide (p < 0)) w HB.out.1 HB.out.2 hA hT h0)
        by_cases hp0 : p = 0
        · have HP0 := Lib.hid hp0
          clear hp0
          have e0 : (p == 0) = true := by rw [HP0.out]; rfl
          by_cases hk : 0 ≤ kingV l (decide (p < 0))
          · have HK := Lib.hid hk
            clear hk
            go_enter Tryd.func7, Tryd.ntmps7
            go_wp2_with fail
            refine (small5_yes F R l (some ad) c HS.out _).mono ?_
            rintro e w1 ⟨rfl, b1⟩
            replace q0 := cB5 b1 q0
            replace q1 := cB5 b1 q1
            replace q2 := cB5 b1 q2
            replace hc := cB5 b1 hc
            replace hA := rB5 b1 hA
            replace hT := HC.out.below _ _ hT b1
            replace B := chain B b1
            clear b1
            go_wp2_with fail
            refine (rOrth_good F R l (some ad) c HB.out.1 HB.out.2 _ hA).mono ?_
            rintro e w2 ⟨rfl, b2⟩
            replace q0 := cB5 b2 q0
            replace q1 := cB5 b2 q1
            replace q2 := cB5 b2 q2
            replace hc := cB5 b2 hc
            replace hA := rB5 b2 hA
            replace hT := HC.out.below _ _ hT b2
            replace B := chain B b2
            clear b2
            go_wp2_with fail
            refine (refValid_yes F R (n : Int) HV.out _).mono ?_
            rintro e w3 ⟨rfl, b3⟩
            replace q0 := cB5 b3 q0
            replace q1 := cB5 b3 q1
            replace q2 := cB5 b3 q2
            replace hc := cB5 b3 hc
            replace hA := rB5 b3 hA
            replace hT := HC.out.below _ _ hT b3
            replace B := chain B b3
            clear b3
            go_wp2_with fail
            refine (HR1.out _ hA hT).mono ?_
            rintro e w4 ⟨rfl, b4⟩
            replace q0 := cB5 b4 q0
            replace q1 := cB5 b4 q1
            replace q2 := cB5 b4 q2
            replace hc := cB5 b4 hc
            replace hA := rB5 b4 hA
            replace hT := HC.out.below _ _ hT b4
            replace B := chain B b4
            clear b4
            go_wp2_with fail
            refine (HR2.out _ hA hT).mono ?_
            rintro e w5 ⟨rfl, b5⟩
            replace q0 := cB5 b5 q0
            replace q1 := cB5 b5 q1
            replace q2 := cB5 b5 q2
            replace hc := cB5 b5 hc
            replace hA := rB5 b5 hA
            replace hT := HC.out.below _ _ hT b5
            replace B := chain B b5
            clear b5
            have f1 := HFA.out
            have b0 : (0 : Int) ≤ (n : Int) := by omega
            go_wp2_with fail
            refine (HRK.out _ hA hT HK.out).mono ?_
            rintro e w6 ⟨rfl, b6⟩
            replace q0 := cB5 b6 q0
            replace q1 := cB5 b6 q1
            replace q2 := cB5 b6 q2
            replace hc := cB5 b6 hc
            replace hA := rB5 b6 hA
            replace hT := HC.out.below _ _ hT b6
            replace B := chain B b6
            clear b6
            clear f1 b0
            go_wp2_with fail
            refine (known5_any HC.out _ hT).mono ?_
            rintro e w7 ⟨rfl, b7⟩
            replace q0 := cB5 b7 q0
            replace q1 := cB5 b7 q1
            replace q2 := cB5 b7 q2
            replace hc := cB5 b7 hc
            replace hA := rB5 b7 hA
            replace hT := HC.out.below _ _ hT b7
            replace B := chain B b7
            clear b7
            go_wp2
            go_ret
            exact ⟨rfl, B⟩
          · have HK : Hid (kingV l (decide (p < 0)) < 0) := Lib.hid (by omega)
            clear hk
            go_enter Tryd.func7, Tryd.ntmps7
            go_wp2_with fail
            refine (small5_yes F R l (some ad) c HS.out _).mono ?_
            rintro e w1 ⟨rfl, b1⟩
            replace q0 := cB5 b1 q0
            replace q1 := cB5 b1 q1
            replace q2 := cB5 b1 q2
            replace hc := cB5 b1 hc
            replace hA := rB5 b1 hA
            replace hT := HC.out.below _ _ hT b1
            replace B := chain B b1
            clear b1
            go_wp2_with fail
            refine (rOrth_good F R l (some ad) c HB.out.1 HB.out.2 _ hA).mono ?_
            rintro e w2 ⟨rfl, b2⟩
            replace q0 := cB5 b2 q0
            replace q1 := cB5 b2 q1
            replace q2 := cB5 b2 q2
            replace hc := cB5 b2 hc
            replace hA := rB5 b2 hA
            replace hT := HC.out.below _ _ hT b2
            replace B := chain B b2
            clear b2
            go_wp2_with fail
            refine (refValid_yes F R (n : Int) HV.out _).mono ?_
            rintro e w3 ⟨rfl, b3⟩
            replace q0 := cB5 b3 q0
            replace q1 := cB5 b3 q1
            replace q2 := cB5 b3 q2
            replace hc := cB5 b3 hc
            replace hA := rB5 b3 hA
            replace hT := HC.out.below _ _ hT b3
            replace B := chain B b3
            clear b3
            go_wp2_with fail
            refine (HR1.out _ hA hT).mono ?_
            rintro e w4 ⟨rfl, b4⟩
            replace q0 := cB5 b4 q0
            replace q1 := cB5 b4 q1
            replace q2 := cB5 b4 q2
            replace hc := cB5 b4 hc
            replace hA := rB5 b4 hA
            replace hT := HC.out.below _ _ hT b4
            replace B := chain B b4
            clear b4
            go_wp2_with fail
            refine (HR2.out _ hA hT).mono ?_
            rintro e w5 ⟨rfl, b5⟩
            replace q0 := cB5 b5 q0
            replace q1 := cB5 b5 q1
            replace q2 := cB5 b5 q2
            replace hc := cB5 b5 hc
            replace hA := rB5 b5 hA
            replace hT := HC.out.below _ _ hT b5
            replace B := chain B b5
            clear b5
            have f1 := HFA.out
            have b0 : (0 : Int) ≤ (n : Int) := by omega
            go_wp2_with fail
            refine (HRKN.out _ hA hT HK.out).mono ?_
            rintro e w6 ⟨rfl, b6⟩
            replace q0 := cB5 b6 q0
            replace q1 := cB5 b6 q1
            replace q2 := cB5 b6 q2
            replace hc := cB5 b6 hc
            replace hA := rB5 b6 hA
            replace hT := HC.out.below _ _ hT b6
            replace B := chain B b6
            clear b6
            clear f1 b0
            go_wp2_with fail
            refine (known5_any HC.out _ hT).mono ?_
            rintro e w7 ⟨rfl, b7⟩
            replace q0 := cB5 b7 q0
            replace q1 := cB5 b7 q1
            replace q2 := cB5 b7 q2
            replace hc := cB5 b7 hc
            replace hA := rB5 b7 hA
            replace hT := HC.out.below _ _ hT b7
            replace B := chain B b7
            clear b7
            go_wp2
            go_ret
            exact ⟨rfl, B⟩
        · have HP0 := Lib.hid hp0
          have e0 : (p == 0) = false := by simp [hp0]
          clear hp0
          by_cases hk : 0 ≤ kingV l (decide (p < 0))
          · have HK := Lib.hid hk
            clear hk
            by_cases hkn : (n : Int) = kingV l (decide (p < 0))
            · have e1 : (kingV l (decide (p < 0)) == (n : Int)) = true := by simp [hkn]
              clear hkn
              generalize kingV l (decide (p < 0)) = kv at *
              go_enter Tryd.func7, Tryd.ntmps7
              go_wp2_with fail
              refine (small5_yes F R l (some ad) c HS.out _).mono ?_
              rintro e w1 ⟨rfl, b1⟩
              replace q0 := cB5 b1 q0
              replace q1 := cB5 b1 q1
              replace q2 := cB5 b1 q2
              replace hc := cB5 b1 hc
              replace hA := rB5 b1 hA
              replace hT := HC.out.below _ _ hT b1
              replace B := chain B b1
              clear b1
              go_wp2_with fail
              refine (rOrth_good F R l (some ad) c HB.out.1 HB.out.2 _ hA).mono ?_
              rintro e w2 ⟨rfl, b2⟩
              replace q0 := cB5 b2 q0
              replace q1 := cB5 b2 q1
              replace q2 := cB5 b2 q2
              replace hc := cB5 b2 hc
              replace hA := rB5 b2 hA
              replace hT := HC.out.below _ _ hT b2
              replace B := chain B b2
              clear b2
              go_wp2_with fail
              refine (refValid_yes F R (n : Int) HV.out _).mono ?_
              rintro e w3 ⟨rfl, b3⟩
              replace q0 := cB5 b3 q0
              replace q1 := cB5 b3 q1
              replace q2 := cB5 b3 q2
              replace hc := cB5 b3 hc
              replace hA := rB5 b3 hA
              replace hT := HC.out.below _ _ hT b3
              replace B := chain B b3
              clear b3
              go_wp2_with fail
              refine (HR1.out _ hA hT).mono ?_
              rintro e w4 ⟨rfl, b4⟩
              replace q0 := cB5 b4 q0
              replace q1 := cB5 b4 q1
              replace q2 := cB5 b4 q2
              replace hc := cB5 b4 hc
              replace hA := rB5 b4 hA
              replace hT := HC.out.below _ _ hT b4
              replace B := chain B b4
              clear b4
              go_wp2_with fail
              refine (HR2.out _ hA hT).mono ?_
              rintro e w5 ⟨rfl, b5⟩
              replace q0 := cB5 b5 q0
              replace q1 := cB5 b5 q1
              replace q2 := cB5 b5 q2
              replace hc := cB5 b5 hc
              replace hA := rB5 b5 hA
              replace hT := HC.out.below _ _ hT b5
              replace B := chain B b5
              clear b5
              have f1 := HFA.out
              have b0 : (0 : Int) ≤ (n : Int) := by omega
              go_wp2_with fail
              refine (HRK.out _ hA hT HK.out).mono ?_
              rintro e w6 ⟨rfl, b6⟩
              replace q0 := cB5 b6 q0
              replace q1 := cB5 b6 q1
              replace q2 := cB5 b6 q2
              replace hc := cB5 b6 hc
              replace hA := rB5 b6 hA
              replace hT := HC.out.below _ _ hT b6
              replace B := chain B b6
              clear b6
              clear f1 b0
              go_wp2_with fail
              refine (known5_any HC.out _ hT).mono ?_
              rintro e w7 ⟨rfl, b7⟩
              replace q0 := cB5 b7 q0
              replace q1 := cB5 b7 q1
              replace q2 := cB5 b7 q2
              replace hc := cB5 b7 hc
              replace hA := rB5 b7 hA
              replace hT := HC.out.below _ _ hT b7
              replace B := chain B b7
              clear b7
              go_wp2
              go_ret
              exact ⟨rfl, B⟩
            · have HKN := Lib.hid hkn
              have e1 : (kingV l (decide (p < 0)) == (n : Int)) = false := by simp; omega
              clear hkn
              obtain ⟨y, hy⟩ : ∃ y, y = l.set n 0 := ⟨_, rfl⟩
              have HY := Lib.hid hy
              clear hy
              have HP0' : Hid (l[n]?.getD 0 ≠ 0) := Lib.hid (by rw [HPP.out]; exact HP0.out)
              have hky : Hid (kingV y (decide (p < 0)) = kingV l (decide (p < 0))) := Lib.hid (by rw [HY.out]; exact (pin_kings HNL.out HK.out HKN.out).1)
              have hyv : Hid (vbd F R y ∧ orA y = true) := Lib.hid (by rw [HY.out]; exact ⟨vbd_set n HB.out.1, orA_set n HB.out.2⟩)
              have HRP := Lib.hid (fun (w : World) hA hT => HC.out.pin F R l (some ad) c (decide (p < 0)) w HB.out.1 HB.out.2 hA hT HK.out)
              have HRC := Lib.hid (fun (w : World) hA hT => HC.out.chk F R l (some ad) c (decide (p < 0)) w HB.out.1 HB.out.2 hA hT HK.out)
              have HPT := Lib.hid (fun (w : World) hA => rPut_any F R l (some ad) c n 0 w (Nat.le_trans HS.out (by decide)) HNL.out hA)
              rw [← HY.out] at HPT
              have HRC2 := Lib.hid (fun (A' : Option Addr) (c' : Nat) (w : World) hA hT => HC.out.chk F R y A' c' (decide (p < 0)) w hyv.out.1 hyv.out.2 hA hT (by rw [hky.out]; exact HK.out))
              rw [hky.out] at HRC2
              have h64 := HS.out
              have HX0 : Hid (ofL (atkL F R l (kingV l (decide (p < 0))) (!decide (p < 0))) < 18446744073709551616) := Lib.hid (ofl_64 (atk_64 HB.out.1))
              have HX1 : Hid (ofL (atkL F R y (kingV l (decide (p < 0))) (!decide (p < 0))) < 18446744073709551616) := Lib.hid (ofl_64 (atk_64 hyv.out.1))
              have HF2 : Hid ((bits .andNot .u64 (ofL (atkL F R l (kingV l (decide (p < 0))) (!decide (p < 0))) : Int) (ofL (atkL F R y (kingV l (decide (p < 0))) (!decide (p < 0))) : Int) != 0) = false) := Lib.hid (andNot_sub5 _ _ HX0.out HX1.out (fun j h => by
                rw [ofL_bit] at h ⊢
                simp only [decide_eq_true_eq] at h ⊢
                rw [HY.out]
                exact pin_sub hd.out HP0'.out HNL.out h))
              have HF3 : Hid ((bits .and .u64 ((ofL (pinnedL F R l (decide (p < 0))) : Int) / 2 ^ n) 1 == 0) = !decide (0 ≤ pinV F R l n)) := Lib.hid (by
                have := bit_at5 (ofL (pinnedL F R l (decide (p < 0)))) (ofl_64 (pinned_64 HS.out)) (n : Int)
                rw [Int.toNat_natCast] at this
                rw [this, ofL_bit]
                have hi := pinned_iff (F := F) (R := R) hd.out HP0'.out HNL.out
                by_cases h : 0 ≤ pinV F R l n
                · simp [hi.2 h, h]
                · have h3 : n ∉ pinnedL F R l (decide (p < 0)) := fun h2 => h (hi.1 h2)
                  simp [h3, h])
              clear h64
              by_cases hpv : 0 ≤ pinV F R l n
              · have HPV := Lib.hid hpv
                have HRL := Lib.hid (fun (w : World) hA hT => HC.out.lin F R l (some ad) c n w HB.out.1 HB.out.2 hA hT HNL.out HP0'.out (by rw [hd.out]; exact HK.out) HPV.out)
                have hopl : okP p := by rw [← HPP.out]; exact HB.out.1.2.2 n HNL.out
                have hoop : orB p = true := by rw [← HPP.out]; exact orA_at5 HB.out.2 HNL.out
                have HYL : Hid (y.length = l.length) := Lib.hid (by rw [HY.out, List.length_set])
                have HSH := Lib.hid (fun (t : Nat) (ht : t ∈ linL F R l n) => pin_shut (R := R) HB.out.1 hd.out HP0'.out HNL.out HK.out HKN.out HPV.out ht)
                have HVT : Hid (∀ t : Nat, vbd F R (y.set t p) ∧ orA (y.set t p) = true) := Lib.hid (fun t => ⟨set_vbd hyv.out.1 hopl, set_or hyv.out.2 hoop⟩)
                have HKT : Hid (∀ t, t ∈ linL F R l n → kingV (y.set t p) (decide (p < 0)) = (kingV l (decide (p < 0)))) := Lib.hid (fun t ht => by
                  have h1 := HSH.out t ht
                  have h2 := (pin_kings HNL.out HK.out HKN.out).2 t h1.1 h1.2.1
                  rw [HPP.out, ← HY.out] at h2
                  exact h2)
                have HRC3 : Hid (∀ t, t ∈ linL F R l n → ∀ (A' : Option Addr) (c' : Nat) (w : World), RdP w w.heap.size A' (y.set t p) c' → T w → Calls Tryd.prog 18 #[.agg #[.int .i64 F, .int .i64 R, .slice A' y.length c'], .bool (decide (p < 0))] w fun e w' => e = .returned (.tuple #[.int .u64 (ofL (atkL F R (y.set t p) (kingV l (decide (p < 0))) (!decide (p < 0))) : Int), .int .i64 0]) ∧ Below w.heap.size w w') := Lib.hid (fun t ht A' c' w hA hT => by
                  have h := HC.out.chk F R (y.set t p) A' c' (decide (p < 0)) w (HVT.out t).1 (HVT.out t).2 hA hT (by rw [HKT.out t ht]; exact HK.out)
                  rw [HKT.out t ht, List.length_set] at h
                  exact h)
                have HPT2 := Lib.hid (fun (t : Nat) (ht : t ∈ linL F R l n) (A' : Option Addr) (c' : Nat) (w : World) hA => rPut_any F R y A' c' t p w (by rw [HYL.out]; exact Nat.le_trans HS.out (by decide)) (by rw [HYL.out]; exact (HSH.out t ht).1) hA)
                have HX3 : Hid (∀ t : Nat, ofL (atkL F R (y.set t p) (kingV l (decide (p < 0))) (!decide (p < 0))) < 18446744073709551616) := Lib.hid (fun t => ofl_64 (atk_64 (HVT.out t).1))
                have HF7 : Hid (∀ t, t ∈ linL F R l n → (bits .and .u64 (ofL (atkL F R (y.set t p) (kingV l (decide (p < 0))) (!decide (p < 0))) : Int) (bits .andNot .u64 (ofL (atkL F R y (kingV l (decide (p < 0))) (!decide (p < 0))) : Int) (ofL (atkL F R l (kingV l (decide (p < 0))) (!decide (p < 0))) : Int)) != 0) = true → (bits .and .u64 ((ofL (atkL F R y (kingV l (decide (p < 0))) (!decide (p < 0))) : Int) / 2 ^ t) 1 == 0) = false) := Lib.hid (fun t ht hq => by
                  have h1 := HSH.out t ht
                  rw [HPP.out, ← HY.out] at h1
                  have hb1 := bit_at5 (ofL (atkL F R y (kingV l (decide (p < 0))) (!decide (p < 0)))) HX1.out (t : Int)
                  rw [Int.toNat_natCast] at hb1
                  rw [hb1, ofL_bit]
                  rcases h1.2.2 with h | h
                  · simp [h]
                  · exfalso
                    rw [u64_andNot_nat _ _ HX1.out HX0.out] at hq
                    rw [u64_and_nat _ _ (HX3.out t) (Nat.lt_of_le_of_lt Nat.and_le_left HX1.out)] at hq
                    have e : ofL (atkL F R (y.set t p) (kingV l (decide (p < 0))) (!decide (p < 0))) &&& (ofL (atkL F R y (kingV l (decide (p < 0))) (!decide (p < 0))) &&& (18446744073709551615 - ofL (atkL F R l (kingV l (decide (p < 0))) (!decide (p < 0))))) = 0 := by
                      apply Nat.eq_of_testBit_eq
                      intro j
                      rw [Nat.testBit_and, andNot_bit5 _ _ j HX1.out HX0.out, Nat.zero_testBit, ofL_bit, ofL_bit, ofL_bit]
                      by_cases j1 : j ∈ atkL F R y (kingV l (decide (p < 0))) (!decide (p < 0))
                      · by_cases j2 : j ∈ atkL F R l (kingV l (decide (p < 0))) (!decide (p < 0))
                        · simp [j2]
                        · simp [h j j1 j2]
                      · simp [j1]
                    rw [e] at hq
                    exact absurd hq (by decide))
                have HF6 : Hid ((bits .andNot .u64 (bits .andNot .u64 (ofL (atkL F R y (kingV l (decide (p < 0))) (!decide (p < 0))) : Int) (ofL (atkL F R l (kingV l (decide (p < 0))) (!decide (p < 0))) : Int)) (ofL (linL F R l n) : Int) != 0) = false) := Lib.hid (by
                  rw [u64_andNot_nat _ _ HX1.out HX0.out]
                  refine andNot_sub5 _ _ (Nat.lt_of_le_of_lt Nat.and_le_left HX1.out) (ofl_64 (lin_64 HS.out)) (fun j h => ?_)
                  rw [andNot_bit5 _ _ j HX1.out HX0.out, ofL_bit, ofL_bit] at h
                  simp only [Bool.and_eq_true, decide_eq_true_eq, Bool.not_eq_true', decide_eq_false_iff_not] at h
                  rw [ofL_bit]
                  simp only [decide_eq_true_eq]
                  rw [HY.out] at h
                  exact pin_on HB.out.1 hd.out HP0'.out HNL.out HK.out HKN.out HPV.out h.1 h.2)
                have HM : Hid ((listOf (ofL (atkL F R y (kingV l (decide (p < 0))) (!decide (p < 0))))).length = (listOf (ofL (atkL F R l (kingV l (decide (p < 0))) (!decide (p < 0))))).length + 1) := Lib.hid (by
                  rw [HY.out]
                  exact pin_many HB.out.1 hd.out HP0'.out HNL.out HK.out HKN.out HPV.out)
                have HM1 := Lib.hid (many5_any (ofL (atkL F R y (kingV l (decide (p < 0))) (!decide (p < 0)))) HX1.out)
                have HM0 := Lib.hid (many5_any (ofL (atkL F R l (kingV l (decide (p < 0))) (!decide (p < 0)))) HX0.out)
                have HM64 : Hid ((listOf (ofL (atkL F R l (kingV l (decide (p < 0))) (!decide (p < 0))))).length ≤ 64) := Lib.hid (listOf_len _)
                have HLL : Hid (∀ t, t ∈ listOf (ofL (linL F R l n)) → t ∈ linL F R l n) := Lib.hid (fun t ht => by
                  have h := (mem_listOf.1 ht).2
                  rw [ofL_bit] at h
                  simpa using h)
                have HLT : Hid (∀ t, t ∈ linL F R l n → t < 64) := Lib.hid (lin_64 HS.out)
                have HLI := Lib.hid (refList_any (ofL (linL F R l n)) (ofl_64 (lin_64 HS.out)))
                have HL64 := Lib.hid (listOf_len (ofL (linL F R l n)))
                generalize listOf (ofL (linL F R l n)) = z at *
                generalize ofL (linL F R l n) = ll at *
                rw [show decide (0 ≤ pinV F R l n) = true from decide_eq_true hpv] at HF3
                clear hpv hd HX0 HX1 hky HSH HVT HKT HX3 hopl hoop
                generalize hx3 : (fun t : Nat => ofL (atkL F R (y.set t p) (kingV l (decide (p < 0))) (!decide (p < 0)))) = x3 at *
                have hx3' : ∀ t : Nat, ofL (atkL F R (y.set t p) (kingV l (decide (p < 0))) (!decide (p < 0))) = x3 t := fun t => congrFun hx3 t
                simp only [hx3'] at HRC3 HF7
                clear hx3 hx3'
                generalize (listOf (ofL (atkL F R y (kingV l (decide (p < 0))) (!decide (p < 0))))).length = m1 at *
                generalize (listOf (ofL (atkL F R l (kingV l (decide (p < 0))) (!decide (p < 0))))).length = m0 at *
                generalize ofL (atkL F R l (kingV l (decide (p < 0))) (!decide (p < 0))) = x0 at *
                generalize ofL (atkL F R y (kingV l (decide (p < 0))) (!decide (p < 0))) = x1 at *
                generalize ofL (pinnedL F R l (decide (p < 0))) = pp at *
                generalize (kingV l (decide (p < 0))) = kv at *
                go_enter Tryd.func7, Tryd.ntmps7
                go_wp2_with fail
                refine (small5_yes F R l (some ad) c HS.out _).mono ?_
                rintro e w1 ⟨rfl, b1⟩
                replace q0 := cB5 b1 q0
                replace q1 := cB5 b1 q1
                replace q2 := cB5 b1 q2
                replace hc := cB5 b1 hc
                replace hA := rB5 b1 hA
                replace hT := HC.out.below _ _ hT b1
                replace B := chain B b1
                clear b1
                go_wp2_with fail
                refine (rOrth_good F R l (some ad) c HB.out.1 HB.out.2 _ hA).mono ?_
                rintro e w2 ⟨rfl, b2⟩
                replace q0 := cB5 b2 q0
                replace q1 := cB5 b2 q1
                replace q2 := cB5 b2 q2
                replace hc := cB5 b2 hc
                replace hA := rB5 b2 hA
                replace hT := HC.out.below _ _ hT b2
                replace B := chain B b2
                clear b2
                go_wp2_with fail
                refine (refValid_yes F R (n : Int) HV.out _).mono ?_
                rintro e w3 ⟨rfl, b3⟩
                replace q0 := cB5 b3 q0
                replace q1 := cB5 b3 q1
                replace q2 := cB5 b3 q2
                replace hc := cB5 b3 hc
                replace hA := rB5 b3 hA
                replace hT := HC.out.below _ _ hT b3
                replace B := chain B b3
                clear b3
                go_wp2_with fail
                refine (HR1.out _ hA hT).mono ?_
                rintro e w4 ⟨rfl, b4⟩
                replace q0 := cB5 b4 q0
                replace q1 := cB5 b4 q1
                replace q2 := cB5 b4 q2
                replace hc := cB5 b4 hc
                replace hA := rB5 b4 hA
                replace hT := HC.out.below _ _ hT b4
                replace B := chain B b4
                clear b4
                go_wp2_with fail
                refine (HR2.out _ hA hT).mono ?_
                rintro e w5 ⟨rfl, b5⟩
                replace q0 := cB5 b5 q0
                replace q1 := cB5 b5 q1
                replace q2 := cB5 b5 q2
                replace hc := cB5 b5 hc
                replace hA := rB5 b5 hA
                replace hT := HC.out.below _ _ hT b5
                replace B := chain B b5
                clear b5
                have f1 := HFA.out
                have b0 : (0 : Int) ≤ (n : Int) := by omega
                go_wp2_with fail
                refine (HRK.out _ hA hT HK.out).mono ?_
                rintro e w6 ⟨rfl, b6⟩
                replace q0 := cB5 b6 q0
                replace q1 := cB5 b6 q1
                replace q2 := cB5 b6 q2
                replace hc := cB5 b6 hc
                replace hA := rB5 b6 hA
                replace hT := HC.out.below _ _ hT b6
                replace B := chain B b6
                clear b6
                clear f1 b0
                go_wp2_with fail
                refine (HRP.out _ hA hT).mono ?_
                rintro e w7 ⟨rfl, b7⟩
                replace q0 := cB5 b7 q0
                replace q1 := cB5 b7 q1
                replace q2 := cB5 b7 q2
                replace hc := cB5 b7 hc
                replace hA := rB5 b7 hA
                replace hT := HC.out.below _ _ hT b7
                replace B := chain B b7
                clear b7
                go_wp2_with fail
                refine (HRC.out _ hA hT).mono ?_
                rintro e w8 ⟨rfl, b8⟩
                replace q0 := cB5 b8 q0
                replace q1 := cB5 b8 q1
                replace q2 := cB5 b8 q2
                replace hc := cB5 b8 hc
                replace hA := rB5 b8 hA
                replace hT := HC.out.below _ _ hT b8
                replace B := chain B b8
                clear b8
                go_wp2_with fail
                refine (HPT.out _ hA).mono ?_
                rintro e w9 ⟨vAP, rfl, hoAP, b9⟩
                obtain ⟨AP, cAP, rfl, hcAP, rP⟩ := RdP.own hoAP
                clear hoAP
                replace q0 := cB5 b9 q0
                replace q1 := cB5 b9 q1
                replace q2 := cB5 b9 q2
                replace hc := cB5 b9 hc
                replace hA := rB5 b9 hA
                replace hT := HC.out.below _ _ hT b9
                replace B := chain B b9
                clear b9
                go_wp2_with fail
                refine (HRC2.out AP cAP _ rP hT).mono ?_
                rintro e w10 ⟨rfl, b10⟩
                replace q0 := cB5 b10 q0
                replace q1 := cB5 b10 q1
                replace q2 := cB5 b10 q2
                replace hc := cB5 b10 hc
                replace hA := rB5 b10 hA
                replace rP := rB5 b10 rP
                replace hT := HC.out.below _ _ hT b10
                replace B := chain B b10
                clear b10
                clear rP hcAP
                have f2 := HF2.out
                have f3 := HF3.out
                have b0 : (0 : Int) ≤ (n : Int) := by omega
                have m64 := HM64.out
                have hw : IntKind.i64.wrap ((m0 : Int) + 1) = (m0 : Int) + 1 := IntWalk.i64_in _ (by omega)
                go_wp2_with fail
                refine (HRL.out _ hA hT).mono ?_
                rintro e w11 ⟨rfl, b11⟩
                replace q0 := cB5 b11 q0
                replace q1 := cB5 b11 q1
                replace q2 := cB5 b11 q2
                replace hc := cB5 b11 hc
                replace hA := rB5 b11 hA
                replace hT := HC.out.below _ _ hT b11
                replace B := chain B b11
                clear b11
                have f5 : ((m1 : Int) != (m0 : Int) + 1) = false := by rw [HM.out]; simp
                have f6 := HF6.out
                go_wp2_with fail
                refine (HM1.out _).mono ?_
                rintro e w12 ⟨rfl, b12⟩
                replace q0 := cB5 b12 q0
                replace q1 := cB5 b12 q1
                replace q2 := cB5 b12 q2
                replace hc := cB5 b12 hc
                replace hA := rB5 b12 hA
                replace hT := HC.out.below _ _ hT b12
                replace B := chain B b12
                clear b12
                go_wp2_with fail
                refine (HM0.out _).mono ?_
                rintro e w13 ⟨rfl, b13⟩
                replace q0 := cB5 b13 q0
                replace q1 := cB5 b13 q1
                replace q2 := cB5 b13 q2
                replace hc := cB5 b13 hc
                replace hA := rB5 b13 hA
                replace hT := HC.out.below _ _ hT b13
                replace B := chain B b13
                clear b13
                go_wp2_with fail
                refine (HLI.out _).mono ?_
                rintro e w14 ⟨v, rfl, hown, b14⟩
                obtain ⟨Ar, cr, rfl, hsr⟩ := SrcI.own hown
                clear hown
                replace q0 := cB5 b14 q0
                replace q1 := cB5 b14 q1
                replace q2 := cB5 b14 q2
                replace hc := cB5 b14 hc
                replace hA := rB5 b14 hA
                replace hT := HC.out.below _ _ hT b14
                replace B := chain B b14
                clear b14
                clear f2 f3 f5 f6 hw m64
                have l64 := HL64.out
                go_wp2_with fail
                go_loopw [167] (fun i wr => ∃ k : Nat, k ≤ z.length ∧ i = .int .i64 k ∧ Below w14.heap.size w14 wr) (fun i _ => z.length - (intOf i).toNat)
                case atStart => exact ⟨0, by omega, rfl, Below.refl _ _⟩
                case round =>
                  obtain ⟨k, hk, rfl, hBr⟩ := hrel
                  by_cases hlt : k < z.length
                  · obtain ⟨al, rfl, hal, hcl⟩ := hsr.at_ hlt
                    have htm := HLL.out z[k] (List.getElem_mem hlt)
                    obtain ⟨t, htt⟩ : ∃ t, z[k] = t := ⟨_, rfl⟩
                    rw [htt] at htm hcl
                    clear htt
                    have hr3 := Lib.hid (HRC3.out t htm)
                    have hp2 := Lib.hid (HPT2.out t htm)
                    have hf7 := Lib.hid (HF7.out t htm)
                    have ht64 : (t : Int) ≤ 64 := by have := HLT.out t htm; omega
                    generalize x3 t = xt at *
                    clear htm
                    replace q0 := cB5 hBr q0
                    replace q1 := cB5 hBr q1
                    replace q2 := cB5 hBr q2
                    replace hc := cB5 hBr hc
                    replace hcl := cB5 hBr hcl
                    replace hA := rB5 hBr hA
                    replace hT := HC.out.below _ _ hT hBr
                    replace B := chain B hBr
                    have BR := hBr
                    go_wp2_with fail
                    refine (HPT.out _ hA).mono ?_
                    rintro e w15 ⟨vAQ, rfl, hoAQ, b15⟩
                    obtain ⟨AQ, cAQ, rfl, hcAQ, rQ⟩ := RdP.own hoAQ
                    clear hoAQ
                    replace q0 := cB5 b15 q0
                    replace q1 := cB5 b15 q1
                    replace q2 := cB5 b15 q2
                    replace hc := cB5 b15 hc
                    replace hcl := cB5 b15 hcl
                    replace hA := rB5 b15 hA
                    replace hT := HC.out.below _ _ hT b15
                    replace B := chain B b15
                    replace BR := chain BR b15
                    clear b15
                    go_wp2_with fail
                    refine (hp2.out _ _ _ rQ).mono ?_
                    rintro e w16 ⟨vAS, rfl, hoAS, b16⟩
                    obtain ⟨AS, cAS, rfl, hcAS, rS⟩ := RdP.own hoAS
                    clear hoAS
                    replace q0 := cB5 b16 q0
                    replace q1 := cB5 b16 q1
                    replace q2 := cB5 b16 q2
                    replace hc := cB5 b16 hc
                    replace hcl := cB5 b16 hcl
                    replace hA := rB5 b16 hA
                    replace rQ := rB5 b16 rQ
                    replace hT := HC.out.below _ _ hT b16
                    replace B := chain B b16
                    replace BR := chain BR b16
                    clear b16
                    go_wp2_with fail
                    refine (hr3.out AS cAS _ rS hT).mono ?_
                    rintro e w17 ⟨rfl, b17⟩
                    replace q0 := cB5 b17 q0
                    replace q1 := cB5 b17 q1
                    replace q2 := cB5 b17 q2
                    replace hc := cB5 b17 hc
                    replace hcl := cB5 b17 hcl
                    replace hA := rB5 b17 hA
                    replace rQ := rB5 b17 rQ
                    replace rS := rB5 b17 rS
                    replace hT := HC.out.below _ _ hT b17
                    replace B := chain B b17
                    replace BR := chain BR b17
                    clear b17
                    clear rQ rS hcAQ hcAS
                    have b1 : (0 : Int) ≤ (t : Int) := by omega
                    cases hq : (bits .and .u64 (xt : Int) (bits .andNot .u64 (x1 : Int) (x0 : Int)) != 0) with
                    | false =>
                      go_wp2
                      go_roundw
                      case rel => exact ⟨k + 1, by omega, by go_num, BR⟩
                      case measure => simp [intOf]; omega
                    | true =>
                      have f8 := hf7.out hq
                      go_wp2
                      go_roundw
                      case rel => exact ⟨k + 1, by omega, by go_num, BR⟩
                      case measure => simp [intOf]; omega
                  · have hkl : k = z.length := by omega
                    replace hT := HC.out.below _ _ hT hBr
                    replace B := chain B hBr
                    clear hBr
                    go_wp2_with fail
                    refine (known5_any HC.out _ hT).mono ?_
                    rintro e w25 ⟨rfl, b25⟩
                    replace hT := HC.out.below _ _ hT b25
                    replace B := chain B b25
                    clear b25
                    go_wp2
                    go_ret
                    exact ⟨rfl, B⟩
              · have HF4 : Hid (((ofL (atkL F R y (kingV l (decide (p < 0))) (!decide (p < 0))) : Int) == (ofL (atkL F R l (kingV l (decide (p < 0))) (!decide (p < 0))) : Int)) = true) := Lib.hid (by
                  have e : ofL (atkL F R y (kingV l (decide (p < 0))) (!decide (p < 0))) = ofL (atkL F R l (kingV l (decide (p < 0))) (!decide (p < 0))) := ofL_ext' fun i => by
                    rw [HY.out]
                    exact ⟨pin_no hd.out HP0'.out HKN.out hpv i, pin_sub hd.out HP0'.out HNL.out⟩
                  rw [e]
                  simp)
                rw [show decide (0 ≤ pinV F R l n) = false from decide_eq_false hpv] at HF3
                clear hpv hd HX0 HX1 hky
                generalize ofL (atkL F R l (kingV l (decide (p < 0))) (!decide (p < 0))) = x0 at *
                generalize ofL (atkL F R y (kingV l (decide (p < 0))) (!decide (p < 0))) = x1 at *
                generalize ofL (pinnedL F R l (decide (p < 0))) = pp at *
                generalize kingV l (decide (p < 0)) = kv at *
                go_enter Tryd.func7, Tryd.ntmps7
                go_wp2_with fail
                refine (small5_yes F R l (some ad) c HS.out _).mono ?_
                rintro e w1 ⟨rfl, b1⟩
                replace q0 := cB5 b1 q0
                replace q1 := cB5 b1 q1
                replace q2 := cB5 b1 q2
                replace hc := cB5 b1 hc
                replace hA := rB5 b1 hA
                replace hT := HC.out.below _ _ hT b1
                replace B := chain B b1
                clear b1
                go_wp2_with fail
                refine (rOrth_good F R l (some ad) c HB.out.1 HB.out.2 _ hA).mono ?_
                rintro e w2 ⟨rfl, b2⟩
                replace q0 := cB5 b2 q0
                replace q1 := cB5 b2 q1
                replace q2 := cB5 b2 q2
                replace hc := cB5 b2 hc
                replace hA := rB5 b2 hA
                replace hT := HC.out.below _ _ hT b2
                replace B := chain B b2
                clear b2
                go_wp2_with fail
                refine (refValid_yes F R (n : Int) HV.out _).mono ?_
                rintro e w3 ⟨rfl, b3⟩
                replace q0 := cB5 b3 q0
                replace q1 := cB5 b3 q1
                replace q2 := cB5 b3 q2
                replace hc := cB5 b3 hc
                replace hA := rB5 b3 hA
                replace hT := HC.out.below _ _ hT b3
                replace B := chain B b3
                clear b3
                go_wp2_with fail
                refine (HR1.out _ hA hT).mono ?_
                rintro e w4 ⟨rfl, b4⟩
                replace q0 := cB5 b4 q0
                replace q1 := cB5 b4 q1
                replace q2 := cB5 b4 q2
                replace hc := cB5 b4 hc
                replace hA := rB5 b4 hA
                replace hT := HC.out.below _ _ hT b4
                replace B := chain B b4
                clear b4
                go_wp2_with fail
                refine (HR2.out _ hA hT).mono ?_
                rintro e w5 ⟨rfl, b5⟩
                replace q0 := cB5 b5 q0
                replace q1 := cB5 b5 q1
                replace q2 := cB5 b5 q2
                replace hc := cB5 b5 hc
                replace hA := rB5 b5 hA
                replace hT := HC.out.below _ _ hT b5
                replace B := chain B b5
                clear b5
                have f1 := HFA.out
                have b0 : (0 : Int) ≤ (n : Int) := by omega
                go_wp2_with fail
                refine (HRK.out _ hA hT HK.out).mono ?_
                rintro e w6 ⟨rfl, b6⟩
                replace q0 := cB5 b6 q0
                replace q1 := cB5 b6 q1
                replace q2 := cB5 b6 q2
                replace hc := cB5 b6 hc
                replace hA := rB5 b6 hA
                replace hT := HC.out.below _ _ hT b6
                replace B := chain B b6
                clear b6
                clear f1 b0
                go_wp2_with fail
                refine (HRP.out _ hA hT).mono ?_
                rintro e w7 ⟨rfl, b7⟩
                replace q0 := cB5 b7 q0
                replace q1 := cB5 b7 q1
                replace q2 := cB5 b7 q2
                replace hc := cB5 b7 hc
                replace hA := rB5 b7 hA
                replace hT := HC.out.below _ _ hT b7
                replace B := chain B b7
                clear b7
                go_wp2_with fail
                refine (HRC.out _ hA hT).mono ?_
                rintro e w8 ⟨rfl, b8⟩
                replace q0 := cB5 b8 q0
                replace q1 := cB5 b8 q1
                replace q2 := cB5 b8 q2
                replace hc := cB5 b8 hc
                replace hA := rB5 b8 hA
                replace hT := HC.out.below _ _ hT b8
                replace B := chain B b8
                clear b8
                go_wp2_with fail
                refine (HPT.out _ hA).mono ?_
                rintro e w9 ⟨vP, rfl, hoP, b9⟩
                obtain ⟨AP, cP, rfl, hcP, rP⟩ := RdP.own hoP
                clear hoP
                replace q0 := cB5 b9 q0
                replace q1 := cB5 b9 q1
                replace q2 := cB5 b9 q2
                replace hc := cB5 b9 hc
                replace hA := rB5 b9 hA
                replace hT := HC.out.below _ _ hT b9
                replace B := chain B b9
                clear b9
                go_wp2_with fail
                refine (HRC2.out AP cP _ rP hT).mono ?_
                rintro e w10 ⟨rfl, b10⟩
                replace q0 := cB5 b10 q0
                replace q1 := cB5 b10 q1
                replace q2 := cB5 b10 q2
                replace hc := cB5 b10 hc
                replace hA := rB5 b10 hA
                replace rP := rB5 b10 rP
                replace hT := HC.out.below _ _ hT b10
                replace B := chain B b10
                clear b10
                have f2 := HF2.out
                have f3 := HF3.out
                have f4 := HF4.out
                have b0 : (0 : Int) ≤ (n : Int) := by omega
                go_wp2_with fail
                refine (known5_any HC.out _ hT).mono ?_
                rintro e w11 ⟨rfl, b11⟩
                replace q0 := cB5 b11 q0
                replace q1 := cB5 b11 q1
                replace q2 := cB5 b11 q2
                replace hc := cB5 b11 hc
                replace hA := rB5 b11 hA
                replace rP := rB5 b11 rP
                replace hT := HC.out.below _ _ hT b11
                replace B := chain B b11
                clear b11
                go_wp2
                go_ret
                exact ⟨rfl, B⟩
          · have HK : Hid (kingV l (decide (p < 0)) < 0) := Lib.hid (by omega)
            clear hk
            go_enter Tryd.func7, Tryd.ntmps7
            go_wp2_with fail
            refine (small5_yes F R l (some ad) c HS.out _).mono ?_
            rintro e w1 ⟨rfl, b1⟩
            replace q0 := cB5 b1 q0
            replace q1 := cB5 b1 q1
            replace q2 := cB5 b1 q2
            replace hc := cB5 b1 hc
            replace hA := rB5 b1 hA
            replace hT := HC.out.below _ _ hT b1
            replace B := chain B b1
            clear b1
            go_wp2_with fail
            refine (rOrth_good F R l (some ad) c HB.out.1 HB.out.2 _ hA).mono ?_
            rintro e w2 ⟨rfl, b2⟩
            replace q0 := cB5 b2 q0
            replace q1 := cB5 b2 q1
            replace q2 := cB5 b2 q2
            replace hc := cB5 b2 hc
            replace hA := rB5 b2 hA
            replace hT := HC.out.below _ _ hT b2
            replace B := chain B b2
            clear b2
            go_wp2_with fail
            refine (refValid_yes F R (n : Int) HV.out _).mono ?_
            rintro e w3 ⟨rfl, b3⟩
            replace q0 := cB5 b3 q0
            replace q1 := cB5 b3 q1
            replace q2 := cB5 b3 q2
            replace hc := cB5 b3 hc
            replace hA := rB5 b3 hA
            replace hT := HC.out.below _ _ hT b3
            replace B := chain B b3
            clear b3
            go_wp2_with fail
            refine (HR1.out _ hA hT).mono ?_
            rintro e w4 ⟨rfl, b4⟩
            replace q0 := cB5 b4 q0
            replace q1 := cB5 b4 q1
            replace q2 := cB5 b4 q2
            replace hc := cB5 b4 hc
            replace hA := rB5 b4 hA
            replace hT := HC.out.below _ _ hT b4
            replace B := chain B b4
            clear b4
            go_wp2_with fail
            refine (HR2.out _ hA hT).mono ?_
            rintro e w5 ⟨rfl, b5⟩
            replace q0 := cB5 b5 q0
            replace q1 := cB5 b5 q1
            replace q2 := cB5 b5 q2
            replace hc := cB5 b5 hc
            replace hA := rB5 b5 hA
            replace hT := HC.out.below _ _ hT b5
            replace B := chain B b5
            clear b5
            have f1 := HFA.out
            have b0 : (0 : Int) ≤ (n : Int) := by omega
            go_wp2_with fail
            refine (HRKN.out _ hA hT HK.out).mono ?_
            rintro e w6 ⟨rfl, b6⟩
            replace q0 := cB5 b6 q0
            replace q1 := cB5 b6 q1
            replace q2 := cB5 b6 q2
            replace hc := cB5 b6 hc
            replace hA := rB5 b6 hA
            replace hT := HC.out.below _ _ hT b6
            replace B := chain B b6
            clear b6
            clear f1 b0
            go_wp2_with fail
            refine (known5_any HC.out _ hT).mono ?_
            rintro e w7 ⟨rfl, b7⟩
            replace q0 := cB5 b7 q0
            replace q1 := cB5 b7 q1
            replace q2 := cB5 b7 q2
            replace hc := cB5 b7 hc
            replace hA := rB5 b7 hA
            replace hT := HC.out.below _ _ hT b7
            replace B := chain B b7
            clear b7
            go_wp2
            go_ret
            exact ⟨rfl, B⟩
      · have HV := Lib.hid ht
        clear ht
        go_enter Tryd.func7, Tryd.ntmps7
        go_wp2_with fail
        refine (small5_yes F R l A c HS.out _).mono ?_
        rintro e w1 ⟨rfl, b1⟩
        replace q0 := cB5 b1 q0
        replace q1 := cB5 b1 q1
        replace q2 := cB5 b1 q2
        replace hA := rB5 b1 hA
        replace hT := HC.out.below _ _ hT b1
        replace B := chain B b1
        clear b1
        go_wp2_with fail
        refine (rOrth_good F R l A c HB.out.1 HB.out.2 _ hA).mono ?_
        rintro e w2 ⟨rfl, b2⟩
        replace q0 := cB5 b2 q0
        replace q1 := cB5 b2 q1
        replace q2 := cB5 b2 q2
        replace hA := rB5 b2 hA
        replace hT := HC.out.below _ _ hT b2
        replace B := chain B b2
        clear b2
        go_wp2_with fail
        refine (refValid_no F R t HV.out _).mono ?_
        rintro e w3 ⟨rfl, b3⟩
        replace q0 := cB5 b3 q0
        replace q1 := cB5 b3 q1
        replace q2 := cB5 b3 q2
        replace hA := rB5 b3 hA
        replace hT := HC.out.below _ _ hT b3
        replace B := chain B b3
        clear b3
        go_wp2_with fail
        refine (known5_any HC.out _ hT).mono ?_
        rintro e w4 ⟨rfl, b4⟩
        replace q0 := cB5 b4 q0
        replace q1 := cB5 b4 q1
        replace q2 := cB5 b4 q2
        replace hA := rB5 b4 hA
        replace hT := HC.out.below _ _ hT b4
        replace B := chain B b4
        clear b4
        go_wp2
        go_ret
        exact ⟨rfl, B⟩
    · have HB := Lib.hid hb
      clear hb
      go_enter Tryd.func7, Tryd.ntmps7
      go_wp2_with fail
      refine (small5_yes F R l A c HS.out _).mono ?_
      rintro e w1 ⟨rfl, b1⟩
      replace q0 := cB5 b1 q0
      replace q1 := cB5 b1 q1
      replace q2 := cB5 b1 q2
      replace hA := rB5 b1 hA
      replace hT := HC.out.below _ _ hT b1
      replace B := chain B b1
      clear b1
      go_wp2_with fail
      refine (rOrth_bad F R l A c HB.out _ HS.out hA).mono ?_
      rintro e w2 ⟨rfl, b2⟩
      replace q0 := cB5 b2 q0
      replace q1 := cB5 b2 q1
      replace q2 := cB5 b2 q2
      replace hA := rB5 b2 hA
      replace hT := HC.out.below _ _ hT b2
      replace B := chain B b2
      clear b2
      go_wp2_with fail
      refine (known5_any HC.out _ hT).mono ?_
      rintro e w3 ⟨rfl, b3⟩
      replace q0 := cB5 b3 q0
      replace q1 := cB5 b3 q1
      replace q2 := cB5 b3 q2
      replace hA := rB5 b3 hA
      replace hT := HC.out.below _ _ hT b3
      replace B := chain B b3
      clear b3
      go_wp2
      go_ret
      exact ⟨rfl, B⟩
  · go_enter Tryd.func7, Tryd.ntmps7
    go_wp2_with fail
    refine (small5_no F R l A c (by omega) _).mono ?_
    rintro e w1 ⟨rfl, b1⟩
    replace q0 := cB5 b1 q0
    replace q1 := cB5 b1 q1
    replace q2 := cB5 b1 q2
    replace hA := rB5 b1 hA
    replace hT := HC.out.below _ _ hT b1
    replace B := chain B b1
    clear b1
    go_wp2_with fail
    refine (known5_any HC.out _ hT).mono ?_
    rintro e w2 ⟨rfl, b2⟩
    replace q0 := cB5 b2 q0
    replace q1 := cB5 b2 q1
    replace q2 := cB5 b2 q2
    replace hA := rB5 b2 hA
    replace hT := HC.out.below _ _ hT b2
    replace B := chain B b2
    clear b2
    go_wp2
    go_ret
    exact ⟨rfl, B⟩

end Go.Proofs.YtjnbjegopddhgaaDoor
