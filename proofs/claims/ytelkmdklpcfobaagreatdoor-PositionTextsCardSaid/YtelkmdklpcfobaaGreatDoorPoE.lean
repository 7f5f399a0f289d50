/- Positions, by the document: decimal texts. -/
import Derived.Test.YtelkmdklpcfobaaGreatDoorPoA
import Derived.Test.YtelkmdklpcfobaaGreatDoorAtF
namespace Go.Proofs.YtelkmdklpcfobaaGreatDoor
open Go.RowKit Go.Sort

theorem dig10 (n : Nat) (h : n < 10) : (ByteArray.mk #[48, 49, 50, 51, 52, 53, 54, 55, 56, 57]).extract n (n + 1) = bsL [UInt8.ofNat (48 + n)] := by
  have : ∀ n, n < 10 → (ByteArray.mk #[48, 49, 50, 51, 52, 53, 54, 55, 56, 57]).extract n (n + 1) = bsL [UInt8.ofNat (48 + n)] := by decide +kernel
  exact this n h

set_option maxRecDepth 100000 in
set_option maxHeartbeats 2000000 in
theorem rDec1 (n : Nat) (h : n < 10) (w : World) :
    Calls Tryz.prog 59 #[.int .i64 (n : Int)] w fun e w' => e = .returned (.string (bsL [UInt8.ofNat (48 + n)])) ∧ Below w.heap.size w w' := by
  have E := Lib.hid (dig10 n h)
  go_enter Tryz.func59, Tryz.ntmps59
  go_wp2_with fail
  go_ret
  exact ⟨ret_str E.out, Below.refl _ _⟩

set_option maxRecDepth 100000 in
set_option maxHeartbeats 2000000 in
theorem rDecF : ∀ (k n : Nat), n < 10 ^ k → 0 < k → k ≤ 18 → ∀ w : World,
    Calls Tryz.prog 59 #[.int .i64 (n : Int)] w fun e w' => e = .returned (.string (bsL (dcF k n))) ∧ Below w.heap.size w w'
  | 0, _, _, h, _, _ => absurd h (by omega)
  | k + 1, n, h, _, hk, w => by
    unfold dcF
    by_cases hn : n < 10
    · rw [if_pos hn]
      exact rDec1 n hn w
    · rw [if_neg hn]
      have hk0 : 0 < k := by
        rcases Nat.eq_zero_or_pos k with h0 | h0
        · subst h0; simp at h; omega
        · exact h0
      have hlt : n / 10 < 10 ^ k := by rw [Nat.pow_succ] at h; omega
      have hb : n < 1000000000000000000 := Nat.lt_of_lt_of_le h (Nat.pow_le_pow_right (by decide) hk)
      have H1 := Lib.hid (rDecF k (n / 10) hlt hk0 (by omega))
      have H2 := Lib.hid (rDec1 (n % 10) (by omega))
      rw [← bsL_append]
      have hz1 : (bsL (dcF k (n / 10))).size ≤ 20 := by rw [bsL_size]; have := dcF_len k k (n / 10) hlt hk0 (Nat.le_refl _); omega
      have hz2 : (bsL [UInt8.ofNat (48 + n % 10)]).size ≤ 1 := by rw [bsL_size]; simp
      generalize bsL (dcF k (n / 10)) = s1 at *
      generalize bsL [UInt8.ofNat (48 + n % 10)] = s2 at *
      have e1 : ((n / 10 : Nat) : Int) = (n : Int) / 10 := by omega
      have e2 : ((n % 10 : Nat) : Int) = (n : Int) % 10 := by omega
      rw [e1] at H1
      rw [e2] at H2
      clear h hlt hk hk0 e1 e2
      go_enter Tryz.func59, Tryz.ntmps59
      go_wp2_with fail
      refine (H1.out _).mono ?_
      rintro e w1 ⟨rfl, hb1⟩
      go_wp2_with fail
      refine (H2.out _).mono ?_
      rintro e w2 ⟨rfl, hb2⟩
      go_wp2_with fail
      go_ret
      exact ⟨rfl, chain hb1 hb2⟩

theorem rDec (n : Nat) (h : n < 1000000000000000000) (w : World) :
    Calls Tryz.prog 59 #[.int .i64 (n : Int)] w fun e w' => e = .returned (.string (bsL (dec n))) ∧ Below w.heap.size w w' := by
  rw [dec_eq (by omega), ← dcF_eq 18 n h (by decide)]
  exact rDecF 18 n h (by decide) (by decide) w

end Go.Proofs.YtelkmdklpcfobaaGreatDoor
