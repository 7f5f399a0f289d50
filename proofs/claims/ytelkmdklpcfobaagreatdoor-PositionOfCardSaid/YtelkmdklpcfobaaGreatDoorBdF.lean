/- Pieces: kinds' names: the program's Find, the reference's Name and Find. -/
import Derived.Test.YtelkmdklpcfobaaGreatDoorBdG
import Derived.Laws.BytesString
import Derived.Test.YtelkmdklpcfobaaGreatDoorBdD

namespace Go.Proofs.YtelkmdklpcfobaaGreatDoor
open Go.RowKit

/-- the kind with a name, or 0. -/
def fdP (s : ByteArray) : Int := match (List.range 15).find? (fun k => decide (knm k = s)) with
  | some k => (k : Int) + 1
  | none => 0
theorem fdP_no {s : ByteArray} (h : ∀ k, k < 15 → knm k ≠ s) : fdP s = 0 := by
  unfold fdP
  rw [List.find?_eq_none.2]
  intro k hk hc
  exact h k (List.mem_range.1 hk) (by simpa using hc)
theorem fdP_nm {k : Nat} (hk : k < 15) : fdP (knm k) = (k : Int) + 1 := by
  have key : ∀ k : Nat, k < 15 → fdP (knm k) = (k : Int) + 1 := by decide +kernel
  exact key k hk

def noName (s : ByteArray) (k : Nat) : Prop := ∀ j, j < k → knm j ≠ s
theorem pTo_ne {a b : ByteArray} (h : a ≠ b) : (a.toList == b.toList) = false := by
  rw [beq_eq_false_iff_ne, ByteArray.toList_eq, ByteArray.toList_eq]
  intro e
  apply h
  cases a; cases b
  simpa using e
theorem pTo_eq {a b : ByteArray} (h : a = b) : (a.toList == b.toList) = true := by rw [h]; simp

def b1 (x : Int) : ByteArray := ByteArray.empty.push (UInt8.ofNat x.toNat)
theorem conv1 (W : World) (x : Int) : (convert 100 9 (.slice (some ⟨W.heap.size, 0, none⟩) 1 1)).run Tryz.prog (W.alloc (.cells #[.int .u8 x] 5)) = .ok (.string (b1 x)) (W.alloc (.cells #[.int .u8 x] 5)) := by
  rw [run_convert_bytes_string _ _ _ _ _ _ _ Tryz.underlying100 Tryz.underlying5 Tryz.underlying9, run_bytesToString _ _ _ _ [x] (by simp [go_sem, loadCells])]
  rfl
theorem ret_strP {a b : ByteArray} (h : a = b) : Ending.returned (.string a) = .returned (.string b) := by rw [h]
theorem fairy_nm : ∀ k : Nat, k < 15 → 6 ≤ k → (ByteArray.mk #[102, 97, 105, 114, 121, 45]) ++ b1 ((ltr k : Int) + 32) = knm k := by decide +kernel

end Go.Proofs.YtelkmdklpcfobaaGreatDoor

/- Boards: the document's own text of a board. -/
namespace Go.Proofs.YtelkmdklpcfobaaGreatDoor
open Go.RowKit

theorem rLetter_any (p : Int) (h : okP p) (hz : p ≠ 0) (w : World) : Calls Tryz.prog 94 #[.int .i8 p] w fun e w' => e = .returned (.int .u8 (lt p : Int)) ∧ w = w' := by
  obtain ⟨h0, h1⟩ := h
  by_cases hn : p < 0
  · obtain ⟨i, rfl⟩ : ∃ i : Nat, p = -(i : Int) := ⟨(-p).toNat, by omega⟩
    rw [lt_neg (by omega)]
    exact rLetter_neg i (by omega) (by omega) w
  · obtain ⟨i, rfl⟩ : ∃ i : Nat, p = (i : Int) := ⟨p.toNat, by omega⟩
    rw [lt_pos (by omega)]
    exact rLetter_pos i (by omega) (by omega) w
theorem vbd_nat {F R : Int} {l : List Int} (h : vbd F R l) : ∃ f r : Nat, F = (f : Int) ∧ R = (r : Int) ∧ 3 ≤ f ∧ f ≤ 8 ∧ 3 ≤ r ∧ r ≤ 8 ∧ l.length = r * f := by
  obtain ⟨⟨a, b, c, d⟩, hl, _⟩ := h
  obtain ⟨f, rfl⟩ := Int.eq_ofNat_of_zero_le (show 0 ≤ F by omega)
  obtain ⟨r, rfl⟩ := Int.eq_ofNat_of_zero_le (show 0 ≤ R by omega)
  refine ⟨f, r, rfl, rfl, by omega, by omega, by omega, by omega, ?_⟩
  have : ((l.length : Nat) : Int) = ((r * f : Nat) : Int) := by rw [hl, Int.natCast_mul, Int.mul_comm]
  omega
theorem dig_at (e : Nat) (h : e ≤ 8) : (ByteArray.mk #[48, 49, 50, 51, 52, 53, 54, 55, 56]).extract e (e + 1) = bsL [UInt8.ofNat (48 + e)] := by
  have : ∀ e : Fin 9, (ByteArray.mk #[48, 49, 50, 51, 52, 53, 54, 55, 56]).extract e.1 (e.1 + 1) = bsL [UInt8.ofNat (48 + e.1)] := by decide +kernel
  exact this ⟨e, by omega⟩
theorem b1_bsL (n : Nat) : b1 (n : Int) = bsL [UInt8.ofNat n] := by unfold b1 bsL; rfl

theorem bsL_nil : bsL [] = ByteArray.empty := rfl
theorem bsL_ne (L : List UInt8) : (bsL L).toList = L := by
  rw [ByteArray.toList_eq, bsL_toList]

set_option maxRecDepth 100000 in
set_option maxHeartbeats 4000000 in
theorem rText_any (f r : Nat) (l : List Int) (A : Option Addr) (c : Nat) (w : World) (hf0 : 3 ≤ f) (hf1 : f ≤ 8) (hr0 : 3 ≤ r) (hr1 : r ≤ 8) (hl : l.length = r * f) (hp : ∀ j, j < l.length → okP (l[j]?.getD 0)) (hA : RdP w w.heap.size A l c) :
    Calls Tryz.prog 60 #[.agg #[.int .i64 (f : Int), .int .i64 (r : Int), .slice A l.length c]] w fun e w' => e = .returned (.string (textB f r l)) ∧ Below w.heap.size w w' := by
  have HP := Lib.hid hp
  have HL := Lib.hid hl
  have hl64 : l.length ≤ 64 := by
    rw [hl]; exact Nat.le_trans (Nat.mul_le_mul hr1 hf1) (by omega)
  have W0 : Below w.heap.size w (w.alloc (.cells #[.int .i64 (f : Int), .int .i64 (r : Int), .slice A l.length c] 30)) := box1 _ _
  have A1 := (hA.below W0)
  clear hA hp hl
  go_enter Tryz.func60, Tryz.ntmps60
  go_wp2
  go_loopw [3, 4, 5, 6] (fun o i _ _ wr => ∃ k : Nat, k ≤ r ∧ i = .int .i64 ((r : Int) - 1 - k) ∧ o = .string (bsL (accT f r l k)) ∧ Below (w.heap.size + 1) (w.alloc (.cells #[.int .i64 (f : Int), .int .i64 (r : Int), .slice A l.length c] 30)) wr) (fun _ i _ _ _ => (intOf i + 1).toNat)
  case atStart => exact ⟨0, by omega, by simp, rfl, Below.refl _ _⟩
  case round =>
    obtain ⟨k, hk, rfl, rfl, hB⟩ := hrel
    have s1 := hB.size
    simp at s1
    have hc0 := hB.cell (p := ⟨w.heap.size, 0, none⟩) (by simp)
    have hc1 := hB.cell (p := ⟨w.heap.size, 1, none⟩) (by simp)
    have hc2 := hB.cell (p := ⟨w.heap.size, 2, none⟩) (by simp)
    simp [go_sem] at hc0 hc1 hc2
    by_cases hlt : k < r
    · obtain ⟨n, hn⟩ : ∃ n : Nat, (r : Int) - 1 - k = n := ⟨r - 1 - k, by omega⟩
      rw [hn]
      have hnr : n < r := by omega
      have HN : Hid (r - 1 - k = n) := Lib.hid (by omega)
      clear hn
      obtain ⟨S, hS⟩ : ∃ S : ByteArray, bsL (accT f r l k) = S := ⟨_, rfl⟩
      have hk8 : k ≤ 7 := by omega
      have hf2 : 2 * f + 2 ≤ 18 := by omega
      have hSs : S.size ≤ 144 := by rw [← hS, bsL_size]; have := accT_bd f r l k; have := Nat.mul_le_mul hk8 hf2; omega
      have hS := Lib.hid hS
      rw [hS.out]
      have HR : Hid ((rk f l n).length = f) := Lib.hid (rk_len HL.out hnr)
      have hp0 : 0 ≤ (n : Int) * (f : Int) := by rw [← Int.natCast_mul]; omega
      have hp1 : (n : Int) * (f : Int) ≤ 56 := by rw [← Int.natCast_mul]; have := Nat.mul_le_mul (show n ≤ 7 by omega) hf1; omega
      rcases Nat.eq_zero_or_pos k with hk0 | hk0
      · have HK := Lib.hid hk0
        have hie : (!S.toList.isEmpty) = false := by rw [← hS.out]; subst hk0; rw [bsL_ne]; rfl
        obtain ⟨T, hT⟩ : ∃ T : ByteArray, S = T := ⟨_, rfl⟩
        have HT : Hid (T = bsL (accT f r l k ++ if k = 0 then [] else [47])) := Lib.hid (by rw [← hT, ← hS.out]; subst hk0; rw [if_pos rfl, List.append_nil])
        have hTs : T.size ≤ 150 := by rw [HT.out, bsL_size]; simp; have := accT_bd f r l k; have := Nat.mul_le_mul hk8 hf2; split <;> simp <;> omega
        have hT2 := hT.symm; subst hT2
        go_wp2
        clear hT
        clear hie hk0
        go_loopw [3, 5, 6] (fun o e j wq => ∃ q : Nat, q ≤ f + 1 ∧ j = .int .i64 q ∧ o = .string (T ++ bsL (rowX (rk f l n) q).1) ∧ e = .int .i64 ((rowX (rk f l n) q).2 : Nat) ∧ Below (w.heap.size + 1) (w.alloc (.cells #[.int .i64 (f : Int), .int .i64 (r : Int), .slice A l.length c] 30)) wq) (fun _ _ j _ => f + 2 - (intOf j).toNat)
        case atStart => exact ⟨0, by omega, rfl, by rw [rowX_le (by omega), rowS_zero]; simp [bsL_nil], by rw [rowX_le (by omega), rowS_zero]; rfl, hB⟩
        case round =>
          clear hB hc0 hc1 hc2 s1
          obtain ⟨q, hq, rfl, rfl, rfl, hB⟩ := hrel
          have s1 := hB.size
          simp at s1
          have hc0 := hB.cell (p := ⟨w.heap.size, 0, none⟩) (by simp)
          have hc1 := hB.cell (p := ⟨w.heap.size, 1, none⟩) (by simp)
          have hc2 := hB.cell (p := ⟨w.heap.size, 2, none⟩) (by simp)
          simp [go_sem] at hc0 hc1 hc2
          by_cases hqf : q < f
          · have hin := rk_in HL.out hnr hqf
            obtain ⟨ad, rfl, hb, hc⟩ := (A1.below (hB.mono (by omega))).at_ hin
            have hV := HP.out _ hin
            have hat := Lib.hid (rk_at HL.out hnr hqf)
            have hbd := rowS_bd (rk f l n) q (by rw [HR.out]; omega)
            rw [rowX_le (by rw [HR.out]; omega)]
            clear A1
            generalize hx : l[n * f + q]?.getD 0 = x at *
            clear hx
            have hini : (n : Int) * (f : Int) + (q : Int) < (l.length : Int) := by rw [← Int.natCast_mul]; omega
            by_cases hz : x = 0
            · have E := Lib.hid (rowS_emp (row := rk f l n) (k := q) (by rw [HR.out]; omega) (by rw [hat.out]; exact hz))
              subst hz
              generalize rowS (rk f l n) q = st at *
              obtain ⟨st1, st2⟩ := st
              simp only at hbd ⊢
              go_wp2
              go_roundw
              case rel => exact ⟨q + 1, by omega, by go_num, by rw [rowX_le (by rw [HR.out]; omega), E.out], by rw [rowX_le (by rw [HR.out]; omega), E.out]; go_num, hB⟩
              case measure => simp [intOf]; omega
            · have E := Lib.hid (rowS_pc (row := rk f l n) (k := q) (by rw [HR.out]; omega) (by rw [hat.out]; exact hz))
              rw [hat.out] at E
              have hz' : (x == 0) = false := beq_eq_false_iff_ne.2 hz
              have HZ := Lib.hid hz
              clear hz
              generalize rowS (rk f l n) q = st at *
              obtain ⟨st1, st2⟩ := st
              simp only at hbd E ⊢
              have hU : (T ++ bsL st1).size ≤ 170 := by rw [ByteArray.size_append, bsL_size]; omega
              have HU : Hid (T ++ bsL (st1 ++ flu st2 ++ [UInt8.ofNat (lt x)]) = T ++ bsL st1 ++ bsL (flu st2) ++ b1 (lt x : Int)) := Lib.hid (by rw [b1_bsL, ← bsL_append, ← bsL_append, ByteArray.append_assoc, ByteArray.append_assoc, ByteArray.append_assoc])
              generalize T ++ bsL st1 = U at *
              have hcv := fun W => conv1 W (lt x : Int)
              have hD : (b1 (lt x : Int)).size ≤ 1 := by rw [b1_bsL, bsL_size]; simp
              generalize b1 (lt x : Int) = D at *
              have hs8 : st2 ≤ 8 := by omega
              rcases Nat.eq_zero_or_pos st2 with h0 | h0
              · subst h0
                go_wp2_with fail
                refine (rLetter_any x hV HZ.out _).mono ?_
                rintro e w2 ⟨rfl, rfl⟩
                go_wp2
                go_roundw
                case rel => exact ⟨q + 1, by omega, by go_num, by rw [rowX_le (by rw [HR.out]; omega), E.out]; simp only; rw [HU.out, flu_zero]; simp [bsL_nil], by rw [rowX_le (by rw [HR.out]; omega), E.out]; rfl, hB.alloc (by omega) _⟩
                case measure => simp [intOf]; omega
              · go_wp2_with fail
                refine (rLetter_any x hV HZ.out _).mono ?_
                rintro e w2 ⟨rfl, rfl⟩
                go_wp2
                go_roundw
                case rel => exact ⟨q + 1, by omega, by go_num, by rw [rowX_le (by rw [HR.out]; omega), E.out]; simp only; rw [HU.out, flu_pos h0, dig_at st2 hs8], by rw [rowX_le (by rw [HR.out]; omega), E.out]; rfl, hB.alloc (by omega) _⟩
                case measure => simp [intOf]; omega
          · by_cases hqe : q = f
            · subst hqe
              have E := Lib.hid (rowX_end (rk q l n))
              rw [HR.out] at E
              have hbd := rowS_bd (rk q l n) q (by rw [HR.out]; omega)
              rw [rowX_le (by rw [HR.out]; omega)]
              clear A1
              generalize rowS (rk q l n) q = st at *
              obtain ⟨st1, st2⟩ := st
              simp only at hbd E ⊢
              have hU : (T ++ bsL st1).size ≤ 170 := by rw [ByteArray.size_append, bsL_size]; omega
              have HU : Hid (T ++ bsL (st1 ++ flu st2) = T ++ bsL st1 ++ bsL (flu st2)) := Lib.hid (by rw [← bsL_append, ByteArray.append_assoc])
              generalize T ++ bsL st1 = U at *
              have hs8 : st2 ≤ 8 := by omega
              rcases Nat.eq_zero_or_pos st2 with h0 | h0
              · subst h0
                go_wp2
                go_roundw
                case rel => exact ⟨q + 1, by omega, by go_num, by rw [E.out]; simp only; rw [HU.out, flu_zero]; simp [bsL_nil], by rw [E.out], hB⟩
                case measure => simp [intOf] <;> omega
              · go_wp2
                go_roundw
                case rel => exact ⟨q + 1, by omega, by go_num, by rw [E.out]; simp only; rw [HU.out, flu_pos h0, dig_at st2 hs8], by rw [E.out]; rfl, hB⟩
                case measure => simp [intOf] <;> omega
            · obtain rfl : q = f + 1 := by omega
              have E : Hid (T ++ bsL (rowX (rk f l n) (f + 1)).1 = bsL (accT f r l (k + 1))) := Lib.hid (by
                have e := rowX_end (rk f l n)
                rw [HR.out] at e
                rw [e, HT.out, bsL_append, accT, HN.out]
                unfold rowT
                rw [HR.out])
              have hlt' : ¬ ((f : Int) + 1 ≤ (f : Int)) := by omega
              generalize (rowX (rk f l n) (f + 1)).2 = y at *
              generalize T ++ bsL (rowX (rk f l n) (f + 1)).1 = U at *
              go_wp2
              go_roundw
              case rel => exact ⟨k + 1, by omega, vint (by have := HN.out; omega), by rw [E.out], hB⟩
              case measure => simp [intOf] <;> omega
      · have HK := Lib.hid hk0
        have hie : (!S.toList.isEmpty) = true := by rw [← hS.out]; rw [bsL_ne]; simp; exact accT_ne (by omega) HL.out hk0 hk
        obtain ⟨T, hT⟩ : ∃ T : ByteArray, S ++ ⟨#[47]⟩ = T := ⟨_, rfl⟩
        have HT : Hid (T = bsL (accT f r l k ++ if k = 0 then [] else [47])) := Lib.hid (by rw [← hT, ← hS.out]; rw [if_neg (by omega), ← bsL_append]; rfl)
        have hTs : T.size ≤ 150 := by rw [HT.out, bsL_size]; simp; have := accT_bd f r l k; have := Nat.mul_le_mul hk8 hf2; split <;> simp <;> omega
        skip
        go_wp2
        clear hT
        clear hie hk0
        go_loopw [3, 5, 6] (fun o e j wq => ∃ q : Nat, q ≤ f + 1 ∧ j = .int .i64 q ∧ o = .string (T ++ bsL (rowX (rk f l n) q).1) ∧ e = .int .i64 ((rowX (rk f l n) q).2 : Nat) ∧ Below (w.heap.size + 1) (w.alloc (.cells #[.int .i64 (f : Int), .int .i64 (r : Int), .slice A l.length c] 30)) wq) (fun _ _ j _ => f + 2 - (intOf j).toNat)
        case atStart => exact ⟨0, by omega, rfl, by rw [rowX_le (by omega), rowS_zero]; simp [bsL_nil], by rw [rowX_le (by omega), rowS_zero]; rfl, hB⟩
        case round =>
          clear hB hc0 hc1 hc2 s1
          obtain ⟨q, hq, rfl, rfl, rfl, hB⟩ := hrel
          have s1 := hB.size
          simp at s1
          have hc0 := hB.cell (p := ⟨w.heap.size, 0, none⟩) (by simp)
          have hc1 := hB.cell (p := ⟨w.heap.size, 1, none⟩) (by simp)
          have hc2 := hB.cell (p := ⟨w.heap.size, 2, none⟩) (by simp)
          simp [go_sem] at hc0 hc1 hc2
          by_cases hqf : q < f
          · have hin := rk_in HL.out hnr hqf
            obtain ⟨ad, rfl, hb, hc⟩ := (A1.below (hB.mono (by omega))).at_ hin
            have hV := HP.out _ hin
            have hat := Lib.hid (rk_at HL.out hnr hqf)
            have hbd := rowS_bd (rk f l n) q (by rw [HR.out]; omega)
            rw [rowX_le (by rw [HR.out]; omega)]
            clear A1
            generalize hx : l[n * f + q]?.getD 0 = x at *
            clear hx
            have hini : (n : Int) * (f : Int) + (q : Int) < (l.length : Int) := by rw [← Int.natCast_mul]; omega
            by_cases hz : x = 0
            · have E := Lib.hid (rowS_emp (row := rk f l n) (k := q) (by rw [HR.out]; omega) (by rw [hat.out]; exact hz))
              subst hz
              generalize rowS (rk f l n) q = st at *
              obtain ⟨st1, st2⟩ := st
              simp only at hbd ⊢
              go_wp2
              go_roundw
              case rel => exact ⟨q + 1, by omega, by go_num, by rw [rowX_le (by rw [HR.out]; omega), E.out], by rw [rowX_le (by rw [HR.out]; omega), E.out]; go_num, hB⟩
              case measure => simp [intOf]; omega
            · have E := Lib.hid (rowS_pc (row := rk f l n) (k := q) (by rw [HR.out]; omega) (by rw [hat.out]; exact hz))
              rw [hat.out] at E
              have hz' : (x == 0) = false := beq_eq_false_iff_ne.2 hz
              have HZ := Lib.hid hz
              clear hz
              generalize rowS (rk f l n) q = st at *
              obtain ⟨st1, st2⟩ := st
              simp only at hbd E ⊢
              have hU : (T ++ bsL st1).size ≤ 170 := by rw [ByteArray.size_append, bsL_size]; omega
              have HU : Hid (T ++ bsL (st1 ++ flu st2 ++ [UInt8.ofNat (lt x)]) = T ++ bsL st1 ++ bsL (flu st2) ++ b1 (lt x : Int)) := Lib.hid (by rw [b1_bsL, ← bsL_append, ← bsL_append, ByteArray.append_assoc, ByteArray.append_assoc, ByteArray.append_assoc])
              generalize T ++ bsL st1 = U at *
              have hcv := fun W => conv1 W (lt x : Int)
              have hD : (b1 (lt x : Int)).size ≤ 1 := by rw [b1_bsL, bsL_size]; simp
              generalize b1 (lt x : Int) = D at *
              have hs8 : st2 ≤ 8 := by omega
              rcases Nat.eq_zero_or_pos st2 with h0 | h0
              · subst h0
                go_wp2_with fail
                refine (rLetter_any x hV HZ.out _).mono ?_
                rintro e w2 ⟨rfl, rfl⟩
                go_wp2
                go_roundw
                case rel => exact ⟨q + 1, by omega, by go_num, by rw [rowX_le (by rw [HR.out]; omega), E.out]; simp only; rw [HU.out, flu_zero]; simp [bsL_nil], by rw [rowX_le (by rw [HR.out]; omega), E.out]; rfl, hB.alloc (by omega) _⟩
                case measure => simp [intOf]; omega
              · go_wp2_with fail
                refine (rLetter_any x hV HZ.out _).mono ?_
                rintro e w2 ⟨rfl, rfl⟩
                go_wp2
                go_roundw
                case rel => exact ⟨q + 1, by omega, by go_num, by rw [rowX_le (by rw [HR.out]; omega), E.out]; simp only; rw [HU.out, flu_pos h0, dig_at st2 hs8], by rw [rowX_le (by rw [HR.out]; omega), E.out]; rfl, hB.alloc (by omega) _⟩
                case measure => simp [intOf]; omega
          · by_cases hqe : q = f
            · subst hqe
              have E := Lib.hid (rowX_end (rk q l n))
              rw [HR.out] at E
              have hbd := rowS_bd (rk q l n) q (by rw [HR.out]; omega)
              rw [rowX_le (by rw [HR.out]; omega)]
              clear A1
              generalize rowS (rk q l n) q = st at *
              obtain ⟨st1, st2⟩ := st
              simp only at hbd E ⊢
              have hU : (T ++ bsL st1).size ≤ 170 := by rw [ByteArray.size_append, bsL_size]; omega
              have HU : Hid (T ++ bsL (st1 ++ flu st2) = T ++ bsL st1 ++ bsL (flu st2)) := Lib.hid (by rw [← bsL_append, ByteArray.append_assoc])
              generalize T ++ bsL st1 = U at *
              have hs8 : st2 ≤ 8 := by omega
              rcases Nat.eq_zero_or_pos st2 with h0 | h0
              · subst h0
                go_wp2
                go_roundw
                case rel => exact ⟨q + 1, by omega, by go_num, by rw [E.out]; simp only; rw [HU.out, flu_zero]; simp [bsL_nil], by rw [E.out], hB⟩
                case measure => simp [intOf] <;> omega
              · go_wp2
                go_roundw
                case rel => exact ⟨q + 1, by omega, by go_num, by rw [E.out]; simp only; rw [HU.out, flu_pos h0, dig_at st2 hs8], by rw [E.out]; rfl, hB⟩
                case measure => simp [intOf] <;> omega
            · obtain rfl : q = f + 1 := by omega
              have E : Hid (T ++ bsL (rowX (rk f l n) (f + 1)).1 = bsL (accT f r l (k + 1))) := Lib.hid (by
                have e := rowX_end (rk f l n)
                rw [HR.out] at e
                rw [e, HT.out, bsL_append, accT, HN.out]
                unfold rowT
                rw [HR.out])
              have hlt' : ¬ ((f : Int) + 1 ≤ (f : Int)) := by omega
              generalize (rowX (rk f l n) (f + 1)).2 = y at *
              generalize T ++ bsL (rowX (rk f l n) (f + 1)).1 = U at *
              go_wp2
              go_roundw
              case rel => exact ⟨k + 1, by omega, vint (by have := HN.out; omega), by rw [E.out], hB⟩
              case measure => simp [intOf] <;> omega
    · have hkl : k = r := by omega
      subst hkl
      go_wp2
      go_ret
      exact ⟨rfl, W0.trans (hB.mono (by omega))⟩

end Go.Proofs.YtelkmdklpcfobaaGreatDoor
