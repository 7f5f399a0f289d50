/- Pieces: kinds' names: the program's Find, the reference's Name and Find. -/
import Derived.Test.YtidfefaakkpoaaaDoorPcC
import Derived.Laws.BytesString
namespace Go.Proofs.YtidfefaakkpoaaaDoor
open Go.RowKit

/-- the kind with a name, or 0. -/
def fdP (s : ByteArray) : Int := match (List.range 15).find? (fun k => decide (knm k = s)) with
  | some k => (k : Int) + 1
  | none => 0
theorem fdP_no {s : ByteArray} (h : ∀ k, k < 15 → knm k ≠ s) : fdP s = 0 := by
  unfold fdP
  rw [List.find?_eq_none.2]
  intro k hk hc
  exact h k (List.mem_range.1 hk) (by simpa using hc)
theorem fdP_nm {k : Nat} (hk : k < 15) : fdP (knm k) = (k : Int) + 1 := by
  have key : ∀ k : Nat, k < 15 → fdP (knm k) = (k : Int) + 1 := by decide +kernel
  exact key k hk

def noName (s : ByteArray) (k : Nat) : Prop := ∀ j, j < k → knm j ≠ s
theorem pTo_ne {a b : ByteArray} (h : a ≠ b) : (a.toList == b.toList) = false := by
  rw [beq_eq_false_iff_ne, ByteArray.toList_eq, ByteArray.toList_eq]
  intro e
  apply h
  cases a; cases b
  simpa using e
theorem pTo_eq {a b : ByteArray} (h : a = b) : (a.toList == b.toList) = true := by rw [h]; simp

set_option maxRecDepth 100000 in
set_option maxHeartbeats 1000000 in
theorem find_any (s : ByteArray) (w : World) (hK : Kinds w) :
    Calls Tryd.prog 62 #[.string s] w fun e w' => e = .returned (.tuple #[.int .i8 (fdP s), .int .i64 (perr (fdP s))]) ∧ w = w' := by
  have HK := Lib.hid hK
  clear hK
  go_enter Tryd.func62, Tryd.ntmps62
  go_wp2
  go_loop [5] (fun i => ∃ k : Nat, k ≤ 15 ∧ i = .int .i8 k ∧ Hid (noName s k)) (fun i => 15 - (intOf i).toNat)
  case atStart => exact ⟨0, by omega, rfl, Lib.hid fun j hj => absurd hj (by omega)⟩
  case round =>
    obtain ⟨k, hk, rfl, HN⟩ := hrel
    by_cases hlt : k < 15
    · have hc := (HK.out.2 k hlt).2.2
      by_cases he : knm k = s
      · have hq := pTo_eq he
        have E : Hid (fdP s = (k : Int) + 1) := Lib.hid (by rw [← he]; exact fdP_nm hlt)
        clear he
        go_wp2
        go_ret2
        exact ⟨ret2 (vint E.out.symm) (vint (perr_yes (by rw [E.out]; omega))), rfl⟩
      · have hq := pTo_ne he
        have HN' : Hid (noName s (k + 1)) := Lib.hid fun j hj => if e : j = k then by rw [e]; exact he else HN.out j (by omega)
        clear he
        go_wp2
        go_round
        case rel => exact ⟨k + 1, by omega, by go_num, HN'⟩
        case measure => simp [intOf]; omega
    · have hkl : k = 15 := by omega
      subst hkl
      have E := Lib.hid (fdP_no HN.out)
      go_wp2
      go_ret2
      exact ⟨ret2 (vint E.out.symm) (vint (perr_no E.out)), rfl⟩

def b1 (x : Int) : ByteArray := ByteArray.empty.push (UInt8.ofNat x.toNat)
theorem conv1 (W : World) (x : Int) : (convert 94 9 (.slice (some ⟨W.heap.size, 0, none⟩) 1 1)).run Tryd.prog (W.alloc (.cells #[.int .u8 x] 5)) = .ok (.string (b1 x)) (W.alloc (.cells #[.int .u8 x] 5)) := by
  rw [run_convert_bytes_string _ _ _ _ _ _ _ Tryd.underlying94 Tryd.underlying5 Tryd.underlying9, run_bytesToString _ _ _ _ [x] (by simp [go_sem, loadCells])]
  rfl
theorem ret_strP {a b : ByteArray} (h : a = b) : Ending.returned (.string a) = .returned (.string b) := by rw [h]
theorem fairy_nm : ∀ k : Nat, k < 15 → 6 ≤ k → (ByteArray.mk #[102, 97, 105, 114, 121, 45]) ++ b1 ((ltr k : Int) + 32) = knm k := by decide +kernel

set_option maxRecDepth 100000 in
set_option maxHeartbeats 1000000 in
theorem rName_lo (i : Nat) (h0 : 1 ≤ i) (h1 : i ≤ 6) (w : World) :
    Calls Tryd.prog 57 #[.int .i8 (i : Int)] w fun e w' => e = .returned (.string (knm (i - 1))) ∧ Below w.heap.size w w' := by
  have h5 : i = 1 ∨ i = 2 ∨ i = 3 ∨ i = 4 ∨ i = 5 ∨ i = 6 := by omega
  rcases h5 with rfl | rfl | rfl | rfl | rfl | rfl
  all_goals
    go_enter Tryd.func57, Tryd.ntmps57
    go_wp2
    go_ret
    exact ⟨rfl, by go_grown⟩

set_option maxRecDepth 100000 in
set_option maxHeartbeats 1000000 in
theorem rName_hi (i : Nat) (h0 : 7 ≤ i) (h1 : i ≤ 15) (w : World) :
    Calls Tryd.prog 57 #[.int .i8 (i : Int)] w fun e w' => e = .returned (.string (knm (i - 1))) ∧ Below w.heap.size w w' := by
  have hd : decide ((i : Int) ≤ 6) = false := decide_eq_false (by omega)
  have hcv := fun W => conv1 W ((ltr (i - 1) : Int) + 32)
  have E := Lib.hid (fairy_nm (i - 1) (by omega) (by omega))
  go_enter Tryd.func57, Tryd.ntmps57
  go_wp2_with fail
  refine (rLetter_neg i (by omega) h1 _).mono ?_
  rintro e w1 ⟨rfl, rfl⟩
  go_wp2
  go_ret
  exact ⟨ret_strP E.out, by go_grown⟩

theorem rName_any (i : Nat) (h0 : 1 ≤ i) (h1 : i ≤ 15) (w : World) :
    Calls Tryd.prog 57 #[.int .i8 (i : Int)] w fun e w' => e = .returned (.string (knm (i - 1))) ∧ Below w.heap.size w w' := by
  by_cases h : i ≤ 6
  · exact rName_lo i h0 h w
  · exact rName_hi i (by omega) h1 w

set_option maxRecDepth 100000 in
set_option maxHeartbeats 1000000 in
theorem rFind_any (s : ByteArray) (w : World) :
    Calls Tryd.prog 65 #[.string s] w fun e w' => e = .returned (.int .i8 (fdP s)) ∧ Below w.heap.size w w' := by
  go_enter Tryd.func65, Tryd.ntmps65
  go_wp2
  go_loopw [3] (fun i wr => ∃ k : Nat, k ≤ 15 ∧ i = .int .i8 ((k : Int) + 1) ∧ Hid (noName s k) ∧ Below w.heap.size w wr) (fun i _ => 16 - (intOf i).toNat)
  case atStart => exact ⟨0, by omega, rfl, Lib.hid fun j hj => absurd hj (by omega), Below.refl _ _⟩
  case round =>
    obtain ⟨k, hk, rfl, HN, hB⟩ := hrel
    by_cases hlt : k < 15
    · have hN := rName_any (k + 1) (by omega) (by omega)
      rw [show ((k + 1 : Nat) : Int) = (k : Int) + 1 from by omega, Nat.add_sub_cancel] at hN
      have HH := Lib.hid hN
      clear hN
      by_cases he : knm k = s
      · have hq := pTo_eq he
        have E : Hid (fdP s = (k : Int) + 1) := Lib.hid (by rw [← he]; exact fdP_nm hlt)
        clear he
        go_wp2_with fail
        refine (HH.out _).mono ?_
        rintro e w1 ⟨rfl, hb⟩
        go_wp2
        go_ret
        exact ⟨ret_int E.out.symm, chain hB hb⟩
      · have hq := pTo_ne he
        have HN' : Hid (noName s (k + 1)) := Lib.hid fun j hj => if e : j = k then by rw [e]; exact he else HN.out j (by omega)
        clear he
        go_wp2_with fail
        refine (HH.out _).mono ?_
        rintro e w1 ⟨rfl, hb⟩
        go_wp2
        go_roundw
        case rel => exact ⟨k + 1, by omega, by go_num, HN', chain hB hb⟩
        case measure => simp [intOf]; omega
    · have hkl : k = 15 := by omega
      subst hkl
      have E := Lib.hid (fdP_no HN.out)
      go_wp2
      go_ret
      exact ⟨ret_int E.out.symm, hB⟩

end Go.Proofs.YtidfefaakkpoaaaDoor
