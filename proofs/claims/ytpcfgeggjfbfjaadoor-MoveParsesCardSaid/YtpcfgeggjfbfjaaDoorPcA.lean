/- Pieces: the table of kinds as the program's text lays it, and contracts of the functions of package piece that make no memory. -/
import Derived.Test.YtpcfgeggjfbfjaaDoorSqD
namespace Go.Proofs.YtpcfgeggjfbfjaaDoor
open Go.RowKit

def ltr (i : Nat) : Nat := [80, 78, 66, 82, 81, 75, 65, 67, 68, 69, 70, 71, 72, 73, 74].getD i 0
def vlu (i : Nat) : Nat := [1, 3, 3, 5, 9, 0, 0, 0, 0, 0, 0, 0, 0, 0, 0].getD i 0
def knmL (i : Nat) : List UInt8 := ([[112, 97, 119, 110], [107, 110, 105, 103, 104, 116], [98, 105, 115, 104, 111, 112], [114, 111, 111, 107], [113, 117, 101, 101, 110], [107, 105, 110, 103],
  [102, 97, 105, 114, 121, 45, 97], [102, 97, 105, 114, 121, 45, 99], [102, 97, 105, 114, 121, 45, 100], [102, 97, 105, 114, 121, 45, 101], [102, 97, 105, 114, 121, 45, 102], [102, 97, 105, 114, 121, 45, 103], [102, 97, 105, 114, 121, 45, 104], [102, 97, 105, 114, 121, 45, 105], [102, 97, 105, 114, 121, 45, 106]] : List (List UInt8)).getD i []
def knm (i : Nat) : ByteArray := ⟨(knmL i).toArray⟩

/-- the table of kinds. -/
def Kinds (w : World) : Prop := 0 + 1 ≤ w.heap.size ∧ ∀ i, i < 15 →
  w.cell? ⟨0, i * 3, none⟩ = some (.int .u8 (ltr i)) ∧ w.cell? ⟨0, i * 3 + 1, none⟩ = some (.int .i64 (vlu i)) ∧ w.cell? ⟨0, i * 3 + 2, none⟩ = some (.string (knm i))
theorem Kinds.below {w w' : World} {B : Nat} (h : Kinds w) (hb : Below B w w') (hB : 0 + 1 ≤ B) : Kinds w' :=
  ⟨Nat.le_trans h.1 hb.size, fun i hi => ⟨(hb.cell (by simp; omega)).trans (h.2 i hi).1, (hb.cell (by simp; omega)).trans (h.2 i hi).2.1, (hb.cell (by simp; omega)).trans (h.2 i hi).2.2⟩⟩

theorem ltr_bd : ∀ i, i < 15 → 65 ≤ ltr i ∧ ltr i ≤ 90 := by decide +kernel
def okP (p : Int) : Prop := -15 ≤ p ∧ p ≤ 15

set_option maxRecDepth 100000 in
set_option maxHeartbeats 400000 in
theorem pValid_yes (p : Int) (h : okP p) (w : World) :
    Calls Tryd.prog 53 #[.int .i8 p] w fun e w' => e = .returned (.bool true) ∧ w = w' := by
  obtain ⟨h0, h1⟩ := h
  go_enter Tryd.func53, Tryd.ntmps53
  go_wp2
  go_ret
  exact ⟨rfl, rfl⟩

set_option maxRecDepth 100000 in
set_option maxHeartbeats 400000 in
theorem pValid_no (p : Int) (h : ¬ okP p) (w : World) :
    Calls Tryd.prog 53 #[.int .i8 p] w fun e w' => e = .returned (.bool false) ∧ w = w' := by
  by_cases h0 : -15 ≤ p
  · have hd : decide (p ≤ 15) = false := decide_eq_false fun h1 => h ⟨h0, h1⟩
    clear h
    go_enter Tryd.func53, Tryd.ntmps53
    go_wp2
    go_ret
    exact ⟨rfl, rfl⟩
  · have hd : decide (-15 ≤ p) = false := decide_eq_false h0
    clear h
    go_enter Tryd.func53, Tryd.ntmps53
    go_wp2
    go_ret
    exact ⟨rfl, rfl⟩

set_option maxRecDepth 100000 in
set_option maxHeartbeats 400000 in
theorem mag_pos (i : Nat) (hi : i ≤ 15) (w : World) :
    Calls Tryd.prog 54 #[.int .i8 (i : Int)] w fun e w' => e = .returned (.int .i8 (i : Int)) ∧ w = w' := by
  go_enter Tryd.func54, Tryd.ntmps54
  go_wp2
  all_goals
    go_ret
    exact ⟨ret_int (by omega), rfl⟩

set_option maxRecDepth 100000 in
set_option maxHeartbeats 400000 in
theorem mag_neg (i : Nat) (hi : i ≤ 15) (w : World) :
    Calls Tryd.prog 54 #[.int .i8 (-(i : Int))] w fun e w' => e = .returned (.int .i8 (i : Int)) ∧ w = w' := by
  go_enter Tryd.func54, Tryd.ntmps54
  go_wp2
  all_goals
    go_ret
    exact ⟨ret_int (by omega), rfl⟩

set_option maxRecDepth 100000 in
set_option maxHeartbeats 400000 in
theorem small_any (c : Nat) (h0 : 65 ≤ c) (h1 : c ≤ 90) (w : World) :
    Calls Tryd.prog 55 #[.int .u8 (c : Int)] w fun e w' => e = .returned (.int .u8 ((c + 32 : Nat) : Int)) ∧ w = w' := by
  go_enter Tryd.func55, Tryd.ntmps55
  go_wp2
  go_ret
  exact ⟨ret_int (by omega), rfl⟩

set_option maxRecDepth 100000 in
set_option maxHeartbeats 400000 in
theorem letter_pos (i : Nat) (h0 : 1 ≤ i) (h1 : i ≤ 15) (w : World) (hK : Kinds w) :
    Calls Tryd.prog 43 #[.int .i8 (i : Int)] w fun e w' => e = .returned (.tuple #[.int .u8 (ltr (i - 1)), .int .i64 0]) ∧ w = w' := by
  have hz : (((i : Int)) == 0) = false := beq_eq_false_iff_ne.2 (by omega)
  have hn : decide ((i : Int) < 0) = false := decide_eq_false (by omega)
  have hc := (hK.2 (i - 1) (by omega)).1
  go_enter Tryd.func43, Tryd.ntmps43
  go_wp2_with fail
  refine (pValid_yes (i : Int) ⟨by omega, by omega⟩ _).mono ?_
  rintro e w1 ⟨rfl, rfl⟩
  go_wp2_with fail
  refine (mag_pos i h1 _).mono ?_
  rintro e w2 ⟨rfl, rfl⟩
  go_wp2
  go_ret2
  exact ⟨rfl, rfl⟩

set_option maxRecDepth 100000 in
set_option maxHeartbeats 400000 in
theorem letter_neg (i : Nat) (h0 : 1 ≤ i) (h1 : i ≤ 15) (w : World) (hK : Kinds w) :
    Calls Tryd.prog 43 #[.int .i8 (-(i : Int))] w fun e w' => e = .returned (.tuple #[.int .u8 ((ltr (i - 1) + 32 : Nat) : Int), .int .i64 0]) ∧ w = w' := by
  have hz : (-(i : Int) == 0) = false := beq_eq_false_iff_ne.2 (by omega)
  have hn : -(i : Int) < 0 := by omega
  have hc := (hK.2 (i - 1) (by omega)).1
  obtain ⟨b0, b1⟩ := ltr_bd (i - 1) (by omega)
  go_enter Tryd.func43, Tryd.ntmps43
  go_wp2_with fail
  refine (pValid_yes (-(i : Int)) ⟨by omega, by omega⟩ _).mono ?_
  rintro e w1 ⟨rfl, rfl⟩
  go_wp2_with fail
  refine (mag_neg i h1 _).mono ?_
  rintro e w2 ⟨rfl, rfl⟩
  go_wp2_with fail
  refine (small_any (ltr (i - 1)) b0 b1 _).mono ?_
  rintro e w3 ⟨rfl, rfl⟩
  go_wp2
  go_ret2
  exact ⟨rfl, rfl⟩

set_option maxRecDepth 100000 in
set_option maxHeartbeats 400000 in
theorem letter_no (p : Int) (h : p = 0 ∨ ¬ okP p) (w : World) :
    Calls Tryd.prog 43 #[.int .i8 p] w fun e w' => e = .returned (.tuple #[.int .u8 0, .int .i64 2]) ∧ w = w' := by
  by_cases hz : p = 0
  · subst hz
    clear h
    go_enter Tryd.func43, Tryd.ntmps43
    go_wp2
    go_ret2
    exact ⟨rfl, rfl⟩
  · have hp : ¬ okP p := h.resolve_left hz
    have hd : (p == 0) = false := beq_eq_false_iff_ne.2 hz
    clear h
    go_enter Tryd.func43, Tryd.ntmps43
    go_wp2_with fail
    refine (pValid_no p hp _).mono ?_
    rintro e w1 ⟨rfl, rfl⟩
    go_wp2
    go_ret2
    exact ⟨rfl, rfl⟩

end Go.Proofs.YtpcfgeggjfbfjaaDoor
