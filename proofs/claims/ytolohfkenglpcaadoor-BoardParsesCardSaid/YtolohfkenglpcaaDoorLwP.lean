/- The law of reading boards: it answers true, and changes nothing that lay before. -/
import Derived.Test.YtolohfkenglpcaaDoorBkB
namespace Go.Proofs.YtolohfkenglpcaaDoor
open Go.RowKit

set_option maxRecDepth 100000 in
set_option maxHeartbeats 1000000 in
theorem law_bparses (s : ByteArray) (w : World) (hK : Kinds w) :
    Calls Tryd.prog 7 #[.string s] w fun e w' => e = .returned (.bool true) ∧ Below w.heap.size w w' := by
  have B : Below w.heap.size w w := Below.refl _ _
  by_cases hs : s.size ≤ 200
  · have hs' : decide ((200 : Int) < (s.size : Int)) = false := decide_eq_false (by omega)
    have HS := Lib.hid hs
    clear hs
    cases hp : parseB s.data.toList with
    | none =>
      have HP := Lib.hid hp
      clear hp
      go_enter Tryd.func7, Tryd.ntmps7
      go_wp2_with fail
      refine (parse_any' s _ HS.out hK).mono ?_
      intro e w1 hR
      rw [HP.out] at hR
      obtain ⟨rfl, b1⟩ := hR
      replace hK := hK.below b1 hK.1
      replace B := chain B b1
      clear b1
      have bx := box1 w1 (.cells #[.int .i64 0, .int .i64 0, .slice none 0 0] 26)
      replace hK := hK.below bx hK.1
      replace B := chain B bx
      clear bx
      have p0 : (w1.alloc (.cells #[.int .i64 0, .int .i64 0, .slice none 0 0] 26)).cell? ⟨w1.heap.size, 0, none⟩ = some (.int .i64 0) := by simp [go_sem]
      have p1 : (w1.alloc (.cells #[.int .i64 0, .int .i64 0, .slice none 0 0] 26)).cell? ⟨w1.heap.size, 1, none⟩ = some (.int .i64 0) := by simp [go_sem]
      have p2 : (w1.alloc (.cells #[.int .i64 0, .int .i64 0, .slice none 0 0] 26)).cell? ⟨w1.heap.size, 2, none⟩ = some (.slice none 0 0) := by simp [go_sem]
      go_wp2_with fail
      refine (rParse_bd s HS.out _).mono ?_
      intro e w2 hR
      rw [HP.out] at hR
      obtain ⟨rfl, b2⟩ := hR
      replace p0 := cellB b2 p0
      replace p1 := cellB b2 p1
      replace p2 := cellB b2 p2
      replace hK := hK.below b2 hK.1
      replace B := chain B b2
      clear b2
      have bx := box1 w2 (.cells #[.int .i64 0, .int .i64 0, .slice none 0 0] 26)
      replace p0 := cellB bx p0
      replace p1 := cellB bx p1
      replace p2 := cellB bx p2
      replace hK := hK.below bx hK.1
      replace B := chain B bx
      clear bx
      have q0 : (w2.alloc (.cells #[.int .i64 0, .int .i64 0, .slice none 0 0] 26)).cell? ⟨w2.heap.size, 0, none⟩ = some (.int .i64 0) := by simp [go_sem]
      have q1 : (w2.alloc (.cells #[.int .i64 0, .int .i64 0, .slice none 0 0] 26)).cell? ⟨w2.heap.size, 1, none⟩ = some (.int .i64 0) := by simp [go_sem]
      have q2 : (w2.alloc (.cells #[.int .i64 0, .int .i64 0, .slice none 0 0] 26)).cell? ⟨w2.heap.size, 2, none⟩ = some (.slice none 0 0) := by simp [go_sem]
      go_wp2_with fail
      refine (same_yes 0 0 [] none none 0 0 _ (by simp) ⟨fun _ => ⟨rfl, rfl⟩, fun h => by simp at h⟩ ⟨fun _ => ⟨rfl, rfl⟩, fun h => by simp at h⟩).mono ?_
      rintro e w3 ⟨rfl, b3⟩
      replace p0 := cellB b3 p0
      replace p1 := cellB b3 p1
      replace p2 := cellB b3 p2
      replace q0 := cellB b3 q0
      replace q1 := cellB b3 q1
      replace q2 := cellB b3 q2
      replace hK := hK.below b3 hK.1
      replace B := chain B b3
      clear b3
      go_wp2_with fail
      refine (knownB_any _ hK).mono ?_
      rintro e w4 ⟨rfl, b4⟩
      replace p0 := cellB b4 p0
      replace p1 := cellB b4 p1
      replace p2 := cellB b4 p2
      replace q0 := cellB b4 q0
      replace q1 := cellB b4 q1
      replace q2 := cellB b4 q2
      replace hK := hK.below b4 hK.1
      replace B := chain B b4
      clear b4
      go_wp2
      go_ret
      exact ⟨rfl, B⟩
    | some st =>
      obtain ⟨f, r, ps⟩ := st
      obtain ⟨f3, f8, r3, r8, hl, _, _⟩ := text_parse hp
      have hl64 : ps.length ≤ 64 := by rw [hl]; exact Nat.le_trans (Nat.mul_le_mul r8 f8) (by decide)
      have HP := Lib.hid hp
      clear hp hl
      go_enter Tryd.func7, Tryd.ntmps7
      go_wp2_with fail
      refine (parse_any' s _ HS.out hK).mono ?_
      intro e w1 hR
      rw [HP.out] at hR
      obtain ⟨v1, rfl, ho1, b1⟩ := hR
      obtain ⟨A1, c1, rfl, hc1, r1⟩ := RdP.own ho1
      replace hK := hK.below b1 hK.1
      replace B := chain B b1
      clear b1
      have bx := box1 w1 (.cells #[.int .i64 f, .int .i64 r, .slice A1 ps.length c1] 26)
      replace r1 := rdB bx r1
      replace hK := hK.below bx hK.1
      replace B := chain B bx
      clear bx
      have p0 : (w1.alloc (.cells #[.int .i64 f, .int .i64 r, .slice A1 ps.length c1] 26)).cell? ⟨w1.heap.size, 0, none⟩ = some (.int .i64 f) := by simp [go_sem]
      have p1 : (w1.alloc (.cells #[.int .i64 f, .int .i64 r, .slice A1 ps.length c1] 26)).cell? ⟨w1.heap.size, 1, none⟩ = some (.int .i64 r) := by simp [go_sem]
      have p2 : (w1.alloc (.cells #[.int .i64 f, .int .i64 r, .slice A1 ps.length c1] 26)).cell? ⟨w1.heap.size, 2, none⟩ = some (.slice A1 ps.length c1) := by simp [go_sem]
      go_wp2_with fail
      refine (rParse_bd s HS.out _).mono ?_
      intro e w2 hR
      rw [HP.out] at hR
      obtain ⟨v2, rfl, ho2, b2⟩ := hR
      obtain ⟨A2, c2, rfl, hc2, r2⟩ := RdP.own ho2
      replace p0 := cellB b2 p0
      replace p1 := cellB b2 p1
      replace p2 := cellB b2 p2
      replace r1 := rdB b2 r1
      replace hK := hK.below b2 hK.1
      replace B := chain B b2
      clear b2
      have bx := box1 w2 (.cells #[.int .i64 f, .int .i64 r, .slice A2 ps.length c2] 26)
      replace p0 := cellB bx p0
      replace p1 := cellB bx p1
      replace p2 := cellB bx p2
      replace r1 := rdB bx r1
      replace r2 := rdB bx r2
      replace hK := hK.below bx hK.1
      replace B := chain B bx
      clear bx
      have q0 : (w2.alloc (.cells #[.int .i64 f, .int .i64 r, .slice A2 ps.length c2] 26)).cell? ⟨w2.heap.size, 0, none⟩ = some (.int .i64 f) := by simp [go_sem]
      have q1 : (w2.alloc (.cells #[.int .i64 f, .int .i64 r, .slice A2 ps.length c2] 26)).cell? ⟨w2.heap.size, 1, none⟩ = some (.int .i64 r) := by simp [go_sem]
      have q2 : (w2.alloc (.cells #[.int .i64 f, .int .i64 r, .slice A2 ps.length c2] 26)).cell? ⟨w2.heap.size, 2, none⟩ = some (.slice A2 ps.length c2) := by simp [go_sem]
      go_wp2_with fail
      refine (same_yes f r ps A1 A2 c1 c2 _ (by omega) r1 r2).mono ?_
      rintro e w3 ⟨rfl, b3⟩
      replace p0 := cellB b3 p0
      replace p1 := cellB b3 p1
      replace p2 := cellB b3 p2
      replace q0 := cellB b3 q0
      replace q1 := cellB b3 q1
      replace q2 := cellB b3 q2
      replace r1 := rdB b3 r1
      replace r2 := rdB b3 r2
      replace hK := hK.below b3 hK.1
      replace B := chain B b3
      clear b3
      go_wp2_with fail
      refine (knownB_any _ hK).mono ?_
      rintro e w4 ⟨rfl, b4⟩
      replace p0 := cellB b4 p0
      replace p1 := cellB b4 p1
      replace p2 := cellB b4 p2
      replace q0 := cellB b4 q0
      replace q1 := cellB b4 q1
      replace q2 := cellB b4 q2
      replace r1 := rdB b4 r1
      replace r2 := rdB b4 r2
      replace hK := hK.below b4 hK.1
      replace B := chain B b4
      clear b4
      go_wp2
      go_ret
      exact ⟨rfl, B⟩
  · have hs' : decide ((200 : Int) < (s.size : Int)) = true := decide_eq_true (by omega)
    go_enter Tryd.func7, Tryd.ntmps7
    go_wp2_with fail
    refine (knownB_any _ hK).mono ?_
    rintro e w1 ⟨rfl, b1⟩
    replace hK := hK.below b1 hK.1
    replace B := chain B b1
    clear b1
    go_wp2
    go_ret
    exact ⟨rfl, B⟩

end Go.Proofs.YtolohfkenglpcaaDoor
