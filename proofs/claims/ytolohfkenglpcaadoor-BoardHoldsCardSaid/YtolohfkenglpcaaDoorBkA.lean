/- The examples of the chapter of boards: what each call gives. -/
import Derived.Test.YtolohfkenglpcaaDoorBpO
import Derived.Test.YtolohfkenglpcaaDoorBpD
namespace Go.Proofs.YtolohfkenglpcaaDoor
open Go.RowKit

theorem parse_any' (s : ByteArray) (w : World) (hs : s.size ≤ 200) (hK : Kinds w) :
    Calls Tryd.prog 33 #[.string s] w (ParsedP w (parseB s.data.toList)) := by
  rw [← pgParse_eq]
  exact parse_bd s w hs hK

def zB : List Int := [0, 0, 0, 0, 0, 0, 0, 0, 0, 0, 0, 0]
def pB : List Int := [0, 0, 0, 0, -6, 0, 0, 0, 0, 0, 0, 0]
def cB : List Int := [0, 0, 6, 0, 0, 0, -6, 0, 0]
def dB : List Int := [4, 2, 3, 5, 6, 1, 1, 1, 1, 1, 0, 0, 0, 0, 0, -4, -2, -3, -5, -6]
theorem okL_of {l : List Int} (h : (l.all fun n => decide (-15 ≤ n) && decide (n ≤ 15)) = true) : ∀ j, j < l.length → okP (l[j]?.getD 0) := by
  intro j hj
  rw [List.getElem?_eq_getElem hj]
  have := List.all_eq_true.1 h _ (List.getElem_mem hj)
  simp at this
  exact this
theorem zB_v : vbd 3 4 zB := ⟨⟨by omega, by omega, by omega, by omega⟩, rfl, okL_of (by decide)⟩
theorem pB_v : vbd 3 4 pB := ⟨⟨by omega, by omega, by omega, by omega⟩, rfl, okL_of (by decide)⟩
theorem cB_v : vbd 3 3 cB := ⟨⟨by omega, by omega, by omega, by omega⟩, rfl, okL_of (by decide)⟩
theorem dB_v : vbd 5 4 dB := ⟨⟨by omega, by omega, by omega, by omega⟩, rfl, okL_of (by decide)⟩

theorem kb_empty (w : World) : Calls Tryd.prog 17 #[.agg #[.int .i64 3, .int .i64 4]] w fun e w' => ∃ A c, e = .returned (.tuple #[.agg #[.int .i64 3, .int .i64 4, .slice A 12 c], .int .i64 0]) ∧ 12 ≤ c ∧ RdP w' w'.heap.size A zB c ∧ Below w.heap.size w w' :=
  (bEmpty_yes 3 4 zB_v.1 w).mono fun e w' h => by
    obtain ⟨v, rfl, ho, hb⟩ := h
    have ho' : w'.ownsRow w.heap.size 32 1 v zB.length (vpcs zB) := ho
    obtain ⟨A, c, rfl, hc, hr⟩ := RdP.own ho'
    exact ⟨A, c, rfl, hc, hr, hb⟩
theorem kb_text1 (A : Option Addr) (c : Nat) (w : World) (hc : 12 ≤ c) (hA : RdP w w.heap.size A zB c) (hK : Kinds w) : Calls Tryd.prog 31 #[.agg #[.int .i64 3, .int .i64 4, .slice A 12 c]] w fun e w' => e = .returned (.tuple #[.string ⟨#[51, 47, 51, 47, 51, 47, 51]⟩, .int .i64 0]) ∧ Below w.heap.size w w' :=
  (text_yes 3 4 zB A c w zB_v hc hA hK).mono fun e w' h => ⟨by rw [h.1, show textB 3 4 zB = ⟨#[51, 47, 51, 47, 51, 47, 51]⟩ by decide +kernel], h.2⟩
theorem kb_put (A : Option Addr) (c : Nat) (w : World) (hA : RdP w w.heap.size A zB c) : Calls Tryd.prog 18 #[.agg #[.int .i64 3, .int .i64 4, .slice A 12 c], .int .i64 4, .int .i8 (-6)] w fun e w' => ∃ A c, e = .returned (.tuple #[.agg #[.int .i64 3, .int .i64 4, .slice A 12 c], .int .i64 0]) ∧ 12 ≤ c ∧ RdP w' w'.heap.size A pB c ∧ Below w.heap.size w w' :=
  (put_yes 3 4 zB A c 4 (-6) w zB_v ⟨zB_v.1, by omega, by omega⟩ ⟨by omega, by omega⟩ hA).mono fun e w' h => by
    obtain ⟨v, rfl, ho, hb⟩ := h
    have ho' : w'.ownsRow w.heap.size 32 1 v pB.length (vpcs pB) := ho
    obtain ⟨A, c, rfl, hc, hr⟩ := RdP.own ho'
    exact ⟨A, c, rfl, hc, hr, hb⟩
theorem kb_text2 (A : Option Addr) (c : Nat) (w : World) (hc : 12 ≤ c) (hA : RdP w w.heap.size A pB c) (hK : Kinds w) : Calls Tryd.prog 31 #[.agg #[.int .i64 3, .int .i64 4, .slice A 12 c]] w fun e w' => e = .returned (.tuple #[.string ⟨#[51, 47, 51, 47, 49, 107, 49, 47, 51]⟩, .int .i64 0]) ∧ Below w.heap.size w w' :=
  (text_yes 3 4 pB A c w pB_v hc hA hK).mono fun e w' h => ⟨by rw [h.1, show textB 3 4 pB = ⟨#[51, 47, 51, 47, 49, 107, 49, 47, 51]⟩ by decide +kernel], h.2⟩
theorem kb_parse1 (w : World) (hK : Kinds w) : Calls Tryd.prog 33 #[.string ⟨#[107, 50, 47, 51, 47, 50, 75]⟩] w fun e w' => ∃ A c, e = .returned (.tuple #[.agg #[.int .i64 3, .int .i64 3, .slice A 9 c], .int .i64 0]) ∧ 9 ≤ c ∧ RdP w' w'.heap.size A cB c ∧ Below w.heap.size w w' :=
  (parse_any' ⟨#[107, 50, 47, 51, 47, 50, 75]⟩ w (by decide) hK).mono fun e w' h => by
    rw [show parseB (ByteArray.mk #[107, 50, 47, 51, 47, 50, 75]).data.toList = some (3, 3, cB) by decide +kernel] at h
    obtain ⟨v, rfl, ho, hb⟩ := h
    obtain ⟨A, c, rfl, hc, hr⟩ := RdP.own ho
    exact ⟨A, c, rfl, hc, hr, hb⟩
theorem kb_parse2 (w : World) (hK : Kinds w) : Calls Tryd.prog 33 #[.string ⟨#[114, 110, 98, 113, 107, 47, 53, 47, 80, 80, 80, 80, 80, 47, 82, 78, 66, 81, 75]⟩] w fun e w' => ∃ A c, e = .returned (.tuple #[.agg #[.int .i64 5, .int .i64 4, .slice A 20 c], .int .i64 0]) ∧ 20 ≤ c ∧ RdP w' w'.heap.size A dB c ∧ Below w.heap.size w w' :=
  (parse_any' ⟨#[114, 110, 98, 113, 107, 47, 53, 47, 80, 80, 80, 80, 80, 47, 82, 78, 66, 81, 75]⟩ w (by decide) hK).mono fun e w' h => by
    rw [show parseB (ByteArray.mk #[114, 110, 98, 113, 107, 47, 53, 47, 80, 80, 80, 80, 80, 47, 82, 78, 66, 81, 75]).data.toList = some (5, 4, dB) by decide +kernel] at h
    obtain ⟨v, rfl, ho, hb⟩ := h
    obtain ⟨A, c, rfl, hc, hr⟩ := RdP.own ho
    exact ⟨A, c, rfl, hc, hr, hb⟩
/-- the texts that are none. -/
def badT : List ByteArray := [⟨#[107, 50, 47, 49, 49, 49, 47, 50, 75]⟩, ⟨#[107, 50, 47, 51, 47, 51, 75]⟩, ⟨#[107, 50, 47, 50, 75]⟩, ⟨#[107, 50, 47, 52, 47, 50, 75]⟩, ⟨#[120, 50, 47, 51, 47, 50, 75]⟩]
theorem badT_all : (badT.all fun t => decide (parseB t.data.toList = none) && decide (t.size ≤ 200)) = true := by decide +kernel
theorem kb_bad (t : ByteArray) (ht : t ∈ badT) (w : World) (hK : Kinds w) : Calls Tryd.prog 33 #[.string t] w fun e w' => e = .returned (.tuple #[.agg #[.int .i64 0, .int .i64 0, .slice none 0 0], .int .i64 6]) ∧ Below w.heap.size w w' := by
  have h := List.all_eq_true.1 badT_all t ht
  simp at h
  refine (parse_any' t w (by have := h.2; omega) hK).mono fun e w' hp => ?_
  rw [h.1] at hp
  exact hp
theorem kb_find (A : Option Addr) (c : Nat) (w : World) (hA : RdP w w.heap.size A cB c) : Calls Tryd.prog 24 #[.agg #[.int .i64 3, .int .i64 3, .slice A 9 c], .int .i8 6] w fun e w' => e = .returned (.tuple #[.int .u64 4, .int .i64 0]) ∧ Below w.heap.size w w' :=
  (find_yes 3 3 cB A c 6 w cB_v ⟨by omega, by omega⟩ hA).mono fun e w' h => ⟨by rw [h.1, show setP (eqP 6) cB = 4 by decide +kernel]; rfl, h.2⟩
theorem kb_sides (A : Option Addr) (c : Nat) (w : World) (hA : RdP w w.heap.size A cB c) : Calls Tryd.prog 25 #[.agg #[.int .i64 3, .int .i64 3, .slice A 9 c]] w fun e w' => e = .returned (.tuple #[.int .u64 4, .int .u64 64, .int .i64 0]) ∧ Below w.heap.size w w' :=
  (sides_yes 3 3 cB A c w cB_v hA).mono fun e w' h => ⟨by rw [h.1, show setP (sdP 1) cB = 4 by decide +kernel, show setP (sdP (-1)) cB = 64 by decide +kernel]; rfl, h.2⟩
theorem kb_mat1 (A : Option Addr) (c : Nat) (w : World) (hA : RdP w w.heap.size A cB c) (hK : Kinds w) : Calls Tryd.prog 26 #[.agg #[.int .i64 3, .int .i64 3, .slice A 9 c]] w fun e w' => e = .returned (.tuple #[.int .i64 0, .int .i64 0, .int .i64 0]) ∧ Below w.heap.size w w' :=
  (material_yes 3 3 cB A c w cB_v hK hA).mono fun e w' h => ⟨by rw [h.1, show matP 1 cB = 0 by decide +kernel, show matP (-1) cB = 0 by decide +kernel], h.2⟩
theorem kb_mat2 (A : Option Addr) (c : Nat) (w : World) (hA : RdP w w.heap.size A dB c) (hK : Kinds w) : Calls Tryd.prog 26 #[.agg #[.int .i64 5, .int .i64 4, .slice A 20 c]] w fun e w' => e = .returned (.tuple #[.int .i64 25, .int .i64 20, .int .i64 0]) ∧ Below w.heap.size w w' :=
  (material_yes 5 4 dB A c w dB_v hK hA).mono fun e w' h => ⟨by rw [h.1, show matP 1 dB = 25 by decide +kernel, show matP (-1) dB = 20 by decide +kernel], h.2⟩

set_option maxRecDepth 100000 in
set_option maxHeartbeats 4000000 in
theorem knownB_any (w : World) (hK : Kinds w) : Calls Tryd.prog 10 #[] w fun e w' => e = .returned (.bool true) ∧ Below w.heap.size w w' := by
  go_enter Tryd.func10, Tryd.ntmps10
  go_wp2_with fail
  refine (kb_empty _).mono ?_
  rintro e w1 ⟨A1, c1, rfl, hc1, r1, b1⟩
  have R1 := (r1.below (box1 w1 (.cells #[.int .i64 3, .int .i64 4, .slice A1 12 c1] 26))).grow (box1 w1 (.cells #[.int .i64 3, .int .i64 4, .slice A1 12 c1] 26)).size
  have B1 : Below w.heap.size w (w1.alloc (.cells #[.int .i64 3, .int .i64 4, .slice A1 12 c1] 26)) := b1.alloc b1.size _
  clear r1
  go_wp2_with fail
  refine (kb_text1 A1 c1 _ hc1 R1 (hK.below B1 hK.1)).mono ?_
  rintro e w2 ⟨rfl, b2⟩
  have q0 := b2.cell (p := ⟨w1.heap.size, 0, none⟩) (by simp)
  have q1 := b2.cell (p := ⟨w1.heap.size, 1, none⟩) (by simp)
  have q2 := b2.cell (p := ⟨w1.heap.size, 2, none⟩) (by simp)
  simp [go_sem] at q0 q1 q2
  have R2 := (R1.below b2).grow b2.size
  have B2 := chain B1 b2
  clear b1 b2 R1 B1
  go_wp2_with fail
  refine (kb_put A1 c1 _ R2).mono ?_
  rintro e w3 ⟨A3, c3, rfl, hc3, r3, b3⟩
  have R3 := (r3.below (box1 w3 (.cells #[.int .i64 3, .int .i64 4, .slice A3 12 c3] 26))).grow (box1 w3 (.cells #[.int .i64 3, .int .i64 4, .slice A3 12 c3] 26)).size
  have B3 : Below w.heap.size w (w3.alloc (.cells #[.int .i64 3, .int .i64 4, .slice A3 12 c3] 26)) := (chain B2 b3).alloc (chain B2 b3).size _
  clear r3 b3 B2 R2 q0 q1 q2
  go_wp2_with fail
  refine (kb_text2 A3 c3 _ hc3 R3 (hK.below B3 hK.1)).mono ?_
  rintro e w4 ⟨rfl, b4⟩
  have B4 := chain B3 b4
  clear b4 B3 R3
  go_wp2_with fail
  refine (kb_parse1 _ (hK.below B4 hK.1)).mono ?_
  rintro e w5 ⟨A5, c5, rfl, hc5, r5, b5⟩
  have R5 := (r5.below (box1 w5 (.cells #[.int .i64 3, .int .i64 3, .slice A5 9 c5] 26))).grow (box1 w5 (.cells #[.int .i64 3, .int .i64 3, .slice A5 9 c5] 26)).size
  have B5 : Below w.heap.size w (w5.alloc (.cells #[.int .i64 3, .int .i64 3, .slice A5 9 c5] 26)) := (chain B4 b5).alloc (chain B4 b5).size _
  clear r5 b5 B4
  go_wp2_with fail
  refine (kb_find A5 c5 _ R5).mono ?_
  rintro e w6 ⟨rfl, b6⟩
  have q0 := b6.cell (p := ⟨w5.heap.size, 0, none⟩) (by simp)
  have q1 := b6.cell (p := ⟨w5.heap.size, 1, none⟩) (by simp)
  have q2 := b6.cell (p := ⟨w5.heap.size, 2, none⟩) (by simp)
  simp [go_sem] at q0 q1 q2
  have s6 := b6.size
  simp at s6
  have R6 := (R5.below b6).grow b6.size
  have B6 := chain B5 b6
  clear b6 R5 B5
  go_wp2_with fail
  refine (kb_sides A5 c5 _ R6).mono ?_
  rintro e w7 ⟨rfl, b7⟩
  have p0 := (b7.cell (p := ⟨w5.heap.size, 0, none⟩) (show w5.heap.size < w6.heap.size by omega)).trans q0
  have p1 := (b7.cell (p := ⟨w5.heap.size, 1, none⟩) (show w5.heap.size < w6.heap.size by omega)).trans q1
  have p2 := (b7.cell (p := ⟨w5.heap.size, 2, none⟩) (show w5.heap.size < w6.heap.size by omega)).trans q2
  have R7 := (R6.below b7).grow b7.size
  have B7 := chain B6 b7
  clear b7 R6 B6 q0 q1 q2
  go_wp2_with fail
  refine (kb_mat1 A5 c5 _ R7 (hK.below B7 hK.1)).mono ?_
  rintro e w8 ⟨rfl, b8⟩
  have B8 := chain B7 b8
  clear b8 R7 B7 p0 p1 p2 s6
  go_wp2_with fail
  have hRS : RdS (w8.alloc (.cells #[.string ⟨#[107, 50, 47, 49, 49, 49, 47, 50, 75]⟩, .string ⟨#[107, 50, 47, 51, 47, 51, 75]⟩, .string ⟨#[107, 50, 47, 50, 75]⟩, .string ⟨#[107, 50, 47, 52, 47, 50, 75]⟩, .string ⟨#[120, 50, 47, 51, 47, 50, 75]⟩] 9)) w8.heap.size badT := fun j x hx => by
    match j, hx with
    | 0, hx => simp [badT] at hx; subst hx; simp
    | 1, hx => simp [badT] at hx; subst hx; simp
    | 2, hx => simp [badT] at hx; subst hx; simp
    | 3, hx => simp [badT] at hx; subst hx; simp
    | 4, hx => simp [badT] at hx; subst hx; simp
    | j + 5, hx => simp [badT] at hx
  have B9 : Below w.heap.size w (w8.alloc (.cells #[.string ⟨#[107, 50, 47, 49, 49, 49, 47, 50, 75]⟩, .string ⟨#[107, 50, 47, 51, 47, 51, 75]⟩, .string ⟨#[107, 50, 47, 50, 75]⟩, .string ⟨#[107, 50, 47, 52, 47, 50, 75]⟩, .string ⟨#[120, 50, 47, 51, 47, 50, 75]⟩] 9)) := B8.alloc B8.size _
  have s9 : w8.heap.size < (w8.alloc (.cells #[.string ⟨#[107, 50, 47, 49, 49, 49, 47, 50, 75]⟩, .string ⟨#[107, 50, 47, 51, 47, 51, 75]⟩, .string ⟨#[107, 50, 47, 50, 75]⟩, .string ⟨#[107, 50, 47, 52, 47, 50, 75]⟩, .string ⟨#[120, 50, 47, 51, 47, 50, 75]⟩] 9)).heap.size := by simp
  generalize (w8.alloc (.cells #[.string ⟨#[107, 50, 47, 49, 49, 49, 47, 50, 75]⟩, .string ⟨#[107, 50, 47, 51, 47, 51, 75]⟩, .string ⟨#[107, 50, 47, 50, 75]⟩, .string ⟨#[107, 50, 47, 52, 47, 50, 75]⟩, .string ⟨#[120, 50, 47, 51, 47, 50, 75]⟩] 9)) = W9 at *
  clear B8
  go_loopw [16, 17, 18, 121] (fun _ _ _ i wr => ∃ k : Nat, k ≤ 5 ∧ i = .int .i64 k ∧ Below W9.heap.size W9 wr) (fun _ _ _ i _ => 5 - (intOf i).toNat)
  case atStart => exact ⟨0, by omega, rfl, Below.refl _ _⟩
  case round =>
    obtain ⟨k, hk, rfl, hB⟩ := hrel
    by_cases hlt : k < 5
    · have hr := hRS.below hB s9
      have hc := hr.at_ (k := k) hlt
      have hm : badT[k]?.getD ByteArray.empty ∈ badT := by rw [List.getElem?_eq_getElem (show k < badT.length from hlt)]; exact List.getElem_mem _
      generalize badT[k]?.getD ByteArray.empty = t at *
      have HM := Lib.hid hm
      clear hm hr
      go_wp2_with fail
      refine (kb_bad t HM.out _ (hK.below (chain B9 hB) hK.1)).mono ?_
      rintro e w10 ⟨rfl, b10⟩
      have hB2 := Lib.hid ((chain hB b10).alloc (chain hB b10).size (.cells #[.int .i64 0, .int .i64 0, .slice none 0 0] 26))
      clear hB b10
      go_wp2
      go_roundw
      case rel => exact ⟨k + 1, by omega, by go_num, hB2.out⟩
      case measure => simp [intOf]; omega
    · have hk5 : k = 5 := by omega
      subst hk5
      have B10 := chain B9 hB
      clear hRS hB B9 s9
      go_wp2_with fail
      refine (kb_parse2 _ (hK.below B10 hK.1)).mono ?_
      rintro e w11 ⟨A11, c11, rfl, hc11, r11, b11⟩
      have R11 := (r11.below (box1 w11 (.cells #[.int .i64 5, .int .i64 4, .slice A11 20 c11] 26))).grow (box1 w11 (.cells #[.int .i64 5, .int .i64 4, .slice A11 20 c11] 26)).size
      have B11 : Below w.heap.size w (w11.alloc (.cells #[.int .i64 5, .int .i64 4, .slice A11 20 c11] 26)) := (chain B10 b11).alloc (chain B10 b11).size _
      clear r11 b11 B10
      go_wp2_with fail
      refine (kb_mat2 A11 c11 _ R11 (hK.below B11 hK.1)).mono ?_
      rintro e w12 ⟨rfl, b12⟩
      have B12 := chain B11 b12
      clear b12 R11 B11
      go_wp2
      go_ret
      exact ⟨rfl, B12⟩

end Go.Proofs.YtolohfkenglpcaaDoor
