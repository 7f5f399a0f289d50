/- The program's reach is the document's; inputs that are refused. -/
import Derived.Test.YtelkmdklpcfobaaGreatDoorRpF
import Derived.Test.YtelkmdklpcfobaaGreatDoorRyG
import Derived.Test.YtelkmdklpcfobaaGreatDoorAuA
import Derived.Test.YtelkmdklpcfobaaGreatDoorAuD
import Derived.Test.YtelkmdklpcfobaaGreatDoorAtF

namespace Go.Proofs.YtelkmdklpcfobaaGreatDoor
open Go.RowKit Go.Shelf Go.Sort

theorem ones_bit {i : Nat} (h : i < 64) : ones.testBit i = true := by
  have : ones = 2 ^ 64 - 1 := by decide
  rw [this, Nat.testBit_two_pow_sub_one]
  simp [h]
theorem stop_ones {L : List Nat} (h : ∀ i ∈ L, i < 64) : stopL L ones = L.take 1 := by
  cases L with
  | nil => rfl
  | cons a L => rw [stop_cons_yes (ones_bit (h a (by simp)))]; rfl
theorem ofL_ext {l m : List Nat} (h : ∀ i, i ∈ l ↔ i ∈ m) : ofL l = ofL m := by
  apply Nat.eq_of_testBit_eq
  intro i
  rw [ofL_bit, ofL_bit]
  simp [h i]
theorem mem_pick {P : Nat → Bool} {k n : Nat} : n ∈ pickTo P k ↔ n < k ∧ P n = true := by unfold pickTo; simp

theorem slideL_ones {F R a : Int} (hv : vsz F R) (ds : List (Int × Int)) : ∀ n, n ∈ slideL F R a ds ones ↔ ∃ d ∈ ds, n ∈ (rayL F R (a % F) (a / F) d.1 d.2).take 1 := by
  intro n
  unfold slideL
  rw [List.mem_flatMap]
  constructor
  · rintro ⟨d, hd, h⟩
    rw [stop_ones (fun i hi => by have := rayL_lt hv i hi; have := (vsz_mul hv).2; omega)] at h
    exact ⟨d, hd, h⟩
  · rintro ⟨d, hd, h⟩
    refine ⟨d, hd, ?_⟩
    rw [stop_ones (fun i hi => by have := rayL_lt hv i hi; have := (vsz_mul hv).2; omega)]
    exact h
theorem knight_dec : ∀ i : Fin 15, ∀ j : Fin 15, (((i.1 : Int) - 7, (j.1 : Int) - 7) ∈ knightD) = ((((i.1 : Int) - 7) * ((i.1 : Int) - 7) + ((j.1 : Int) - 7) * ((j.1 : Int) - 7) == 5) = true) := by
  have : ∀ i : Fin 15, ∀ j : Fin 15, decide (((i.1 : Int) - 7, (j.1 : Int) - 7) ∈ knightD) = (((i.1 : Int) - 7) * ((i.1 : Int) - 7) + ((j.1 : Int) - 7) * ((j.1 : Int) - 7) == 5) := by decide +kernel
  intro i j
  rw [← this i j]
  simp
theorem king_dec : ∀ i : Fin 15, ∀ j : Fin 15, (((i.1 : Int) - 7, (j.1 : Int) - 7) ∈ rookD ++ bishopD) = ((cheb ((i.1 : Int) - 7) ((j.1 : Int) - 7) == 1) = true) := by
  have : ∀ i : Fin 15, ∀ j : Fin 15, decide (((i.1 : Int) - 7, (j.1 : Int) - 7) ∈ rookD ++ bishopD) = (cheb ((i.1 : Int) - 7) ((j.1 : Int) - 7) == 1) := by decide +kernel
  intro i j
  rw [← this i j]
  simp
theorem diff_bd {F R a b : Int} (ha : vat F R a) (hb : vat F R b) : (-7 ≤ b % F - a % F ∧ b % F - a % F ≤ 7) ∧ (-7 ≤ b / F - a / F ∧ b / F - a / F ≤ 7) := by
  obtain ⟨p0, p1, p2, p3⟩ := place_bd ha.1 ha.2.1 ha.2.2
  obtain ⟨q0, q1, q2, q3⟩ := place_bd hb.1 hb.2.1 hb.2.2
  have f2 := ha.1.2.1
  have r2 := ha.1.2.2.2
  omega
/-- which squares the rays of some directions reach. -/
theorem slides_mem {F R a b : Int} {n X : Nat} (hn : (n : Int) = b) (ha : vat F R a) (hb : vat F R b) (ds : List (Int × Int)) (hds : ∀ d ∈ ds, (-1 ≤ d.1 ∧ d.1 ≤ 1 ∧ -1 ≤ d.2 ∧ d.2 ≤ 1) ∧ ¬ (d.1 = 0 ∧ d.2 = 0)) :
    n ∈ slideL F R a ds X ↔ (lineB F a b = true ∧ (sg (b % F - a % F), sg (b / F - a / F)) ∈ ds ∧ freeB ((betL F R a b).map fun i : Nat => (i : Int)) X = true) := by
  unfold slideL
  rw [List.mem_flatMap]
  constructor
  · rintro ⟨d, hd, h⟩
    obtain ⟨⟨f0, f1, r0, r1⟩, h0⟩ := hds d hd
    obtain ⟨h1, h2, h3, h4⟩ := (slide_mem hn ha hb f0 f1 r0 r1 h0).1 h
    exact ⟨h1, by rw [h2, h3]; exact hd, h4⟩
  · rintro ⟨h1, h2, h3⟩
    refine ⟨_, h2, ?_⟩
    obtain ⟨⟨f0, f1, r0, r1⟩, h0⟩ := hds _ h2
    exact (slide_mem hn ha hb f0 f1 r0 r1 h0).2 ⟨h1, rfl, rfl, h3⟩
theorem sg_dec : ∀ i : Fin 15, ∀ j : Fin 15, lineD ((i.1 : Int) - 7) ((j.1 : Int) - 7) = true → ¬ (((i.1 : Int) - 7) = 0 ∧ ((j.1 : Int) - 7) = 0) →
    (((sg ((i.1 : Int) - 7), sg ((j.1 : Int) - 7)) ∈ rookD ↔ ((((i.1 : Int) - 7) == 0) || (((j.1 : Int) - 7) == 0)) = true) ∧ ((sg ((i.1 : Int) - 7), sg ((j.1 : Int) - 7)) ∈ bishopD ↔ ((((i.1 : Int) - 7) == 0) || (((j.1 : Int) - 7) == 0)) = false)) := by decide +kernel
theorem sg_dirs {d q : Int} (d0 : -7 ≤ d ∧ d ≤ 7) (q0 : -7 ≤ q ∧ q ≤ 7) (hl : lineD d q = true) (h : ¬ (d = 0 ∧ q = 0)) : ((sg d, sg q) ∈ rookD ↔ ((d == 0) || (q == 0)) = true) ∧ ((sg d, sg q) ∈ bishopD ↔ ((d == 0) || (q == 0)) = false) := by
  have := sg_dec ⟨(d + 7).toNat, by omega⟩ ⟨(q + 7).toNat, by omega⟩
  simp only [show (((d + 7).toNat : Nat) : Int) - 7 = d by omega, show (((q + 7).toNat : Nat) : Int) - 7 = q by omega] at this
  exact this hl h
theorem reach_eq {F R k a : Int} (hk : k = 2 ∨ k = 3 ∨ k = 4 ∨ k = 5 ∨ k = 6) (ha : vat F R a) (X : Nat) : ofL (slideL F R a (dirsOf k) (stopOf k X)) = ofL (reachL F R k a X) := by
  apply ofL_ext
  intro n
  unfold reachL
  rw [mem_pick]
  by_cases hlt : (n : Int) < F * R
  · have hb : vat F R (n : Int) := ⟨ha.1, by omega, hlt⟩
    have hlt2 : n < (F * R).toNat := by omega
    obtain ⟨d0, q0⟩ := diff_bd ha hb
    have hline : lineB F a (n : Int) = true → lineD ((n : Int) % F - a % F) ((n : Int) / F - a / F) = true ∧ ¬ ((n : Int) % F - a % F = 0 ∧ (n : Int) / F - a / F = 0) := by
      intro h
      unfold lineB at h
      simp only [Bool.and_eq_true] at h
      refine ⟨h.2, fun e => ?_⟩
      have : a = (n : Int) := place_inj ha hb (by omega) (by omega)
      rw [this] at h
      simp at h
    have leap : ∀ ds : List (Int × Int), n ∈ slideL F R a ds ones ↔ (((n : Int) % F - a % F), ((n : Int) / F - a / F)) ∈ ds := by
      intro ds
      rw [slideL_ones ha.1]
      constructor
      · rintro ⟨d, hd, h⟩
        obtain ⟨e1, e2⟩ := (leap_mem rfl ha hb).1 h
        rw [e1, e2]
        exact hd
      · intro h
        exact ⟨_, h, (leap_mem rfl ha hb).2 ⟨rfl, rfl⟩⟩
    rcases hk with rfl | rfl | rfl | rfl | rfl
    · rw [show stopOf 2 X = ones by simp [stopOf], show dirsOf 2 = knightD by simp [dirsOf], leap]
      have := knight_dec ⟨((n : Int) % F - a % F + 7).toNat, by omega⟩ ⟨((n : Int) / F - a / F + 7).toNat, by omega⟩
      simp only [show ((((n : Int) % F - a % F + 7).toNat : Nat) : Int) - 7 = (n : Int) % F - a % F by omega, show ((((n : Int) / F - a / F + 7).toNat : Nat) : Int) - 7 = (n : Int) / F - a / F by omega] at this
      rw [this]
      simp [reachB, hlt2]
    · rw [show stopOf 3 X = X by simp [stopOf], show dirsOf 3 = bishopD by simp [dirsOf], slides_mem rfl ha hb _ (by decide)]
      simp only [reachB, hlt2, true_and]
      constructor
      · rintro ⟨h1, h2, h3⟩
        obtain ⟨l1, l2⟩ := hline h1
        have := (sg_dirs d0 q0 l1 l2).2.1 h2
        simp [h1, h3, this]
      · intro h
        simp at h
        obtain ⟨⟨h1, h2⟩, h3⟩ := h
        obtain ⟨l1, l2⟩ := hline h1
        exact ⟨h1, (sg_dirs d0 q0 l1 l2).2.2 (by simp; omega), h3⟩
    · rw [show stopOf 4 X = X by simp [stopOf], show dirsOf 4 = rookD by simp [dirsOf], slides_mem rfl ha hb _ (by decide)]
      simp only [reachB, hlt2, true_and]
      constructor
      · rintro ⟨h1, h2, h3⟩
        obtain ⟨l1, l2⟩ := hline h1
        have := (sg_dirs d0 q0 l1 l2).1.1 h2
        simp [h1, h3, this]
      · intro h
        simp at h
        obtain ⟨⟨h1, h2⟩, h3⟩ := h
        obtain ⟨l1, l2⟩ := hline h1
        exact ⟨h1, (sg_dirs d0 q0 l1 l2).1.2 (by simp; omega), h3⟩
    · rw [show stopOf 5 X = X by simp [stopOf], show dirsOf 5 = rookD ++ bishopD by simp [dirsOf], slides_mem rfl ha hb _ (by decide)]
      simp only [reachB, hlt2, true_and]
      constructor
      · rintro ⟨h1, h2, h3⟩
        simp [h1, h3]
      · intro h
        simp at h
        obtain ⟨h1, h3⟩ := h
        obtain ⟨l1, l2⟩ := hline h1
        refine ⟨h1, ?_, h3⟩
        rw [List.mem_append]
        have hs := sg_dirs d0 q0 l1 l2
        cases hz : (((n : Int) % F - a % F == 0) || ((n : Int) / F - a / F == 0))
        · exact .inr (hs.2.2 hz)
        · exact .inl (hs.1.2 hz)
    · rw [show stopOf 6 X = ones by simp [stopOf], show dirsOf 6 = rookD ++ bishopD by simp [dirsOf], leap]
      have := king_dec ⟨((n : Int) % F - a % F + 7).toNat, by omega⟩ ⟨((n : Int) / F - a / F + 7).toNat, by omega⟩
      simp only [show ((((n : Int) % F - a % F + 7).toNat : Nat) : Int) - 7 = (n : Int) % F - a % F by omega, show ((((n : Int) / F - a / F + 7).toNat : Nat) : Int) - 7 = (n : Int) / F - a / F by omega] at this
      rw [this, ← dist_cheb]
      simp [reachB, hlt2]
  · constructor
    · intro h
      exact absurd (slide_lt ha.1 h) hlt
    · rintro ⟨h, _⟩
      have := (vsz_mul ha.1).1
      omega

end Go.Proofs.YtelkmdklpcfobaaGreatDoor

/- The reach of a piece by the program is the document's; inputs that it refuses. -/
namespace Go.Proofs.YtelkmdklpcfobaaGreatDoor
open Go.RowKit Go.Shelf Go.Sort

/-- the reach of a piece, by the program. -/
theorem pReach_yes (F R a k : Int) (hk : k = 2 ∨ k = 3 ∨ k = 4 ∨ k = 5 ∨ k = 6) (ha : vat F R a) (X : Nat) (hX : X < 2 ^ (F * R).toNat) (w : World) (hT : Tb w) :
    Calls Tryz.prog 168 #[.agg #[.int .i64 F, .int .i64 R], .int .i8 k, .int .i64 a, .int .u64 X] w fun e w' => e = .returned (.tuple #[.int .u64 (ofL (reachL F R k a X) : Int), .int .i64 0]) ∧ Below w.heap.size w w' := by
  rw [← reach_eq hk ha X]
  exact pReach_sl F R a k hk ha X hX w hT

set_option maxRecDepth 100000 in
set_option maxHeartbeats 1000000 in
theorem pReach_off (F R a k : Int) (ha : ¬ vat F R a) (X : Nat) (w : World) :
    Calls Tryz.prog 168 #[.agg #[.int .i64 F, .int .i64 R], .int .i8 k, .int .i64 a, .int .u64 X] w fun e w' => e = .returned (.tuple #[.int .u64 0, .int .i64 2]) ∧ Below w.heap.size w w' := by
  have HV := Lib.hid (valid_no F R a ha)
  go_enter Tryz.func168, Tryz.ntmps168
  go_wp2_with fail
  refine (HV.out _).mono ?_
  rintro e w1 ⟨rfl, hb1⟩
  go_wp2
  go_ret2
  exact ⟨rfl, after1 hb1⟩

set_option maxRecDepth 100000 in
set_option maxHeartbeats 1000000 in
theorem pReach_set (F R a k : Int) (ha : vat F R a) (X : Nat) (hX64 : X < 18446744073709551616) (hX : ¬ X < 2 ^ (F * R).toNat) (w : World) :
    Calls Tryz.prog 168 #[.agg #[.int .i64 F, .int .i64 R], .int .i8 k, .int .i64 a, .int .u64 X] w fun e w' => e = .returned (.tuple #[.int .u64 0, .int .i64 2]) ∧ Below w.heap.size w w' := by
  have HS := Lib.hid (pIsSet_yes F R X hX64 ha.1)
  have HV := Lib.hid (valid_yes F R a ha)
  have HB : decide (X < 2 ^ (F * R).toNat) = false := by simp; omega
  rw [HB] at HS
  clear HB hX
  go_enter Tryz.func168, Tryz.ntmps168
  go_wp2_with fail
  refine (HV.out _).mono ?_
  rintro e w1 ⟨rfl, hb1⟩
  have s1 := hb1.size
  simp at s1
  have c0 := hb1.cell (p := ⟨w.heap.size, 0, none⟩) (by simp)
  have c1 := hb1.cell (p := ⟨w.heap.size, 1, none⟩) (by simp)
  simp [go_sem] at c0 c1
  have hB1 := after1 hb1
  go_wp2_with fail
  refine (HS.out _).mono ?_
  rintro e w2 ⟨rfl, hb2⟩
  go_wp2
  go_ret2
  exact ⟨rfl, chain hB1 hb2⟩

set_option maxRecDepth 100000 in
set_option maxHeartbeats 4000000 in
theorem pReach_kind (F R a k : Int) (hk : k < 2 ∨ 6 < k) (ha : vat F R a) (X : Nat) (hX : X < 2 ^ (F * R).toNat) (w : World) (hT : Tb w) :
    Calls Tryz.prog 168 #[.agg #[.int .i64 F, .int .i64 R], .int .i8 k, .int .i64 a, .int .u64 X] w fun e w' => e = .returned (.tuple #[.int .u64 0, .int .i64 2]) ∧ Below w.heap.size w w' := by
  have n2 : (k == 2) = false := beq_eq_false_iff_ne.2 (by omega)
  have n3 : (k == 3) = false := beq_eq_false_iff_ne.2 (by omega)
  have n4 : (k == 4) = false := beq_eq_false_iff_ne.2 (by omega)
  have n5 : (k == 5) = false := beq_eq_false_iff_ne.2 (by omega)
  have n6 : (k == 6) = false := beq_eq_false_iff_ne.2 (by omega)
  clear hk
  have hX64 := x64 ha.1 hX
  have HS := Lib.hid (pIsSet_yes F R X hX64 ha.1)
  have HV := Lib.hid (valid_yes F R a ha)
  have HB : decide (X < 2 ^ (F * R).toNat) = true := by simp [hX]
  rw [HB] at HS
  go_enter Tryz.func168, Tryz.ntmps168
  go_wp2_with fail
  refine (HV.out _).mono ?_
  rintro e w1 ⟨rfl, hb1⟩
  have s1 := hb1.size
  simp at s1
  have c0 := hb1.cell (p := ⟨w.heap.size, 0, none⟩) (by simp)
  have c1 := hb1.cell (p := ⟨w.heap.size, 1, none⟩) (by simp)
  simp [go_sem] at c0 c1
  have hB1 := after1 hb1
  go_wp2_with fail
  refine (HS.out _).mono ?_
  rintro e w2 ⟨rfl, hb2⟩
  have d0 := (hb2.cell (p := ⟨w.heap.size, 0, none⟩) (by simp; omega)).trans c0
  have d1 := (hb2.cell (p := ⟨w.heap.size, 1, none⟩) (by simp; omega)).trans c1
  have hB2 := chain hB1 hb2
  have hT2 := hT.below hB2
  clear hb1 hb2 c0 c1 hB1
  have l0 := hT2.1 0 (by omega)
  have l1 := hT2.1 1 (by omega)
  have l2 := hT2.1 2 (by omega)
  have l3 := hT2.1 3 (by omega)
  have l4 := hT2.1 4 (by omega)
  have l5 := hT2.1 5 (by omega)
  have l6 := hT2.1 6 (by omega)
  have l7 := hT2.1 7 (by omega)
  have l8 := hT2.1 8 (by omega)
  have l9 := hT2.1 9 (by omega)
  have l10 := hT2.1 10 (by omega)
  have l11 := hT2.1 11 (by omega)
  have l12 := hT2.1 12 (by omega)
  have l13 := hT2.1 13 (by omega)
  have l14 := hT2.1 14 (by omega)
  have l15 := hT2.1 15 (by omega)
  have j0 := hT2.2 0 (by omega)
  have j1 := hT2.2 1 (by omega)
  have j2 := hT2.2 2 (by omega)
  have j3 := hT2.2 3 (by omega)
  have j4 := hT2.2 4 (by omega)
  have j5 := hT2.2 5 (by omega)
  have j6 := hT2.2 6 (by omega)
  have j7 := hT2.2 7 (by omega)
  have j8 := hT2.2 8 (by omega)
  have j9 := hT2.2 9 (by omega)
  have j10 := hT2.2 10 (by omega)
  have j11 := hT2.2 11 (by omega)
  have j12 := hT2.2 12 (by omega)
  have j13 := hT2.2 13 (by omega)
  have j14 := hT2.2 14 (by omega)
  have j15 := hT2.2 15 (by omega)
  simp [linesL] at l0 l1 l2 l3 l4 l5 l6 l7 l8 l9 l10 l11 l12 l13 l14 l15
  simp [jumpsL] at j0 j1 j2 j3 j4 j5 j6 j7 j8 j9 j10 j11 j12 j13 j14 j15
  clear d0 d1
  go_wp2
  go_ret2
  exact ⟨rfl, (hB2.alloc hB2.size _).alloc (by have := hB2.size; simp; omega) _⟩

end Go.Proofs.YtelkmdklpcfobaaGreatDoor

/- The program's attacks of pawns are the document's. -/
namespace Go.Proofs.YtelkmdklpcfobaaGreatDoor
open Go.RowKit Go.Shelf Go.Sort

theorem fwd_bd (bl : Bool) : fwd bl = 1 ∨ fwd bl = -1 := by cases bl <;> simp [fwd]
def pawnD (bl : Bool) : List (Int × Int) := [(-1, fwd bl), (1, fwd bl)]
set_option maxRecDepth 100000 in
set_option maxHeartbeats 2000000 in
theorem pPawn_sl (F R a : Int) (bl : Bool) (ha : vat F R a) (w : World) :
    Calls Tryz.prog 167 #[.agg #[.int .i64 F, .int .i64 R], .bool bl, .int .i64 a] w fun e w' => e = .returned (.tuple #[.int .u64 (ofL (slideL F R a (pawnD bl) ones) : Int), .int .i64 0]) ∧ Below w.heap.size w w' := by
  have HV := Lib.hid (valid_yes F R a ha)
  have HF := Lib.hid (pForward_any bl)
  have hu := fwd_bd bl
  unfold pawnD
  obtain ⟨up, hup⟩ : ∃ up, fwd bl = up := ⟨_, rfl⟩
  rw [hup] at HF hu ⊢
  clear hup
  have HL := Lib.hid (fun c A w hA => leap_any F R a ha [(-1, up), (1, up)] (by
    intro d hd
    simp at hd
    rcases hd with rfl | rfl <;> simp <;> omega) (by simp) A c w hA)
  clear hu ha
  go_enter Tryz.func167, Tryz.ntmps167
  go_wp2_with fail
  refine (HV.out _).mono ?_
  rintro e w1 ⟨rfl, hb1⟩
  have s1 := hb1.size
  simp at s1
  have c0 := hb1.cell (p := ⟨w.heap.size, 0, none⟩) (by simp)
  have c1 := hb1.cell (p := ⟨w.heap.size, 1, none⟩) (by simp)
  simp [go_sem] at c0 c1
  have hB1 := after1 hb1
  clear hb1
  go_wp2_with fail
  refine (HF.out _).mono ?_
  rintro e w2 ⟨rfl, rfl⟩
  go_wp2_with fail
  refine (HL.out 2 (some ⟨w1.heap.size, 0, none⟩) _ (fun _ => ⟨_, rfl, by simp, fun k hk => ?_⟩)).mono ?_
  · have : k = 0 ∨ k = 1 := by simp at hk; omega
    rcases this with rfl | rfl
    · simp [go_sem, Addr.add]
    · simp [go_sem, Addr.add]
  rintro e w2 ⟨rfl, hb2⟩
  go_wp2
  go_ret2
  exact ⟨rfl, chain (hB1.alloc hB1.size _) (hb2)⟩
theorem pPawn_no (F R a : Int) (bl : Bool) (ha : ¬ vat F R a) (w : World) :
    Calls Tryz.prog 167 #[.agg #[.int .i64 F, .int .i64 R], .bool bl, .int .i64 a] w fun e w' => e = .returned (.tuple #[.int .u64 0, .int .i64 2]) ∧ Below w.heap.size w w' := by
  have HV := Lib.hid (valid_no F R a ha)
  go_enter Tryz.func167, Tryz.ntmps167
  go_wp2_with fail
  refine (HV.out _).mono ?_
  rintro e w1 ⟨rfl, hb1⟩
  go_wp2
  go_ret2
  exact ⟨rfl, after1 hb1⟩
theorem pawn_eq {F R a : Int} (bl : Bool) (ha : vat F R a) : ofL (slideL F R a (pawnD bl) ones) = ofL (pawnL F R a bl) := by
  apply ofL_ext
  intro n
  unfold pawnL
  rw [mem_pick, slideL_ones ha.1]
  by_cases hlt : (n : Int) < F * R
  · have hb : vat F R (n : Int) := ⟨ha.1, by omega, hlt⟩
    have hlt2 : n < (F * R).toNat := by omega
    simp only [hlt2, true_and, pawnB, pawnD]
    constructor
    · rintro ⟨d, hd, h⟩
      obtain ⟨e1, e2⟩ := (leap_mem rfl ha hb).1 h
      simp at hd
      rcases hd with rfl | rfl <;> simp at e1 e2 ⊢ <;> omega
    · intro h
      simp at h
      obtain ⟨h1, h2⟩ := h
      by_cases h3 : (n : Int) % F - a % F = 1
      · exact ⟨(1, fwd bl), by simp, (leap_mem rfl ha hb).2 ⟨h3, h1⟩⟩
      · exact ⟨(-1, fwd bl), by simp, (leap_mem rfl ha hb).2 ⟨by simp; omega, h1⟩⟩
  · constructor
    · rintro ⟨d, hd, h⟩
      exact absurd (rayL_lt ha.1 n (List.mem_of_mem_take h)) hlt
    · rintro ⟨h, _⟩
      have := (vsz_mul ha.1).1
      omega
/-- the squares that a pawn attacks, by the program. -/
theorem pPawn_yes (F R a : Int) (bl : Bool) (ha : vat F R a) (w : World) :
    Calls Tryz.prog 167 #[.agg #[.int .i64 F, .int .i64 R], .bool bl, .int .i64 a] w fun e w' => e = .returned (.tuple #[.int .u64 (ofL (pawnL F R a bl) : Int), .int .i64 0]) ∧ Below w.heap.size w w' := by
  rw [← pawn_eq bl ha]
  exact pPawn_sl F R a bl ha w

end Go.Proofs.YtelkmdklpcfobaaGreatDoor

/- Attacks, by the program: the king of a side; the squares that a piece attacks. -/
namespace Go.Proofs.YtelkmdklpcfobaaGreatDoor
open Go.RowKit

/-- what the program's king of a side is. -/
def kgA (X : Nat) : Value := if cntB 64 X = 1 then .tuple #[.int .i64 (Lib.ctz 64 X : Nat), .int .i64 0] else .tuple #[.int .i64 0, .int .i64 9]

set_option maxRecDepth 100000 in
set_option maxHeartbeats 1000000 in
theorem aKing_any (B X : Nat) (bl : Bool) (hX : X < 18446744073709551616) (w : World) (hT : Tab w) (hc : w.cell? ⟨B, offN bl + 1 + 6, none⟩ = some (.int .u64 (X : Nat))) :
    Calls Tryz.prog 104 #[.pointer (some ⟨B, 0, none⟩), .bool bl] w fun e w' => e = .returned (kgA X) ∧ w' = w := by
  have HS := Lib.hid (aSide_any B bl)
  have HO := Lib.hid (ones_any X hX)
  have HG := fun h => tz_any X h hX w hT
  unfold kgA
  have hle := cntB_le 64 X
  by_cases h1 : cntB 64 X = 1
  · rw [if_pos h1]
    have hX0 : X ≠ 0 := by rintro rfl; revert h1; decide
    have HG2 := Lib.hid (HG hX0)
    rw [h1] at HO
    clear h1 hle HG hX0
    go_enter Tryz.func104, Tryz.ntmps104
    go_wp2_with fail
    refine (HS.out _).mono ?_
    rintro e w1 ⟨rfl, rfl⟩
    go_wp2_with fail
    refine (HO.out _).mono ?_
    rintro e w1 ⟨rfl, rfl⟩
    go_wp2_with fail
    refine (HG2.out).mono ?_
    rintro e w1 ⟨rfl, rfl⟩
    go_wp2
    go_ret2
    exact ⟨rfl, rfl⟩
  · rw [if_neg h1]
    have hne : (((cntB 64 X : Nat) : Int) != 1) = true := by rw [bne_iff_ne]; omega
    generalize cntB 64 X = n at *
    clear h1 HG
    go_enter Tryz.func104, Tryz.ntmps104
    go_wp2_with fail
    refine (HS.out _).mono ?_
    rintro e w1 ⟨rfl, rfl⟩
    go_wp2_with fail
    refine (HO.out _).mono ?_
    rintro e w1 ⟨rfl, rfl⟩
    go_wp2
    go_ret2
    exact ⟨rfl, rfl⟩

/-- the squares that a piece of a kind attacks. -/
def attL (F R : Int) (k : Nat) (bl : Bool) (a : Int) (X : Nat) : List Nat := if k = 1 then pawnL F R a bl else reachL F R k a X

set_option maxRecDepth 100000 in
set_option maxHeartbeats 1000000 in
theorem aAtt_any (F R a : Int) (k : Nat) (bl : Bool) (B X : Nat) (hk : 1 ≤ k) (hk6 : k ≤ 6) (ha : vat F R a) (hX : X < 2 ^ (F * R).toNat) (w : World) (hT : Tb w) (h0 : w.cell? ⟨B, 0, none⟩ = some (.int .i64 F)) (h1 : w.cell? ⟨B, 1, none⟩ = some (.int .i64 R)) :
    Calls Tryz.prog 143 #[.pointer (some ⟨B, 0, none⟩), .int .i8 k, .bool bl, .int .i64 a, .int .u64 X] w fun e w' => e = .returned (.int .u64 (ofL (attL F R k bl a X) : Int)) ∧ Below w.heap.size w w' := by
  unfold attL
  by_cases h : k = 1
  · subst h
    rw [if_pos rfl]
    have HP := Lib.hid (fun w => pPawn_yes F R a bl ha w)
    clear ha hX hk hk6
    go_enter Tryz.func143, Tryz.ntmps143
    go_wp2_with fail
    refine (HP.out _).mono ?_
    rintro e w1 ⟨rfl, hb⟩
    go_wp2
    go_ret
    exact ⟨rfl, hb⟩
  · rw [if_neg h]
    have HR := Lib.hid (fun w hT => pReach_yes F R a k (by omega) ha X hX w hT)
    have hz : (((k : Nat) : Int) == 1) = false := beq_eq_false_iff_ne.2 (by omega)
    clear ha hX hk hk6 h
    go_enter Tryz.func143, Tryz.ntmps143
    go_wp2_with fail
    refine (HR.out _ hT).mono ?_
    rintro e w1 ⟨rfl, hb⟩
    go_wp2
    go_ret
    exact ⟨rfl, hb⟩

end Go.Proofs.YtelkmdklpcfobaaGreatDoor
