/- The program's reach is the document's; inputs that are refused. -/
import Derived.Test.YtejlbjbmpdddkaaDoorRpF
import Derived.Test.YtejlbjbmpdddkaaDoorRyF
namespace Go.Proofs.YtejlbjbmpdddkaaDoor
open Go.RowKit Go.Shelf Go.Sort

theorem ones_bit {i : Nat} (h : i < 64) : ones.testBit i = true := by
  have : ones = 2 ^ 64 - 1 := by decide
  rw [this, Nat.testBit_two_pow_sub_one]
  simp [h]
theorem stop_ones {L : List Nat} (h : ∀ i ∈ L, i < 64) : stopL L ones = L.take 1 := by
  cases L with
  | nil => rfl
  | cons a L => rw [stop_cons_yes (ones_bit (h a (by simp)))]; rfl
theorem ofL_ext {l m : List Nat} (h : ∀ i, i ∈ l ↔ i ∈ m) : ofL l = ofL m := by
  apply Nat.eq_of_testBit_eq
  intro i
  rw [ofL_bit, ofL_bit]
  simp [h i]
theorem mem_pick {P : Nat → Bool} {k n : Nat} : n ∈ pickTo P k ↔ n < k ∧ P n = true := by unfold pickTo; simp

theorem slideL_ones {F R a : Int} (hv : vsz F R) (ds : List (Int × Int)) : ∀ n, n ∈ slideL F R a ds ones ↔ ∃ d ∈ ds, n ∈ (rayL F R (a % F) (a / F) d.1 d.2).take 1 := by
  intro n
  unfold slideL
  rw [List.mem_flatMap]
  constructor
  · rintro ⟨d, hd, h⟩
    rw [stop_ones (fun i hi => by have := rayL_lt hv i hi; have := (vsz_mul hv).2; omega)] at h
    exact ⟨d, hd, h⟩
  · rintro ⟨d, hd, h⟩
    refine ⟨d, hd, ?_⟩
    rw [stop_ones (fun i hi => by have := rayL_lt hv i hi; have := (vsz_mul hv).2; omega)]
    exact h
theorem knight_dec : ∀ i : Fin 15, ∀ j : Fin 15, (((i.1 : Int) - 7, (j.1 : Int) - 7) ∈ knightD) = ((((i.1 : Int) - 7) * ((i.1 : Int) - 7) + ((j.1 : Int) - 7) * ((j.1 : Int) - 7) == 5) = true) := by
  have : ∀ i : Fin 15, ∀ j : Fin 15, decide (((i.1 : Int) - 7, (j.1 : Int) - 7) ∈ knightD) = (((i.1 : Int) - 7) * ((i.1 : Int) - 7) + ((j.1 : Int) - 7) * ((j.1 : Int) - 7) == 5) := by decide +kernel
  intro i j
  rw [← this i j]
  simp
theorem king_dec : ∀ i : Fin 15, ∀ j : Fin 15, (((i.1 : Int) - 7, (j.1 : Int) - 7) ∈ rookD ++ bishopD) = ((cheb ((i.1 : Int) - 7) ((j.1 : Int) - 7) == 1) = true) := by
  have : ∀ i : Fin 15, ∀ j : Fin 15, decide (((i.1 : Int) - 7, (j.1 : Int) - 7) ∈ rookD ++ bishopD) = (cheb ((i.1 : Int) - 7) ((j.1 : Int) - 7) == 1) := by decide +kernel
  intro i j
  rw [← this i j]
  simp
theorem diff_bd {F R a b : Int} (ha : vat F R a) (hb : vat F R b) : (-7 ≤ b % F - a % F ∧ b % F - a % F ≤ 7) ∧ (-7 ≤ b / F - a / F ∧ b / F - a / F ≤ 7) := by
  obtain ⟨p0, p1, p2, p3⟩ := place_bd ha.1 ha.2.1 ha.2.2
  obtain ⟨q0, q1, q2, q3⟩ := place_bd hb.1 hb.2.1 hb.2.2
  have f2 := ha.1.2.1
  have r2 := ha.1.2.2.2
  omega
/-- which squares the rays of some directions reach. -/
theorem slides_mem {F R a b : Int} {n X : Nat} (hn : (n : Int) = b) (ha : vat F R a) (hb : vat F R b) (ds : List (Int × Int)) (hds : ∀ d ∈ ds, (-1 ≤ d.1 ∧ d.1 ≤ 1 ∧ -1 ≤ d.2 ∧ d.2 ≤ 1) ∧ ¬ (d.1 = 0 ∧ d.2 = 0)) :
    n ∈ slideL F R a ds X ↔ (lineB F a b = true ∧ (sg (b % F - a % F), sg (b / F - a / F)) ∈ ds ∧ freeB ((betL F R a b).map fun i : Nat => (i : Int)) X = true) := by
  unfold slideL
  rw [List.mem_flatMap]
  constructor
  · rintro ⟨d, hd, h⟩
    obtain ⟨⟨f0, f1, r0, r1⟩, h0⟩ := hds d hd
    obtain ⟨h1, h2, h3, h4⟩ := (slide_mem hn ha hb f0 f1 r0 r1 h0).1 h
    exact ⟨h1, by rw [h2, h3]; exact hd, h4⟩
  · rintro ⟨h1, h2, h3⟩
    refine ⟨_, h2, ?_⟩
    obtain ⟨⟨f0, f1, r0, r1⟩, h0⟩ := hds _ h2
    exact (slide_mem hn ha hb f0 f1 r0 r1 h0).2 ⟨h1, rfl, rfl, h3⟩
theorem sg_dec : ∀ i : Fin 15, ∀ j : Fin 15, lineD ((i.1 : Int) - 7) ((j.1 : Int) - 7) = true → ¬ (((i.1 : Int) - 7) = 0 ∧ ((j.1 : Int) - 7) = 0) →
    (((sg ((i.1 : Int) - 7), sg ((j.1 : Int) - 7)) ∈ rookD ↔ ((((i.1 : Int) - 7) == 0) || (((j.1 : Int) - 7) == 0)) = true) ∧ ((sg ((i.1 : Int) - 7), sg ((j.1 : Int) - 7)) ∈ bishopD ↔ ((((i.1 : Int) - 7) == 0) || (((j.1 : Int) - 7) == 0)) = false)) := by decide +kernel
theorem sg_dirs {d q : Int} (d0 : -7 ≤ d ∧ d ≤ 7) (q0 : -7 ≤ q ∧ q ≤ 7) (hl : lineD d q = true) (h : ¬ (d = 0 ∧ q = 0)) : ((sg d, sg q) ∈ rookD ↔ ((d == 0) || (q == 0)) = true) ∧ ((sg d, sg q) ∈ bishopD ↔ ((d == 0) || (q == 0)) = false) := by
  have := sg_dec ⟨(d + 7).toNat, by omega⟩ ⟨(q + 7).toNat, by omega⟩
  simp only [show (((d + 7).toNat : Nat) : Int) - 7 = d by omega, show (((q + 7).toNat : Nat) : Int) - 7 = q by omega] at this
  exact this hl h
theorem reach_eq {F R k a : Int} (hk : k = 2 ∨ k = 3 ∨ k = 4 ∨ k = 5 ∨ k = 6) (ha : vat F R a) (X : Nat) : ofL (slideL F R a (dirsOf k) (stopOf k X)) = ofL (reachL F R k a X) := by
  apply ofL_ext
  intro n
  unfold reachL
  rw [mem_pick]
  by_cases hlt : (n : Int) < F * R
  · have hb : vat F R (n : Int) := ⟨ha.1, by omega, hlt⟩
    have hlt2 : n < (F * R).toNat := by omega
    obtain ⟨d0, q0⟩ := diff_bd ha hb
    have hline : lineB F a (n : Int) = true → lineD ((n : Int) % F - a % F) ((n : Int) / F - a / F) = true ∧ ¬ ((n : Int) % F - a % F = 0 ∧ (n : Int) / F - a / F = 0) := by
      intro h
      unfold lineB at h
      simp only [Bool.and_eq_true] at h
      refine ⟨h.2, fun e => ?_⟩
      have : a = (n : Int) := place_inj ha hb (by omega) (by omega)
      rw [this] at h
      simp at h
    have leap : ∀ ds : List (Int × Int), n ∈ slideL F R a ds ones ↔ (((n : Int) % F - a % F), ((n : Int) / F - a / F)) ∈ ds := by
      intro ds
      rw [slideL_ones ha.1]
      constructor
      · rintro ⟨d, hd, h⟩
        obtain ⟨e1, e2⟩ := (leap_mem rfl ha hb).1 h
        rw [e1, e2]
        exact hd
      · intro h
        exact ⟨_, h, (leap_mem rfl ha hb).2 ⟨rfl, rfl⟩⟩
    rcases hk with rfl | rfl | rfl | rfl | rfl
    · rw [show stopOf 2 X = ones by simp [stopOf], show dirsOf 2 = knightD by simp [dirsOf], leap]
      have := knight_dec ⟨((n : Int) % F - a % F + 7).toNat, by omega⟩ ⟨((n : Int) / F - a / F + 7).toNat, by omega⟩
      simp only [show ((((n : Int) % F - a % F + 7).toNat : Nat) : Int) - 7 = (n : Int) % F - a % F by omega, show ((((n : Int) / F - a / F + 7).toNat : Nat) : Int) - 7 = (n : Int) / F - a / F by omega] at this
      rw [this]
      simp [reachB, hlt2]
    · rw [show stopOf 3 X = X by simp [stopOf], show dirsOf 3 = bishopD by simp [dirsOf], slides_mem rfl ha hb _ (by decide)]
      simp only [reachB, hlt2, true_and]
      constructor
      · rintro ⟨h1, h2, h3⟩
        obtain ⟨l1, l2⟩ := hline h1
        have := (sg_dirs d0 q0 l1 l2).2.1 h2
        simp [h1, h3, this]
      · intro h
        simp at h
        obtain ⟨⟨h1, h2⟩, h3⟩ := h
        obtain ⟨l1, l2⟩ := hline h1
        exact ⟨h1, (sg_dirs d0 q0 l1 l2).2.2 (by simp; omega), h3⟩
    · rw [show stopOf 4 X = X by simp [stopOf], show dirsOf 4 = rookD by simp [dirsOf], slides_mem rfl ha hb _ (by decide)]
      simp only [reachB, hlt2, true_and]
      constructor
      · rintro ⟨h1, h2, h3⟩
        obtain ⟨l1, l2⟩ := hline h1
        have := (sg_dirs d0 q0 l1 l2).1.1 h2
        simp [h1, h3, this]
      · intro h
        simp at h
        obtain ⟨⟨h1, h2⟩, h3⟩ := h
        obtain ⟨l1, l2⟩ := hline h1
        exact ⟨h1, (sg_dirs d0 q0 l1 l2).1.2 (by simp; omega), h3⟩
    · rw [show stopOf 5 X = X by simp [stopOf], show dirsOf 5 = rookD ++ bishopD by simp [dirsOf], slides_mem rfl ha hb _ (by decide)]
      simp only [reachB, hlt2, true_and]
      constructor
      · rintro ⟨h1, h2, h3⟩
        simp [h1, h3]
      · intro h
        simp at h
        obtain ⟨h1, h3⟩ := h
        obtain ⟨l1, l2⟩ := hline h1
        refine ⟨h1, ?_, h3⟩
        rw [List.mem_append]
        have hs := sg_dirs d0 q0 l1 l2
        cases hz : (((n : Int) % F - a % F == 0) || ((n : Int) / F - a / F == 0))
        · exact .inr (hs.2.2 hz)
        · exact .inl (hs.1.2 hz)
    · rw [show stopOf 6 X = ones by simp [stopOf], show dirsOf 6 = rookD ++ bishopD by simp [dirsOf], leap]
      have := king_dec ⟨((n : Int) % F - a % F + 7).toNat, by omega⟩ ⟨((n : Int) / F - a / F + 7).toNat, by omega⟩
      simp only [show ((((n : Int) % F - a % F + 7).toNat : Nat) : Int) - 7 = (n : Int) % F - a % F by omega, show ((((n : Int) / F - a / F + 7).toNat : Nat) : Int) - 7 = (n : Int) / F - a / F by omega] at this
      rw [this, ← dist_cheb]
      simp [reachB, hlt2]
  · constructor
    · intro h
      exact absurd (slide_lt ha.1 h) hlt
    · rintro ⟨h, _⟩
      have := (vsz_mul ha.1).1
      omega

end Go.Proofs.YtejlbjbmpdddkaaDoor
