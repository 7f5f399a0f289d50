/- The reference's test whether a set is one of a board. -/
import Derived.Test.YtejlbjbmpdddkaaDoorSqT
import Derived.Lib.QuietBelow
namespace Go.Proofs.YtejlbjbmpdddkaaDoor
open Go.RowKit Go.Sort Go.BigFrame

theorem RdI.own' {w : World} {B e : Nat} {v : Value} {l : List Nat} (h : w.ownsRow B e 1 v l.length (vnats l)) : ∃ A c, v = .slice A l.length c ∧ l.length ≤ c ∧ RdI w w.heap.size A (l.map fun i : Nat => (i : Int)) := by
  obtain ⟨A, c, hv, hA⟩ := RdI.own h
  refine ⟨A, c, hv, ?_, hA⟩
  obtain ⟨hl, ⟨rfl, h0⟩ | ⟨g, cap, cur, rfl, hg, hh, hn, hc, hs, ht⟩⟩ := h
  · omega
  · have : cap = c := by injection hv
    omega

theorem last_board (X m : Nat) (hX : X < 18446744073709551616) (n : Nat) (hn : (listOf X).length = n + 1) : X < 2 ^ m ↔ ((listOf X)[n]?.getD 0) < m := by
  have hl : n < (listOf X).length := by omega
  rw [List.getElem?_eq_getElem hl]
  constructor
  · intro h
    exact in_board h (List.getElem_mem hl)
  · intro h
    have hs : (listOf X).Pairwise (· < ·) := List.Pairwise.filter _ List.pairwise_lt_range
    apply lt_of_bits
    intro j hj
    by_cases h64 : j < 64
    · cases hb : X.testBit j
      · rfl
      · have hm : j ∈ listOf X := mem_listOf.2 ⟨h64, hb⟩
        obtain ⟨i, hi, he⟩ := List.mem_iff_getElem.1 hm
        simp at h
        rcases Nat.lt_or_ge i n with hin | hin
        · have := List.pairwise_iff_getElem.1 hs i n hi hl hin
          omega
        · have : i = n := by omega
          subst this
          omega
    · exact bit_high (n := 64) (by simpa using hX) (by omega)

set_option maxRecDepth 100000 in
set_option maxHeartbeats 1000000 in
theorem refOn_any (F R : Int) (X : Nat) (hX : X < 18446744073709551616) (w : World) (b : Bool) (hb : b = true ↔ (vsz F R ∧ X < 2 ^ (F * R).toNat)) :
    Calls Tryd.prog 18 #[.agg #[.int .i64 F, .int .i64 R], .int .u64 X] w fun e w' => e = .returned (.bool b) ∧ Below w.heap.size w w' := by
  have HB := Lib.hid hb
  clear hb
  go_enter Tryd.func18, Tryd.ntmps18
  go_wp2_with fail
  refine (refList_any X hX _).mono ?_
  rintro e w1 ⟨v, rfl, hown, hB⟩
  obtain ⟨A, c, rfl, _, hA⟩ := RdI.own' hown
  have s1 := hB.size
  simp at s1
  have c0 := hB.cell (p := ⟨w.heap.size, 0, none⟩) (by simp)
  have c1 := hB.cell (p := ⟨w.heap.size, 1, none⟩) (by simp)
  simp [go_sem] at c0 c1
  have hBB := after1 hB
  clear hown hB
  have k0 := cell_regrown c0
  have k1 := cell_regrown c1
  by_cases hv : vsz F R
  · obtain ⟨m0, m1⟩ := vsz_mul hv
    have cS : ∀ d os, Calls Tryd.prog 34 #[.agg #[.int .i64 F, .int .i64 R]] (grow (redrawn w1 d) os) fun e w'' => e = .returned (.bool true) ∧ ∃ p : Regrown, w'' = grow (redrawn w1 p.d) p.os := fun d os => Calls.regrown_of (refSize_yes F R hv _)
    by_cases hn : (listOf X).length = 0
    · have hz : (((listOf X).length : Int) == 0) = true := by rw [beq_iff_eq]; omega
      have hbt : b = true := HB.out.2 ⟨hv, by
        have : X = 0 := by
          have := ofL_listOf (X := X) (by simpa using hX)
          rw [List.length_eq_zero_iff.1 hn] at this
          exact this.symm
        rw [this]; exact Nat.two_pow_pos _⟩
      subst hbt
      generalize (listOf X).length = n at *
      clear hn
      go_wp2
      refine wp_region_quiet_below (by kernel_rfl) (by kernel_rfl) ?_
      repeat (go_big_quiet_step (exact cS _ _))
      refine wpQuiet_nil ?_
      intro _ hw'
      obtain ⟨⟨dq, osq⟩, hw''⟩ := hw'
      subst hw''
      go_wp2
      go_ret
      exact ⟨rfl, chain hBB (below_regrown w1 dq osq)⟩
    · obtain ⟨n, hn1⟩ : ∃ n, (listOf X).length = n + 1 := ⟨(listOf X).length - 1, by omega⟩
      have hlb := last_board X (F * R).toNat hX n hn1
      have hz : ((n : Int) + 1 == 0) = false := by rw [beq_eq_false_iff_ne]; omega
      obtain ⟨ad, rfl, _, hcell⟩ := hA.at_ (k := n) (by rw [List.length_map, hn1]; omega)
      have hg : ((listOf X).map fun i : Nat => (i : Int))[n]?.getD 0 = (((listOf X)[n]?.getD 0 : Nat) : Int) := by
        rw [List.getElem?_map]
        cases (listOf X)[n]? <;> rfl
      rw [hg] at hcell
      have hb2 : b = true ↔ (listOf X)[n]?.getD 0 < (F * R).toNat := by rw [HB.out, ← hlb]; exact ⟨fun h => h.2, fun h => ⟨hv, h⟩⟩
      have hn64 : n < 64 := by have := listOf_len X; omega
      have kc := cell_regrown hcell
      rw [hn1]
      clear hg hlb hA HB hn1 hn hcell
      generalize (listOf X)[n]?.getD 0 = q at *
      have hd : decide ((q : Int) < F * R) = b := by
        rw [Bool.eq_iff_iff, hb2]
        simp
      have HD := Lib.hid hd
      clear hd hb2
      go_wp2
      refine wp_region_quiet_below (by kernel_rfl) (by kernel_rfl) ?_
      repeat (go_big_quiet_step (exact cS _ _))
      refine wpQuiet_nil ?_
      intro _ hw'
      obtain ⟨⟨dq, osq⟩, hw''⟩ := hw'
      subst hw''
      go_wp2
      go_ret
      exact ⟨ret_bool HD.out, chain hBB (below_regrown w1 dq osq)⟩
  · have cS : ∀ d os, Calls Tryd.prog 34 #[.agg #[.int .i64 F, .int .i64 R]] (grow (redrawn w1 d) os) fun e w'' => e = .returned (.bool false) ∧ ∃ p : Regrown, w'' = grow (redrawn w1 p.d) p.os := fun d os => Calls.regrown_of (refSize_no F R hv _)
    have hbf : b = false := by
      cases b
      · rfl
      · exact absurd (HB.out.1 rfl).1 hv
    subst hbf
    go_wp2
    refine wp_region_quiet_below (by kernel_rfl) (by kernel_rfl) ?_
    repeat (go_big_quiet_step (exact cS _ _))
    refine wpQuiet_nil ?_
    intro _ hw'
    obtain ⟨⟨dq, osq⟩, hw''⟩ := hw'
    subst hw''
    go_wp2
    go_ret
    exact ⟨rfl, chain hBB (below_regrown w1 dq osq)⟩

end Go.Proofs.YtejlbjbmpdddkaaDoor
