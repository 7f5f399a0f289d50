/- Lines and leaps: which squares a piece reaches, by the document's own function. -/
import Derived.Test.YtjnbjegopddhgaaDoorRyD

namespace Go.Proofs.YtjnbjegopddhgaaDoor
open Go.RowKit

theorem sq_bd {d : Int} (h0 : -8 ≤ d) (h1 : d ≤ 8) : 0 ≤ d * d ∧ d * d ≤ 64 := by
  have : d = -8 ∨ d = -7 ∨ d = -6 ∨ d = -5 ∨ d = -4 ∨ d = -3 ∨ d = -2 ∨ d = -1 ∨ d = 0 ∨ d = 1 ∨ d = 2 ∨ d = 3 ∨ d = 4 ∨ d = 5 ∨ d = 6 ∨ d = 7 ∨ d = 8 := by omega
  rcases this with rfl | rfl | rfl | rfl | rfl | rfl | rfl | rfl | rfl | rfl | rfl | rfl | rfl | rfl | rfl | rfl | rfl <;> omega
theorem tw_mem {α : Type} (p : α → Bool) (l : List α) {x : α} (h : x ∈ l.takeWhile p) : p x = true := by
  induction l with
  | nil => simp at h
  | cons a l ih =>
    rw [List.takeWhile_cons] at h
    split at h
    · rename_i ha
      rcases List.mem_cons.1 h with rfl | h
      · exact ha
      · exact ih h
    · simp at h
theorem rayL_lt {F R x y f r : Int} (hv : vsz F R) : ∀ i ∈ rayL F R x y f r, (i : Int) < F * R := by
  intro i hi
  unfold rayL at hi
  obtain ⟨j, hj, rfl⟩ := List.mem_map.1 hi
  have hp := tw_mem _ _ hj
  obtain ⟨n0, n1, n2, n3⟩ := onB_iff.1 hp
  obtain ⟨m0, m1, m2, m3, m4⟩ := number_bd hv n0 n1 n2 n3
  unfold rayNum
  omega
theorem befL_mem {l : List Nat} {b : Int} : ∀ i ∈ befL l b, i ∈ l := by
  intro i hi
  unfold befL at hi
  split at hi
  · exact List.IsPrefix.mem hi (List.takeWhile_prefix _)
  · simp at hi
theorem betL_lt {F R : Int} (hv : vsz F R) (a b : Int) : ∀ i ∈ betL F R a b, i < 64 := by
  intro i hi
  have h1 := rayL_lt hv i (befL_mem i hi)
  have h2 := vsz_mul hv
  omega
theorem betL_len (F R a b : Int) : (betL F R a b).length ≤ 8 := by
  unfold betL befL
  split
  · exact Nat.le_trans (List.takeWhile_prefix _).length_le (rayL_len _ _ _ _ _ _)
  · simp
def reachB (F R k a b : Int) (X : Nat) : Bool :=
  if k = 2 then (b % F - a % F) * (b % F - a % F) + (b / F - a / F) * (b / F - a / F) == 5
  else if k = 6 then dist F a b == 1
  else lineB F a b && (k == 5 || (((b % F - a % F == 0) || (b / F - a / F == 0)) == (k == 4))) && freeB ((betL F R a b).map fun i : Nat => (i : Int)) X

set_option maxRecDepth 100000 in
set_option maxHeartbeats 16000000 in
theorem reaches_any (F R k a b : Int) (hk : k = 2 ∨ k = 3 ∨ k = 4 ∨ k = 5 ∨ k = 6) (ha : vat F R a) (hb : vat F R b) (X : Nat) (hX : X < 18446744073709551616) (w : World) :
    Calls Tryd.prog 64 #[.agg #[.int .i64 F, .int .i64 R], .int .i8 k, .int .i64 a, .int .i64 b, .int .u64 X] w fun e w' => e = .returned (.bool (reachB F R k a b X)) ∧ Below w.heap.size w w' := by
  obtain ⟨p0, p1, p2, p3⟩ := place_bd ha.1 ha.2.1 ha.2.2
  obtain ⟨q0, q1, q2, q3⟩ := place_bd hb.1 hb.2.1 hb.2.2
  have f2 := ha.1.2.1
  have r2 := ha.1.2.2.2
  obtain ⟨V, hV⟩ : ∃ V, reachB F R k a b X = V := ⟨_, rfl⟩
  rw [hV]
  have HV0 := Lib.hid hV
  clear hV
  go_enter Tryd.func64, Tryd.ntmps64
  go_upto_region 1 with fail
  go_cut [11, 12] (fun s7 s8 wx => ∃ g h : Nat, s7 = .pointer (some ⟨g, 0, none⟩) ∧ s8 = .pointer (some ⟨h, 0, none⟩) ∧ wx.cell? ⟨g, 0, none⟩ = some (.int .i64 (a % F)) ∧ wx.cell? ⟨g, 1, none⟩ = some (.int .i64 (a / F)) ∧ wx.cell? ⟨h, 0, none⟩ = some (.int .i64 (b % F)) ∧ wx.cell? ⟨h, 1, none⟩ = some (.int .i64 (b / F)) ∧ wx.cell? ⟨w.heap.size, 0, none⟩ = some (.int .i64 F) ∧ wx.cell? ⟨w.heap.size, 1, none⟩ = some (.int .i64 R) ∧ Below w.heap.size w wx)
  case first =>
    go_region_held3 (fun w' => w'.cell? ⟨w.heap.size, 0, none⟩ = some (.int .i64 F) ∧ w'.cell? ⟨w.heap.size, 1, none⟩ = some (.int .i64 R)) (((try dsimp only); refine ⟨?_, ?_⟩ <;> ((try simp only [World.cell?_drew]); (repeat (first | assumption | (rw [World.cell?_alloc_new]; rfl) | (exact (by assumption : _ ∧ _).1) | (exact (by assumption : _ ∧ _).2) | (refine alive _ ?_))))))
     (first
      | (go_at_call_of 76 (Value.int .i64 a); refine (refPlace_ex _ _ _ ha _).mono ?_; rintro e w1 ⟨rfl, rfl⟩)
      | (go_at_call_of 76 (Value.int .i64 b); refine (refPlace_ex _ _ _ hb _).mono ?_; rintro e w2 ⟨rfl, rfl⟩))
    all_goals
      go_wp2_with fail
      go_meet
      refine ⟨_, _, rfl, rfl, ?_, ?_, ?_, ?_, ?_, ?_, ?_⟩
      · simp [go_sem]
      · simp [go_sem]
      · simp [go_sem]
      · simp [go_sem]
      · simp [go_sem]
      · simp [go_sem]
      · go_grown
  case rest =>
    obtain ⟨g, h, rfl, rfl, g0, g1, h0, h1, m0, m1, hB⟩ := hcut
    have hV := HV0.out
    unfold reachB at hV
    have HCL := Lib.hid (line_any F R a b ha hb)
    have HDI := Lib.hid (refDistance_any F R a b ha hb)
    have hbt := fun h => between_any F R a b ha hb h
    have hlt := betL_lt ha.1 a b
    obtain ⟨L, hL⟩ : ∃ L, betL F R a b = L := ⟨_, rfl⟩
    rw [hL] at hV hbt hlt
    have hL8 : Hid ((L.map fun i : Nat => (i : Int)).length ≤ 100000) := Lib.hid (by rw [← hL]; have := betL_len F R a b; simp; omega)
    have HLT : Hid (∀ j, j < (L.map fun i : Nat => (i : Int)).length → 0 ≤ (L.map fun i : Nat => (i : Int))[j]?.getD 0 ∧ (L.map fun i : Nat => (i : Int))[j]?.getD 0 < 64) := Lib.hid (fun j hj => by
      have hj' : j < L.length := by simpa using hj
      rw [List.getElem?_map, List.getElem?_eq_getElem hj']
      have := hlt _ (List.getElem_mem hj')
      simp; omega)
    clear hL hlt
    have HBT0 := Lib.hid hbt
    obtain ⟨ln, hln⟩ : ∃ ln, lineB F a b = ln := ⟨_, rfl⟩
    unfold lineV at HCL
    rw [hln] at hV HCL HBT0
    obtain ⟨ds, hds⟩ : ∃ ds, dist F a b = ds := ⟨_, rfl⟩
    rw [hds] at hV HDI
    obtain ⟨x, hx⟩ : ∃ x, a % F = x := ⟨_, rfl⟩
    obtain ⟨y, hy⟩ : ∃ y, a / F = y := ⟨_, rfl⟩
    obtain ⟨u, hu⟩ : ∃ u, b % F = u := ⟨_, rfl⟩
    obtain ⟨v, hv⟩ : ∃ v, b / F = v := ⟨_, rfl⟩
    rw [hx] at g0 p0 p1
    rw [hy] at g1 p2 p3
    rw [hu] at h0 q0 q1
    rw [hv] at h1 q2 q3
    rw [hx, hy, hu, hv] at hV HCL
    have HVV := Lib.hid hV
    clear hx hy hu hv hV ha hb hln hds hbt
    have hw1 : IntKind.i64.wrap (u - x) = u - x := IntWalk.i64_in _ (by omega)
    have hw2 : IntKind.i64.wrap (v - y) = v - y := IntWalk.i64_in _ (by omega)
    go_wp2
    go_quiet (fail)
    clear hw1 hw2
    have hB3 := fun n => drawn hB n
    obtain ⟨d, hd⟩ : ∃ d, u - x = d := ⟨_, rfl⟩
    obtain ⟨q, hq⟩ : ∃ q, v - y = q := ⟨_, rfl⟩
    rw [hd, hq] at HVV HCL ⊢
    have d0 : -8 ≤ d ∧ d ≤ 8 := by omega
    have e0 : -8 ≤ q ∧ q ≤ 8 := by omega
    obtain ⟨d1, d2⟩ := d0
    obtain ⟨e1, e2⟩ := e0
    clear hd hq
    generalize sg d = sd at *
    generalize sg q = sq at *
    rcases hk with rfl | rfl | rfl | rfl | rfl
    · have HV : Hid ((d * d + q * q == 5) = V) := Lib.hid (by rw [← HVV.out]; simp)
      have hdd : 0 ≤ d * d ∧ d * d ≤ 64 := sq_bd d1 d2
      have hqq : 0 ≤ q * q ∧ q * q ≤ 64 := sq_bd e1 e2
      obtain ⟨dd0, dd1⟩ := hdd
      obtain ⟨qq0, qq1⟩ := hqq
      clear HVV HCL HDI
      go_wp2
      go_ret
      exact ⟨ret_bool HV.out, hB3 _⟩
    · cases ln
      · have HV : Hid (false = V) := Lib.hid (by rw [← HVV.out]; simp)
        rw [if_neg (by simp)] at HCL
        clear HVV HDI
        go_wp2_with fail
        refine (HCL.out _).mono ?_
        rintro e w1 ⟨rfl, hb1⟩
        have c0 := (hb1.cell (p := ⟨w.heap.size, 0, none⟩) (World.block_lt_of_cell? _ _ m0)).trans m0
        have c1 := (hb1.cell (p := ⟨w.heap.size, 1, none⟩) (World.block_lt_of_cell? _ _ m1)).trans m1
        have hB4 := chain (hB3 _) hb1
        clear hb1 m0 m1 hB3 g0 g1 h0 h1
        go_wp2
        all_goals
          go_ret
          exact ⟨ret_bool HV.out, hB4⟩
      · rw [if_pos rfl] at HCL
        have HBT := Lib.hid (HBT0.out rfl)
        clear HBT0
        by_cases z1 : d = 0
        · have t1 : (d == 0) = true := by simp [z1]
          have HV : Hid (false = V) := Lib.hid (by rw [← HVV.out]; simp [z1])
          clear HVV HDI z1
          go_wp2_with fail
          refine (HCL.out _).mono ?_
          rintro e w1 ⟨rfl, hb1⟩
          have c0 := (hb1.cell (p := ⟨w.heap.size, 0, none⟩) (World.block_lt_of_cell? _ _ m0)).trans m0
          have c1 := (hb1.cell (p := ⟨w.heap.size, 1, none⟩) (World.block_lt_of_cell? _ _ m1)).trans m1
          have hB4 := chain (hB3 _) hb1
          clear hb1 m0 m1 hB3 g0 g1 h0 h1
          go_wp2
          all_goals
            go_ret
            exact ⟨ret_bool HV.out, hB4⟩
        · have t1 : (d == 0) = false := beq_eq_false_iff_ne.2 z1
          by_cases z2 : q = 0
          · have t2 : (q == 0) = true := by simp [z2]
            have HV : Hid (false = V) := Lib.hid (by rw [← HVV.out]; simp [z2])
            clear HVV HDI z1 z2
            go_wp2_with fail
            refine (HCL.out _).mono ?_
            rintro e w1 ⟨rfl, hb1⟩
            have c0 := (hb1.cell (p := ⟨w.heap.size, 0, none⟩) (World.block_lt_of_cell? _ _ m0)).trans m0
            have c1 := (hb1.cell (p := ⟨w.heap.size, 1, none⟩) (World.block_lt_of_cell? _ _ m1)).trans m1
            have hB4 := chain (hB3 _) hb1
            clear hb1 m0 m1 hB3 g0 g1 h0 h1
            go_wp2
            all_goals
              go_ret
              exact ⟨ret_bool HV.out, hB4⟩
          · have t2 : (q == 0) = false := beq_eq_false_iff_ne.2 z2
            have HV : Hid (freeB (L.map fun i : Nat => (i : Int)) X = V) := Lib.hid (by rw [← HVV.out]; simp [z1, z2])
            clear HVV HDI z1 z2
            go_wp2_with fail
            refine (HCL.out _).mono ?_
            rintro e w1 ⟨rfl, hb1⟩
            have c0 := (hb1.cell (p := ⟨w.heap.size, 0, none⟩) (World.block_lt_of_cell? _ _ m0)).trans m0
            have c1 := (hb1.cell (p := ⟨w.heap.size, 1, none⟩) (World.block_lt_of_cell? _ _ m1)).trans m1
            have hB4 := chain (hB3 _) hb1
            clear hb1 m0 m1 hB3 g0 g1 h0 h1
            go_wp2_with fail
            refine (HBT.out _).mono ?_
            rintro e w5 ⟨A5, c5, rfl, hA5, hb5⟩
            go_wp2_with fail
            rw [show L.length = (L.map fun i : Nat => (i : Int)).length by simp]
            refine (free_any _ A5 c5 X hX _ hL8.out HLT.out hA5).mono ?_
            rintro e w6 ⟨rfl, rfl⟩
            go_wp2
            go_ret
            exact ⟨ret_bool HV.out, chain hB4 hb5⟩
    · cases ln
      · have HV : Hid (false = V) := Lib.hid (by rw [← HVV.out]; simp)
        rw [if_neg (by simp)] at HCL
        clear HVV HDI
        go_wp2_with fail
        refine (HCL.out _).mono ?_
        rintro e w1 ⟨rfl, hb1⟩
        have c0 := (hb1.cell (p := ⟨w.heap.size, 0, none⟩) (World.block_lt_of_cell? _ _ m0)).trans m0
        have c1 := (hb1.cell (p := ⟨w.heap.size, 1, none⟩) (World.block_lt_of_cell? _ _ m1)).trans m1
        have hB4 := chain (hB3 _) hb1
        clear hb1 m0 m1 hB3 g0 g1 h0 h1
        go_wp2
        all_goals
          go_ret
          exact ⟨ret_bool HV.out, hB4⟩
      · rw [if_pos rfl] at HCL
        have HBT := Lib.hid (HBT0.out rfl)
        clear HBT0
        by_cases z1 : d = 0
        · have t1 : (d == 0) = true := by simp [z1]
          have HV : Hid (freeB (L.map fun i : Nat => (i : Int)) X = V) := Lib.hid (by rw [← HVV.out]; simp [z1])
          clear HVV HDI z1
          go_wp2_with fail
          refine (HCL.out _).mono ?_
          rintro e w1 ⟨rfl, hb1⟩
          have c0 := (hb1.cell (p := ⟨w.heap.size, 0, none⟩) (World.block_lt_of_cell? _ _ m0)).trans m0
          have c1 := (hb1.cell (p := ⟨w.heap.size, 1, none⟩) (World.block_lt_of_cell? _ _ m1)).trans m1
          have hB4 := chain (hB3 _) hb1
          clear hb1 m0 m1 hB3 g0 g1 h0 h1
          go_wp2_with fail
          refine (HBT.out _).mono ?_
          rintro e w5 ⟨A5, c5, rfl, hA5, hb5⟩
          go_wp2_with fail
          rw [show L.length = (L.map fun i : Nat => (i : Int)).length by simp]
          refine (free_any _ A5 c5 X hX _ hL8.out HLT.out hA5).mono ?_
          rintro e w6 ⟨rfl, rfl⟩
          go_wp2
          go_ret
          exact ⟨ret_bool HV.out, chain hB4 hb5⟩
        · have t1 : (d == 0) = false := beq_eq_false_iff_ne.2 z1
          by_cases z2 : q = 0
          · have t2 : (q == 0) = true := by simp [z2]
            have HV : Hid (freeB (L.map fun i : Nat => (i : Int)) X = V) := Lib.hid (by rw [← HVV.out]; simp [z2])
            clear HVV HDI z1 z2
            go_wp2_with fail
            refine (HCL.out _).mono ?_
            rintro e w1 ⟨rfl, hb1⟩
            have c0 := (hb1.cell (p := ⟨w.heap.size, 0, none⟩) (World.block_lt_of_cell? _ _ m0)).trans m0
            have c1 := (hb1.cell (p := ⟨w.heap.size, 1, none⟩) (World.block_lt_of_cell? _ _ m1)).trans m1
            have hB4 := chain (hB3 _) hb1
            clear hb1 m0 m1 hB3 g0 g1 h0 h1
            go_wp2_with fail
            refine (HBT.out _).mono ?_
            rintro e w5 ⟨A5, c5, rfl, hA5, hb5⟩
            go_wp2_with fail
            rw [show L.length = (L.map fun i : Nat => (i : Int)).length by simp]
            refine (free_any _ A5 c5 X hX _ hL8.out HLT.out hA5).mono ?_
            rintro e w6 ⟨rfl, rfl⟩
            go_wp2
            go_ret
            exact ⟨ret_bool HV.out, chain hB4 hb5⟩
          · have t2 : (q == 0) = false := beq_eq_false_iff_ne.2 z2
            have HV : Hid (false = V) := Lib.hid (by rw [← HVV.out]; simp [z1, z2])
            clear HVV HDI z1 z2
            go_wp2_with fail
            refine (HCL.out _).mono ?_
            rintro e w1 ⟨rfl, hb1⟩
            have c0 := (hb1.cell (p := ⟨w.heap.size, 0, none⟩) (World.block_lt_of_cell? _ _ m0)).trans m0
            have c1 := (hb1.cell (p := ⟨w.heap.size, 1, none⟩) (World.block_lt_of_cell? _ _ m1)).trans m1
            have hB4 := chain (hB3 _) hb1
            clear hb1 m0 m1 hB3 g0 g1 h0 h1
            go_wp2
            all_goals
              go_ret
              exact ⟨ret_bool HV.out, hB4⟩
    · cases ln
      · have HV : Hid (false = V) := Lib.hid (by rw [← HVV.out]; simp)
        rw [if_neg (by simp)] at HCL
        clear HVV HDI
        go_wp2_with fail
        refine (HCL.out _).mono ?_
        rintro e w1 ⟨rfl, hb1⟩
        have c0 := (hb1.cell (p := ⟨w.heap.size, 0, none⟩) (World.block_lt_of_cell? _ _ m0)).trans m0
        have c1 := (hb1.cell (p := ⟨w.heap.size, 1, none⟩) (World.block_lt_of_cell? _ _ m1)).trans m1
        have hB4 := chain (hB3 _) hb1
        clear hb1 m0 m1 hB3 g0 g1 h0 h1
        go_wp2
        all_goals
          go_ret
          exact ⟨ret_bool HV.out, hB4⟩
      · rw [if_pos rfl] at HCL
        have HBT := Lib.hid (HBT0.out rfl)
        clear HBT0
        have HV : Hid (freeB (L.map fun i : Nat => (i : Int)) X = V) := Lib.hid (by rw [← HVV.out]; simp)
        clear HVV HDI
        go_wp2_with fail
        refine (HCL.out _).mono ?_
        rintro e w1 ⟨rfl, hb1⟩
        have c0 := (hb1.cell (p := ⟨w.heap.size, 0, none⟩) (World.block_lt_of_cell? _ _ m0)).trans m0
        have c1 := (hb1.cell (p := ⟨w.heap.size, 1, none⟩) (World.block_lt_of_cell? _ _ m1)).trans m1
        have hB4 := chain (hB3 _) hb1
        clear hb1 m0 m1 hB3 g0 g1 h0 h1
        by_cases z1 : d = 0
        · have t1 : (d == 0) = true := by simp [z1]
          clear z1
          go_wp2_with fail
          refine (HBT.out _).mono ?_
          rintro e w5 ⟨A5, c5, rfl, hA5, hb5⟩
          go_wp2_with fail
          rw [show L.length = (L.map fun i : Nat => (i : Int)).length by simp]
          refine (free_any _ A5 c5 X hX _ hL8.out HLT.out hA5).mono ?_
          rintro e w6 ⟨rfl, rfl⟩
          go_wp2
          go_ret
          exact ⟨ret_bool HV.out, chain hB4 hb5⟩
        · have t1 : (d == 0) = false := beq_eq_false_iff_ne.2 z1
          clear z1
          by_cases z2 : q = 0
          · have t2 : (q == 0) = true := by simp [z2]
            clear z2
            go_wp2_with fail
            refine (HBT.out _).mono ?_
            rintro e w5 ⟨A5, c5, rfl, hA5, hb5⟩
            go_wp2_with fail
            rw [show L.length = (L.map fun i : Nat => (i : Int)).length by simp]
            refine (free_any _ A5 c5 X hX _ hL8.out HLT.out hA5).mono ?_
            rintro e w6 ⟨rfl, rfl⟩
            go_wp2
            go_ret
            exact ⟨ret_bool HV.out, chain hB4 hb5⟩
          · have t2 : (q == 0) = false := beq_eq_false_iff_ne.2 z2
            clear z2
            go_wp2_with fail
            refine (HBT.out _).mono ?_
            rintro e w5 ⟨A5, c5, rfl, hA5, hb5⟩
            go_wp2_with fail
            rw [show L.length = (L.map fun i : Nat => (i : Int)).length by simp]
            refine (free_any _ A5 c5 X hX _ hL8.out HLT.out hA5).mono ?_
            rintro e w6 ⟨rfl, rfl⟩
            go_wp2
            go_ret
            exact ⟨ret_bool HV.out, chain hB4 hb5⟩
    · have HV : Hid ((ds == 1) = V) := Lib.hid (by rw [← HVV.out]; simp)
      clear HVV HCL
      go_wp2_with fail
      refine (HDI.out _).mono ?_
      rintro e w1 ⟨rfl, hb1⟩
      go_wp2
      go_ret
      exact ⟨ret_bool HV.out, chain (hB3 _) hb1⟩

end Go.Proofs.YtjnbjegopddhgaaDoor
