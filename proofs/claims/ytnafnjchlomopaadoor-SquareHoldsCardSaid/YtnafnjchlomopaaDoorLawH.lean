/- The law of consequences: it answers true whatever comes in, and changes nothing that lay before; under the table of package math/bits as its text lays it. -/
import Derived.Test.YtnafnjchlomopaaDoorSqAA
import Derived.Test.YtnafnjchlomopaaDoorLawL
namespace Go.Proofs.YtnafnjchlomopaaDoor
open Go.RowKit Go.Shelf
attribute [local go_sem] Oper.semAt_some

theorem distance_as (F R a b x : Int) (ha : vat F R a) (hb : vat F R b) (h : dist F a b = x) (w : World) :
    Calls Tryd.prog 28 #[.agg #[.int .i64 F, .int .i64 R], .int .i64 a, .int .i64 b] w fun e w' => e = .returned (.tuple #[.int .i64 x, .int .i64 0]) ∧ Below w.heap.size w w' := by
  subst h
  exact distance_yes F R a b ha hb w
theorem shift_as (F R df dr : Int) (X Y : Nat) (hv : vsz F R) (hX : X < 2 ^ (F * R).toNat) (h : ofL (shl F R df dr (listOf X)) = Y) (w : World) (hT : Tab w) :
    Calls Tryd.prog 36 #[.agg #[.int .i64 F, .int .i64 R], .int .u64 X, .int .i64 df, .int .i64 dr] w fun e w' => e = .returned (.tuple #[.int .u64 (Y : Int), .int .i64 0]) ∧ Below w.heap.size w w' := by
  subst h
  exact shift_all F R df dr X hv hX w hT
/-- What the set that is left over says of each of its squares. -/
theorem left_off {F R df dr : Int} (hv : vsz F R) {X Y Z : Nat} (hX : X < 2 ^ (F * R).toNat) (hY : ofL (shl F R df dr (listOf X)) = Y) (hZ : ofL (shl F R (-df) (-dr) (listOf Y)) = Z) {k : Nat} (hk : k ∈ listOf (X &&& (18446744073709551615 - Z))) :
    vat F R (k : Int) ∧ ¬ onb F R ((k : Int) % F + df) ((k : Int) / F + dr) := by
  subst hY hZ
  have hZ64 := shl_64 (F := F) (R := R) (df := -df) (dr := -dr) hv (l := listOf (ofL (shl F R df dr (listOf X))))
  have hb := (mem_listOf.1 hk).2
  rw [andNot_bit _ _ _ (x64 hv hX) hZ64] at hb
  simp at hb
  have hkX : k ∈ listOf X := mem_listOf.2 ⟨(mem_listOf.1 hk).1, hb.1⟩
  refine ⟨⟨hv, by omega, by have := in_board hX hkX; omega⟩, fun h => ?_⟩
  have := back_on hv hX hkX h
  rw [hb.2] at this
  cases this

set_option maxRecDepth 100000 in
set_option maxHeartbeats 4000000 in
theorem holds_in (F R a b c df dr x y z : Int) (X Y Z : Nat) (ha : vat F R a) (hbv : vat F R b) (hc : vat F R c) (hX : X < 2 ^ (F * R).toNat) (d0 : -8 ≤ df) (d1 : df ≤ 8) (e0 : -8 ≤ dr) (e1 : dr ≤ 8)
    (hx : dist F a b = x) (hy : dist F b c = y) (hz : dist F a c = z) (hYd : ofL (shl F R df dr (listOf X)) = Y) (hZd : ofL (shl F R (-df) (-dr) (listOf Y)) = Z) (w : World) (hT : Tab w) :
    CallsIn Fence.wide 6 Tryd.prog 9 #[.agg #[.int .i64 F, .int .i64 R], .int .i64 a, .int .i64 b, .int .i64 c, .int .u64 X, .int .i64 df, .int .i64 dr] w fun e w' => e = .returned (.bool true) ∧ Below w.heap.size w w' := by
  have hv : vsz F R := ha.1
  obtain ⟨m0, m1⟩ := vsz_mul hv
  have hX64 := x64 hv hX
  have hf8 := hv.2.1
  have hr8 := hv.2.2.2
  have hf3 := hv.1
  have hr3 := hv.2.2.1
  have hba : dist F b a = x := by rw [dist_symm]; exact hx
  have bx := dist_bd ha hbv
  have bY := dist_bd hbv hc
  have bz := dist_bd ha hc
  have tri := dist_tri F a b c
  have hzero := dist_zero ha hbv
  rw [hx] at bx tri hzero
  rw [hy] at bY tri
  rw [hz] at bz tri
  have hxb : (x != x) = false := by simp
  have hab : ((x == 0) != (a == b)) = false := by rw [hzero]; simp
  have hab2 : (!(x == 0) == (a == b)) = false := by rw [hzero]; simp
  have hgood : ¬ (x + y < z ∨ (!(x == 0) == (a == b)) = true) := by rw [hab2]; simp; omega
  have haa : (a != a) = false := by simp
  have hYb : Y < 2 ^ (F * R).toNat := by rw [← hYd]; exact shl_board hv _
  have hZ64 : Z < 18446744073709551616 := by rw [← hZd]; exact shl_64 hv
  have hnone : (bits .andNot .u64 (Z : Int) (X : Int) != 0) = false := by
    have := back_none (df := df) (dr := dr) hv hX
    rw [hYd, hZd] at this
    exact this
  obtain ⟨U, hUe⟩ : ∃ U, U = X &&& (18446744073709551615 - Z) := ⟨_, rfl⟩
  have hU : bits .andNot .u64 (X : Int) (Z : Int) = (U : Int) := by rw [hUe]; exact u64_andNot_nat _ _ hX64 hZ64
  have hU64 : U < 18446744073709551616 := by rw [hUe]; exact Nat.lt_of_le_of_lt Nat.and_le_left hX64
  have HK : Hid (∀ k ∈ listOf U, vat F R (k : Int) ∧ ¬ onb F R ((k : Int) % F + df) ((k : Int) / F + dr)) := Lib.hid (by rw [hUe]; exact fun k hk => left_off hv hX hYd hZd hk)
  clear hUe
  have HX := Lib.hid hx
  have HBA := Lib.hid hba
  have HY := Lib.hid hy
  have HZ := Lib.hid hz
  have HYd := Lib.hid hYd
  have HZd := Lib.hid hZd
  clear hx hy hz hba hYd hZd hzero
  have hl := ha
  obtain ⟨_, a0, a1⟩ := id ha
  refine callsIn_of_wp_marks Tryd.func9 rfl trivial ?_ rfl
  simp only [Tryd.ntmps9, List.size_toArray, List.length_cons, List.length_nil, Nat.reduceAdd, Nat.reduceSub, Array.replicate_succ, Array.replicate_zero, List.push_toArray, List.append_toArray, List.nil_append, List.cons_append]
  have W0 : Below w.heap.size w ((((w.alloc (.cells #[.int .i64 F, .int .i64 R] 23)).alloc (.cells #[.int .i64 df] 3)).alloc (.cells #[.int .i64 dr] 3)).alloc (.cells #[.bool false] 4)) := by
    go_grown
  have k0 : ((((w.alloc (.cells #[.int .i64 F, .int .i64 R] 23)).alloc (.cells #[.int .i64 df] 3)).alloc (.cells #[.int .i64 dr] 3)).alloc (.cells #[.bool false] 4)).cell? ⟨w.heap.size, 0, none⟩ = some (.int .i64 F) := by simp [go_sem]
  have k1 : ((((w.alloc (.cells #[.int .i64 F, .int .i64 R] 23)).alloc (.cells #[.int .i64 df] 3)).alloc (.cells #[.int .i64 dr] 3)).alloc (.cells #[.bool false] 4)).cell? ⟨w.heap.size, 1, none⟩ = some (.int .i64 R) := by simp [go_sem]
  have k2 : ((((w.alloc (.cells #[.int .i64 F, .int .i64 R] 23)).alloc (.cells #[.int .i64 df] 3)).alloc (.cells #[.int .i64 dr] 3)).alloc (.cells #[.bool false] 4)).cell? ⟨w.heap.size + 1, 0, none⟩ = some (.int .i64 df) := by simp [go_sem]
  have k3 : ((((w.alloc (.cells #[.int .i64 F, .int .i64 R] 23)).alloc (.cells #[.int .i64 df] 3)).alloc (.cells #[.int .i64 dr] 3)).alloc (.cells #[.bool false] 4)).cell? ⟨w.heap.size + 1 + 1, 0, none⟩ = some (.int .i64 dr) := by simp [go_sem]
  have k4 : ((((w.alloc (.cells #[.int .i64 F, .int .i64 R] 23)).alloc (.cells #[.int .i64 df] 3)).alloc (.cells #[.int .i64 dr] 3)).alloc (.cells #[.bool false] 4)).cell? ⟨w.heap.size + 1 + 1 + 1, 0, none⟩ = some (.bool false) := by simp [go_sem]
  have f4 : ((((w.alloc (.cells #[.int .i64 F, .int .i64 R] 23)).alloc (.cells #[.int .i64 df] 3)).alloc (.cells #[.int .i64 dr] 3)).alloc (.cells #[.bool false] 4)).frozen? ⟨w.heap.size + 1 + 1 + 1, 0, none⟩ = false := by simp [go_sem]
  gi_wp2_with fail
  refine ⟨trivial, callsIn_wide.2 ((refValid_yes F R a ha _).mono ?_)⟩
  rintro e w0 ⟨rfl, hb⟩
  replace W0 := chain W0 hb
  replace f4 := (hb.frozen (p := ⟨w.heap.size + 1 + 1 + 1, 0, none⟩) (World.block_lt_of_cell? _ _ k4)).trans f4
  replace k0 := (hb.cell (World.block_lt_of_cell? _ _ k0)).trans k0
  replace k1 := (hb.cell (World.block_lt_of_cell? _ _ k1)).trans k1
  replace k2 := (hb.cell (World.block_lt_of_cell? _ _ k2)).trans k2
  replace k3 := (hb.cell (World.block_lt_of_cell? _ _ k3)).trans k3
  replace k4 := (hb.cell (World.block_lt_of_cell? _ _ k4)).trans k4
  clear hb
  gi_wp2_with fail
  refine ⟨trivial, callsIn_wide.2 ((refValid_yes F R b hbv _).mono ?_)⟩
  rintro e w1 ⟨rfl, hb⟩
  replace W0 := chain W0 hb
  replace f4 := (hb.frozen (p := ⟨w.heap.size + 1 + 1 + 1, 0, none⟩) (World.block_lt_of_cell? _ _ k4)).trans f4
  replace k0 := (hb.cell (World.block_lt_of_cell? _ _ k0)).trans k0
  replace k1 := (hb.cell (World.block_lt_of_cell? _ _ k1)).trans k1
  replace k2 := (hb.cell (World.block_lt_of_cell? _ _ k2)).trans k2
  replace k3 := (hb.cell (World.block_lt_of_cell? _ _ k3)).trans k3
  replace k4 := (hb.cell (World.block_lt_of_cell? _ _ k4)).trans k4
  clear hb
  gi_wp2_with fail
  refine ⟨trivial, callsIn_wide.2 ((refValid_yes F R c hc _).mono ?_)⟩
  rintro e w2 ⟨rfl, hb⟩
  replace W0 := chain W0 hb
  replace f4 := (hb.frozen (p := ⟨w.heap.size + 1 + 1 + 1, 0, none⟩) (World.block_lt_of_cell? _ _ k4)).trans f4
  replace k0 := (hb.cell (World.block_lt_of_cell? _ _ k0)).trans k0
  replace k1 := (hb.cell (World.block_lt_of_cell? _ _ k1)).trans k1
  replace k2 := (hb.cell (World.block_lt_of_cell? _ _ k2)).trans k2
  replace k3 := (hb.cell (World.block_lt_of_cell? _ _ k3)).trans k3
  replace k4 := (hb.cell (World.block_lt_of_cell? _ _ k4)).trans k4
  clear hb
  gi_wp2_with fail
  refine ⟨trivial, callsIn_wide.2 ((refOn_any F R X hX64 _ true ⟨fun _ => ⟨hv, hX⟩, fun _ => rfl⟩).mono ?_)⟩
  rintro e w3 ⟨rfl, hb⟩
  replace W0 := chain W0 hb
  replace f4 := (hb.frozen (p := ⟨w.heap.size + 1 + 1 + 1, 0, none⟩) (World.block_lt_of_cell? _ _ k4)).trans f4
  replace k0 := (hb.cell (World.block_lt_of_cell? _ _ k0)).trans k0
  replace k1 := (hb.cell (World.block_lt_of_cell? _ _ k1)).trans k1
  replace k2 := (hb.cell (World.block_lt_of_cell? _ _ k2)).trans k2
  replace k3 := (hb.cell (World.block_lt_of_cell? _ _ k3)).trans k3
  replace k4 := (hb.cell (World.block_lt_of_cell? _ _ k4)).trans k4
  clear hb
  gi_wp2_with fail
  refine ⟨trivial, callsIn_wide.2 ((placeX_yes F R a ha _).mono ?_)⟩
  rintro e w4 ⟨rfl, hb⟩
  replace W0 := chain W0 hb
  replace f4 := (hb.frozen (p := ⟨w.heap.size + 1 + 1 + 1, 0, none⟩) (World.block_lt_of_cell? _ _ k4)).trans f4
  replace k0 := (hb.cell (World.block_lt_of_cell? _ _ k0)).trans k0
  replace k1 := (hb.cell (World.block_lt_of_cell? _ _ k1)).trans k1
  replace k2 := (hb.cell (World.block_lt_of_cell? _ _ k2)).trans k2
  replace k3 := (hb.cell (World.block_lt_of_cell? _ _ k3)).trans k3
  replace k4 := (hb.cell (World.block_lt_of_cell? _ _ k4)).trans k4
  clear hb
  gi_wp2_with fail
  refine ⟨trivial, callsIn_wide.2 ((at_place F R a ha _).mono ?_)⟩
  rintro e w5 ⟨rfl, hb⟩
  replace W0 := chain W0 hb
  replace f4 := (hb.frozen (p := ⟨w.heap.size + 1 + 1 + 1, 0, none⟩) (World.block_lt_of_cell? _ _ k4)).trans f4
  replace k0 := (hb.cell (World.block_lt_of_cell? _ _ k0)).trans k0
  replace k1 := (hb.cell (World.block_lt_of_cell? _ _ k1)).trans k1
  replace k2 := (hb.cell (World.block_lt_of_cell? _ _ k2)).trans k2
  replace k3 := (hb.cell (World.block_lt_of_cell? _ _ k3)).trans k3
  replace k4 := (hb.cell (World.block_lt_of_cell? _ _ k4)).trans k4
  clear hb
  gi_wp2_with fail
  refine ⟨trivial, callsIn_wide.2 ((name_yes F R a ha _).mono ?_)⟩
  rintro e w6 ⟨rfl, hb⟩
  replace W0 := chain W0 hb
  replace f4 := (hb.frozen (p := ⟨w.heap.size + 1 + 1 + 1, 0, none⟩) (World.block_lt_of_cell? _ _ k4)).trans f4
  replace k0 := (hb.cell (World.block_lt_of_cell? _ _ k0)).trans k0
  replace k1 := (hb.cell (World.block_lt_of_cell? _ _ k1)).trans k1
  replace k2 := (hb.cell (World.block_lt_of_cell? _ _ k2)).trans k2
  replace k3 := (hb.cell (World.block_lt_of_cell? _ _ k3)).trans k3
  replace k4 := (hb.cell (World.block_lt_of_cell? _ _ k4)).trans k4
  clear hb
  gi_wp2_with fail
  refine ⟨trivial, callsIn_wide.2 ((parse_name F R a ha _).mono ?_)⟩
  rintro e w7 ⟨rfl, hb⟩
  replace W0 := chain W0 hb
  replace f4 := (hb.frozen (p := ⟨w.heap.size + 1 + 1 + 1, 0, none⟩) (World.block_lt_of_cell? _ _ k4)).trans f4
  replace k0 := (hb.cell (World.block_lt_of_cell? _ _ k0)).trans k0
  replace k1 := (hb.cell (World.block_lt_of_cell? _ _ k1)).trans k1
  replace k2 := (hb.cell (World.block_lt_of_cell? _ _ k2)).trans k2
  replace k3 := (hb.cell (World.block_lt_of_cell? _ _ k3)).trans k3
  replace k4 := (hb.cell (World.block_lt_of_cell? _ _ k4)).trans k4
  clear hb
  gi_wp2_with fail
  refine ⟨trivial, callsIn_wide.2 ((distance_as F R a b x ha hbv HX.out _).mono ?_)⟩
  rintro e w8 ⟨rfl, hb⟩
  replace W0 := chain W0 hb
  replace f4 := (hb.frozen (p := ⟨w.heap.size + 1 + 1 + 1, 0, none⟩) (World.block_lt_of_cell? _ _ k4)).trans f4
  replace k0 := (hb.cell (World.block_lt_of_cell? _ _ k0)).trans k0
  replace k1 := (hb.cell (World.block_lt_of_cell? _ _ k1)).trans k1
  replace k2 := (hb.cell (World.block_lt_of_cell? _ _ k2)).trans k2
  replace k3 := (hb.cell (World.block_lt_of_cell? _ _ k3)).trans k3
  replace k4 := (hb.cell (World.block_lt_of_cell? _ _ k4)).trans k4
  clear hb
  gi_wp2_with fail
  refine ⟨trivial, callsIn_wide.2 ((distance_as F R b a x hbv ha HBA.out _).mono ?_)⟩
  rintro e w9 ⟨rfl, hb⟩
  replace W0 := chain W0 hb
  replace f4 := (hb.frozen (p := ⟨w.heap.size + 1 + 1 + 1, 0, none⟩) (World.block_lt_of_cell? _ _ k4)).trans f4
  replace k0 := (hb.cell (World.block_lt_of_cell? _ _ k0)).trans k0
  replace k1 := (hb.cell (World.block_lt_of_cell? _ _ k1)).trans k1
  replace k2 := (hb.cell (World.block_lt_of_cell? _ _ k2)).trans k2
  replace k3 := (hb.cell (World.block_lt_of_cell? _ _ k3)).trans k3
  replace k4 := (hb.cell (World.block_lt_of_cell? _ _ k4)).trans k4
  clear hb
  gi_wp2_with fail
  refine ⟨trivial, callsIn_wide.2 ((distance_as F R b c y hbv hc HY.out _).mono ?_)⟩
  rintro e w10 ⟨rfl, hb⟩
  replace W0 := chain W0 hb
  replace f4 := (hb.frozen (p := ⟨w.heap.size + 1 + 1 + 1, 0, none⟩) (World.block_lt_of_cell? _ _ k4)).trans f4
  replace k0 := (hb.cell (World.block_lt_of_cell? _ _ k0)).trans k0
  replace k1 := (hb.cell (World.block_lt_of_cell? _ _ k1)).trans k1
  replace k2 := (hb.cell (World.block_lt_of_cell? _ _ k2)).trans k2
  replace k3 := (hb.cell (World.block_lt_of_cell? _ _ k3)).trans k3
  replace k4 := (hb.cell (World.block_lt_of_cell? _ _ k4)).trans k4
  clear hb
  gi_wp2_with fail
  refine ⟨trivial, callsIn_wide.2 ((distance_as F R a c z ha hc HZ.out _).mono ?_)⟩
  rintro e w11 ⟨rfl, hb⟩
  replace W0 := chain W0 hb
  replace f4 := (hb.frozen (p := ⟨w.heap.size + 1 + 1 + 1, 0, none⟩) (World.block_lt_of_cell? _ _ k4)).trans f4
  replace k0 := (hb.cell (World.block_lt_of_cell? _ _ k0)).trans k0
  replace k1 := (hb.cell (World.block_lt_of_cell? _ _ k1)).trans k1
  replace k2 := (hb.cell (World.block_lt_of_cell? _ _ k2)).trans k2
  replace k3 := (hb.cell (World.block_lt_of_cell? _ _ k3)).trans k3
  replace k4 := (hb.cell (World.block_lt_of_cell? _ _ k4)).trans k4
  clear hb
  gi_wp2_with fail
  refine ⟨trivial, callsIn_wide.2 ((shift_as F R df dr X Y hv hX HYd.out _ (hT.below W0 hT.1)).mono ?_)⟩
  rintro e w12 ⟨rfl, hb⟩
  replace W0 := chain W0 hb
  replace f4 := (hb.frozen (p := ⟨w.heap.size + 1 + 1 + 1, 0, none⟩) (World.block_lt_of_cell? _ _ k4)).trans f4
  replace k0 := (hb.cell (World.block_lt_of_cell? _ _ k0)).trans k0
  replace k1 := (hb.cell (World.block_lt_of_cell? _ _ k1)).trans k1
  replace k2 := (hb.cell (World.block_lt_of_cell? _ _ k2)).trans k2
  replace k3 := (hb.cell (World.block_lt_of_cell? _ _ k3)).trans k3
  replace k4 := (hb.cell (World.block_lt_of_cell? _ _ k4)).trans k4
  clear hb
  gi_wp2_with fail
  refine ⟨trivial, callsIn_wide.2 ((shift_as F R (-df) (-dr) Y Z hv hYb HZd.out _ (hT.below W0 hT.1)).mono ?_)⟩
  rintro e w13 ⟨rfl, hb⟩
  replace W0 := chain W0 hb
  replace f4 := (hb.frozen (p := ⟨w.heap.size + 1 + 1 + 1, 0, none⟩) (World.block_lt_of_cell? _ _ k4)).trans f4
  replace k0 := (hb.cell (World.block_lt_of_cell? _ _ k0)).trans k0
  replace k1 := (hb.cell (World.block_lt_of_cell? _ _ k1)).trans k1
  replace k2 := (hb.cell (World.block_lt_of_cell? _ _ k2)).trans k2
  replace k3 := (hb.cell (World.block_lt_of_cell? _ _ k3)).trans k3
  replace k4 := (hb.cell (World.block_lt_of_cell? _ _ k4)).trans k4
  clear hb
  gi_wp2_with fail
  refine ⟨trivial, callsIn_wide.2 ((each_any U _).mono ?_)⟩
  rintro e w14 ⟨rfl, rfl⟩
  gi_wp2_with fail
  have hn1 := hT.1
  have hz13 := World.block_lt_of_cell? _ _ k4
  simp at hz13
  have hB0 : Below w.heap.size w (w13.alloc (.cells #[.int .u64 U] 28)) := W0.alloc W0.size _
  refine wpIn_rangeFunc_ownF rfl (by omega) (gf := 47) (lb := #[.pointer (some ⟨w13.heap.size, 0, none⟩)]) rfl trivial (enters_of Tryd.func47 (by kernel_rfl) rfl)
    (each_stops (6 - 1) w13.heap.size w.heap.size U (by omega) hU64 (w13.alloc (.cells #[.int .u64 U] 28)) (by simp) hn1 (by simp [go_sem]) (hT.below hB0 hn1)) belowK_t (belowK_b (by simp; omega)) (Below.refl _ _) (fun _ => rfl)
    (fun _ W => (W.cell? ⟨w.heap.size + 1 + 1 + 1, 0, none⟩ = some (.bool false) ∧ W.frozen? ⟨w.heap.size + 1 + 1 + 1, 0, none⟩ = false ∧ W.cell? ⟨w.heap.size, 0, none⟩ = some (.int .i64 F) ∧ W.cell? ⟨w.heap.size, 1, none⟩ = some (.int .i64 R) ∧ W.cell? ⟨w.heap.size + 1, 0, none⟩ = some (.int .i64 df) ∧ W.cell? ⟨w.heap.size + 1 + 1, 0, none⟩ = some (.int .i64 dr)) ∧ (w.heap.size + 1 + 1 + 1 < W.heap.size ∧ Below w.heap.size w W))
    (fun _ _ _ => False)
    (OwnFrom.and (Own.from (fun s A B row hs hg hr => ⟨cell_kept hs.1 hg hr, (frozen_kept hs.1 hg hr).trans hs.2.1, cell_kept hs.2.2.1 hg hr, cell_kept hs.2.2.2.1 hg hr, cell_kept hs.2.2.2.2.1 hg hr, cell_kept hs.2.2.2.2.2 hg hr⟩) _) (OwnFrom.and (Own.from (fun s A B row hs hg hr => Nat.lt_of_lt_of_le hs hg.size) _) (ownFrom_below (Nat.le_refl _) (by simp; omega))))
    (fun _ _ _ _ _ hs _ _ => hs)
    ⟨⟨alive _ k4, ((box1 _ _).frozen hz13).trans f4, alive _ k0, alive _ k1, alive _ k2, alive _ k3⟩, by simp; omega, hB0⟩
    (fun s => { tmps := #[Value.agg #[Value.int .i64 F, Value.int .i64 R], Value.int .i64 a, Value.int .i64 b, Value.int .i64 c, Value.int .u64 (X : Int), Value.int .i64 df, Value.int .i64 dr, Value.pointer (some ⟨w.heap.size, 0, none⟩), undef, undef, undef, undef, Value.pointer (some ⟨w.heap.size + 1, 0, none⟩), Value.pointer (some ⟨w.heap.size + 1 + 1, 0, none⟩), Value.pointer (some ⟨w.heap.size + 1 + 1 + 1, 0, none⟩), Value.int .i64 (a % F), Value.int .i64 (a / F), Value.int .i64 0, Value.int .i64 a, Value.int .i64 0, Value.string (nameB F a), Value.int .i64 0, Value.int .i64 a, Value.int .i64 0, Value.int .i64 x, Value.int .i64 x, Value.int .i64 y, Value.int .i64 z, Value.int .u64 (Y : Int), Value.int .u64 (Z : Int), Value.int .i64 (s.1 : Int), undef, undef, undef, undef, undef, Value.agg #[Value.int .i64 F, Value.int .i64 R], Value.int .i64 a, Value.bool true, Value.bool false, Value.bool false, Value.agg #[Value.int .i64 F, Value.int .i64 R], Value.int .i64 b, Value.bool true, Value.bool false, Value.bool false, Value.bool false, Value.agg #[Value.int .i64 F, Value.int .i64 R], Value.int .i64 c, Value.bool true, Value.bool false, Value.bool false, Value.bool false, Value.agg #[Value.int .i64 F, Value.int .i64 R], Value.int .u64 (X : Int), Value.bool true, Value.bool false, Value.bool false, Value.bool false, Value.int .i64 df, Value.bool (decide (df < -8)), Value.bool (decide (df < -8)), Value.bool (decide (df < -8)), Value.int .i64 df, Value.bool (decide (8 < df)), Value.bool (decide (df < -8) || decide (8 < df)), Value.bool (decide (df < -8) || decide (8 < df)), Value.int .i64 dr, Value.bool (decide (dr < -8)), Value.bool (decide (df < -8) || decide (8 < df) || decide (dr < -8)), Value.bool (decide (df < -8) || decide (8 < df) || decide (dr < -8)), Value.int .i64 dr, Value.bool (decide (8 < dr)), Value.bool (decide (df < -8) || decide (8 < df) || decide (dr < -8) || decide (8 < dr)), undef, Value.tuple #[Value.int .i64 (a % F), Value.int .i64 (a / F), Value.int .i64 0], Value.agg #[Value.int .i64 F, Value.int .i64 R], Value.int .i64 a, Value.tuple #[Value.int .i64 (a % F), Value.int .i64 (a / F), Value.int .i64 0], Value.int .i64 (a % F), Value.int .i64 (a / F), Value.int .i64 0, Value.tuple #[Value.int .i64 a, Value.int .i64 0], Value.agg #[Value.int .i64 F, Value.int .i64 R], Value.int .i64 (a % F), Value.int .i64 (a / F), Value.tuple #[Value.int .i64 a, Value.int .i64 0], Value.int .i64 a, Value.int .i64 0, Value.tuple #[Value.string (nameB F a), Value.int .i64 0], Value.agg #[Value.int .i64 F, Value.int .i64 R], Value.int .i64 a, Value.tuple #[Value.string (nameB F a), Value.int .i64 0], Value.string (nameB F a), Value.int .i64 0, Value.tuple #[Value.int .i64 a, Value.int .i64 0], Value.agg #[Value.int .i64 F, Value.int .i64 R], Value.string (nameB F a), Value.tuple #[Value.int .i64 a, Value.int .i64 0], Value.int .i64 a, Value.int .i64 0, Value.int .i64 0, Value.bool false, Value.bool false, Value.int .i64 0, Value.bool false, Value.bool false, Value.bool false, Value.int .i64 0, Value.bool false, Value.bool false, Value.bool false, Value.int .i64 0, Value.bool false, Value.bool false, Value.bool false, Value.int .i64 a, Value.int .i64 a, Value.bool false, Value.bool false, Value.bool false, Value.int .i64 a, Value.int .i64 a, Value.bool false, Value.bool false, Value.tuple #[Value.int .i64 x, Value.int .i64 0], Value.agg #[Value.int .i64 F, Value.int .i64 R], Value.int .i64 a, Value.int .i64 b, Value.tuple #[Value.int .i64 x, Value.int .i64 0], Value.int .i64 x, Value.int .i64 0, Value.tuple #[Value.int .i64 x, Value.int .i64 0], Value.agg #[Value.int .i64 F, Value.int .i64 R], Value.int .i64 b, Value.int .i64 a, Value.tuple #[Value.int .i64 x, Value.int .i64 0], Value.int .i64 x, Value.int .i64 0, Value.tuple #[Value.int .i64 y, Value.int .i64 0], Value.agg #[Value.int .i64 F, Value.int .i64 R], Value.int .i64 b, Value.int .i64 c, Value.tuple #[Value.int .i64 y, Value.int .i64 0], Value.int .i64 y, Value.int .i64 0, Value.tuple #[Value.int .i64 z, Value.int .i64 0], Value.agg #[Value.int .i64 F, Value.int .i64 R], Value.int .i64 a, Value.int .i64 c, Value.tuple #[Value.int .i64 z, Value.int .i64 0], Value.int .i64 z, Value.int .i64 0, Value.int .i64 0, Value.bool false, Value.bool false, Value.int .i64 0, Value.bool false, Value.bool false, Value.bool false, Value.int .i64 0, Value.bool false, Value.bool false, Value.bool false, Value.int .i64 0, Value.bool false, Value.bool false, Value.bool false, Value.int .i64 x, Value.int .i64 x, Value.bool false, Value.bool false, Value.bool false, Value.int .i64 z, Value.int .i64 x, Value.int .i64 y, Value.int .i64 (x + y), Value.bool (decide (x + y < z)), Value.bool (decide (x + y < z)), Value.bool (decide (x + y < z)), Value.int .i64 x, Value.bool (x == 0), Value.int .i64 a, Value.int .i64 b, Value.bool (a == b), Value.bool false, Value.bool (decide (x + y < z)), Value.tuple #[Value.int .u64 (Y : Int), Value.int .i64 0], Value.agg #[Value.int .i64 F, Value.int .i64 R], Value.int .u64 (X : Int), Value.int .i64 df, Value.int .i64 dr, Value.tuple #[Value.int .u64 (Y : Int), Value.int .i64 0], Value.int .u64 (Y : Int), Value.int .i64 0, Value.tuple #[Value.int .u64 (Z : Int), Value.int .i64 0], Value.agg #[Value.int .i64 F, Value.int .i64 R], Value.int .u64 (Y : Int), Value.int .i64 df, Value.int .i64 (-df), Value.int .i64 dr, Value.int .i64 (-dr), Value.tuple #[Value.int .u64 (Z : Int), Value.int .i64 0], Value.int .u64 (Z : Int), Value.int .i64 0, Value.int .i64 0, Value.bool false, Value.bool false, Value.int .i64 0, Value.bool false, Value.bool false, Value.bool false, Value.int .u64 (Z : Int), Value.int .u64 (X : Int), Value.int .u64 (bits .andNot .u64 (Z : Int) (X : Int)), Value.bool false, Value.bool false, Value.int .u64 (X : Int), Value.int .u64 (Z : Int), Value.int .u64 (U : Int), Value.func (Fn.func 47) #[] #[Value.pointer (some ⟨w13.heap.size, 0, none⟩)], Value.int .i64 (s.1 : Int), undef, undef, undef, undef, undef, undef, undef, undef, undef, undef, undef, undef, undef, undef, undef, undef, undef, undef, undef, undef, undef, undef, undef, undef, undef], defers := [] }) ?assign ?body ?done ?stop
  case assign =>
    intro l s W K hK
    gi_wp2
    exact hK
  case body =>
    rintro l pre s W ⟨⟨hS, hSf, hF, hR, hdf, hdr⟩, hsz, hB⟩ hlen
    obtain ⟨hvat, hoff⟩ := HK.out s.1 s.2
    obtain ⟨p0, p1, p2, p3⟩ := place_bd hv hvat.2.1 hvat.2.2
    gi_wp2_with fail
    refine ⟨trivial, CallsIn.inRound l (callsIn_wide.2 ((placeX_yes F R s.1 hvat _).mono ?_))⟩
    rintro e w2 ⟨rfl, hb2⟩
    have c0 := (hb2.cell (p := ⟨w.heap.size, 0, none⟩) (by simp; omega)).trans hF
    have c1 := (hb2.cell (p := ⟨w.heap.size, 1, none⟩) (by simp; omega)).trans hR
    have c2 := (hb2.cell (p := ⟨w.heap.size + 1, 0, none⟩) (by simp; omega)).trans hdf
    have c3 := (hb2.cell (p := ⟨w.heap.size + 1 + 1, 0, none⟩) (by simp; omega)).trans hdr
    gi_wp2_with fail
    refine ⟨trivial, CallsIn.inRound l (callsIn_wide.2 ((at_off F R _ _ hv hoff _).mono ?_))⟩
    rintro e w3 ⟨rfl, hb3⟩
    have hbb : Below W.heap.size W w3 := chain hb2 hb3
    clear HX HBA HY HZ HYd HZd
    gi_wp2
    have hW := hB.size
    exact ⟨keeps_below hbb, hbb.mono hW, ⟨(hbb.cell (p := ⟨w.heap.size + 1 + 1 + 1, 0, none⟩) hsz).trans hS, (hbb.frozen (p := ⟨w.heap.size + 1 + 1 + 1, 0, none⟩) hsz).trans hSf, (hbb.cell (p := ⟨w.heap.size, 0, none⟩) (by simp; omega)).trans hF, (hbb.cell (p := ⟨w.heap.size, 1, none⟩) (by simp; omega)).trans hR, (hbb.cell (p := ⟨w.heap.size + 1, 0, none⟩) (by simp; omega)).trans hdf, (hbb.cell (p := ⟨w.heap.size + 1 + 1, 0, none⟩) (by simp; omega)).trans hdr⟩, Nat.lt_of_lt_of_le hsz hbb.size, hB.trans (hbb.mono hW)⟩
  case done =>
    rintro D ys W hD hys ⟨⟨hS, hSf, _⟩, hsz, hB⟩ hK
    clear HX HBA HY HZ HYd HZd HK k0 k1 k2 k3 k4 f4 hab hab2 hgood hxb haa hnone tri bx bY bz hU
    gi_wp2_with fail
    refine ⟨trivial, callsIn_wide.2 ((known_any _ (hT.below hB hn1)).mono ?_)⟩
    rintro e w15 ⟨rfl, hb⟩
    have k6 := (hb.cell (p := ⟨w.heap.size + 1 + 1 + 1, 0, none⟩) hsz).trans hS
    have f6 := (hb.frozen (p := ⟨w.heap.size + 1 + 1 + 1, 0, none⟩) hsz).trans hSf
    have hK2 : w15.heap[D]? = some (.deferred (some [])) := (hb.block _ (Array.getElem?_eq_some_iff.1 hK).1).trans hK
    have hB15 : Below w.heap.size w w15 := hB.trans (hb.mono (by omega))
    clear hS hSf hK
    gi_wp2
    have hD2 : w13.heap.size + 1 ≤ D := by simpa using hD
    have hK3 : (w15.setCell ⟨w.heap.size + 1 + 1 + 1, 0, none⟩ (.bool true)).heap[D]? = some (.deferred (some [])) := (Below.heap_setCell w15 ⟨w.heap.size + 1 + 1 + 1, 0, none⟩ (.bool true) D (by simp; omega)).trans hK2
    have hcv : ((w15.setCell ⟨w.heap.size + 1 + 1 + 1, 0, none⟩ (.bool true)).putObj D (.deferred none)).cell? ⟨w.heap.size + 1 + 1 + 1, 0, none⟩ = some (.bool true) :=
      ((belowK_b (n₀ := w13.heap.size) (w := w13.alloc (.cells #[.int .u64 U] 28)) (by simp) _ D _ _ (by simpa using hD) hK3 rfl rfl).cell (p := ⟨w.heap.size + 1 + 1 + 1, 0, none⟩) hz13).trans (World.cell?_setCell_same w15 ⟨w.heap.size + 1 + 1 + 1, 0, none⟩ _ k6)
    have hBz : Below w.heap.size w ((w15.setCell ⟨w.heap.size + 1 + 1 + 1, 0, none⟩ (.bool true)).putObj D (.deferred none)) :=
      (hB15.setCell (p := ⟨w.heap.size + 1 + 1 + 1, 0, none⟩) (by simp; omega) _).trans (belowK_b (n₀ := w.heap.size) (w := w13.alloc (.cells #[.int .u64 U] 28)) (by simp; omega) _ D _ _ (by simpa using hD) hK3 rfl rfl)
    clear k6 f6 hK2 hB15
    refine ⟨by simp, .inl ⟨_, _, rfl, run_takeDeferred hK3, ?_⟩⟩
    refine ⟨.bool true, ?_, rfl, hBz⟩
    have hres : Tryd.f9.results = #[.cell 14 4] := by kernel_rfl
    simp only [results, hres]
    go_simp
  case stop =>
    rintro D c pre W _ _ h _
    exact h.elim

set_option maxRecDepth 100000 in
set_option maxHeartbeats 4000000 in
theorem holds_a (F R a b c df dr : Int) (X : Nat) (ha : ¬ vat F R a) (w : World) (hT : Tab w) :
    CallsIn Fence.wide 6 Tryd.prog 9 #[.agg #[.int .i64 F, .int .i64 R], .int .i64 a, .int .i64 b, .int .i64 c, .int .u64 X, .int .i64 df, .int .i64 dr] w fun e w' => e = .returned (.bool true) ∧ Below w.heap.size w w' := by
  refine callsIn_of_wp_marks Tryd.func9 rfl trivial ?_ rfl
  simp only [Tryd.ntmps9, List.size_toArray, List.length_cons, List.length_nil, Nat.reduceAdd, Nat.reduceSub, Array.replicate_succ, Array.replicate_zero, List.push_toArray, List.append_toArray, List.nil_append, List.cons_append]
  have W0 : Below w.heap.size w ((((w.alloc (.cells #[.int .i64 F, .int .i64 R] 23)).alloc (.cells #[.int .i64 df] 3)).alloc (.cells #[.int .i64 dr] 3)).alloc (.cells #[.bool false] 4)) := by
    go_grown
  have k0 : ((((w.alloc (.cells #[.int .i64 F, .int .i64 R] 23)).alloc (.cells #[.int .i64 df] 3)).alloc (.cells #[.int .i64 dr] 3)).alloc (.cells #[.bool false] 4)).cell? ⟨w.heap.size, 0, none⟩ = some (.int .i64 F) := by simp [go_sem]
  have k1 : ((((w.alloc (.cells #[.int .i64 F, .int .i64 R] 23)).alloc (.cells #[.int .i64 df] 3)).alloc (.cells #[.int .i64 dr] 3)).alloc (.cells #[.bool false] 4)).cell? ⟨w.heap.size, 1, none⟩ = some (.int .i64 R) := by simp [go_sem]
  have k2 : ((((w.alloc (.cells #[.int .i64 F, .int .i64 R] 23)).alloc (.cells #[.int .i64 df] 3)).alloc (.cells #[.int .i64 dr] 3)).alloc (.cells #[.bool false] 4)).cell? ⟨w.heap.size + 1, 0, none⟩ = some (.int .i64 df) := by simp [go_sem]
  have k3 : ((((w.alloc (.cells #[.int .i64 F, .int .i64 R] 23)).alloc (.cells #[.int .i64 df] 3)).alloc (.cells #[.int .i64 dr] 3)).alloc (.cells #[.bool false] 4)).cell? ⟨w.heap.size + 1 + 1, 0, none⟩ = some (.int .i64 dr) := by simp [go_sem]
  have k4 : ((((w.alloc (.cells #[.int .i64 F, .int .i64 R] 23)).alloc (.cells #[.int .i64 df] 3)).alloc (.cells #[.int .i64 dr] 3)).alloc (.cells #[.bool false] 4)).cell? ⟨w.heap.size + 1 + 1 + 1, 0, none⟩ = some (.bool false) := by simp [go_sem]
  have f4 : ((((w.alloc (.cells #[.int .i64 F, .int .i64 R] 23)).alloc (.cells #[.int .i64 df] 3)).alloc (.cells #[.int .i64 dr] 3)).alloc (.cells #[.bool false] 4)).frozen? ⟨w.heap.size + 1 + 1 + 1, 0, none⟩ = false := by simp [go_sem]
  gi_wp2_with fail
  refine ⟨trivial, callsIn_wide.2 ((refValid_no F R a ha _).mono ?_)⟩
  rintro e w0 ⟨rfl, hb⟩
  replace W0 := chain W0 hb
  replace f4 := (hb.frozen (p := ⟨w.heap.size + 1 + 1 + 1, 0, none⟩) (World.block_lt_of_cell? _ _ k4)).trans f4
  replace k0 := (hb.cell (World.block_lt_of_cell? _ _ k0)).trans k0
  replace k1 := (hb.cell (World.block_lt_of_cell? _ _ k1)).trans k1
  replace k2 := (hb.cell (World.block_lt_of_cell? _ _ k2)).trans k2
  replace k3 := (hb.cell (World.block_lt_of_cell? _ _ k3)).trans k3
  replace k4 := (hb.cell (World.block_lt_of_cell? _ _ k4)).trans k4
  clear hb
  gi_wp2_with fail
  refine ⟨trivial, ?_⟩
  gi_wp2_with fail
  refine ⟨trivial, ?_⟩
  gi_wp2_with fail
  refine ⟨trivial, ?_⟩
  gi_wp2_with fail
  refine ⟨trivial, callsIn_wide.2 ((known_any _ (hT.below W0 hT.1)).mono ?_)⟩
  rintro e w4 ⟨rfl, hb⟩
  replace W0 := chain W0 hb
  replace f4 := (hb.frozen (p := ⟨w.heap.size + 1 + 1 + 1, 0, none⟩) (World.block_lt_of_cell? _ _ k4)).trans f4
  replace k0 := (hb.cell (World.block_lt_of_cell? _ _ k0)).trans k0
  replace k1 := (hb.cell (World.block_lt_of_cell? _ _ k1)).trans k1
  replace k2 := (hb.cell (World.block_lt_of_cell? _ _ k2)).trans k2
  replace k3 := (hb.cell (World.block_lt_of_cell? _ _ k3)).trans k3
  replace k4 := (hb.cell (World.block_lt_of_cell? _ _ k4)).trans k4
  clear hb
  gi_wp2
  have hr := World.cell?_setCell_same _ ⟨w.heap.size + 1 + 1 + 1, 0, none⟩ (.bool true) k4
  have hBz := W0.setCell (p := ⟨w.heap.size + 1 + 1 + 1, 0, none⟩) (by simp; omega) (.bool true)
  clear k0 k1 k2 k3 k4 f4 W0
  refine ⟨.bool true, ?_, rfl, hBz⟩
  have hres : Tryd.f9.results = #[.cell 14 4] := by kernel_rfl
  simp only [results, hres]
  go_simp

set_option maxRecDepth 100000 in
set_option maxHeartbeats 4000000 in
theorem holds_b (F R a b c df dr : Int) (X : Nat) (ha : vat F R a) (hb0 : ¬ vat F R b) (w : World) (hT : Tab w) :
    CallsIn Fence.wide 6 Tryd.prog 9 #[.agg #[.int .i64 F, .int .i64 R], .int .i64 a, .int .i64 b, .int .i64 c, .int .u64 X, .int .i64 df, .int .i64 dr] w fun e w' => e = .returned (.bool true) ∧ Below w.heap.size w w' := by
  refine callsIn_of_wp_marks Tryd.func9 rfl trivial ?_ rfl
  simp only [Tryd.ntmps9, List.size_toArray, List.length_cons, List.length_nil, Nat.reduceAdd, Nat.reduceSub, Array.replicate_succ, Array.replicate_zero, List.push_toArray, List.append_toArray, List.nil_append, List.cons_append]
  have W0 : Below w.heap.size w ((((w.alloc (.cells #[.int .i64 F, .int .i64 R] 23)).alloc (.cells #[.int .i64 df] 3)).alloc (.cells #[.int .i64 dr] 3)).alloc (.cells #[.bool false] 4)) := by
    go_grown
  have k0 : ((((w.alloc (.cells #[.int .i64 F, .int .i64 R] 23)).alloc (.cells #[.int .i64 df] 3)).alloc (.cells #[.int .i64 dr] 3)).alloc (.cells #[.bool false] 4)).cell? ⟨w.heap.size, 0, none⟩ = some (.int .i64 F) := by simp [go_sem]
  have k1 : ((((w.alloc (.cells #[.int .i64 F, .int .i64 R] 23)).alloc (.cells #[.int .i64 df] 3)).alloc (.cells #[.int .i64 dr] 3)).alloc (.cells #[.bool false] 4)).cell? ⟨w.heap.size, 1, none⟩ = some (.int .i64 R) := by simp [go_sem]
  have k2 : ((((w.alloc (.cells #[.int .i64 F, .int .i64 R] 23)).alloc (.cells #[.int .i64 df] 3)).alloc (.cells #[.int .i64 dr] 3)).alloc (.cells #[.bool false] 4)).cell? ⟨w.heap.size + 1, 0, none⟩ = some (.int .i64 df) := by simp [go_sem]
  have k3 : ((((w.alloc (.cells #[.int .i64 F, .int .i64 R] 23)).alloc (.cells #[.int .i64 df] 3)).alloc (.cells #[.int .i64 dr] 3)).alloc (.cells #[.bool false] 4)).cell? ⟨w.heap.size + 1 + 1, 0, none⟩ = some (.int .i64 dr) := by simp [go_sem]
  have k4 : ((((w.alloc (.cells #[.int .i64 F, .int .i64 R] 23)).alloc (.cells #[.int .i64 df] 3)).alloc (.cells #[.int .i64 dr] 3)).alloc (.cells #[.bool false] 4)).cell? ⟨w.heap.size + 1 + 1 + 1, 0, none⟩ = some (.bool false) := by simp [go_sem]
  have f4 : ((((w.alloc (.cells #[.int .i64 F, .int .i64 R] 23)).alloc (.cells #[.int .i64 df] 3)).alloc (.cells #[.int .i64 dr] 3)).alloc (.cells #[.bool false] 4)).frozen? ⟨w.heap.size + 1 + 1 + 1, 0, none⟩ = false := by simp [go_sem]
  gi_wp2_with fail
  refine ⟨trivial, callsIn_wide.2 ((refValid_yes F R a ha _).mono ?_)⟩
  rintro e w0 ⟨rfl, hb⟩
  replace W0 := chain W0 hb
  replace f4 := (hb.frozen (p := ⟨w.heap.size + 1 + 1 + 1, 0, none⟩) (World.block_lt_of_cell? _ _ k4)).trans f4
  replace k0 := (hb.cell (World.block_lt_of_cell? _ _ k0)).trans k0
  replace k1 := (hb.cell (World.block_lt_of_cell? _ _ k1)).trans k1
  replace k2 := (hb.cell (World.block_lt_of_cell? _ _ k2)).trans k2
  replace k3 := (hb.cell (World.block_lt_of_cell? _ _ k3)).trans k3
  replace k4 := (hb.cell (World.block_lt_of_cell? _ _ k4)).trans k4
  clear hb
  gi_wp2_with fail
  refine ⟨trivial, callsIn_wide.2 ((refValid_no F R b hb0 _).mono ?_)⟩
  rintro e w1 ⟨rfl, hb⟩
  replace W0 := chain W0 hb
  replace f4 := (hb.frozen (p := ⟨w.heap.size + 1 + 1 + 1, 0, none⟩) (World.block_lt_of_cell? _ _ k4)).trans f4
  replace k0 := (hb.cell (World.block_lt_of_cell? _ _ k0)).trans k0
  replace k1 := (hb.cell (World.block_lt_of_cell? _ _ k1)).trans k1
  replace k2 := (hb.cell (World.block_lt_of_cell? _ _ k2)).trans k2
  replace k3 := (hb.cell (World.block_lt_of_cell? _ _ k3)).trans k3
  replace k4 := (hb.cell (World.block_lt_of_cell? _ _ k4)).trans k4
  clear hb
  gi_wp2_with fail
  refine ⟨trivial, ?_⟩
  gi_wp2_with fail
  refine ⟨trivial, ?_⟩
  gi_wp2_with fail
  refine ⟨trivial, callsIn_wide.2 ((known_any _ (hT.below W0 hT.1)).mono ?_)⟩
  rintro e w4 ⟨rfl, hb⟩
  replace W0 := chain W0 hb
  replace f4 := (hb.frozen (p := ⟨w.heap.size + 1 + 1 + 1, 0, none⟩) (World.block_lt_of_cell? _ _ k4)).trans f4
  replace k0 := (hb.cell (World.block_lt_of_cell? _ _ k0)).trans k0
  replace k1 := (hb.cell (World.block_lt_of_cell? _ _ k1)).trans k1
  replace k2 := (hb.cell (World.block_lt_of_cell? _ _ k2)).trans k2
  replace k3 := (hb.cell (World.block_lt_of_cell? _ _ k3)).trans k3
  replace k4 := (hb.cell (World.block_lt_of_cell? _ _ k4)).trans k4
  clear hb
  gi_wp2
  have hr := World.cell?_setCell_same _ ⟨w.heap.size + 1 + 1 + 1, 0, none⟩ (.bool true) k4
  have hBz := W0.setCell (p := ⟨w.heap.size + 1 + 1 + 1, 0, none⟩) (by simp; omega) (.bool true)
  clear k0 k1 k2 k3 k4 f4 W0
  refine ⟨.bool true, ?_, rfl, hBz⟩
  have hres : Tryd.f9.results = #[.cell 14 4] := by kernel_rfl
  simp only [results, hres]
  go_simp

set_option maxRecDepth 100000 in
set_option maxHeartbeats 4000000 in
theorem holds_c (F R a b c df dr : Int) (X : Nat) (ha : vat F R a) (hb0 : vat F R b) (hc : ¬ vat F R c) (w : World) (hT : Tab w) :
    CallsIn Fence.wide 6 Tryd.prog 9 #[.agg #[.int .i64 F, .int .i64 R], .int .i64 a, .int .i64 b, .int .i64 c, .int .u64 X, .int .i64 df, .int .i64 dr] w fun e w' => e = .returned (.bool true) ∧ Below w.heap.size w w' := by
  refine callsIn_of_wp_marks Tryd.func9 rfl trivial ?_ rfl
  simp only [Tryd.ntmps9, List.size_toArray, List.length_cons, List.length_nil, Nat.reduceAdd, Nat.reduceSub, Array.replicate_succ, Array.replicate_zero, List.push_toArray, List.append_toArray, List.nil_append, List.cons_append]
  have W0 : Below w.heap.size w ((((w.alloc (.cells #[.int .i64 F, .int .i64 R] 23)).alloc (.cells #[.int .i64 df] 3)).alloc (.cells #[.int .i64 dr] 3)).alloc (.cells #[.bool false] 4)) := by
    go_grown
  have k0 : ((((w.alloc (.cells #[.int .i64 F, .int .i64 R] 23)).alloc (.cells #[.int .i64 df] 3)).alloc (.cells #[.int .i64 dr] 3)).alloc (.cells #[.bool false] 4)).cell? ⟨w.heap.size, 0, none⟩ = some (.int .i64 F) := by simp [go_sem]
  have k1 : ((((w.alloc (.cells #[.int .i64 F, .int .i64 R] 23)).alloc (.cells #[.int .i64 df] 3)).alloc (.cells #[.int .i64 dr] 3)).alloc (.cells #[.bool false] 4)).cell? ⟨w.heap.size, 1, none⟩ = some (.int .i64 R) := by simp [go_sem]
  have k2 : ((((w.alloc (.cells #[.int .i64 F, .int .i64 R] 23)).alloc (.cells #[.int .i64 df] 3)).alloc (.cells #[.int .i64 dr] 3)).alloc (.cells #[.bool false] 4)).cell? ⟨w.heap.size + 1, 0, none⟩ = some (.int .i64 df) := by simp [go_sem]
  have k3 : ((((w.alloc (.cells #[.int .i64 F, .int .i64 R] 23)).alloc (.cells #[.int .i64 df] 3)).alloc (.cells #[.int .i64 dr] 3)).alloc (.cells #[.bool false] 4)).cell? ⟨w.heap.size + 1 + 1, 0, none⟩ = some (.int .i64 dr) := by simp [go_sem]
  have k4 : ((((w.alloc (.cells #[.int .i64 F, .int .i64 R] 23)).alloc (.cells #[.int .i64 df] 3)).alloc (.cells #[.int .i64 dr] 3)).alloc (.cells #[.bool false] 4)).cell? ⟨w.heap.size + 1 + 1 + 1, 0, none⟩ = some (.bool false) := by simp [go_sem]
  have f4 : ((((w.alloc (.cells #[.int .i64 F, .int .i64 R] 23)).alloc (.cells #[.int .i64 df] 3)).alloc (.cells #[.int .i64 dr] 3)).alloc (.cells #[.bool false] 4)).frozen? ⟨w.heap.size + 1 + 1 + 1, 0, none⟩ = false := by simp [go_sem]
  gi_wp2_with fail
  refine ⟨trivial, callsIn_wide.2 ((refValid_yes F R a ha _).mono ?_)⟩
  rintro e w0 ⟨rfl, hb⟩
  replace W0 := chain W0 hb
  replace f4 := (hb.frozen (p := ⟨w.heap.size + 1 + 1 + 1, 0, none⟩) (World.block_lt_of_cell? _ _ k4)).trans f4
  replace k0 := (hb.cell (World.block_lt_of_cell? _ _ k0)).trans k0
  replace k1 := (hb.cell (World.block_lt_of_cell? _ _ k1)).trans k1
  replace k2 := (hb.cell (World.block_lt_of_cell? _ _ k2)).trans k2
  replace k3 := (hb.cell (World.block_lt_of_cell? _ _ k3)).trans k3
  replace k4 := (hb.cell (World.block_lt_of_cell? _ _ k4)).trans k4
  clear hb
  gi_wp2_with fail
  refine ⟨trivial, callsIn_wide.2 ((refValid_yes F R b hb0 _).mono ?_)⟩
  rintro e w1 ⟨rfl, hb⟩
  replace W0 := chain W0 hb
  replace f4 := (hb.frozen (p := ⟨w.heap.size + 1 + 1 + 1, 0, none⟩) (World.block_lt_of_cell? _ _ k4)).trans f4
  replace k0 := (hb.cell (World.block_lt_of_cell? _ _ k0)).trans k0
  replace k1 := (hb.cell (World.block_lt_of_cell? _ _ k1)).trans k1
  replace k2 := (hb.cell (World.block_lt_of_cell? _ _ k2)).trans k2
  replace k3 := (hb.cell (World.block_lt_of_cell? _ _ k3)).trans k3
  replace k4 := (hb.cell (World.block_lt_of_cell? _ _ k4)).trans k4
  clear hb
  gi_wp2_with fail
  refine ⟨trivial, callsIn_wide.2 ((refValid_no F R c hc _).mono ?_)⟩
  rintro e w2 ⟨rfl, hb⟩
  replace W0 := chain W0 hb
  replace f4 := (hb.frozen (p := ⟨w.heap.size + 1 + 1 + 1, 0, none⟩) (World.block_lt_of_cell? _ _ k4)).trans f4
  replace k0 := (hb.cell (World.block_lt_of_cell? _ _ k0)).trans k0
  replace k1 := (hb.cell (World.block_lt_of_cell? _ _ k1)).trans k1
  replace k2 := (hb.cell (World.block_lt_of_cell? _ _ k2)).trans k2
  replace k3 := (hb.cell (World.block_lt_of_cell? _ _ k3)).trans k3
  replace k4 := (hb.cell (World.block_lt_of_cell? _ _ k4)).trans k4
  clear hb
  gi_wp2_with fail
  refine ⟨trivial, ?_⟩
  gi_wp2_with fail
  refine ⟨trivial, callsIn_wide.2 ((known_any _ (hT.below W0 hT.1)).mono ?_)⟩
  rintro e w4 ⟨rfl, hb⟩
  replace W0 := chain W0 hb
  replace f4 := (hb.frozen (p := ⟨w.heap.size + 1 + 1 + 1, 0, none⟩) (World.block_lt_of_cell? _ _ k4)).trans f4
  replace k0 := (hb.cell (World.block_lt_of_cell? _ _ k0)).trans k0
  replace k1 := (hb.cell (World.block_lt_of_cell? _ _ k1)).trans k1
  replace k2 := (hb.cell (World.block_lt_of_cell? _ _ k2)).trans k2
  replace k3 := (hb.cell (World.block_lt_of_cell? _ _ k3)).trans k3
  replace k4 := (hb.cell (World.block_lt_of_cell? _ _ k4)).trans k4
  clear hb
  gi_wp2
  have hr := World.cell?_setCell_same _ ⟨w.heap.size + 1 + 1 + 1, 0, none⟩ (.bool true) k4
  have hBz := W0.setCell (p := ⟨w.heap.size + 1 + 1 + 1, 0, none⟩) (by simp; omega) (.bool true)
  clear k0 k1 k2 k3 k4 f4 W0
  refine ⟨.bool true, ?_, rfl, hBz⟩
  have hres : Tryd.f9.results = #[.cell 14 4] := by kernel_rfl
  simp only [results, hres]
  go_simp

set_option maxRecDepth 100000 in
set_option maxHeartbeats 4000000 in
theorem holds_x (F R a b c df dr : Int) (X : Nat) (ha : vat F R a) (hb0 : vat F R b) (hc : vat F R c) (hX64 : X < 18446744073709551616) (hX : ¬ X < 2 ^ (F * R).toNat) (w : World) (hT : Tab w) :
    CallsIn Fence.wide 6 Tryd.prog 9 #[.agg #[.int .i64 F, .int .i64 R], .int .i64 a, .int .i64 b, .int .i64 c, .int .u64 X, .int .i64 df, .int .i64 dr] w fun e w' => e = .returned (.bool true) ∧ Below w.heap.size w w' := by
  refine callsIn_of_wp_marks Tryd.func9 rfl trivial ?_ rfl
  simp only [Tryd.ntmps9, List.size_toArray, List.length_cons, List.length_nil, Nat.reduceAdd, Nat.reduceSub, Array.replicate_succ, Array.replicate_zero, List.push_toArray, List.append_toArray, List.nil_append, List.cons_append]
  have W0 : Below w.heap.size w ((((w.alloc (.cells #[.int .i64 F, .int .i64 R] 23)).alloc (.cells #[.int .i64 df] 3)).alloc (.cells #[.int .i64 dr] 3)).alloc (.cells #[.bool false] 4)) := by
    go_grown
  have k0 : ((((w.alloc (.cells #[.int .i64 F, .int .i64 R] 23)).alloc (.cells #[.int .i64 df] 3)).alloc (.cells #[.int .i64 dr] 3)).alloc (.cells #[.bool false] 4)).cell? ⟨w.heap.size, 0, none⟩ = some (.int .i64 F) := by simp [go_sem]
  have k1 : ((((w.alloc (.cells #[.int .i64 F, .int .i64 R] 23)).alloc (.cells #[.int .i64 df] 3)).alloc (.cells #[.int .i64 dr] 3)).alloc (.cells #[.bool false] 4)).cell? ⟨w.heap.size, 1, none⟩ = some (.int .i64 R) := by simp [go_sem]
  have k2 : ((((w.alloc (.cells #[.int .i64 F, .int .i64 R] 23)).alloc (.cells #[.int .i64 df] 3)).alloc (.cells #[.int .i64 dr] 3)).alloc (.cells #[.bool false] 4)).cell? ⟨w.heap.size + 1, 0, none⟩ = some (.int .i64 df) := by simp [go_sem]
  have k3 : ((((w.alloc (.cells #[.int .i64 F, .int .i64 R] 23)).alloc (.cells #[.int .i64 df] 3)).alloc (.cells #[.int .i64 dr] 3)).alloc (.cells #[.bool false] 4)).cell? ⟨w.heap.size + 1 + 1, 0, none⟩ = some (.int .i64 dr) := by simp [go_sem]
  have k4 : ((((w.alloc (.cells #[.int .i64 F, .int .i64 R] 23)).alloc (.cells #[.int .i64 df] 3)).alloc (.cells #[.int .i64 dr] 3)).alloc (.cells #[.bool false] 4)).cell? ⟨w.heap.size + 1 + 1 + 1, 0, none⟩ = some (.bool false) := by simp [go_sem]
  have f4 : ((((w.alloc (.cells #[.int .i64 F, .int .i64 R] 23)).alloc (.cells #[.int .i64 df] 3)).alloc (.cells #[.int .i64 dr] 3)).alloc (.cells #[.bool false] 4)).frozen? ⟨w.heap.size + 1 + 1 + 1, 0, none⟩ = false := by simp [go_sem]
  gi_wp2_with fail
  refine ⟨trivial, callsIn_wide.2 ((refValid_yes F R a ha _).mono ?_)⟩
  rintro e w0 ⟨rfl, hb⟩
  replace W0 := chain W0 hb
  replace f4 := (hb.frozen (p := ⟨w.heap.size + 1 + 1 + 1, 0, none⟩) (World.block_lt_of_cell? _ _ k4)).trans f4
  replace k0 := (hb.cell (World.block_lt_of_cell? _ _ k0)).trans k0
  replace k1 := (hb.cell (World.block_lt_of_cell? _ _ k1)).trans k1
  replace k2 := (hb.cell (World.block_lt_of_cell? _ _ k2)).trans k2
  replace k3 := (hb.cell (World.block_lt_of_cell? _ _ k3)).trans k3
  replace k4 := (hb.cell (World.block_lt_of_cell? _ _ k4)).trans k4
  clear hb
  gi_wp2_with fail
  refine ⟨trivial, callsIn_wide.2 ((refValid_yes F R b hb0 _).mono ?_)⟩
  rintro e w1 ⟨rfl, hb⟩
  replace W0 := chain W0 hb
  replace f4 := (hb.frozen (p := ⟨w.heap.size + 1 + 1 + 1, 0, none⟩) (World.block_lt_of_cell? _ _ k4)).trans f4
  replace k0 := (hb.cell (World.block_lt_of_cell? _ _ k0)).trans k0
  replace k1 := (hb.cell (World.block_lt_of_cell? _ _ k1)).trans k1
  replace k2 := (hb.cell (World.block_lt_of_cell? _ _ k2)).trans k2
  replace k3 := (hb.cell (World.block_lt_of_cell? _ _ k3)).trans k3
  replace k4 := (hb.cell (World.block_lt_of_cell? _ _ k4)).trans k4
  clear hb
  gi_wp2_with fail
  refine ⟨trivial, callsIn_wide.2 ((refValid_yes F R c hc _).mono ?_)⟩
  rintro e w2 ⟨rfl, hb⟩
  replace W0 := chain W0 hb
  replace f4 := (hb.frozen (p := ⟨w.heap.size + 1 + 1 + 1, 0, none⟩) (World.block_lt_of_cell? _ _ k4)).trans f4
  replace k0 := (hb.cell (World.block_lt_of_cell? _ _ k0)).trans k0
  replace k1 := (hb.cell (World.block_lt_of_cell? _ _ k1)).trans k1
  replace k2 := (hb.cell (World.block_lt_of_cell? _ _ k2)).trans k2
  replace k3 := (hb.cell (World.block_lt_of_cell? _ _ k3)).trans k3
  replace k4 := (hb.cell (World.block_lt_of_cell? _ _ k4)).trans k4
  clear hb
  gi_wp2_with fail
  refine ⟨trivial, callsIn_wide.2 ((refOn_any F R X hX64 _ false ⟨fun h => absurd h (by decide), fun h => absurd h.2 hX⟩).mono ?_)⟩
  rintro e w3 ⟨rfl, hb⟩
  replace W0 := chain W0 hb
  replace f4 := (hb.frozen (p := ⟨w.heap.size + 1 + 1 + 1, 0, none⟩) (World.block_lt_of_cell? _ _ k4)).trans f4
  replace k0 := (hb.cell (World.block_lt_of_cell? _ _ k0)).trans k0
  replace k1 := (hb.cell (World.block_lt_of_cell? _ _ k1)).trans k1
  replace k2 := (hb.cell (World.block_lt_of_cell? _ _ k2)).trans k2
  replace k3 := (hb.cell (World.block_lt_of_cell? _ _ k3)).trans k3
  replace k4 := (hb.cell (World.block_lt_of_cell? _ _ k4)).trans k4
  clear hb
  gi_wp2_with fail
  refine ⟨trivial, callsIn_wide.2 ((known_any _ (hT.below W0 hT.1)).mono ?_)⟩
  rintro e w4 ⟨rfl, hb⟩
  replace W0 := chain W0 hb
  replace f4 := (hb.frozen (p := ⟨w.heap.size + 1 + 1 + 1, 0, none⟩) (World.block_lt_of_cell? _ _ k4)).trans f4
  replace k0 := (hb.cell (World.block_lt_of_cell? _ _ k0)).trans k0
  replace k1 := (hb.cell (World.block_lt_of_cell? _ _ k1)).trans k1
  replace k2 := (hb.cell (World.block_lt_of_cell? _ _ k2)).trans k2
  replace k3 := (hb.cell (World.block_lt_of_cell? _ _ k3)).trans k3
  replace k4 := (hb.cell (World.block_lt_of_cell? _ _ k4)).trans k4
  clear hb
  gi_wp2
  have hr := World.cell?_setCell_same _ ⟨w.heap.size + 1 + 1 + 1, 0, none⟩ (.bool true) k4
  have hBz := W0.setCell (p := ⟨w.heap.size + 1 + 1 + 1, 0, none⟩) (by simp; omega) (.bool true)
  clear k0 k1 k2 k3 k4 f4 W0
  refine ⟨.bool true, ?_, rfl, hBz⟩
  have hres : Tryd.f9.results = #[.cell 14 4] := by kernel_rfl
  simp only [results, hres]
  go_simp

set_option maxRecDepth 100000 in
set_option maxHeartbeats 4000000 in
theorem holds_d0 (F R a b c df dr : Int) (X : Nat) (ha : vat F R a) (hb0 : vat F R b) (hc : vat F R c) (hX : X < 2 ^ (F * R).toNat) (h : df < -8) (w : World) (hT : Tab w) :
    CallsIn Fence.wide 6 Tryd.prog 9 #[.agg #[.int .i64 F, .int .i64 R], .int .i64 a, .int .i64 b, .int .i64 c, .int .u64 X, .int .i64 df, .int .i64 dr] w fun e w' => e = .returned (.bool true) ∧ Below w.heap.size w w' := by
  refine callsIn_of_wp_marks Tryd.func9 rfl trivial ?_ rfl
  simp only [Tryd.ntmps9, List.size_toArray, List.length_cons, List.length_nil, Nat.reduceAdd, Nat.reduceSub, Array.replicate_succ, Array.replicate_zero, List.push_toArray, List.append_toArray, List.nil_append, List.cons_append]
  have W0 : Below w.heap.size w ((((w.alloc (.cells #[.int .i64 F, .int .i64 R] 23)).alloc (.cells #[.int .i64 df] 3)).alloc (.cells #[.int .i64 dr] 3)).alloc (.cells #[.bool false] 4)) := by
    go_grown
  have k0 : ((((w.alloc (.cells #[.int .i64 F, .int .i64 R] 23)).alloc (.cells #[.int .i64 df] 3)).alloc (.cells #[.int .i64 dr] 3)).alloc (.cells #[.bool false] 4)).cell? ⟨w.heap.size, 0, none⟩ = some (.int .i64 F) := by simp [go_sem]
  have k1 : ((((w.alloc (.cells #[.int .i64 F, .int .i64 R] 23)).alloc (.cells #[.int .i64 df] 3)).alloc (.cells #[.int .i64 dr] 3)).alloc (.cells #[.bool false] 4)).cell? ⟨w.heap.size, 1, none⟩ = some (.int .i64 R) := by simp [go_sem]
  have k2 : ((((w.alloc (.cells #[.int .i64 F, .int .i64 R] 23)).alloc (.cells #[.int .i64 df] 3)).alloc (.cells #[.int .i64 dr] 3)).alloc (.cells #[.bool false] 4)).cell? ⟨w.heap.size + 1, 0, none⟩ = some (.int .i64 df) := by simp [go_sem]
  have k3 : ((((w.alloc (.cells #[.int .i64 F, .int .i64 R] 23)).alloc (.cells #[.int .i64 df] 3)).alloc (.cells #[.int .i64 dr] 3)).alloc (.cells #[.bool false] 4)).cell? ⟨w.heap.size + 1 + 1, 0, none⟩ = some (.int .i64 dr) := by simp [go_sem]
  have k4 : ((((w.alloc (.cells #[.int .i64 F, .int .i64 R] 23)).alloc (.cells #[.int .i64 df] 3)).alloc (.cells #[.int .i64 dr] 3)).alloc (.cells #[.bool false] 4)).cell? ⟨w.heap.size + 1 + 1 + 1, 0, none⟩ = some (.bool false) := by simp [go_sem]
  have f4 : ((((w.alloc (.cells #[.int .i64 F, .int .i64 R] 23)).alloc (.cells #[.int .i64 df] 3)).alloc (.cells #[.int .i64 dr] 3)).alloc (.cells #[.bool false] 4)).frozen? ⟨w.heap.size + 1 + 1 + 1, 0, none⟩ = false := by simp [go_sem]
  gi_wp2_with fail
  refine ⟨trivial, callsIn_wide.2 ((refValid_yes F R a ha _).mono ?_)⟩
  rintro e w0 ⟨rfl, hb⟩
  replace W0 := chain W0 hb
  replace f4 := (hb.frozen (p := ⟨w.heap.size + 1 + 1 + 1, 0, none⟩) (World.block_lt_of_cell? _ _ k4)).trans f4
  replace k0 := (hb.cell (World.block_lt_of_cell? _ _ k0)).trans k0
  replace k1 := (hb.cell (World.block_lt_of_cell? _ _ k1)).trans k1
  replace k2 := (hb.cell (World.block_lt_of_cell? _ _ k2)).trans k2
  replace k3 := (hb.cell (World.block_lt_of_cell? _ _ k3)).trans k3
  replace k4 := (hb.cell (World.block_lt_of_cell? _ _ k4)).trans k4
  clear hb
  gi_wp2_with fail
  refine ⟨trivial, callsIn_wide.2 ((refValid_yes F R b hb0 _).mono ?_)⟩
  rintro e w1 ⟨rfl, hb⟩
  replace W0 := chain W0 hb
  replace f4 := (hb.frozen (p := ⟨w.heap.size + 1 + 1 + 1, 0, none⟩) (World.block_lt_of_cell? _ _ k4)).trans f4
  replace k0 := (hb.cell (World.block_lt_of_cell? _ _ k0)).trans k0
  replace k1 := (hb.cell (World.block_lt_of_cell? _ _ k1)).trans k1
  replace k2 := (hb.cell (World.block_lt_of_cell? _ _ k2)).trans k2
  replace k3 := (hb.cell (World.block_lt_of_cell? _ _ k3)).trans k3
  replace k4 := (hb.cell (World.block_lt_of_cell? _ _ k4)).trans k4
  clear hb
  gi_wp2_with fail
  refine ⟨trivial, callsIn_wide.2 ((refValid_yes F R c hc _).mono ?_)⟩
  rintro e w2 ⟨rfl, hb⟩
  replace W0 := chain W0 hb
  replace f4 := (hb.frozen (p := ⟨w.heap.size + 1 + 1 + 1, 0, none⟩) (World.block_lt_of_cell? _ _ k4)).trans f4
  replace k0 := (hb.cell (World.block_lt_of_cell? _ _ k0)).trans k0
  replace k1 := (hb.cell (World.block_lt_of_cell? _ _ k1)).trans k1
  replace k2 := (hb.cell (World.block_lt_of_cell? _ _ k2)).trans k2
  replace k3 := (hb.cell (World.block_lt_of_cell? _ _ k3)).trans k3
  replace k4 := (hb.cell (World.block_lt_of_cell? _ _ k4)).trans k4
  clear hb
  gi_wp2_with fail
  refine ⟨trivial, callsIn_wide.2 ((refOn_any F R X (x64 ha.1 hX) _ true ⟨fun _ => ⟨ha.1, hX⟩, fun _ => rfl⟩).mono ?_)⟩
  rintro e w3 ⟨rfl, hb⟩
  replace W0 := chain W0 hb
  replace f4 := (hb.frozen (p := ⟨w.heap.size + 1 + 1 + 1, 0, none⟩) (World.block_lt_of_cell? _ _ k4)).trans f4
  replace k0 := (hb.cell (World.block_lt_of_cell? _ _ k0)).trans k0
  replace k1 := (hb.cell (World.block_lt_of_cell? _ _ k1)).trans k1
  replace k2 := (hb.cell (World.block_lt_of_cell? _ _ k2)).trans k2
  replace k3 := (hb.cell (World.block_lt_of_cell? _ _ k3)).trans k3
  replace k4 := (hb.cell (World.block_lt_of_cell? _ _ k4)).trans k4
  clear hb
  gi_wp2_with fail
  refine ⟨trivial, callsIn_wide.2 ((known_any _ (hT.below W0 hT.1)).mono ?_)⟩
  rintro e w4 ⟨rfl, hb⟩
  replace W0 := chain W0 hb
  replace f4 := (hb.frozen (p := ⟨w.heap.size + 1 + 1 + 1, 0, none⟩) (World.block_lt_of_cell? _ _ k4)).trans f4
  replace k0 := (hb.cell (World.block_lt_of_cell? _ _ k0)).trans k0
  replace k1 := (hb.cell (World.block_lt_of_cell? _ _ k1)).trans k1
  replace k2 := (hb.cell (World.block_lt_of_cell? _ _ k2)).trans k2
  replace k3 := (hb.cell (World.block_lt_of_cell? _ _ k3)).trans k3
  replace k4 := (hb.cell (World.block_lt_of_cell? _ _ k4)).trans k4
  clear hb
  gi_wp2
  have hr := World.cell?_setCell_same _ ⟨w.heap.size + 1 + 1 + 1, 0, none⟩ (.bool true) k4
  have hBz := W0.setCell (p := ⟨w.heap.size + 1 + 1 + 1, 0, none⟩) (by simp; omega) (.bool true)
  clear k0 k1 k2 k3 k4 f4 W0
  refine ⟨.bool true, ?_, rfl, hBz⟩
  have hres : Tryd.f9.results = #[.cell 14 4] := by kernel_rfl
  simp only [results, hres]
  go_simp

set_option maxRecDepth 100000 in
set_option maxHeartbeats 4000000 in
theorem holds_d1 (F R a b c df dr : Int) (X : Nat) (ha : vat F R a) (hb0 : vat F R b) (hc : vat F R c) (hX : X < 2 ^ (F * R).toNat) (h : -8 ≤ df) (k : 8 < df) (w : World) (hT : Tab w) :
    CallsIn Fence.wide 6 Tryd.prog 9 #[.agg #[.int .i64 F, .int .i64 R], .int .i64 a, .int .i64 b, .int .i64 c, .int .u64 X, .int .i64 df, .int .i64 dr] w fun e w' => e = .returned (.bool true) ∧ Below w.heap.size w w' := by
  refine callsIn_of_wp_marks Tryd.func9 rfl trivial ?_ rfl
  simp only [Tryd.ntmps9, List.size_toArray, List.length_cons, List.length_nil, Nat.reduceAdd, Nat.reduceSub, Array.replicate_succ, Array.replicate_zero, List.push_toArray, List.append_toArray, List.nil_append, List.cons_append]
  have W0 : Below w.heap.size w ((((w.alloc (.cells #[.int .i64 F, .int .i64 R] 23)).alloc (.cells #[.int .i64 df] 3)).alloc (.cells #[.int .i64 dr] 3)).alloc (.cells #[.bool false] 4)) := by
    go_grown
  have k0 : ((((w.alloc (.cells #[.int .i64 F, .int .i64 R] 23)).alloc (.cells #[.int .i64 df] 3)).alloc (.cells #[.int .i64 dr] 3)).alloc (.cells #[.bool false] 4)).cell? ⟨w.heap.size, 0, none⟩ = some (.int .i64 F) := by simp [go_sem]
  have k1 : ((((w.alloc (.cells #[.int .i64 F, .int .i64 R] 23)).alloc (.cells #[.int .i64 df] 3)).alloc (.cells #[.int .i64 dr] 3)).alloc (.cells #[.bool false] 4)).cell? ⟨w.heap.size, 1, none⟩ = some (.int .i64 R) := by simp [go_sem]
  have k2 : ((((w.alloc (.cells #[.int .i64 F, .int .i64 R] 23)).alloc (.cells #[.int .i64 df] 3)).alloc (.cells #[.int .i64 dr] 3)).alloc (.cells #[.bool false] 4)).cell? ⟨w.heap.size + 1, 0, none⟩ = some (.int .i64 df) := by simp [go_sem]
  have k3 : ((((w.alloc (.cells #[.int .i64 F, .int .i64 R] 23)).alloc (.cells #[.int .i64 df] 3)).alloc (.cells #[.int .i64 dr] 3)).alloc (.cells #[.bool false] 4)).cell? ⟨w.heap.size + 1 + 1, 0, none⟩ = some (.int .i64 dr) := by simp [go_sem]
  have k4 : ((((w.alloc (.cells #[.int .i64 F, .int .i64 R] 23)).alloc (.cells #[.int .i64 df] 3)).alloc (.cells #[.int .i64 dr] 3)).alloc (.cells #[.bool false] 4)).cell? ⟨w.heap.size + 1 + 1 + 1, 0, none⟩ = some (.bool false) := by simp [go_sem]
  have f4 : ((((w.alloc (.cells #[.int .i64 F, .int .i64 R] 23)).alloc (.cells #[.int .i64 df] 3)).alloc (.cells #[.int .i64 dr] 3)).alloc (.cells #[.bool false] 4)).frozen? ⟨w.heap.size + 1 + 1 + 1, 0, none⟩ = false := by simp [go_sem]
  gi_wp2_with fail
  refine ⟨trivial, callsIn_wide.2 ((refValid_yes F R a ha _).mono ?_)⟩
  rintro e w0 ⟨rfl, hb⟩
  replace W0 := chain W0 hb
  replace f4 := (hb.frozen (p := ⟨w.heap.size + 1 + 1 + 1, 0, none⟩) (World.block_lt_of_cell? _ _ k4)).trans f4
  replace k0 := (hb.cell (World.block_lt_of_cell? _ _ k0)).trans k0
  replace k1 := (hb.cell (World.block_lt_of_cell? _ _ k1)).trans k1
  replace k2 := (hb.cell (World.block_lt_of_cell? _ _ k2)).trans k2
  replace k3 := (hb.cell (World.block_lt_of_cell? _ _ k3)).trans k3
  replace k4 := (hb.cell (World.block_lt_of_cell? _ _ k4)).trans k4
  clear hb
  gi_wp2_with fail
  refine ⟨trivial, callsIn_wide.2 ((refValid_yes F R b hb0 _).mono ?_)⟩
  rintro e w1 ⟨rfl, hb⟩
  replace W0 := chain W0 hb
  replace f4 := (hb.frozen (p := ⟨w.heap.size + 1 + 1 + 1, 0, none⟩) (World.block_lt_of_cell? _ _ k4)).trans f4
  replace k0 := (hb.cell (World.block_lt_of_cell? _ _ k0)).trans k0
  replace k1 := (hb.cell (World.block_lt_of_cell? _ _ k1)).trans k1
  replace k2 := (hb.cell (World.block_lt_of_cell? _ _ k2)).trans k2
  replace k3 := (hb.cell (World.block_lt_of_cell? _ _ k3)).trans k3
  replace k4 := (hb.cell (World.block_lt_of_cell? _ _ k4)).trans k4
  clear hb
  gi_wp2_with fail
  refine ⟨trivial, callsIn_wide.2 ((refValid_yes F R c hc _).mono ?_)⟩
  rintro e w2 ⟨rfl, hb⟩
  replace W0 := chain W0 hb
  replace f4 := (hb.frozen (p := ⟨w.heap.size + 1 + 1 + 1, 0, none⟩) (World.block_lt_of_cell? _ _ k4)).trans f4
  replace k0 := (hb.cell (World.block_lt_of_cell? _ _ k0)).trans k0
  replace k1 := (hb.cell (World.block_lt_of_cell? _ _ k1)).trans k1
  replace k2 := (hb.cell (World.block_lt_of_cell? _ _ k2)).trans k2
  replace k3 := (hb.cell (World.block_lt_of_cell? _ _ k3)).trans k3
  replace k4 := (hb.cell (World.block_lt_of_cell? _ _ k4)).trans k4
  clear hb
  gi_wp2_with fail
  refine ⟨trivial, callsIn_wide.2 ((refOn_any F R X (x64 ha.1 hX) _ true ⟨fun _ => ⟨ha.1, hX⟩, fun _ => rfl⟩).mono ?_)⟩
  rintro e w3 ⟨rfl, hb⟩
  replace W0 := chain W0 hb
  replace f4 := (hb.frozen (p := ⟨w.heap.size + 1 + 1 + 1, 0, none⟩) (World.block_lt_of_cell? _ _ k4)).trans f4
  replace k0 := (hb.cell (World.block_lt_of_cell? _ _ k0)).trans k0
  replace k1 := (hb.cell (World.block_lt_of_cell? _ _ k1)).trans k1
  replace k2 := (hb.cell (World.block_lt_of_cell? _ _ k2)).trans k2
  replace k3 := (hb.cell (World.block_lt_of_cell? _ _ k3)).trans k3
  replace k4 := (hb.cell (World.block_lt_of_cell? _ _ k4)).trans k4
  clear hb
  gi_wp2_with fail
  refine ⟨trivial, callsIn_wide.2 ((known_any _ (hT.below W0 hT.1)).mono ?_)⟩
  rintro e w4 ⟨rfl, hb⟩
  replace W0 := chain W0 hb
  replace f4 := (hb.frozen (p := ⟨w.heap.size + 1 + 1 + 1, 0, none⟩) (World.block_lt_of_cell? _ _ k4)).trans f4
  replace k0 := (hb.cell (World.block_lt_of_cell? _ _ k0)).trans k0
  replace k1 := (hb.cell (World.block_lt_of_cell? _ _ k1)).trans k1
  replace k2 := (hb.cell (World.block_lt_of_cell? _ _ k2)).trans k2
  replace k3 := (hb.cell (World.block_lt_of_cell? _ _ k3)).trans k3
  replace k4 := (hb.cell (World.block_lt_of_cell? _ _ k4)).trans k4
  clear hb
  gi_wp2
  have hr := World.cell?_setCell_same _ ⟨w.heap.size + 1 + 1 + 1, 0, none⟩ (.bool true) k4
  have hBz := W0.setCell (p := ⟨w.heap.size + 1 + 1 + 1, 0, none⟩) (by simp; omega) (.bool true)
  clear k0 k1 k2 k3 k4 f4 W0
  refine ⟨.bool true, ?_, rfl, hBz⟩
  have hres : Tryd.f9.results = #[.cell 14 4] := by kernel_rfl
  simp only [results, hres]
  go_simp

set_option maxRecDepth 100000 in
set_option maxHeartbeats 4000000 in
theorem holds_e0 (F R a b c df dr : Int) (X : Nat) (ha : vat F R a) (hb0 : vat F R b) (hc : vat F R c) (hX : X < 2 ^ (F * R).toNat) (h : -8 ≤ df) (k : df ≤ 8) (l : dr < -8) (w : World) (hT : Tab w) :
    CallsIn Fence.wide 6 Tryd.prog 9 #[.agg #[.int .i64 F, .int .i64 R], .int .i64 a, .int .i64 b, .int .i64 c, .int .u64 X, .int .i64 df, .int .i64 dr] w fun e w' => e = .returned (.bool true) ∧ Below w.heap.size w w' := by
  refine callsIn_of_wp_marks Tryd.func9 rfl trivial ?_ rfl
  simp only [Tryd.ntmps9, List.size_toArray, List.length_cons, List.length_nil, Nat.reduceAdd, Nat.reduceSub, Array.replicate_succ, Array.replicate_zero, List.push_toArray, List.append_toArray, List.nil_append, List.cons_append]
  have W0 : Below w.heap.size w ((((w.alloc (.cells #[.int .i64 F, .int .i64 R] 23)).alloc (.cells #[.int .i64 df] 3)).alloc (.cells #[.int .i64 dr] 3)).alloc (.cells #[.bool false] 4)) := by
    go_grown
  have k0 : ((((w.alloc (.cells #[.int .i64 F, .int .i64 R] 23)).alloc (.cells #[.int .i64 df] 3)).alloc (.cells #[.int .i64 dr] 3)).alloc (.cells #[.bool false] 4)).cell? ⟨w.heap.size, 0, none⟩ = some (.int .i64 F) := by simp [go_sem]
  have k1 : ((((w.alloc (.cells #[.int .i64 F, .int .i64 R] 23)).alloc (.cells #[.int .i64 df] 3)).alloc (.cells #[.int .i64 dr] 3)).alloc (.cells #[.bool false] 4)).cell? ⟨w.heap.size, 1, none⟩ = some (.int .i64 R) := by simp [go_sem]
  have k2 : ((((w.alloc (.cells #[.int .i64 F, .int .i64 R] 23)).alloc (.cells #[.int .i64 df] 3)).alloc (.cells #[.int .i64 dr] 3)).alloc (.cells #[.bool false] 4)).cell? ⟨w.heap.size + 1, 0, none⟩ = some (.int .i64 df) := by simp [go_sem]
  have k3 : ((((w.alloc (.cells #[.int .i64 F, .int .i64 R] 23)).alloc (.cells #[.int .i64 df] 3)).alloc (.cells #[.int .i64 dr] 3)).alloc (.cells #[.bool false] 4)).cell? ⟨w.heap.size + 1 + 1, 0, none⟩ = some (.int .i64 dr) := by simp [go_sem]
  have k4 : ((((w.alloc (.cells #[.int .i64 F, .int .i64 R] 23)).alloc (.cells #[.int .i64 df] 3)).alloc (.cells #[.int .i64 dr] 3)).alloc (.cells #[.bool false] 4)).cell? ⟨w.heap.size + 1 + 1 + 1, 0, none⟩ = some (.bool false) := by simp [go_sem]
  have f4 : ((((w.alloc (.cells #[.int .i64 F, .int .i64 R] 23)).alloc (.cells #[.int .i64 df] 3)).alloc (.cells #[.int .i64 dr] 3)).alloc (.cells #[.bool false] 4)).frozen? ⟨w.heap.size + 1 + 1 + 1, 0, none⟩ = false := by simp [go_sem]
  gi_wp2_with fail
  refine ⟨trivial, callsIn_wide.2 ((refValid_yes F R a ha _).mono ?_)⟩
  rintro e w0 ⟨rfl, hb⟩
  replace W0 := chain W0 hb
  replace f4 := (hb.frozen (p := ⟨w.heap.size + 1 + 1 + 1, 0, none⟩) (World.block_lt_of_cell? _ _ k4)).trans f4
  replace k0 := (hb.cell (World.block_lt_of_cell? _ _ k0)).trans k0
  replace k1 := (hb.cell (World.block_lt_of_cell? _ _ k1)).trans k1
  replace k2 := (hb.cell (World.block_lt_of_cell? _ _ k2)).trans k2
  replace k3 := (hb.cell (World.block_lt_of_cell? _ _ k3)).trans k3
  replace k4 := (hb.cell (World.block_lt_of_cell? _ _ k4)).trans k4
  clear hb
  gi_wp2_with fail
  refine ⟨trivial, callsIn_wide.2 ((refValid_yes F R b hb0 _).mono ?_)⟩
  rintro e w1 ⟨rfl, hb⟩
  replace W0 := chain W0 hb
  replace f4 := (hb.frozen (p := ⟨w.heap.size + 1 + 1 + 1, 0, none⟩) (World.block_lt_of_cell? _ _ k4)).trans f4
  replace k0 := (hb.cell (World.block_lt_of_cell? _ _ k0)).trans k0
  replace k1 := (hb.cell (World.block_lt_of_cell? _ _ k1)).trans k1
  replace k2 := (hb.cell (World.block_lt_of_cell? _ _ k2)).trans k2
  replace k3 := (hb.cell (World.block_lt_of_cell? _ _ k3)).trans k3
  replace k4 := (hb.cell (World.block_lt_of_cell? _ _ k4)).trans k4
  clear hb
  gi_wp2_with fail
  refine ⟨trivial, callsIn_wide.2 ((refValid_yes F R c hc _).mono ?_)⟩
  rintro e w2 ⟨rfl, hb⟩
  replace W0 := chain W0 hb
  replace f4 := (hb.frozen (p := ⟨w.heap.size + 1 + 1 + 1, 0, none⟩) (World.block_lt_of_cell? _ _ k4)).trans f4
  replace k0 := (hb.cell (World.block_lt_of_cell? _ _ k0)).trans k0
  replace k1 := (hb.cell (World.block_lt_of_cell? _ _ k1)).trans k1
  replace k2 := (hb.cell (World.block_lt_of_cell? _ _ k2)).trans k2
  replace k3 := (hb.cell (World.block_lt_of_cell? _ _ k3)).trans k3
  replace k4 := (hb.cell (World.block_lt_of_cell? _ _ k4)).trans k4
  clear hb
  gi_wp2_with fail
  refine ⟨trivial, callsIn_wide.2 ((refOn_any F R X (x64 ha.1 hX) _ true ⟨fun _ => ⟨ha.1, hX⟩, fun _ => rfl⟩).mono ?_)⟩
  rintro e w3 ⟨rfl, hb⟩
  replace W0 := chain W0 hb
  replace f4 := (hb.frozen (p := ⟨w.heap.size + 1 + 1 + 1, 0, none⟩) (World.block_lt_of_cell? _ _ k4)).trans f4
  replace k0 := (hb.cell (World.block_lt_of_cell? _ _ k0)).trans k0
  replace k1 := (hb.cell (World.block_lt_of_cell? _ _ k1)).trans k1
  replace k2 := (hb.cell (World.block_lt_of_cell? _ _ k2)).trans k2
  replace k3 := (hb.cell (World.block_lt_of_cell? _ _ k3)).trans k3
  replace k4 := (hb.cell (World.block_lt_of_cell? _ _ k4)).trans k4
  clear hb
  gi_wp2_with fail
  refine ⟨trivial, callsIn_wide.2 ((known_any _ (hT.below W0 hT.1)).mono ?_)⟩
  rintro e w4 ⟨rfl, hb⟩
  replace W0 := chain W0 hb
  replace f4 := (hb.frozen (p := ⟨w.heap.size + 1 + 1 + 1, 0, none⟩) (World.block_lt_of_cell? _ _ k4)).trans f4
  replace k0 := (hb.cell (World.block_lt_of_cell? _ _ k0)).trans k0
  replace k1 := (hb.cell (World.block_lt_of_cell? _ _ k1)).trans k1
  replace k2 := (hb.cell (World.block_lt_of_cell? _ _ k2)).trans k2
  replace k3 := (hb.cell (World.block_lt_of_cell? _ _ k3)).trans k3
  replace k4 := (hb.cell (World.block_lt_of_cell? _ _ k4)).trans k4
  clear hb
  gi_wp2
  have hr := World.cell?_setCell_same _ ⟨w.heap.size + 1 + 1 + 1, 0, none⟩ (.bool true) k4
  have hBz := W0.setCell (p := ⟨w.heap.size + 1 + 1 + 1, 0, none⟩) (by simp; omega) (.bool true)
  clear k0 k1 k2 k3 k4 f4 W0
  refine ⟨.bool true, ?_, rfl, hBz⟩
  have hres : Tryd.f9.results = #[.cell 14 4] := by kernel_rfl
  simp only [results, hres]
  go_simp

set_option maxRecDepth 100000 in
set_option maxHeartbeats 4000000 in
theorem holds_e1 (F R a b c df dr : Int) (X : Nat) (ha : vat F R a) (hb0 : vat F R b) (hc : vat F R c) (hX : X < 2 ^ (F * R).toNat) (h : -8 ≤ df) (k : df ≤ 8) (l : -8 ≤ dr) (m : 8 < dr) (w : World) (hT : Tab w) :
    CallsIn Fence.wide 6 Tryd.prog 9 #[.agg #[.int .i64 F, .int .i64 R], .int .i64 a, .int .i64 b, .int .i64 c, .int .u64 X, .int .i64 df, .int .i64 dr] w fun e w' => e = .returned (.bool true) ∧ Below w.heap.size w w' := by
  refine callsIn_of_wp_marks Tryd.func9 rfl trivial ?_ rfl
  simp only [Tryd.ntmps9, List.size_toArray, List.length_cons, List.length_nil, Nat.reduceAdd, Nat.reduceSub, Array.replicate_succ, Array.replicate_zero, List.push_toArray, List.append_toArray, List.nil_append, List.cons_append]
  have W0 : Below w.heap.size w ((((w.alloc (.cells #[.int .i64 F, .int .i64 R] 23)).alloc (.cells #[.int .i64 df] 3)).alloc (.cells #[.int .i64 dr] 3)).alloc (.cells #[.bool false] 4)) := by
    go_grown
  have k0 : ((((w.alloc (.cells #[.int .i64 F, .int .i64 R] 23)).alloc (.cells #[.int .i64 df] 3)).alloc (.cells #[.int .i64 dr] 3)).alloc (.cells #[.bool false] 4)).cell? ⟨w.heap.size, 0, none⟩ = some (.int .i64 F) := by simp [go_sem]
  have k1 : ((((w.alloc (.cells #[.int .i64 F, .int .i64 R] 23)).alloc (.cells #[.int .i64 df] 3)).alloc (.cells #[.int .i64 dr] 3)).alloc (.cells #[.bool false] 4)).cell? ⟨w.heap.size, 1, none⟩ = some (.int .i64 R) := by simp [go_sem]
  have k2 : ((((w.alloc (.cells #[.int .i64 F, .int .i64 R] 23)).alloc (.cells #[.int .i64 df] 3)).alloc (.cells #[.int .i64 dr] 3)).alloc (.cells #[.bool false] 4)).cell? ⟨w.heap.size + 1, 0, none⟩ = some (.int .i64 df) := by simp [go_sem]
  have k3 : ((((w.alloc (.cells #[.int .i64 F, .int .i64 R] 23)).alloc (.cells #[.int .i64 df] 3)).alloc (.cells #[.int .i64 dr] 3)).alloc (.cells #[.bool false] 4)).cell? ⟨w.heap.size + 1 + 1, 0, none⟩ = some (.int .i64 dr) := by simp [go_sem]
  have k4 : ((((w.alloc (.cells #[.int .i64 F, .int .i64 R] 23)).alloc (.cells #[.int .i64 df] 3)).alloc (.cells #[.int .i64 dr] 3)).alloc (.cells #[.bool false] 4)).cell? ⟨w.heap.size + 1 + 1 + 1, 0, none⟩ = some (.bool false) := by simp [go_sem]
  have f4 : ((((w.alloc (.cells #[.int .i64 F, .int .i64 R] 23)).alloc (.cells #[.int .i64 df] 3)).alloc (.cells #[.int .i64 dr] 3)).alloc (.cells #[.bool false] 4)).frozen? ⟨w.heap.size + 1 + 1 + 1, 0, none⟩ = false := by simp [go_sem]
  gi_wp2_with fail
  refine ⟨trivial, callsIn_wide.2 ((refValid_yes F R a ha _).mono ?_)⟩
  rintro e w0 ⟨rfl, hb⟩
  replace W0 := chain W0 hb
  replace f4 := (hb.frozen (p := ⟨w.heap.size + 1 + 1 + 1, 0, none⟩) (World.block_lt_of_cell? _ _ k4)).trans f4
  replace k0 := (hb.cell (World.block_lt_of_cell? _ _ k0)).trans k0
  replace k1 := (hb.cell (World.block_lt_of_cell? _ _ k1)).trans k1
  replace k2 := (hb.cell (World.block_lt_of_cell? _ _ k2)).trans k2
  replace k3 := (hb.cell (World.block_lt_of_cell? _ _ k3)).trans k3
  replace k4 := (hb.cell (World.block_lt_of_cell? _ _ k4)).trans k4
  clear hb
  gi_wp2_with fail
  refine ⟨trivial, callsIn_wide.2 ((refValid_yes F R b hb0 _).mono ?_)⟩
  rintro e w1 ⟨rfl, hb⟩
  replace W0 := chain W0 hb
  replace f4 := (hb.frozen (p := ⟨w.heap.size + 1 + 1 + 1, 0, none⟩) (World.block_lt_of_cell? _ _ k4)).trans f4
  replace k0 := (hb.cell (World.block_lt_of_cell? _ _ k0)).trans k0
  replace k1 := (hb.cell (World.block_lt_of_cell? _ _ k1)).trans k1
  replace k2 := (hb.cell (World.block_lt_of_cell? _ _ k2)).trans k2
  replace k3 := (hb.cell (World.block_lt_of_cell? _ _ k3)).trans k3
  replace k4 := (hb.cell (World.block_lt_of_cell? _ _ k4)).trans k4
  clear hb
  gi_wp2_with fail
  refine ⟨trivial, callsIn_wide.2 ((refValid_yes F R c hc _).mono ?_)⟩
  rintro e w2 ⟨rfl, hb⟩
  replace W0 := chain W0 hb
  replace f4 := (hb.frozen (p := ⟨w.heap.size + 1 + 1 + 1, 0, none⟩) (World.block_lt_of_cell? _ _ k4)).trans f4
  replace k0 := (hb.cell (World.block_lt_of_cell? _ _ k0)).trans k0
  replace k1 := (hb.cell (World.block_lt_of_cell? _ _ k1)).trans k1
  replace k2 := (hb.cell (World.block_lt_of_cell? _ _ k2)).trans k2
  replace k3 := (hb.cell (World.block_lt_of_cell? _ _ k3)).trans k3
  replace k4 := (hb.cell (World.block_lt_of_cell? _ _ k4)).trans k4
  clear hb
  gi_wp2_with fail
  refine ⟨trivial, callsIn_wide.2 ((refOn_any F R X (x64 ha.1 hX) _ true ⟨fun _ => ⟨ha.1, hX⟩, fun _ => rfl⟩).mono ?_)⟩
  rintro e w3 ⟨rfl, hb⟩
  replace W0 := chain W0 hb
  replace f4 := (hb.frozen (p := ⟨w.heap.size + 1 + 1 + 1, 0, none⟩) (World.block_lt_of_cell? _ _ k4)).trans f4
  replace k0 := (hb.cell (World.block_lt_of_cell? _ _ k0)).trans k0
  replace k1 := (hb.cell (World.block_lt_of_cell? _ _ k1)).trans k1
  replace k2 := (hb.cell (World.block_lt_of_cell? _ _ k2)).trans k2
  replace k3 := (hb.cell (World.block_lt_of_cell? _ _ k3)).trans k3
  replace k4 := (hb.cell (World.block_lt_of_cell? _ _ k4)).trans k4
  clear hb
  gi_wp2_with fail
  refine ⟨trivial, callsIn_wide.2 ((known_any _ (hT.below W0 hT.1)).mono ?_)⟩
  rintro e w4 ⟨rfl, hb⟩
  replace W0 := chain W0 hb
  replace f4 := (hb.frozen (p := ⟨w.heap.size + 1 + 1 + 1, 0, none⟩) (World.block_lt_of_cell? _ _ k4)).trans f4
  replace k0 := (hb.cell (World.block_lt_of_cell? _ _ k0)).trans k0
  replace k1 := (hb.cell (World.block_lt_of_cell? _ _ k1)).trans k1
  replace k2 := (hb.cell (World.block_lt_of_cell? _ _ k2)).trans k2
  replace k3 := (hb.cell (World.block_lt_of_cell? _ _ k3)).trans k3
  replace k4 := (hb.cell (World.block_lt_of_cell? _ _ k4)).trans k4
  clear hb
  gi_wp2
  have hr := World.cell?_setCell_same _ ⟨w.heap.size + 1 + 1 + 1, 0, none⟩ (.bool true) k4
  have hBz := W0.setCell (p := ⟨w.heap.size + 1 + 1 + 1, 0, none⟩) (by simp; omega) (.bool true)
  clear k0 k1 k2 k3 k4 f4 W0
  refine ⟨.bool true, ?_, rfl, hBz⟩
  have hres : Tryd.f9.results = #[.cell 14 4] := by kernel_rfl
  simp only [results, hres]
  go_simp

theorem law_holds (F R a b c df dr : Int) (X : Nat) (hX64 : X < 18446744073709551616) (w : World) (hT : Tab w) :
    Calls Tryd.prog 9 #[.agg #[.int .i64 F, .int .i64 R], .int .i64 a, .int .i64 b, .int .i64 c, .int .u64 X, .int .i64 df, .int .i64 dr] w fun e w' => e = .returned (.bool true) ∧ Below w.heap.size w w' := by
  refine callsIn_wide.1 (?_ : CallsIn Fence.wide 6 _ _ _ _ _)
  by_cases ha : vat F R a
  · by_cases hb0 : vat F R b
    · by_cases hc : vat F R c
      · by_cases hX : X < 2 ^ (F * R).toNat
        · by_cases d0 : df < -8
          · exact holds_d0 F R a b c df dr X ha hb0 hc hX d0 w hT
          · by_cases d1 : 8 < df
            · exact holds_d1 F R a b c df dr X ha hb0 hc hX (by omega) d1 w hT
            · by_cases e0 : dr < -8
              · exact holds_e0 F R a b c df dr X ha hb0 hc hX (by omega) (by omega) e0 w hT
              · by_cases e1 : 8 < dr
                · exact holds_e1 F R a b c df dr X ha hb0 hc hX (by omega) (by omega) (by omega) e1 w hT
                · exact holds_in F R a b c df dr _ _ _ X _ _ ha hb0 hc hX (by omega) (by omega) (by omega) (by omega) rfl rfl rfl rfl rfl w hT
        · exact holds_x F R a b c df dr X ha hb0 hc hX64 hX w hT
      · exact holds_c F R a b c df dr X ha hb0 hc w hT
    · exact holds_b F R a b c df dr X ha hb0 w hT
  · exact holds_a F R a b c df dr X ha w hT

end Go.Proofs.YtnafnjchlomopaaDoor
