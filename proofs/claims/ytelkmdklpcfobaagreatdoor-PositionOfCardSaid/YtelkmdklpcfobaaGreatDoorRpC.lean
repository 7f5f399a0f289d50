/- The program's own functions of lines: single squares, sets of the board, directions of pawns; its ray, an iterator that gives the squares of the document's ray, as far as the loop takes them. -/
import Derived.RangeFuncNested
import Derived.RangeFuncBound
import Derived.RangeFuncCalls
import Derived.RangeFuncLeaves
import Derived.Shelf.Abstract
import Derived.WalkKit
import Derived.OwnWalkIn
import Derived.TacticsInMore
import Derived.LoopNIn
import Derived.LoopIn
import Derived.Sort.QuietThIn
import Derived.Sort.QuietTacIn
import Derived.Sort.BigQuietIn
import Derived.Test.YtelkmdklpcfobaaGreatDoorBdD
import Derived.Test.YtelkmdklpcfobaaGreatDoorRyD
import Derived.Test.YtelkmdklpcfobaaGreatDoorRyG

namespace Go.Proofs.YtelkmdklpcfobaaGreatDoor
open Go.RowKit Go.Shelf
attribute [local go_sem] Oper.semAt_some

set_option maxRecDepth 100000 in
set_option maxHeartbeats 400000 in
theorem pSingle_any (n : Int) (h0 : 0 ≤ n) (h1 : n < 64) (w : World) :
    Calls Tryz.prog 199 #[.int .i64 n] w fun e w' => e = .returned (.int .u64 (bitN n.toNat : Int)) ∧ w = w' := by
  have E := Lib.hid (pow_wrap n h1)
  go_enter Tryz.func199, Tryz.ntmps199
  go_wp2
  go_ret
  exact ⟨ret_int E.out, rfl⟩

set_option maxRecDepth 100000 in
set_option maxHeartbeats 400000 in
theorem pIsSet_yes (F R : Int) (X : Nat) (hX : X < 18446744073709551616) (hv : vsz F R) (w : World) :
    Calls Tryz.prog 190 #[.agg #[.int .i64 F, .int .i64 R], .int .u64 X] w fun e w' => e = .returned (.bool (decide (X < 2 ^ (F * R).toNat))) ∧ Below w.heap.size w w' := by
  obtain ⟨m0, m1⟩ := vsz_mul hv
  have hn := andNot_full X (F * R).toNat hX (by omega)
  have hq : (bits .andNot .u64 (X : Int) (fullN (F * R).toNat : Int) == 0) = decide (X < 2 ^ (F * R).toNat) := by
    rw [bne] at hn
    cases h : (bits .andNot .u64 (X : Int) (fullN (F * R).toNat : Int) == 0)
    · rw [h] at hn; revert hn; cases decide (X < 2 ^ (F * R).toNat) <;> simp
    · rw [h] at hn; revert hn; cases decide (X < 2 ^ (F * R).toNat) <;> simp
  have HQ := Lib.hid hq
  clear hq hn
  go_enter Tryz.func190, Tryz.ntmps190
  go_wp2_with fail
  refine (all_yes _ _ hv _).mono ?_
  rintro e w1 ⟨rfl, hb⟩
  go_wp2
  go_ret
  exact ⟨ret_bool HQ.out, after1 hb⟩

theorem pForward_any (b : Bool) (w : World) : Calls Tryz.prog 188 #[.bool b] w fun e w' => e = .returned (.int .i64 (fwd b)) ∧ w = w' := by
  cases b
  all_goals
    go_enter Tryz.func188, Tryz.ntmps188
    go_wp2
    go_ret
    exact ⟨rfl, rfl⟩
theorem pRay_any (F R a f r : Int) (w : World) :
    Calls Tryz.prog 198 #[.agg #[.int .i64 F, .int .i64 R], .int .i64 a, .int .i64 f, .int .i64 r] w fun e w' => e = .returned (.func (.func 201) #[] #[.pointer (some ⟨w.heap.size, 0, none⟩), .pointer (some ⟨w.heap.size + 1, 0, none⟩), .pointer (some ⟨w.heap.size + 1 + 1, 0, none⟩), .pointer (some ⟨w.heap.size + 1 + 1 + 1, 0, none⟩)]) ∧ w' = (((w.alloc (.cells #[.int .i64 F, .int .i64 R] 23)).alloc (.cells #[.int .i64 a] 3)).alloc (.cells #[.int .i64 f] 3)).alloc (.cells #[.int .i64 r] 3) := by
  go_enter Tryz.func198, Tryz.ntmps198
  go_wp2
  go_ret
  exact ⟨rfl, rfl⟩

/-- the list of a ray's squares: the document's ray, or nothing. -/
def RayIs (F R a f r : Int) (L : List Nat) : Prop := (vat F R a ∧ ¬ (f = 0 ∧ r = 0) ∧ L = rayL F R (a % F) (a / F) f r) ∨ (vat F R a ∧ f = 0 ∧ r = 0 ∧ L = []) ∨ (¬ vat F R a ∧ L = [])
abbrev El (L : List Nat) := { i : Nat // i ∈ L }
def vl {L : List Nat} (l : List (El L)) : List Nat := l.map (·.1)
theorem vl_snoc {L : List Nat} (l : List (El L)) (x : El L) : vl (l ++ [x]) = vl l ++ [x.1] := by simp [vl]
theorem vl_len {L : List Nat} (l : List (El L)) : (vl l).length = l.length := by simp [vl]
theorem vl_nil {L : List Nat} : vl ([] : List (El L)) = [] := rfl

theorem tw_pre (P : Nat → Bool) (m n : Nat) (hm : m ≤ n) (h : ∀ j, j < m → P j = true) : List.range m <+: (List.range n).takeWhile P := by
  have e : List.range n = List.range' 0 m ++ List.range' m (n - m) := by
    rw [List.range_eq_range']
    have := List.range'_append (s := 0) (m := m) (n := n - m) (step := 1)
    simp at this
    rw [this]
    congr 1
    omega
  rw [e, List.takeWhile_append, tw_all P m 0 (fun j hj => by simpa using h j hj)]
  simp
  rw [List.range_eq_range']
  exact ⟨_, rfl⟩
theorem rayL_pre {F R x y f r : Int} {m : Nat} (hm : m ≤ 8) (h : ∀ j, j < m → rayP F R x y f r j = true) : (List.range m).map (rayNum F x y f r) <+: rayL F R x y f r := by
  obtain ⟨t, ht⟩ := tw_pre (rayP F R x y f r) m 8 hm h
  unfold rayL
  rw [← ht, List.map_append]
  exact ⟨_, rfl⟩
theorem rayL_mem {F R x y f r : Int} {k : Nat} (hk : k < 8) (h : ∀ j, j < k + 1 → rayP F R x y f r j = true) : rayNum F x y f r k ∈ rayL F R x y f r := by
  refine (rayL_pre (m := k + 1) (by omega) h).subset ?_
  rw [List.mem_map]
  exact ⟨k, by simp, rfl⟩
theorem step_le {k x f F : Int} (hF : F ≤ 8) (x0 : 0 ≤ x) (x1 : x < F) (h0 : 0 ≤ x + k * f) (h1 : x + k * f < F) (hf : f ≠ 0) : k ≤ 7 := by
  apply Int.not_lt.1
  intro hk
  rcases Int.lt_or_gt_of_ne hf with h | h
  · have := Int.mul_le_mul_of_nonneg_left (a := f) (b := -1) (c := k) (by omega) (by omega)
    omega
  · have := Int.mul_le_mul_of_nonneg_left (a := 1) (b := f) (c := k) (by omega) (by omega)
    omega
theorem wrap_on {F c f : Int} (hF : F ≤ 8) (c0 : 0 ≤ c) (c1 : c < F) (f0 : -9223372036854775808 ≤ f) (f1 : f ≤ 9223372036854775807) : (0 ≤ c + f ∧ c + f < F) ↔ (0 ≤ IntKind.i64.wrap (c + f) ∧ IntKind.i64.wrap (c + f) < F) := by
  rw [IntKind.wrap_i64]; omega
theorem below_grown {w w' : World} (h : Below w.heap.size w w') : w.grownBy w' none := ⟨h.os, h.tape, h.output, h.size, fun k hk _ => h.block k hk⟩

end Go.Proofs.YtelkmdklpcfobaaGreatDoor

/- The program's ray, an iterator: it gives the squares of the document's ray in order, as far as the loop takes them, and may be used again. -/
namespace Go.Proofs.YtelkmdklpcfobaaGreatDoor
open Go.RowKit Go.Shelf
attribute [local go_sem] Oper.semAt_some

/-- what a round keeps: all below n₀, and the four boxes that the iterator reads. -/
def KpR (n₀ b : Nat) (W W' : World) : Prop := Below n₀ W W' ∧ ∀ k, b ≤ k → k < b + 4 → W'.heap[k]? = W.heap[k]?
theorem KpR.trans {n₀ b : Nat} {A B C : World} (h : KpR n₀ b A B) (k : KpR n₀ b B C) : KpR n₀ b A C := ⟨h.1.trans k.1, fun i h0 h1 => (k.2 i h0 h1).trans (h.2 i h0 h1)⟩
theorem KpR.refl (n₀ b : Nat) (A : World) : KpR n₀ b A A := ⟨Below.refl _ _, fun _ _ _ => rfl⟩
theorem KpR.cell {n₀ b : Nat} {A B : World} (h : KpR n₀ b A B) {p : Addr} (h0 : b ≤ p.block) (h1 : p.block < b + 4) : B.cell? p = A.cell? p := World.cell?_of_block (h.2 _ h0 h1)
theorem KpR.of {n₀ b : Nat} {A B : World} (h : Below A.heap.size A B) (hn : n₀ ≤ A.heap.size) (hb : b + 4 ≤ A.heap.size) : KpR n₀ b A B := ⟨h.mono hn, fun k _ h1 => h.block k (by omega)⟩
theorem kpR_t {n₀ b : Nat} {A B C : World} (h : KpR n₀ b A B) (k : KpR n₀ b B C) : KpR n₀ b A C := h.trans k
theorem kpR_b {n₀ b : Nat} {w : World} (hn : n₀ ≤ w.heap.size) (hb : b + 4 ≤ w.heap.size) (W : World) (l : Nat) (o o' : Obj) (hl : w.heap.size ≤ l) (h : W.heap[l]? = some o) (h1 : o.isCells = false) (h2 : o.isWalk = false) : KpR n₀ b W (W.putObj l o') :=
  ⟨belowK_b hn W l o o' hl h h1 h2, fun k _ hk => World.putObj_heap_other (fun e => by omega)⟩

set_option maxRecDepth 100000 in
set_option maxHeartbeats 2000000 in
theorem ray1_in (n l b n₀ : Nat) (F R a f r : Int) (L : List Nat) (hL : RayIs F R a f r L) (hn : 1 ≤ n) (f0 : -9223372036854775808 ≤ f) (f1 : f ≤ 9223372036854775807) (r0 : -9223372036854775808 ≤ r) (r1 : r ≤ 9223372036854775807) (J Jx : List (El L) → World → Prop)
    (hJd : ∀ pre W W', J pre W → W.grownBy W' none → J pre W') (hJn : ∀ pre W q, J pre W → J pre (W.drewN q))
    (hY : ∀ pre x W, J pre W → pre.length < L.length → YieldAt Fence.wide (n - 1) Tryz.prog l #[.int .i64 (x.1 : Int)] W fun e W' =>
      (e = .returned (.bool true) ∧ J (pre ++ [x]) W' ∧ KpR n₀ b W W') ∨ (e = .returned (.bool false) ∧ Jx (pre ++ [x]) W'))
    (W : World) (hn0 : n₀ ≤ W.heap.size) (hb : b + 4 ≤ W.heap.size) (c0 : W.cell? ⟨b, 0, none⟩ = some (.int .i64 F)) (c1 : W.cell? ⟨b, 1, none⟩ = some (.int .i64 R)) (ca : W.cell? ⟨b + 1, 0, none⟩ = some (.int .i64 a)) (cf : W.cell? ⟨b + 1 + 1, 0, none⟩ = some (.int .i64 f)) (cr : W.cell? ⟨b + 1 + 1 + 1, 0, none⟩ = some (.int .i64 r)) (h0 : J [] W) :
    CallsIn Fence.wide n Tryz.prog 201 #[.func (.yield l) #[] #[], .pointer (some ⟨b, 0, none⟩), .pointer (some ⟨b + 1, 0, none⟩), .pointer (some ⟨b + 1 + 1, 0, none⟩), .pointer (some ⟨b + 1 + 1 + 1, 0, none⟩)] W fun e W' => (∃ v, e = .returned v) ∧
      ((∃ ys, vl ys = L ∧ J ys W') ∨ (∃ pre, vl pre <+: L ∧ Jx pre W')) := by
  refine callsIn_of_wp Tryz.func201 rfl trivial ?_ rfl
  simp only [Tryz.ntmps201, List.size_toArray, List.length_cons, List.length_nil, Nat.reduceAdd, Nat.reduceSub, Array.replicate_succ, Array.replicate_zero, List.push_toArray, List.append_toArray, List.nil_append, List.cons_append]
  rcases hL with ⟨ha, hd, hL⟩ | ⟨ha, rfl, rfl, hL⟩ | ⟨ha, hL⟩
  · obtain ⟨p0, p1, p2, p3⟩ := place_bd ha.1 ha.2.1 ha.2.2
    have hF8 := ha.1.2.1
    have hR8 := ha.1.2.2.2
    have hv := ha.1
    have HLL := Lib.hid hL
    clear hL
    have HPL := Lib.hid (placeX_yes F R a ha)
    obtain ⟨x, hx⟩ : ∃ x, a % F = x := ⟨_, rfl⟩
    obtain ⟨y, hy⟩ : ∃ y, a / F = y := ⟨_, rfl⟩
    rw [hx, hy] at HLL HPL
    rw [hx] at p0 p1
    rw [hy] at p2 p3
    have hg : ((f == 0) = false) ∨ ((f == 0) = true ∧ (r == 0) = false) := by
      by_cases h : f = 0
      · exact .inr ⟨by simp [h], beq_eq_false_iff_ne.2 (fun e => hd ⟨h, e⟩)⟩
      · exact .inl (beq_eq_false_iff_ne.2 h)
    have HD := Lib.hid hd
    have HV := Lib.hid hv
    have HY := Lib.hid hY
    have HJ := Lib.hid hJd
    have HJN := Lib.hid hJn
    clear hx hy hd ha hv hY hJd hJn
    rcases hg with g1 | ⟨g1, g2⟩
    all_goals
      gi_wp2_with fail
      refine ⟨trivial, callsIn_wide.2 ((HPL.out _).mono ?_)⟩
      rintro e w1 ⟨rfl, hB1⟩
      have s1 := hB1.size
      have k0 := (hB1.cell (p := ⟨b, 0, none⟩) (World.block_lt_of_cell? _ _ c0)).trans c0
      have k1 := (hB1.cell (p := ⟨b, 1, none⟩) (World.block_lt_of_cell? _ _ c1)).trans c1
      have kf := (hB1.cell (p := ⟨b + 1 + 1, 0, none⟩) (World.block_lt_of_cell? _ _ cf)).trans cf
      have kr := (hB1.cell (p := ⟨b + 1 + 1 + 1, 0, none⟩) (World.block_lt_of_cell? _ _ cr)).trans cr
      have j1 : J [] w1 := HJ.out _ _ _ h0 (below_grown hB1)
      clear c0 c1 ca cf cr h0
      gi_wp2
      gi_loopw [6, 7] (fun u v wr => ∃ (k : Nat) (cx cy : Int) (pre : List (El L)), k < 8 ∧ u = .int .i64 cx ∧ v = .int .i64 cy ∧ Hid (cx = x + (k : Int) * f ∧ cy = y + (k : Int) * r) ∧ (0 ≤ cx ∧ cx < F) ∧ (0 ≤ cy ∧ cy < R) ∧ Hid (∀ j, j < k → rayP F R x y f r j = true) ∧ Hid (vl pre = (List.range k).map (rayNum F x y f r)) ∧ J pre wr ∧ KpR n₀ b w1 wr)
        (fun u v _ => (if 0 < f then F - intOf u else if f < 0 then intOf u + 1 else if 0 < r then R - intOf v else intOf v + 1).toNat)
      case atStart => exact ⟨0, x, y, [], by omega, rfl, rfl, Lib.hid (by simp), ⟨p0, p1⟩, ⟨p2, p3⟩, Lib.hid (fun j hj => by omega), Lib.hid rfl, j1, KpR.refl _ _ _⟩
      case round =>
        obtain ⟨k, cx, cy, pre, hk, rfl, rfl, HC, ⟨x0, x1⟩, ⟨y0, y1⟩, HP, HPR, hJs, hB⟩ := hrel
        have d0 := (hB.cell (p := ⟨b, 0, none⟩) (by simp) (by simp)).trans k0
        have d1 := (hB.cell (p := ⟨b, 1, none⟩) (by simp) (by simp)).trans k1
        have df := (hB.cell (p := ⟨b + 1 + 1, 0, none⟩) (by simp; omega) (by simp)).trans kf
        have dr := (hB.cell (p := ⟨b + 1 + 1 + 1, 0, none⟩) (by simp; omega) (by simp)).trans kr
        have hsz := hB.1.size
        clear k0 k1 kf kr
        have hox := wrap_on hF8 x0 x1 f0 f1
        have hoy := wrap_on hR8 y0 y1 r0 r1
        have hpk : rayP F R x y f r k = true ↔ onb F R (cx + f) (cy + r) := by
          unfold rayP
          rw [onB_iff, HC.out.1, HC.out.2, Int.add_mul, Int.add_mul, Int.one_mul, Int.one_mul, Int.add_assoc, Int.add_assoc]
        have hnk : (rayNum F x y f r k) = ((cy + r) * F + (cx + f)).toNat := by
          unfold rayNum
          rw [HC.out.1, HC.out.2, Int.add_mul (k : Int) 1 f, Int.add_mul (k : Int) 1 r, Int.one_mul, Int.one_mul, Int.add_assoc, Int.add_assoc]
        have hxo : 0 ≤ cx + f → cx + f < F → IntKind.i64.wrap (cx + f) = cx + f := fun _ _ => IntWalk.i64_in _ (by omega)
        have hyo : 0 ≤ cy + r → cy + r < R → IntKind.i64.wrap (cy + r) = cy + r := fun _ _ => IntWalk.i64_in _ (by omega)
        obtain ⟨wx, hwx⟩ : ∃ wx, IntKind.i64.wrap (cx + f) = wx := ⟨_, rfl⟩
        obtain ⟨wy, hwy⟩ : ∃ wy, IntKind.i64.wrap (cy + r) = wy := ⟨_, rfl⟩
        rw [hwx] at hox hxo
        rw [hwy] at hoy hyo
        have HOX := Lib.hid (And.intro hox hxo)
        have HOY := Lib.hid (And.intro hoy hyo)
        have HPK := Lib.hid (And.intro hpk hnk)
        clear hox hxo hoy hyo hpk hnk
        gi_wp2
        gi_quiet_th (fail)
        clear hwx hwy
        have hJq := HJN.out _ _ nq hJs
        have hBq : KpR n₀ b w1 (wr.drewN nq) := ⟨⟨hB.1.os, hB.1.tape, hB.1.output, hB.1.size, hB.1.block⟩, hB.2⟩
        have q0 : (wr.drewN nq).cell? ⟨b, 0, none⟩ = some (.int .i64 F) := d0
        have q1 : (wr.drewN nq).cell? ⟨b, 1, none⟩ = some (.int .i64 R) := d1
        have hqs : n₀ ≤ (wr.drewN nq).heap.size ∧ b + 4 ≤ (wr.drewN nq).heap.size := by show n₀ ≤ wr.heap.size ∧ b + 4 ≤ wr.heap.size; omega
        clear d0 d1 df dr hJs hB
        generalize wr.drewN nq = wq at *
        cases hp : rayP F R x y f r k
        · have hno : ¬ onb F R wx wy := fun ho => by
            have e : onb F R (cx + f) (cy + r) := ⟨(HOX.out.1.2 ⟨ho.1, ho.2.1⟩).1, (HOX.out.1.2 ⟨ho.1, ho.2.1⟩).2, (HOY.out.1.2 ⟨ho.2.2.1, ho.2.2.2⟩).1, (HOY.out.1.2 ⟨ho.2.2.1, ho.2.2.2⟩).2⟩
            rw [HPK.out.1.2 e] at hp
            cases hp
          have HE : Hid (vl pre = L) := Lib.hid (by rw [HPR.out, HLL.out, rayL_stop hk HP.out hp])
          gi_wp2_with fail
          refine ⟨trivial, callsIn_wide.2 ((at_off F R wx wy HV.out hno _).mono ?_)⟩
          rintro e w2 ⟨rfl, hB2⟩
          have j2 := HJ.out _ _ _ hJq (below_grown hB2)
          gi_wp2
          refine ⟨fun _ h => (by cases h), ?_⟩
          gi_wp2
          refine bodyPost_ret (results_none rfl _ _ _) rfl ?_
          exact ⟨⟨_, rfl⟩, .inl ⟨pre, HE.out, j2⟩⟩
        · have ho := HPK.out.1.1 hp
          obtain ⟨o0, o1, o2, o3⟩ := id ho
          have ex := HOX.out.2 o0 o1
          have ey := HOY.out.2 o2 o3
          obtain ⟨n0, n1, n2, n3, n4⟩ := number_bd HV.out o0 o1 o2 o3
          have hat : ∀ w, Calls Tryz.prog 202 #[.agg #[.int .i64 F, .int .i64 R], .int .i64 wx, .int .i64 wy] w fun e w' => e = .returned (.tuple #[.int .i64 ((rayNum F x y f r k : Nat) : Int), .int .i64 0]) ∧ Below w.heap.size w w' := fun w => by
            have h := at_yes F R (cx + f) (cy + r) HV.out ho w
            rw [HPK.out.2, ex, ey]
            have e2 : (((cy + r) * F + (cx + f)).toNat : Int) = (cx + f) + (cy + r) * F := by omega
            rw [e2]
            exact h
          have hF2 : ∀ j, j < k + 1 → rayP F R x y f r j = true := fun j hj => by
            by_cases e : j = k
            · rw [e]; exact hp
            · exact HP.out j (by omega)
          have HF2 := Lib.hid hF2
          have hmem : rayNum F x y f r k ∈ L := by rw [HLL.out]; exact rayL_mem hk hF2
          have HPX : Hid (vl (pre ++ [⟨rayNum F x y f r k, hmem⟩]) = (List.range (k + 1)).map (rayNum F x y f r)) := Lib.hid (by rw [vl_snoc, HPR.out, List.range_succ, List.map_append]; rfl)
          have hpre : (List.range (k + 1)).map (rayNum F x y f r) <+: L := by rw [HLL.out]; exact rayL_pre (by omega) hF2
          have HPF : Hid (vl (pre ++ [⟨rayNum F x y f r k, hmem⟩]) <+: L) := Lib.hid (by rw [HPX.out]; exact hpre)
          have hlen : pre.length < L.length := by
            have h1 := congrArg List.length HPR.out
            rw [vl_len] at h1
            have h2 := hpre.length_le
            simp at h1 h2
            omega
          have HAT := Lib.hid hat
          have EX := Lib.hid ex
          have EY := Lib.hid ey
          clear hat hF2 hpre ex ey n0 n1 n2 n3 n4 hp
          have hk7 : k + 1 < 8 := by
            have c1 : cx + f = x + ((k : Int) + 1) * f := by rw [HC.out.1, Int.add_mul, Int.one_mul, Int.add_assoc]
            have c2 : cy + r = y + ((k : Int) + 1) * r := by rw [HC.out.2, Int.add_mul, Int.one_mul, Int.add_assoc]
            by_cases hf : f = 0
            · have hr : r ≠ 0 := fun e => HD.out ⟨hf, e⟩
              have := step_le (k := (k : Int) + 1) (f := r) hR8 p2 p3 (by omega) (by omega) hr
              omega
            · have := step_le (k := (k : Int) + 1) (f := f) hF8 p0 p1 (by omega) (by omega) hf
              omega
          gi_wp2_with fail
          refine ⟨trivial, callsIn_wide.2 ((HAT.out _).mono ?_)⟩
          rintro e w2 ⟨rfl, hB2⟩
          have j2 := HJ.out _ _ _ hJq (below_grown hB2)
          have hYx := Lib.hid (HY.out pre ⟨rayNum F x y f r k, hmem⟩ w2 j2 hlen)
          have hB3 : KpR n₀ b w1 w2 := hBq.trans (KpR.of hB2 hqs.1 hqs.2)
          obtain ⟨fn, tmps, assign, body, hy, hR⟩ := hYx.out
          clear hYx
          gi_wp2
          refine hR.mono ?_
          rintro e W3 (⟨rfl, hJ3, hk3⟩ | ⟨rfl, hJx3⟩)
          · gi_wp2
            go_roundw
            case rel => exact ⟨k + 1, cx + f, cy + r, _, hk7, by rw [EX.out], by rw [EY.out], Lib.hid ⟨by rw [HC.out.1, Int.natCast_add, Int.add_mul]; simp [Int.add_assoc], by rw [HC.out.2, Int.natCast_add, Int.add_mul]; simp [Int.add_assoc]⟩, ⟨o0, o1⟩, ⟨o2, o3⟩, HF2, HPX, hJ3, hB3.trans hk3⟩
            case measure =>
              have e1 := EX.out
              have e2 := EY.out
              have hfr : f ≠ 0 ∨ r ≠ 0 := by
                by_cases h : f = 0
                · exact .inr (fun e => HD.out ⟨h, e⟩)
                · exact .inl h
              simp only [intOf]
              split <;> (try split) <;> (try split) <;> omega
          · gi_wp2
            refine bodyPost_ret (results_none rfl _ _ _) rfl ?_
            exact ⟨⟨_, rfl⟩, .inr ⟨_, HPF.out, hJx3⟩⟩
  · have HPL := Lib.hid (placeX_yes F R a ha)
    gi_wp2_with fail
    refine ⟨trivial, callsIn_wide.2 ((HPL.out _).mono ?_)⟩
    rintro e w1 ⟨rfl, hB1⟩
    have kf := (hB1.cell (p := ⟨b + 1 + 1, 0, none⟩) (World.block_lt_of_cell? _ _ cf)).trans cf
    have kr := (hB1.cell (p := ⟨b + 1 + 1 + 1, 0, none⟩) (World.block_lt_of_cell? _ _ cr)).trans cr
    have j1 : J [] w1 := hJd _ _ _ h0 (below_grown hB1)
    gi_wp2
    refine bodyPost_ret (results_none rfl _ _ _) rfl ?_
    exact ⟨⟨_, rfl⟩, .inl ⟨[], hL.symm, j1⟩⟩
  · have HPL := Lib.hid (placeX_no F R a ha)
    gi_wp2_with fail
    refine ⟨trivial, callsIn_wide.2 ((HPL.out _).mono ?_)⟩
    rintro e w1 ⟨rfl, hB1⟩
    have j1 : J [] w1 := hJd _ _ _ h0 (below_grown hB1)
    gi_wp2
    refine bodyPost_ret (results_none rfl _ _ _) rfl ?_
    exact ⟨⟨_, rfl⟩, .inl ⟨[], hL.symm, j1⟩⟩

theorem ray_stops (n b n₀ : Nat) (F R a f r : Int) (L : List Nat) (hL : RayIs F R a f r L) (hn : 1 ≤ n) (f0 : -9223372036854775808 ≤ f) (f1 : f ≤ 9223372036854775807) (r0 : -9223372036854775808 ≤ r) (r1 : r ≤ 9223372036854775807)
    (w : World) (hn0 : n₀ ≤ w.heap.size) (hb : b + 4 ≤ w.heap.size) (c0 : w.cell? ⟨b, 0, none⟩ = some (.int .i64 F)) (c1 : w.cell? ⟨b, 1, none⟩ = some (.int .i64 R)) (ca : w.cell? ⟨b + 1, 0, none⟩ = some (.int .i64 a)) (cf : w.cell? ⟨b + 1 + 1, 0, none⟩ = some (.int .i64 f)) (cr : w.cell? ⟨b + 1 + 1 + 1, 0, none⟩ = some (.int .i64 r)) :
    SeqStopsK Fence.wide n Tryz.prog 201 #[.pointer (some ⟨b, 0, none⟩), .pointer (some ⟨b + 1, 0, none⟩), .pointer (some ⟨b + 1 + 1, 0, none⟩), .pointer (some ⟨b + 1 + 1 + 1, 0, none⟩)] (fun x : El L => #[Value.int .i64 (x.1 : Int)]) (KpR n₀ b) (fun ys => vl ys = L) (fun pre => vl pre <+: L) L.length w := fun l J Jx W hW hJ _ hY h0 =>
  ray1_in n l b n₀ F R a f r L hL hn f0 f1 r0 r1 J Jx (fun pre A B hj hg => hJ pre A B none hj hg (fun r e => by cases e)) (fun pre A q hj => hJ pre A (A.drewN q) none hj ⟨rfl, rfl, rfl, Nat.le_refl _, fun _ _ _ => rfl⟩ (fun r e => by cases e)) hY W (Nat.le_trans hn0 hW.size) (Nat.le_trans hb hW.size)
    ((hW.cell (p := ⟨b, 0, none⟩) (by simp; omega)).trans c0) ((hW.cell (p := ⟨b, 1, none⟩) (by simp; omega)).trans c1) ((hW.cell (p := ⟨b + 1, 0, none⟩) (by simp; omega)).trans ca) ((hW.cell (p := ⟨b + 1 + 1, 0, none⟩) (by simp; omega)).trans cf) ((hW.cell (p := ⟨b + 1 + 1 + 1, 0, none⟩) (by simp; omega)).trans cr) h0

end Go.Proofs.YtelkmdklpcfobaaGreatDoor

/- The direction from a square to another one, by the program. -/
namespace Go.Proofs.YtelkmdklpcfobaaGreatDoor
open Go.RowKit

def cheb (d q : Int) : Int := max (max (-d) d) (max (-q) q)
theorem dist_cheb (F a b : Int) : dist F a b = cheb (b % F - a % F) (b / F - a / F) := by unfold dist cheb; omega
def lineD (d q : Int) : Bool := (d == 0) || (q == 0) || (d == q) || (d + q == 0)
theorem dir_dec : ∀ i : Fin 15, ∀ j : Fin 15, cheb ((i.1 : Int) - 7) ((j.1 : Int) - 7) ≠ 0 →
    (((Int.tmod ((i.1 : Int) - 7) (cheb ((i.1 : Int) - 7) ((j.1 : Int) - 7)) != 0) || (Int.tmod ((j.1 : Int) - 7) (cheb ((i.1 : Int) - 7) ((j.1 : Int) - 7)) != 0)) = !lineD ((i.1 : Int) - 7) ((j.1 : Int) - 7)) ∧
    (lineD ((i.1 : Int) - 7) ((j.1 : Int) - 7) = true → Int.tdiv ((i.1 : Int) - 7) (cheb ((i.1 : Int) - 7) ((j.1 : Int) - 7)) = sg ((i.1 : Int) - 7) ∧ Int.tdiv ((j.1 : Int) - 7) (cheb ((i.1 : Int) - 7) ((j.1 : Int) - 7)) = sg ((j.1 : Int) - 7)) := by decide +kernel
theorem dir_any {d q : Int} (d0 : -7 ≤ d) (d1 : d ≤ 7) (q0 : -7 ≤ q) (q1 : q ≤ 7) (h : cheb d q ≠ 0) :
    (((Int.tmod d (cheb d q) != 0) || (Int.tmod q (cheb d q) != 0)) = !lineD d q) ∧ (lineD d q = true → Int.tdiv d (cheb d q) = sg d ∧ Int.tdiv q (cheb d q) = sg q) := by
  have := dir_dec ⟨(d + 7).toNat, by omega⟩ ⟨(q + 7).toNat, by omega⟩
  simp only [show (((d + 7).toNat : Nat) : Int) - 7 = d by omega, show (((q + 7).toNat : Nat) : Int) - 7 = q by omega] at this
  exact this h

end Go.Proofs.YtelkmdklpcfobaaGreatDoor
