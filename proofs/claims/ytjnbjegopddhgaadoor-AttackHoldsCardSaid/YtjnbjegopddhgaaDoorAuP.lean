/- The squares between two squares, by the program. -/
import Derived.RangeFuncFrom
import Derived.Test.YtjnbjegopddhgaaDoorRpE
import Derived.Test.YtjnbjegopddhgaaDoorAuI
import Derived.Test.YtjnbjegopddhgaaDoorAuO
import Derived.Test.YtjnbjegopddhgaaDoorAuN

namespace Go.Proofs.YtjnbjegopddhgaaDoor
open Go.RowKit Go.Shelf
attribute [local go_sem] Oper.semAt_some

theorem setCell_heap (w : World) (p : Addr) (v : Value) {k : Nat} (h : p.block ≠ k) : (w.setCell p v).heap[k]? = w.heap[k]? := by
  exact Below.heap_setCell _ _ _ _ (fun e => h e.symm)
theorem bef_pre {L l : List Nat} {x : Nat} {b : Int} (h : l ++ [x] <+: L) (hne : ∀ i ∈ l, (i : Int) ≠ b) (hx : (x : Int) = b) : befL L b = l := by
  obtain ⟨t, rfl⟩ := h
  rw [bef_hit (k := l.length) (by simp) (fun j hj => by
    rw [List.getElem_append_left (by simp; omega), List.getElem_append_left hj]
    exact hne _ (List.getElem_mem hj)) (by simpa using hx)]
  rw [List.append_assoc, List.take_left' rfl]
set_option maxRecDepth 100000 in
set_option maxHeartbeats 2000000 in
theorem pBet_in (F R a b : Int) (ha : vat F R a) (hb : vat F R b) (hl : lineB F a b = true) (w : World) :
    CallsIn Fence.wide 6 Tryd.prog 87 #[.agg #[.int .i64 F, .int .i64 R], .int .i64 a, .int .i64 b] w fun e w' => e = .returned (.tuple #[.int .u64 (ofL (betL F R a b) : Int), .int .i64 0]) ∧ Below w.heap.size w w' := by
  have hv := ha.1
  have hD := pDir_yes F R a b ha hb
  rw [if_pos hl] at hD
  have HD := Lib.hid hD
  have hab : a ≠ b := by
    intro e
    unfold lineB at hl
    rw [e] at hl
    simp at hl
  have hdir := Lib.hid (dir_ne ha hb hab)
  have s0 := sg_bd (b % F - a % F)
  have s1 := sg_bd (b / F - a / F)
  have hbet : betL F R a b = befL (rayL F R (a % F) (a / F) (sg (b % F - a % F)) (sg (b / F - a / F))) b := rfl
  have hmem : b.toNat ∈ rayL F R (a % F) (a / F) (sg (b % F - a % F)) (sg (b / F - a / F)) := by
    obtain ⟨m, m8, hm, hP, hNb, _⟩ := line_ray ha hb hl
    obtain ⟨h1, h2⟩ := rayL_has m8 hP
    have : b.toNat = rayNum F (a % F) (a / F) (sg (b % F - a % F)) (sg (b / F - a / F)) m := by omega
    rw [this, ← h2]
    exact List.getElem_mem h1
  rw [hbet]
  generalize sg (b % F - a % F) = f at *
  generalize sg (b / F - a / F) = r at *
  have hRI : RayIs F R a f r (rayL F R (a % F) (a / F) f r) := .inl ⟨ha, hdir.out, rfl⟩
  have hb0 := hb.2.1
  have H64 := Lib.hid (fun pre : List (El (rayL F R (a % F) (a / F) f r)) => vl_64 hv (pre := pre))
  have HLT := Lib.hid (fun i hi => rayL_lt (F := F) (R := R) (x := a % F) (y := a / F) (f := f) (r := r) hv i hi)
  obtain ⟨m0, m1⟩ := vsz_mul hv
  generalize rayL F R (a % F) (a / F) f r = L at *
  have HM := Lib.hid hmem
  clear hbet hD ha hb hl hab hmem
  refine callsIn_of_wp_marks Tryd.func87 rfl trivial ?_ rfl
  simp only [Tryd.ntmps87, List.size_toArray, List.length_cons, List.length_nil, Nat.reduceAdd, Nat.reduceSub, Array.replicate_succ, Array.replicate_zero, List.push_toArray, List.append_toArray, List.nil_append, List.cons_append]
  gi_wp2_with fail
  refine ⟨trivial, callsIn_wide.2 ((HD.out _).mono ?_)⟩
  rintro e w1 ⟨rfl, hb1⟩
  have z1 := hb1.size
  simp at z1
  have a0 := hb1.cell (p := ⟨w.heap.size, 0, none⟩) (by simp; omega)
  have a1 := hb1.cell (p := ⟨w.heap.size, 1, none⟩) (by simp; omega)
  have a2 := hb1.cell (p := ⟨w.heap.size + 1, 0, none⟩) (by simp)
  simp [go_sem] at a0 a1 a2
  have hB1 : Below w.heap.size w w1 := by
    refine Below.trans ?_ (hb1.mono (by simp; omega))
    go_grown
  clear hb1
  have e0 := alive (.cells #[.int .u64 0] 30) a0
  have e1 := alive (.cells #[.int .u64 0] 30) a1
  have e2 := alive (.cells #[.int .u64 0] 30) a2
  have hB2 : Below w.heap.size w (w1.alloc (.cells #[.int .u64 0] 30)) := hB1.alloc hB1.size _
  gi_wp2_with fail
  refine ⟨trivial, callsIn_wide.2 ((pRay_any F R a f r _).mono ?_)⟩
  rintro e w2 ⟨rfl, rfl⟩
  gi_wp2_with fail
  obtain ⟨V, hV⟩ : ∃ V, ((((w1.alloc (.cells #[.int .u64 0] 30)).alloc (.cells #[.int .i64 F, .int .i64 R] 23)).alloc (.cells #[.int .i64 a] 3)).alloc (.cells #[.int .i64 f] 3)).alloc (.cells #[.int .i64 r] 3) = V := ⟨_, rfl⟩
  have v0 : V.cell? ⟨w1.heap.size, 0, none⟩ = some (.int .u64 ((ofL [] : Nat) : Int)) := by rw [← hV]; exact alive _ (alive _ (alive _ (alive _ (by simp [go_sem]; rfl))))
  have v1 : V.frozen? ⟨w1.heap.size, 0, none⟩ = false := by rw [← hV]; simp [go_sem]
  have v2 : V.cell? ⟨w.heap.size + 1, 0, none⟩ = some (.int .i64 b) := by rw [← hV]; exact alive _ (alive _ (alive _ (alive _ e2)))
  have x0 : V.cell? ⟨w1.heap.size + 1, 0, none⟩ = some (.int .i64 F) := by rw [← hV]; simp [go_sem]
  have x1 : V.cell? ⟨w1.heap.size + 1, 1, none⟩ = some (.int .i64 R) := by rw [← hV]; simp [go_sem]
  have x2 : V.cell? ⟨w1.heap.size + 1 + 1, 0, none⟩ = some (.int .i64 a) := by rw [← hV]; simp [go_sem]
  have x3 : V.cell? ⟨w1.heap.size + 1 + 1 + 1, 0, none⟩ = some (.int .i64 f) := by rw [← hV]; simp [go_sem]
  have x4 : V.cell? ⟨w1.heap.size + 1 + 1 + 1 + 1, 0, none⟩ = some (.int .i64 r) := by rw [← hV]; simp [go_sem]
  have hVs : V.heap.size = w1.heap.size + 5 := by rw [← hV]; simp
  have hVB : Below w.heap.size w V := by
    rw [← hV]
    refine (((hB2.alloc (by simp; omega) _).alloc (by simp; omega) _).alloc (by simp; omega) _).alloc (by simp; omega) _
  rw [hV]
  clear hV e0 e1 e2 hB2 a0 a1 a2
  apply wpIn_rangeFunc_ownF rfl (by omega) (gf := 96) (lb := #[.pointer (some ⟨w1.heap.size + 1, 0, none⟩), .pointer (some ⟨w1.heap.size + 1 + 1, 0, none⟩), .pointer (some ⟨w1.heap.size + 1 + 1 + 1, 0, none⟩), .pointer (some ⟨w1.heap.size + 1 + 1 + 1 + 1, 0, none⟩)]) rfl trivial (enters_of Tryd.func96 (by kernel_rfl) rfl)
    (ray_stops (6 - 1) (w1.heap.size + 1) w.heap.size F R a f r L hRI (by omega) (by omega) (by omega) (by omega) (by omega) V (by omega) (by omega) x0 x1 x2 x3 x4) kpR_t (kpR_b (by omega) (by omega)) (Below.refl _ _) (fun _ => rfl)
    (fun pre W => ((W.cell? ⟨w1.heap.size, 0, none⟩ = some (.int .u64 (ofL (vl pre) : Int)) ∧ W.frozen? ⟨w1.heap.size, 0, none⟩ = false ∧ W.cell? ⟨w.heap.size + 1, 0, none⟩ = some (.int .i64 b)) ∧ (w1.heap.size < W.heap.size ∧ Below w.heap.size w W)) ∧ (∀ i ∈ vl pre, (i : Int) ≠ b))
    (fun cc pre W => (W.cell? ⟨w1.heap.size, 0, none⟩ = some (.int .u64 (ofL (vl pre.dropLast) : Int)) ∧ (w1.heap.size < W.heap.size ∧ Below w.heap.size w W)) ∧ (cc = .exit 0 ∧ (∀ i ∈ vl pre.dropLast, (i : Int) ≠ b) ∧ ∃ q x, pre = q ++ [x] ∧ (x.1 : Int) = b))
    (OwnFrom.and (OwnFrom.and (Own.from (fun s A B row hs hg hr => ⟨cell_kept hs.1 hg hr, (frozen_kept hs.1 hg hr).trans hs.2.1, cell_kept hs.2.2 hg hr⟩) _) (OwnFrom.and (Own.from (fun s A B row hs hg hr => Nat.lt_of_lt_of_le hs hg.size) _) (ownFrom_below (Nat.le_refl _) (by omega)))) (ownFrom_pure _ _))
    (fun cc => OwnFrom.and (OwnFrom.and (ownFrom_cell _ _) (OwnFrom.and (Own.from (fun s A B row hs hg hr => Nat.lt_of_lt_of_le hs hg.size) _) (ownFrom_below (Nat.le_refl _) (by omega)))) (ownFrom_pure _ _))
    ⟨⟨⟨v0, v1, v2⟩, by omega, hVB⟩, fun i hi => by simp [vl] at hi⟩
  case hassign =>
    intro l x W K hK
    gi_wp2
    exact hK
  case hbody =>
    rintro l pre x W ⟨⟨⟨hS, hSf, hb⟩, hsz, hB⟩, hne⟩ hlen
    have HNE := Lib.hid hne
    clear hne hlen v0 v1 v2 x0 x1 x2 x3 x4 hVB
    have hx64 : x.1 < 64 := by have := HLT.out x.1 x.2; omega
    by_cases hxb : (x.1 : Int) = b
    · have t1 : ((x.1 : Int) == b) = true := by simp [hxb]
      gi_wp2
      exact ⟨keeps_below (Below.refl _ _), ⟨by rw [List.dropLast_concat]; exact hS, hsz, hB⟩, rfl, by rw [List.dropLast_concat]; exact HNE.out, pre, x, rfl, hxb⟩
    · have t1 : ((x.1 : Int) == b) = false := beq_eq_false_iff_ne.2 hxb
      have HX := Lib.hid hxb
      have HP := Lib.hid (or_bitN (ofL (vl pre)) x.1 (H64.out pre) hx64)
      have STEP : Hid (ownPostK (KpR w.heap.size (w1.heap.size + 1))
          (fun pre W => ((W.cell? ⟨w1.heap.size, 0, none⟩ = some (.int .u64 (ofL (vl pre) : Int)) ∧ W.frozen? ⟨w1.heap.size, 0, none⟩ = false ∧ W.cell? ⟨w.heap.size + 1, 0, none⟩ = some (.int .i64 b)) ∧ (w1.heap.size < W.heap.size ∧ Below w.heap.size w W)) ∧ (∀ i ∈ vl pre, (i : Int) ≠ b))
          (fun cc pre W => (W.cell? ⟨w1.heap.size, 0, none⟩ = some (.int .u64 (ofL (vl pre.dropLast) : Int)) ∧ (w1.heap.size < W.heap.size ∧ Below w.heap.size w W)) ∧ (cc = .exit 0 ∧ (∀ i ∈ vl pre.dropLast, (i : Int) ≠ b) ∧ ∃ q x, pre = q ++ [x] ∧ (x.1 : Int) = b))
          (pre ++ [x]) W .normal { tmps := #[], defers := [] }
          (W.setCell ⟨w1.heap.size, 0, none⟩ (.int .u64 (bits .or .u64 (ofL (vl pre)) (bitN x.1)))).drew) := by
        refine ⟨(KeepsOthers.setCell _ _ _).trans (KeepsOthers.drew _), ?_, ⟨⟨?_, ?_, ?_⟩, ?_, ?_⟩, ?_⟩
        · exact ⟨((Below.refl _ _).setCell (p := ⟨w1.heap.size, 0, none⟩) hB1.size _).drew, fun k h0 h1 => setCell_heap _ _ _ (by simp; omega)⟩
        · rw [vl_snoc, ofL_snoc, ← HP.out]
          exact World.cell?_setCell_same W ⟨w1.heap.size, 0, none⟩ _ hS
        · exact (World.frozen?_setCell ..).trans hSf
        · exact (World.cell?_setCell_other W ⟨w1.heap.size, 0, none⟩ ⟨w.heap.size + 1, 0, none⟩ _ (fun e => by injection e; omega)).trans hb
        · show w1.heap.size < (W.setCell _ _).heap.size
          simp
          omega
        · exact (hB.setCell (p := ⟨w1.heap.size, 0, none⟩) hB1.size _).drew
        · rw [vl_snoc]
          intro i hi
          rcases List.mem_append.1 hi with h | h
          · exact HNE.out i h
          · rw [List.mem_singleton.1 h]; exact HX.out
      clear HP hxb
      have hmx : Tryd.prog.follows .mixedOrders = true := by kernel_rfl
      gi_wp2
      gi_region_with_o (refine ⟨trivial, ?_⟩; gi_at_call 94; refine (CallsIn.inRound l (callsIn_wide.2 (pSingle_any _ (by omega) (by omega) _))).mono ?_; rintro e w4 ⟨rfl, rfl⟩)
      all_goals gi_wp2
      all_goals exact STEP.out
  case hdone =>
    rintro D ys W hD hys ⟨⟨⟨hS, _⟩, hsz, hB⟩, hne⟩ hK
    exfalso
    rw [← hys] at HM
    exact hne _ HM.out (by omega)
  case hstop =>
    rintro D cc pre W hD hpre ⟨⟨hS, hsz, hB⟩, rfl, hne, q, x, rfl, hxb⟩ hK
    rw [List.dropLast_concat] at hS hne
    have HE : Hid (befL L b = vl q) := Lib.hid (by
      rw [vl_snoc] at hpre
      exact bef_pre hpre hne hxb)
    clear hne hpre
    gi_wp2
    refine ⟨by simp, .inl ⟨_, _, rfl, run_takeDeferred hK, ?_⟩⟩
    exact ⟨_, results_tmp2 rfl _ _ _, by rw [HE.out]; rfl, hB.trans (belowK_b (Nat.le_refl _) W D _ _ (by omega) hK rfl rfl)⟩

/-- Between, where the squares are on a line. -/
theorem pBet_yes (F R a b : Int) (ha : vat F R a) (hb : vat F R b) (hl : lineB F a b = true) (w : World) :
    Calls Tryd.prog 87 #[.agg #[.int .i64 F, .int .i64 R], .int .i64 a, .int .i64 b] w fun e w' => e = .returned (.tuple #[.int .u64 (ofL (betL F R a b) : Int), .int .i64 0]) ∧ Below w.heap.size w w' :=
  callsIn_wide.1 (pBet_in F R a b ha hb hl w)
set_option maxRecDepth 100000 in
set_option maxHeartbeats 400000 in
theorem pBet_none (F R a b : Int) (ha : vat F R a) (hb : vat F R b) (hl : lineB F a b = false) (w : World) :
    Calls Tryd.prog 87 #[.agg #[.int .i64 F, .int .i64 R], .int .i64 a, .int .i64 b] w fun e w' => e = .returned (.tuple #[.int .u64 0, .int .i64 9]) ∧ Below w.heap.size w w' := by
  have hD := pDir_yes F R a b ha hb
  rw [if_neg (by simp [hl])] at hD
  have HD := Lib.hid hD
  clear hD
  go_enter Tryd.func87, Tryd.ntmps87
  go_wp2_with fail
  refine (HD.out _).mono ?_
  rintro e w1 ⟨rfl, hb1⟩
  go_wp2
  go_ret2
  exact ⟨rfl, after2 hb1⟩
set_option maxRecDepth 100000 in
set_option maxHeartbeats 400000 in
theorem pBet_no (F R a b : Int) (h : ¬ (vat F R a ∧ vat F R b)) (w : World) :
    Calls Tryd.prog 87 #[.agg #[.int .i64 F, .int .i64 R], .int .i64 a, .int .i64 b] w fun e w' => e = .returned (.tuple #[.int .u64 0, .int .i64 2]) ∧ Below w.heap.size w w' := by
  have HD := Lib.hid (pDir_no F R a b h)
  go_enter Tryd.func87, Tryd.ntmps87
  go_wp2_with fail
  refine (HD.out _).mono ?_
  rintro e w1 ⟨rfl, hb1⟩
  go_wp2
  go_ret2
  exact ⟨rfl, after2 hb1⟩

end Go.Proofs.YtjnbjegopddhgaaDoor

/- Attacks, by the program: the piece that a bishop, a rook or a queen pins, and its pin line. -/
namespace Go.Proofs.YtjnbjegopddhgaaDoor
open Go.RowKit

/-- the occupied squares between. -/
def onlyX (F R : Int) (l : List Int) (k i : Int) : Nat := ofL (betL F R k i) &&& ofL (occL l)
/-- a set without another one. -/
def lessX (X Y : Nat) : Nat := X &&& (18446744073709551615 - Y)
open Classical in
/-- what the program says of the pin by a piece. -/
noncomputable def pinA (F R : Int) (l : List Int) (k : Int) (bl : Bool) (q : Nat) (i : Nat) : Nat × Nat :=
  if lineB F k (i : Int) = true ∧ cntB 64 (onlyX F R l k i) = 1 ∧ onlyX F R l k i &&& sS l bl ≠ 0 ∧ k.toNat ∈ attL F R q (!bl) i (lessX (ofL (occL l)) (onlyX F R l k i)) then (onlyX F R l k i, lessX (ofL (betL F R k i)) (onlyX F R l k i) ||| bitN i) else (0, 0)

theorem lessX_lt {X Y m : Nat} (h : X < 2 ^ m) : lessX X Y < 2 ^ m := Nat.lt_of_le_of_lt Nat.and_le_left h
set_option maxRecDepth 100000 in
set_option maxHeartbeats 4000000 in
theorem aPin_any (F R k : Int) (l : List Int) (bl : Bool) (q i B : Nat) (hq : 1 ≤ q) (hq6 : q ≤ 6) (hb : vbd F R l) (hk : vat F R k) (hi : vat F R (i : Int)) (w : World) (hT : Tb w) (hF : Fld w B F R (sS l) (kS l)) :
    Calls Tryd.prog 71 #[.pointer (some ⟨B, 0, none⟩), .int .i64 k, .bool bl, .int .i8 q, .int .i64 i] w fun e w' => e = .returned (.tuple #[.int .u64 ((pinA F R l k bl q i).1 : Nat), .int .u64 ((pinA F R l k bl q i).2 : Nat)]) ∧ Below w.heap.size w w' := by
  have hlen : l.length ≤ 64 := by have := (vsz_mul hb.1).2; have := hb.2.1; omega
  have hi64 : i < 64 := by have := (vsz_mul hb.1).2; have := hi.2.2; omega
  have hk64 : 0 ≤ k ∧ k < 64 := by have := (vsz_mul hb.1).2; have := hk.2; omega
  have hX64 := occ_full hb
  have hXX := x64 hb.1 hX64
  have HO := Lib.hid (fun w h1 h2 => aOcc_any B (sS l false) (sS l true) (idx_64 _ l hlen) (idx_64 _ l hlen) w h1 h2)
  rw [occ_or] at HO
  have hbt : ofL (betL F R k i) < 18446744073709551616 := by
    have := ofL_lt (l := betL F R k i) (n := 64) (betL_lt hb.1 k i)
    simpa using this
  have HF0 := Lib.hid hF
  have HT := Lib.hid hT
  obtain ⟨r1, hr1⟩ : ∃ r, (pinA F R l k bl q i).1 = r := ⟨_, rfl⟩
  obtain ⟨r2, hr2⟩ : ∃ r, (pinA F R l k bl q i).2 = r := ⟨_, rfl⟩
  rw [hr1, hr2]
  cases hl : lineB F k (i : Int)
  · have HB := Lib.hid (fun w => pBet_none F R k i hk hi hl w)
    have e1 : r1 = 0 := by rw [← hr1]; unfold pinA; rw [if_neg (by rw [hl]; simp)]
    have e2 : r2 = 0 := by rw [← hr2]; unfold pinA; rw [if_neg (by rw [hl]; simp)]
    subst e1 e2
    have c0 := hF.1.1
    have c1 := hF.1.2
    clear hb hk hi hr1 hr2 hl hF
    go_enter Tryd.func71, Tryd.ntmps71
    go_wp2_with fail
    refine (HB.out _).mono ?_
    rintro e w1 ⟨rfl, hb1⟩
    have hF1 := HF0.out.below hb1
    go_wp2_with fail
    refine (HO.out _ (hF1.2.1 false) (hF1.2.1 true)).mono ?_
    rintro e w2 ⟨rfl, hb2⟩
    have hB2 := chain hb1 hb2
    clear hb1 hb2 hF1
    go_wp2
    go_ret2
    exact ⟨rfl, hB2⟩
  · have HB := Lib.hid (fun w => pBet_yes F R k i hk hi hl w)
    have hY : bits .and .u64 (ofL (betL F R k i) : Int) (ofL (occL l) : Int) = (onlyX F R l k i : Int) := u64_and_nat _ _ hbt hXX
    have hYlt : onlyX F R l k i < 18446744073709551616 := Nat.lt_of_le_of_lt Nat.and_le_left hbt
    have HA := Lib.hid (fun w hT h0 h1 => aAtt_any F R i q (!bl) B (lessX (ofL (occL l)) (onlyX F R l k i)) hq hq6 hi (lessX_lt hX64) w hT h0 h1)
    have hZ : bits .andNot .u64 (ofL (occL l) : Int) (onlyX F R l k i : Int) = (lessX (ofL (occL l)) (onlyX F R l k i) : Int) := u64_andNot_nat _ _ hXX hYlt
    have hU : bits .andNot .u64 (ofL (betL F R k i) : Int) (onlyX F R l k i : Int) = (lessX (ofL (betL F R k i)) (onlyX F R l k i) : Int) := u64_andNot_nat _ _ hbt hYlt
    have hUlt : lessX (ofL (betL F R k i)) (onlyX F R l k i) < 18446744073709551616 := Nat.lt_of_le_of_lt Nat.and_le_left hbt
    have hUo := or_bitN _ i hUlt hi64
    have HAL := attL_64 (F := F) (R := R) hb.1 q (!bl) i (lessX (ofL (occL l)) (onlyX F R l k i))
    have HH := has_in _ k HAL hk64.1 hk64.2
    rw [ofL_bit] at HH
    have HS := Lib.hid (aSide_any B bl)
    have HON := Lib.hid (ones_any _ hYlt)
    have hOwn : bits .and .u64 (onlyX F R l k i : Int) (sS l bl : Int) = ((onlyX F R l k i &&& sS l bl : Nat) : Int) := u64_and_nat _ _ hYlt (idx_64 _ l hlen)
    have HSI := Lib.hid (fun w => aSingle_any i (by omega) (by omega) w)
    unfold pinA at hr1 hr2
    rw [hl] at hr1 hr2
    simp only [true_and] at hr1 hr2
    generalize onlyX F R l k i = Y at *
    generalize lessX (ofL (occL l)) Y = Z at *
    generalize lessX (ofL (betL F R k i)) Y = U at *
    generalize ofL (betL F R k i) = bt at *
    generalize ofL (occL l) = X at *
    have HYY := Lib.hid hY
    have HUU := Lib.hid hU
    have HZZ := Lib.hid hZ
    have HOO := Lib.hid hOwn
    have HUO := Lib.hid hUo
    have c0 := hF.1.1
    have c1 := hF.1.2
    clear hb hi hl hF hY hU hZ hOwn hUo hYlt hX64 hXX hlen hUlt hbt
    by_cases h1 : cntB 64 Y = 1
    · rw [h1] at HON
      by_cases h2 : Y &&& sS l bl = 0
      · have e1 : r1 = 0 := by rw [← hr1, if_neg (by rintro ⟨_, h, _⟩; exact h h2)]
        have e2 : r2 = 0 := by rw [← hr2, if_neg (by rintro ⟨_, h, _⟩; exact h h2)]
        subst e1 e2
        have hz : bits .and .u64 (Y : Int) (sS l bl : Int) = 0 := by rw [HOO.out, h2]; rfl
        have HZ0 := Lib.hid hz
        clear hr1 hr2 h1 h2 hz
        go_enter Tryd.func71, Tryd.ntmps71
        go_wp2_with fail
        refine (HB.out _).mono ?_
        rintro e w1 ⟨rfl, hb1⟩
        have hF1 := HF0.out.below hb1
        go_wp2_with fail
        refine (HO.out _ (hF1.2.1 false) (hF1.2.1 true)).mono ?_
        rintro e w2 ⟨rfl, hb2⟩
        have hB2 := chain hb1 hb2
        have hF2 := HF0.out.below hB2
        have d := hF2.2.1 bl
        have hY := HYY.out
        have hz := HZ0.out
        clear hb1 hb2 hF1
        go_wp2_with fail
        refine (HON.out _).mono ?_
        rintro e w3 ⟨rfl, rfl⟩
        go_wp2_with fail
        refine (HS.out _).mono ?_
        rintro e w3 ⟨rfl, rfl⟩
        go_wp2
        go_ret2
        exact ⟨rfl, hB2⟩
      · have hnz : (((Y &&& sS l bl : Nat) : Int) == 0) = false := beq_eq_false_iff_ne.2 (by omega)
        generalize Y &&& sS l bl = O at *
        cases h3 : decide (k.toNat ∈ attL F R q (!bl) i Z)
        · have hn3 : k.toNat ∉ attL F R q (!bl) i Z := by simpa using h3
          have e1 : r1 = 0 := by rw [← hr1, if_neg (by rintro ⟨_, _, h⟩; exact hn3 h)]
          have e2 : r2 = 0 := by rw [← hr2, if_neg (by rintro ⟨_, _, h⟩; exact hn3 h)]
          subst e1 e2
          rw [h3] at HH
          have HH2 := Lib.hid HH
          generalize ofL (attL F R q (!bl) i Z) = T at *
          clear hr1 hr2 h1 h2 h3 hn3 HH HAL
          go_enter Tryd.func71, Tryd.ntmps71
          go_wp2_with fail
          refine (HB.out _).mono ?_
          rintro e w1 ⟨rfl, hb1⟩
          have hF1 := HF0.out.below hb1
          go_wp2_with fail
          refine (HO.out _ (hF1.2.1 false) (hF1.2.1 true)).mono ?_
          rintro e w2 ⟨rfl, hb2⟩
          have hB2 := chain hb1 hb2
          have hF2 := HF0.out.below hB2
          have d := hF2.2.1 bl
          have hY := HYY.out
          have hO := HOO.out
          have hZ := HZZ.out
          clear hb1 hb2 hF1
          go_wp2_with fail
          refine (HON.out _).mono ?_
          rintro e w3 ⟨rfl, rfl⟩
          go_wp2_with fail
          refine (HS.out _).mono ?_
          rintro e w3 ⟨rfl, rfl⟩
          go_wp2_with fail
          refine (HO.out _ (hF2.2.1 false) (hF2.2.1 true)).mono ?_
          rintro e w3 ⟨rfl, hb3⟩
          have hB3 := chain hB2 hb3
          have hF3 := HF0.out.below hB3
          go_wp2_with fail
          refine (HA.out _ (HT.out.below hB3) hF3.1.1 hF3.1.2).mono ?_
          rintro e w4 ⟨rfl, hb4⟩
          have hB4 := chain hB3 hb4
          clear hb3 hb4 hF2 hF3 d
          go_wp2_with fail
          refine (HH2.out _).mono ?_
          rintro e w5 ⟨rfl, rfl⟩
          go_wp2
          go_ret2
          exact ⟨rfl, hB4⟩
        · have hn3 : k.toNat ∈ attL F R q (!bl) i Z := by simpa using h3
          have e1 : r1 = Y := by rw [← hr1, if_pos ⟨h1, h2, hn3⟩]
          have e2 : r2 = U ||| bitN i := by rw [← hr2, if_pos ⟨h1, h2, hn3⟩]
          subst e1 e2
          rw [h3] at HH
          have HH2 := Lib.hid HH
          generalize ofL (attL F R q (!bl) i Z) = T at *
          clear hr1 hr2 h1 h2 h3 hn3 HH HAL
          go_enter Tryd.func71, Tryd.ntmps71
          go_wp2_with fail
          refine (HB.out _).mono ?_
          rintro e w1 ⟨rfl, hb1⟩
          have hF1 := HF0.out.below hb1
          go_wp2_with fail
          refine (HO.out _ (hF1.2.1 false) (hF1.2.1 true)).mono ?_
          rintro e w2 ⟨rfl, hb2⟩
          have hB2 := chain hb1 hb2
          have hF2 := HF0.out.below hB2
          have d := hF2.2.1 bl
          have hY := HYY.out
          have hO := HOO.out
          have hZ := HZZ.out
          have hU := HUU.out
          clear hb1 hb2 hF1
          go_wp2_with fail
          refine (HON.out _).mono ?_
          rintro e w3 ⟨rfl, rfl⟩
          go_wp2_with fail
          refine (HS.out _).mono ?_
          rintro e w3 ⟨rfl, rfl⟩
          go_wp2_with fail
          refine (HO.out _ (hF2.2.1 false) (hF2.2.1 true)).mono ?_
          rintro e w3 ⟨rfl, hb3⟩
          have hB3 := chain hB2 hb3
          have hF3 := HF0.out.below hB3
          go_wp2_with fail
          refine (HA.out _ (HT.out.below hB3) hF3.1.1 hF3.1.2).mono ?_
          rintro e w4 ⟨rfl, hb4⟩
          have hB4 := chain hB3 hb4
          clear hb3 hb4 hF2 hF3 d
          go_wp2_with fail
          refine (HH2.out _).mono ?_
          rintro e w5 ⟨rfl, rfl⟩
          go_wp2_with fail
          refine (HSI.out _).mono ?_
          rintro e w5 ⟨rfl, rfl⟩
          go_wp2
          go_ret2
          refine ⟨?_, hB4⟩
          have h := HUO.out
          rw [h]
          rfl
    · have hne : (((cntB 64 Y : Nat) : Int) != 1) = true := by rw [bne_iff_ne]; omega
      have e1 : r1 = 0 := by rw [← hr1, if_neg (by rintro ⟨h, _⟩; exact h1 h)]
      have e2 : r2 = 0 := by rw [← hr2, if_neg (by rintro ⟨h, _⟩; exact h1 h)]
      subst e1 e2
      generalize cntB 64 Y = n at *
      clear hr1 hr2 h1
      go_enter Tryd.func71, Tryd.ntmps71
      go_wp2_with fail
      refine (HB.out _).mono ?_
      rintro e w1 ⟨rfl, hb1⟩
      have hF1 := HF0.out.below hb1
      go_wp2_with fail
      refine (HO.out _ (hF1.2.1 false) (hF1.2.1 true)).mono ?_
      rintro e w2 ⟨rfl, hb2⟩
      have hB2 := chain hb1 hb2
      have hY := HYY.out
      clear hb1 hb2 hF1
      go_wp2_with fail
      refine (HON.out _).mono ?_
      rintro e w3 ⟨rfl, rfl⟩
      go_wp2
      go_ret2
      exact ⟨rfl, hB2⟩

end Go.Proofs.YtjnbjegopddhgaaDoor

/- Attacks, by the program: the iterator over the pins of a side. -/
namespace Go.Proofs.YtjnbjegopddhgaaDoor
open Go.RowKit Go.Shelf Go.Sort Go.BigFrame
attribute [local go_sem] Oper.semAt_some

section
variable (F R : Int) (l : List Int) (k : Int) (bl : Bool)
/-- the pins by some pieces of a kind. -/
noncomputable def pinsQ (q : Nat) (zs : List Nat) : List (Nat × Nat) := zs.filterMap fun i => if (pinA F R l k bl q i).1 = 0 then none else some (pinA F R l k bl q i)
noncomputable def pinsTo : Nat → List (Nat × Nat)
  | 0 => []
  | m + 1 => pinsTo m ++ pinsQ F R l k bl (m + 3) (listOf (kS l (!bl) (m + 3)))
abbrev PE := { p : Nat × Nat // p ∈ pinsTo F R l k bl 3 }
end
section
variable {F R : Int} {l : List Int} {k : Int} {bl : Bool}
theorem pinsQ_nil (q : Nat) : pinsQ F R l k bl q [] = [] := rfl
theorem pinsQ_no {q : Nat} {zs : List Nat} {i : Nat} (h : (pinA F R l k bl q i).1 = 0) : pinsQ F R l k bl q (zs ++ [i]) = pinsQ F R l k bl q zs := by
  unfold pinsQ
  rw [List.filterMap_append]
  simp [h]
theorem pinsQ_yes {q : Nat} {zs : List Nat} {i : Nat} (h : (pinA F R l k bl q i).1 ≠ 0) : pinsQ F R l k bl q (zs ++ [i]) = pinsQ F R l k bl q zs ++ [pinA F R l k bl q i] := by
  unfold pinsQ
  rw [List.filterMap_append]
  simp [h]
theorem pinsQ_pre {q : Nat} {zs zs' : List Nat} (h : zs <+: zs') : pinsQ F R l k bl q zs <+: pinsQ F R l k bl q zs' := by
  obtain ⟨t, rfl⟩ := h
  unfold pinsQ
  rw [List.filterMap_append]
  exact ⟨_, rfl⟩
theorem pinsTo_pre : ∀ {m : Nat}, m ≤ 3 → pinsTo F R l k bl m <+: pinsTo F R l k bl 3 := by
  intro m hm
  have h1 : ∀ m, pinsTo F R l k bl m <+: pinsTo F R l k bl (m + 1) := fun m => ⟨_, rfl⟩
  have : m = 0 ∨ m = 1 ∨ m = 2 ∨ m = 3 := by omega
  rcases this with rfl | rfl | rfl | rfl
  · exact List.nil_prefix
  · exact (h1 1).trans (h1 2)
  · exact h1 2
  · exact List.prefix_refl _
/-- what has come with one piece more is a part of all. -/
theorem pins_part {m : Nat} (hm : m < 3) {zs : List Nat} (h : zs <+: listOf (kS l (!bl) (m + 3))) : pinsTo F R l k bl m ++ pinsQ F R l k bl (m + 3) zs <+: pinsTo F R l k bl 3 :=
  ((List.prefix_append_right_inj _).2 (pinsQ_pre h)).trans (pinsTo_pre (m := m + 1) (by omega))
end
theorem roundIn_any {m m' : Nat} {P : Program} {r l : Nat} {f : FuncId} {tmps : Array Value} {assign body : Code} {w : World} {Q : Ending → World → Prop} (h : RoundIn Fence.wide m P l f tmps assign body w Q) : RoundIn (Fence.wide.inRound r) m' P l f tmps assign body w Q :=
  ⟨trivial, fun c cs _ => h.2 c cs (room_wide _)⟩
/-- the squares of a set, for a loop whose word hangs on whatever lay before. -/
theorem each_O (n b S n₀ X : Nat) (hn : 1 ≤ n) (hX : X < 18446744073709551616) (w : World) (hb : b < w.heap.size) (hw : n₀ ≤ w.heap.size) (h1 : 0 + 1 ≤ n₀) (hS : n₀ ≤ S) (hc : w.cell? ⟨b, 0, none⟩ = some (.int .u64 X)) (hT : Tab w) :
    SeqO n Tryd.prog 65 #[.pointer (some ⟨b, 0, none⟩)] (fun x : Sq X => #[Value.int .i64 (x.1 : Int)]) S (fun ys => vals ys = listOf X) (fun pre => vals pre <+: listOf X) (listOf X).length w := fun l J Jx W hW _ _ hY h0 =>
  (each1_in n l b n₀ X hn hX (fun pre W => J pre W ∧ n₀ ≤ W.heap.size) Jx (fun pre x W1 hj hlen => by
    obtain ⟨fn, tmps, assign, body, hy, hR⟩ := hY pre x W1 hj.1 hlen
    refine ⟨fn, tmps, assign, body, hy, hR.mono ?_⟩
    rintro e W' (⟨rfl, h2, h3⟩ | ⟨rfl, h2, _⟩)
    · exact .inl ⟨rfl, ⟨h2, Nat.le_trans hj.2 h3.size⟩, h3.below hS hj.2⟩
    · exact .inr ⟨rfl, h2⟩) W ((hW.cell (p := ⟨b, 0, none⟩) hb).trans hc) (hT.below hW hT.1) h1 ⟨h0, Nat.le_trans hw hW.size⟩).mono fun e W' ⟨hv, h⟩ => ⟨hv, h.imp (fun ⟨ys, h2, h3⟩ => ⟨ys, h2, h3.1⟩) id⟩
/-- what hangs on whatever lay before, behind a call that lays new memory. -/
theorem OwnFrom.below {β : Type} {B : Nat} {I : β → World → Prop} (h : OwnFrom B I) {s : β} {W W' : World} (hs : I s W) (hb : Below W.heap.size W W') : I s W' := h s W W' none hs (below_grown hb) (fun r e => by cases e)
theorem OwnFrom.upto {β : Type} {B B' : Nat} {I : β → World → Prop} (h : OwnFrom B I) (hB : B ≤ B') : OwnFrom B' I := fun s W W' row hs hg hr => h s W W' row hs hg (fun r e => ⟨Nat.le_trans hB (hr r e).1, (hr r e).2⟩)
theorem leaves_own {Fe : Fence} {n : Nat} {P : Program} {fn : Func} {tmps : Array Value} {Rr : Ending → World → Prop} {n₀ : Nat} {β : Type} {I : β → World → Prop} (hI : OwnFrom n₀ I) (s : β) : ∀ (Ds : List Nat) (w : World), MarksAt n₀ Ds w → I s w → (∀ w', I s w' → LeavesIn Fe n P fn tmps Rr [] .returning w') → LeavesInM Fe n P fn tmps Rr (marks Ds) .returning w
  | [], w, _, hs, h => h w hs
  | D :: Ds, w, hM, hs, h => by
    have hD := hM.2 D (by simp)
    refine ⟨by simp, .inl ⟨D, _, rfl, run_takeDeferred hD.2, ?_⟩⟩
    refine leaves_own hI s Ds _ ⟨(List.nodup_cons.1 hM.1).2, fun E hE => ?_⟩ (hI.putObj _ hs hD.1 hD.2 rfl) h
    have hE2 := hM.2 E (by simp [hE])
    have hne : E ≠ D := by rintro rfl; exact (List.nodup_cons.1 hM.1).1 hE
    exact ⟨hE2.1, (World.putObj_heap_other (fun e => hne (by omega))).trans hE2.2⟩
theorem marksAt_own {n₀ B : Nat} {Ds : List Nat} {β : Type} (h : ∀ D ∈ Ds, D < B) : OwnFrom B (fun (_ : β) W => MarksAt n₀ Ds W) := fun _ W W' row hs hg hr =>
  ⟨hs.1, fun D hD => ⟨(hs.2 D hD).1, (hg.block D (hs.lt hD) (fun e => by have := (hr D e.symm).1; have := h D hD; omega)).trans (hs.2 D hD).2⟩⟩
theorem ix3_0 (v0 v1 v2 : Int) (w : World) : (Instr.index 101 (.agg #[.int .i8 v0, .int .i8 v1, .int .i8 v2]) (.int .i64 0)).run Tryd.prog w = .ok (.int .i8 v0) w := by kernel_rfl
theorem ix3_1 (v0 v1 v2 : Int) (w : World) : (Instr.index 101 (.agg #[.int .i8 v0, .int .i8 v1, .int .i8 v2]) (.int .i64 1)).run Tryd.prog w = .ok (.int .i8 v1) w := by kernel_rfl
theorem ix3_2 (v0 v1 v2 : Int) (w : World) : (Instr.index 101 (.agg #[.int .i8 v0, .int .i8 v1, .int .i8 v2]) (.int .i64 2)).run Tryd.prog w = .ok (.int .i8 v2) w := by kernel_rfl

end Go.Proofs.YtjnbjegopddhgaaDoor
