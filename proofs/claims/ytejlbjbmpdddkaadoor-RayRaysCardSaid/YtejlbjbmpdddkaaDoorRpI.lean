/- The program's steps of pawns. -/
import Derived.Sort.CutIn
import Derived.Test.YtejlbjbmpdddkaaDoorRpH
namespace Go.Proofs.YtejlbjbmpdddkaaDoor
open Go.RowKit Go.Shelf Go.Sort
attribute [local go_sem] Oper.semAt_some

def stepsR (L : List Nat) (X left : Nat) : List Nat := (L.takeWhile (fun i => !X.testBit i)).take left
theorem stepsR_done {L : List Nat} {X left : Nat} (h : ∀ i ∈ L, X.testBit i = false) (hl : L.length ≤ left) : stepsR L X left = L := by
  unfold stepsR
  have e : L.takeWhile (fun i => !X.testBit i) = L := by
    have := List.takeWhile_append_of_pos (p := fun i => !X.testBit i) (l₁ := L) (l₂ := []) (by intro i hi; simp [h i hi])
    simpa using this
  rw [e, List.take_of_length_le hl]
theorem stepsR_stop {l L : List Nat} {x X left : Nat} (hp : l ++ [x] <+: L) (h : ∀ i ∈ l, X.testBit i = false) (hl : l.length ≤ left) (hx : l.length = left ∨ X.testBit x = true) : stepsR L X left = l := by
  obtain ⟨t, rfl⟩ := hp
  unfold stepsR
  rw [List.append_assoc, List.takeWhile_append_of_pos (by intro i hi; simp [h i hi])]
  rcases hx with hx | hx
  · rw [List.take_left' hx]
  · rw [List.singleton_append, List.takeWhile_cons, if_neg (by simp [hx]), List.append_nil, List.take_of_length_le hl]
theorem wpIn_only {Fe : Fence} {n : Nat} {P : Program} {c : Code} {K : Act → World → Prop} {Q' : Exit → Act → World → Prop} {a : Act} {w : World} (h : c.wpIn Fe n P (Exit.then K (fun _ _ _ => False)) a w) : c.wpIn Fe n P (Exit.then K Q') a w := by
  refine wpIn_mono h ?_
  intro e a w h
  cases e <;> first | exact h | exact h.elim
def leftOf (R y : Int) (bl : Bool) : Nat := if 6 ≤ R ∧ y = scd R bl then 2 else 1

set_option maxRecDepth 100000 in
set_option maxHeartbeats 4000000 in
theorem pSteps_in (F R a : Int) (bl : Bool) (ha : vat F R a) (X : Nat) (hX : X < 2 ^ (F * R).toNat) (w : World) :
    CallsIn Fence.wide 6 Tryd.prog 21 #[.agg #[.int .i64 F, .int .i64 R], .bool bl, .int .i64 a, .int .u64 X] w fun e w' => e = .returned (.tuple #[.int .u64 (ofL (stepsR (rayL F R (a % F) (a / F) 0 (fwd bl)) X (leftOf R (a / F) bl)) : Int), .int .i64 0]) ∧ Below w.heap.size w w' := by
  have hv := ha.1
  have hX64 := x64 hv hX
  have HSE := Lib.hid (pIsSet_yes F R X hX64 hv)
  have HB : decide (X < 2 ^ (F * R).toNat) = true := by simp [hX]
  rw [HB] at HSE
  have HPL := Lib.hid (placeX_yes F R a ha)
  have HSC := Lib.hid (pSecond_any F R bl ⟨hv.2.2.1, hv.2.2.2⟩)
  have HFW := Lib.hid (pForward_any bl)
  have hu := fwd_bd bl
  have hr3 := hv.2.2.1
  have hr8 := hv.2.2.2
  have hRI : RayIs F R a 0 (fwd bl) (rayL F R (a % F) (a / F) 0 (fwd bl)) := .inl ⟨ha, fun h => by omega, rfl⟩
  have H64 := Lib.hid (fun pre : List (El (rayL F R (a % F) (a / F) 0 (fwd bl))) => vl_64 hv (pre := pre))
  have HLT := Lib.hid (fun i hi => rayL_lt (F := F) (R := R) (x := a % F) (y := a / F) (f := 0) (r := fwd bl) hv i hi)
  obtain ⟨m0, m1⟩ := vsz_mul hv
  generalize rayL F R (a % F) (a / F) 0 (fwd bl) = L at *
  generalize fwd bl = up at *
  obtain ⟨x, hx⟩ : ∃ x, a % F = x := ⟨_, rfl⟩
  obtain ⟨y, hy⟩ : ∃ y, a / F = y := ⟨_, rfl⟩
  rw [hx, hy] at HPL
  rw [hy]
  obtain ⟨lf, hlf⟩ : ∃ lf, leftOf R y bl = lf := ⟨_, rfl⟩
  rw [hlf]
  unfold leftOf at hlf
  generalize scd R bl = sc at *
  have HLF := Lib.hid hlf
  clear hlf hx hy ha HB hX
  obtain ⟨tb, htb⟩ : ∃ tb, (decide (6 ≤ R) && (y == sc)) = tb := ⟨_, rfl⟩
  have hl2 : lf = if tb = true then 2 else 1 := by
    rw [← htb, ← HLF.out]
    simp
  have HL2 := Lib.hid hl2
  have hlf2 : lf ≤ 2 := by rw [hl2]; split <;> omega
  clear hl2
  have H3 : ((R ≥ 6) ∧ ((y == sc) = tb)) ∨ (R < 6 ∧ Hid (tb = false)) := by
    by_cases h6 : 6 ≤ R
    · exact .inl ⟨h6, by rw [← htb]; simp [h6]⟩
    · exact .inr ⟨by omega, Lib.hid (by rw [← htb]; simp [h6])⟩
  clear htb HLF
  refine callsIn_of_wp_marks Tryd.func21 rfl trivial ?_ rfl
  simp only [Tryd.ntmps21, List.size_toArray, List.length_cons, List.length_nil, Nat.reduceAdd, Nat.reduceSub, Array.replicate_succ, Array.replicate_zero, List.push_toArray, List.append_toArray, List.nil_append, List.cons_append]
  gi_wp2_with fail
  refine ⟨trivial, callsIn_wide.2 ((HPL.out _).mono ?_)⟩
  rintro e w1 ⟨rfl, hb1⟩
  have s1 := hb1.size
  simp at s1
  have a0 := hb1.cell (p := ⟨w.heap.size, 0, none⟩) (by simp; omega)
  have a1 := hb1.cell (p := ⟨w.heap.size, 1, none⟩) (by simp; omega)
  have a2 := hb1.cell (p := ⟨w.heap.size + 1, 0, none⟩) (by simp)
  simp [go_sem] at a0 a1 a2
  have hB1 : Below w.heap.size w w1 := by
    refine Below.trans ?_ (hb1.mono (by simp; omega))
    go_grown
  clear hb1
  gi_wp2_with fail
  refine ⟨trivial, callsIn_wide.2 ((HSE.out _).mono ?_)⟩
  rintro e w2 ⟨rfl, hb1⟩
  have s2 := hb1.size
  have b0 := (hb1.cell (p := ⟨w.heap.size, 0, none⟩) (by simp; omega)).trans a0
  have b1 := (hb1.cell (p := ⟨w.heap.size, 1, none⟩) (by simp; omega)).trans a1
  have b2 := (hb1.cell (p := ⟨w.heap.size + 1, 0, none⟩) (by simp; omega)).trans a2
  have hB2 := chain hB1 hb1
  clear hb1 a0 a1 a2 hB1
  have e0 := alive (.cells #[.int .i64 1] 3) b0
  have e1 := alive (.cells #[.int .i64 1] 3) b1
  have e2 := alive (.cells #[.int .i64 1] 3) b2
  gi_upto_region 5 with fail
  gi_cut [13, 40] from 31 (fun s13 s40 wx => s13 = .pointer (some ⟨w2.heap.size, 0, none⟩) ∧ s40 = .bool tb ∧ wx.cell? ⟨w2.heap.size, 0, none⟩ = some (.int .i64 1) ∧ wx.frozen? ⟨w2.heap.size, 0, none⟩ = false ∧ wx.cell? ⟨w.heap.size, 0, none⟩ = some (.int .i64 F) ∧ wx.cell? ⟨w.heap.size, 1, none⟩ = some (.int .i64 R) ∧ wx.cell? ⟨w.heap.size + 1, 0, none⟩ = some (.int .u64 X) ∧ Below w.heap.size w wx ∧ w2.heap.size < wx.heap.size)
  case first =>
    have e3 : (w2.alloc (.cells #[.int .i64 1] 3)).cell? ⟨w2.heap.size, 0, none⟩ = some (.int .i64 1) := by simp [go_sem]
    have e4 : (w2.alloc (.cells #[.int .i64 1] 3)).frozen? ⟨w2.heap.size, 0, none⟩ = false := by simp [go_sem]
    have hs3 : (w2.alloc (.cells #[.int .i64 1] 3)).heap.size = w2.heap.size + 1 := by simp
    have hB3 : Below w.heap.size w (w2.alloc (.cells #[.int .i64 1] 3)) := hB2.alloc hB2.size _
    have hsz := hB2.size
    rcases H3 with ⟨h6, hys⟩ | ⟨h6, htb⟩
    · gi_wp2_with fail
      refine ⟨trivial, callsIn_wide.2 ((HSC.out _).mono ?_)⟩
      rintro e w3 ⟨rfl, hb3⟩
      rw [hs3] at hb3
      gi_wp2_with fail
      gi_meet
      exact ⟨rfl, rfl, (hb3.cell (p := ⟨w2.heap.size, 0, none⟩) (by simp)).trans e3, (hb3.frozen (p := ⟨w2.heap.size, 0, none⟩) (by simp)).trans e4, (hb3.cell (p := ⟨w.heap.size, 0, none⟩) (by simp; omega)).trans e0, (hb3.cell (p := ⟨w.heap.size, 1, none⟩) (by simp; omega)).trans e1, (hb3.cell (p := ⟨w.heap.size + 1, 0, none⟩) (by simp; omega)).trans e2, hB3.trans (hb3.mono (by omega)), by have := hb3.size; omega⟩
    · gi_wp2_with fail
      refine ⟨trivial, ?_⟩
      gi_wp2_with fail
      gi_meet
      exact ⟨rfl, by rw [htb.out], e3, e4, e0, e1, e2, hB3, by omega⟩
  case rest =>
    obtain ⟨rfl, rfl, c3, c4, c0, c1, c2, hB3, hs3⟩ := hcut
    gi_upto_if 40 with fail
    gi_cut [13] from 41 (fun s13 wx => s13 = .pointer (some ⟨w2.heap.size, 0, none⟩) ∧ wx.cell? ⟨w2.heap.size, 0, none⟩ = some (.int .i64 (lf : Nat)) ∧ wx.frozen? ⟨w2.heap.size, 0, none⟩ = false ∧ wx.cell? ⟨w.heap.size, 0, none⟩ = some (.int .i64 F) ∧ wx.cell? ⟨w.heap.size, 1, none⟩ = some (.int .i64 R) ∧ wx.cell? ⟨w.heap.size + 1, 0, none⟩ = some (.int .u64 X) ∧ Below w.heap.size w wx ∧ w2.heap.size < wx.heap.size)
    case first =>
      cases tb
      · gi_wp2_with fail
        gi_meet
        exact ⟨rfl, by rw [HL2.out]; simpa using c3, c4, c0, c1, c2, hB3, hs3⟩
      · gi_wp2_with fail
        gi_meet
        have hn2 := hB2.size
        exact ⟨rfl, by rw [World.cell?_setCell_same _ _ _ c3, HL2.out]; rfl, (World.frozen?_setCell ..).trans c4, (World.cell?_setCell_far _ _ _ _ (by simp; omega)).trans c0, (World.cell?_setCell_far _ _ _ _ (by simp; omega)).trans c1, (World.cell?_setCell_far _ _ _ _ (by simp; omega)).trans c2, hB3.setCell (p := ⟨w2.heap.size, 0, none⟩) hn2 _, by simp; omega⟩
    case rest =>
      obtain ⟨rfl, d3, d4, d0, d1, d2, hB4, hs4⟩ := hcut
      gi_wp2_with fail
      have z0 := alive (.cells #[.int .u64 0] 32) d0
      have z1 := alive (.cells #[.int .u64 0] 32) d1
      have z2 := alive (.cells #[.int .u64 0] 32) d2
      have z3 := alive (.cells #[.int .u64 0] 32) d3
      have z4 : (wc.alloc (.cells #[.int .u64 0] 32)).frozen? ⟨w2.heap.size, 0, none⟩ = false := by
        have := (box1 wc (.cells #[.int .u64 0] 32)).frozen (p := ⟨w2.heap.size, 0, none⟩) hs4
        exact this.trans d4
      have z5 : (wc.alloc (.cells #[.int .u64 0] 32)).cell? ⟨wc.heap.size, 0, none⟩ = some (.int .u64 ((ofL [] : Nat) : Int)) := by simp [go_sem]; rfl
      have z6 : (wc.alloc (.cells #[.int .u64 0] 32)).frozen? ⟨wc.heap.size, 0, none⟩ = false := by simp [go_sem]
      have hBz : Below w.heap.size w (wc.alloc (.cells #[.int .u64 0] 32)) := hB4.alloc hB4.size _
      have hsz : (wc.alloc (.cells #[.int .u64 0] 32)).heap.size = wc.heap.size + 1 := by simp
      generalize wc.alloc (.cells #[.int .u64 0] 32) = Z at *
      have hs5 : w2.heap.size < wc.heap.size := hs4
      generalize wc.heap.size = S2 at *
      have hmx : Tryd.prog.follows .mixedOrders = true := by kernel_rfl
      clear d0 d1 d2 d3 d4
      gi_cut [45] from 41 (fun s45 wx => s45 = .func (.func 26) #[] #[.pointer (some ⟨S2 + 1, 0, none⟩), .pointer (some ⟨S2 + 1 + 1, 0, none⟩), .pointer (some ⟨S2 + 1 + 1 + 1, 0, none⟩), .pointer (some ⟨S2 + 1 + 1 + 1 + 1, 0, none⟩)] ∧
        wx = ((((Z.alloc (.cells #[.int .i64 F, .int .i64 R] 23)).alloc (.cells #[.int .i64 a] 3)).alloc (.cells #[.int .i64 0] 3)).alloc (.cells #[.int .i64 up] 3)).drew)
      case first =>
        refine wpIn_only ?_
        gi_region_with_o (first
          | (refine ⟨trivial, ?_⟩; gi_at_call 43; refine (callsIn_wide.2 (HFW.out _)).mono ?_; rintro e w5 ⟨rfl, rfl⟩)
          | (refine ⟨trivial, ?_⟩; gi_at_call 9; refine (callsIn_wide.2 (pRay_any F R a 0 up _)).mono ?_; rintro e w5 ⟨rfl, rfl⟩))
        all_goals
          gi_wp2_with fail
          gi_meet
          exact ⟨rfl, rfl⟩
      case rest =>
        obtain ⟨rfl, hV⟩ := hcut
        generalize wc = V at *
        have hn2 := hB2.size
        have v0 : V.cell? ⟨S2, 0, none⟩ = some (.int .u64 ((ofL (vl ([] : List (El L))) : Nat) : Int)) := by rw [hV]; exact alive _ (alive _ (alive _ (alive _ z5)))
        have v2 : V.cell? ⟨w.heap.size + 1, 0, none⟩ = some (.int .u64 X) := by rw [hV]; exact alive _ (alive _ (alive _ (alive _ z2)))
        have v3 : V.cell? ⟨w2.heap.size, 0, none⟩ = some (.int .i64 ((lf - ([] : List (El L)).length : Nat) : Int)) := by rw [hV]; exact alive _ (alive _ (alive _ (alive _ z3)))
        have hZV : Below Z.heap.size Z V := by
          rw [hV]
          refine (((((Below.refl _ _).alloc (by simp) _).alloc (by simp) _).alloc (by simp; omega) _).alloc (by simp; omega) _).drew
        have v1 : V.frozen? ⟨S2, 0, none⟩ = false := (hZV.frozen (p := ⟨S2, 0, none⟩) (by simp; omega)).trans z6
        have v4 : V.frozen? ⟨w2.heap.size, 0, none⟩ = false := (hZV.frozen (p := ⟨w2.heap.size, 0, none⟩) (by simp; omega)).trans z4
        have hb1 : S2 + 1 = Z.heap.size := by omega
        have x0 : V.cell? ⟨S2 + 1, 0, none⟩ = some (.int .i64 F) := by rw [hV, hb1]; simp [go_sem]
        have x1 : V.cell? ⟨S2 + 1, 1, none⟩ = some (.int .i64 R) := by rw [hV, hb1]; simp [go_sem]
        have x2 : V.cell? ⟨S2 + 1 + 1, 0, none⟩ = some (.int .i64 a) := by rw [hV, hb1]; simp [go_sem]
        have x3 : V.cell? ⟨S2 + 1 + 1 + 1, 0, none⟩ = some (.int .i64 0) := by rw [hV, hb1]; simp [go_sem]
        have x4 : V.cell? ⟨S2 + 1 + 1 + 1 + 1, 0, none⟩ = some (.int .i64 up) := by rw [hV, hb1]; simp [go_sem]
        have hVs : V.heap.size = S2 + 5 := by rw [hV]; simp; omega
        have hVB : Below w.heap.size w V := hBz.trans (hZV.mono (by have := hBz.size; omega))
        clear hV z0 z1 z2 z3 z4 z5 z6 hZV hBz hb1
        gi_wp2_with fail
        apply wpIn_rangeFunc_ownF rfl (by omega) (gf := 26) (lb := #[.pointer (some ⟨S2 + 1, 0, none⟩), .pointer (some ⟨S2 + 1 + 1, 0, none⟩), .pointer (some ⟨S2 + 1 + 1 + 1, 0, none⟩), .pointer (some ⟨S2 + 1 + 1 + 1 + 1, 0, none⟩)]) rfl trivial (enters_of Tryd.func26 (by kernel_rfl) rfl)
          (ray_stops (6 - 1) (S2 + 1) w.heap.size F R a 0 up L hRI (by omega) (by omega) (by omega) (by omega) (by omega) V (by omega) (by omega) x0 x1 x2 x3 x4) kpR_t (kpR_b (by omega) (by omega)) (Below.refl _ _) (fun _ => rfl)
          (fun pre W => ((W.cell? ⟨S2, 0, none⟩ = some (.int .u64 (ofL (vl pre) : Int)) ∧ W.frozen? ⟨S2, 0, none⟩ = false) ∧ (W.cell? ⟨w2.heap.size, 0, none⟩ = some (.int .i64 ((lf - pre.length : Nat) : Int)) ∧ W.frozen? ⟨w2.heap.size, 0, none⟩ = false) ∧ W.cell? ⟨w.heap.size + 1, 0, none⟩ = some (.int .u64 X)) ∧ (S2 < W.heap.size ∧ Below w.heap.size w W) ∧ ((∀ i ∈ vl pre, X.testBit i = false) ∧ pre.length ≤ lf))
          (fun cc pre W => (W.cell? ⟨S2, 0, none⟩ = some (.int .u64 (ofL (vl pre.dropLast) : Int)) ∧ (S2 < W.heap.size ∧ Below w.heap.size w W)) ∧ (cc = .exit 0 ∧ ∃ q x, pre = q ++ [x] ∧ (∀ i ∈ vl q, X.testBit i = false) ∧ q.length ≤ lf ∧ (q.length = lf ∨ X.testBit x.1 = true)))
          (OwnFrom.and (OwnFrom.and (ownFrom_box _ _) (OwnFrom.and (ownFrom_box _ _) (ownFrom_cell _ (fun _ => .int .u64 X)))) (OwnFrom.and (OwnFrom.and (Own.from (fun s A B row hs hg hr => Nat.lt_of_lt_of_le hs hg.size) _) (ownFrom_below (Nat.le_refl _) (by omega))) (ownFrom_pure _ _)))
          (fun cc => OwnFrom.and (OwnFrom.and (ownFrom_cell _ _) (OwnFrom.and (Own.from (fun s A B row hs hg hr => Nat.lt_of_lt_of_le hs hg.size) _) (ownFrom_below (Nat.le_refl _) (by omega)))) (ownFrom_pure _ _))
          ⟨⟨⟨v0, v1⟩, ⟨v3, v4⟩, v2⟩, ⟨by omega, hVB⟩, fun i hi => by simp [vl] at hi, by simp⟩
        case hassign =>
          intro l x W K hK
          gi_wp2
          exact hK
        case hbody =>
          rintro l pre x W ⟨⟨⟨hS, hSf⟩, ⟨hL, hLf⟩, ho⟩, ⟨hsz, hB⟩, hfree, hlen2⟩ hlen
          have HFR := Lib.hid hfree
          clear hfree hlen v0 v1 v2 v3 v4 x0 x1 x2 x3 x4 hVB
          have hx64 : x.1 < 64 := by have := HLT.out x.1 x.2; omega
          have EX : ∀ W', W'.cell? ⟨S2, 0, none⟩ = some (.int .u64 (ofL (vl pre) : Int)) → (S2 < W'.heap.size ∧ Below w.heap.size w W') → (pre.length = lf ∨ X.testBit x.1 = true) → (W'.cell? ⟨S2, 0, none⟩ = some (.int .u64 (ofL (vl (pre ++ [x]).dropLast) : Int)) ∧ (S2 < W'.heap.size ∧ Below w.heap.size w W')) ∧ (∃ q y, pre ++ [x] = q ++ [y] ∧ (∀ i ∈ vl q, X.testBit i = false) ∧ q.length ≤ lf ∧ (q.length = lf ∨ X.testBit y.1 = true)) := fun W' h1 h2 h3 =>
            ⟨⟨by rw [List.dropLast_concat]; exact h1, h2⟩, pre, x, rfl, HFR.out, hlen2, h3⟩
          have HEX := Lib.hid EX
          clear EX
          by_cases hz : lf - pre.length = 0
          · have hpl : pre.length = lf := by omega
            rw [hz] at hL
            gi_wp2_with fail
            refine ⟨trivial, ?_⟩
            gi_wp2_with fail
            have hq := HEX.out W hS ⟨hsz, hB⟩ (.inl hpl)
            exact ⟨keeps_below (Below.refl _ _), hq.1, rfl, hq.2⟩
          · have hzb : (((lf - pre.length : Nat) : Int) == 0) = false := beq_eq_false_iff_ne.2 (by omega)
            have hb2 := has_in X x.1 hX64 (by omega) (by omega)
            simp only [Int.toNat_natCast] at hb2
            cases hbit : X.testBit x.1
            · rw [hbit] at hb2
              have HB2 := Lib.hid hb2
              have HBT := Lib.hid hbit
              clear hb2 hbit
              gi_wp2_with fail
              refine ⟨trivial, CallsIn.inRound l (callsIn_wide.2 ((HB2.out _).mono ?_))⟩
              rintro e w5 ⟨rfl, rfl⟩
              have HP := Lib.hid (or_bitN (ofL (vl pre)) x.1 (H64.out pre) hx64)
              obtain ⟨W1, hW1⟩ : ∃ W1, (W.setCell ⟨S2, 0, none⟩ (.int .u64 (bits .or .u64 (ofL (vl pre)) (bitN x.1)))).drew = W1 := ⟨_, rfl⟩
              have y0 : W1.cell? ⟨S2, 0, none⟩ = some (.int .u64 ((ofL (vl (pre ++ [x])) : Nat) : Int)) := by
                rw [← hW1, vl_snoc, ofL_snoc, ← HP.out]
                exact World.cell?_setCell_same W ⟨S2, 0, none⟩ _ hS
              have y1 : W1.frozen? ⟨S2, 0, none⟩ = false := by rw [← hW1]; exact (World.frozen?_setCell ..).trans hSf
              have y3 : W1.cell? ⟨w2.heap.size, 0, none⟩ = some (.int .i64 ((lf - pre.length : Nat) : Int)) := by rw [← hW1]; exact (World.cell?_setCell_far _ _ _ _ (by simp; omega)).trans hL
              have y4 : W1.frozen? ⟨w2.heap.size, 0, none⟩ = false := by rw [← hW1]; exact (World.frozen?_setCell ..).trans hLf
              have y5 : W1.cell? ⟨w.heap.size + 1, 0, none⟩ = some (.int .u64 X) := by rw [← hW1]; exact (World.cell?_setCell_far _ _ _ _ (by simp; omega)).trans ho
              have y6 : W1.heap.size = W.heap.size := by rw [← hW1]; show (W.setCell _ _).heap.size = _; simp
              have y7 : Below w.heap.size w W1 := by rw [← hW1]; exact (hB.setCell (p := ⟨S2, 0, none⟩) (by simp; omega) _).drew
              have y8 : KeepsOthers W W1 := by rw [← hW1]; exact (KeepsOthers.setCell _ _ _).trans (KeepsOthers.drew _)
              have y9 : KpR w.heap.size (S2 + 1) W W1 := by rw [← hW1]; exact ⟨((Below.refl _ _).setCell (p := ⟨S2, 0, none⟩) (by simp; omega) _).drew, fun k h0 h1 => Below.heap_setCell _ _ _ _ (by simp; omega)⟩
              have HW1 := Lib.hid hW1
              have hwr : IntKind.i64.wrap (((lf - pre.length : Nat) : Int) - 1) = ((lf - (pre.length + 1) : Nat) : Int) := by rw [IntWalk.i64_in _ (by omega)]; omega
              have HSV := Lib.hid (World.cell?_setCell_same W1 ⟨w2.heap.size, 0, none⟩ (.int .i64 ((lf - (pre.length + 1) : Nat) : Int)) y3)
              have HSF := Lib.hid (fun v => (World.frozen?_setCell (w := W1) (a := ⟨w2.heap.size, 0, none⟩) (v := v) (b := ⟨w2.heap.size, 0, none⟩)).trans y4)
              clear hW1 HP
              gi_wp2
              gi_region_with_o (refine ⟨trivial, ?_⟩; gi_at_call 32; refine (CallsIn.inRound l (callsIn_wide.2 (pSingle_any _ (by omega) (by omega) _))).mono ?_; rintro e w4 ⟨rfl, rfl⟩)
              all_goals
                try simp only [Int.toNat_natCast] at *
                rw [HW1.out]
                gi_wp2
                refine ⟨y8.trans (KeepsOthers.setCell _ _ _), y9.trans ⟨(Below.refl _ _).setCell (p := ⟨w2.heap.size, 0, none⟩) (by simp; omega) _, fun k h0 h1 => Below.heap_setCell _ _ _ _ (by simp; omega)⟩, ⟨⟨(World.cell?_setCell_far _ _ _ _ (by simp; omega)).trans y0, (World.frozen?_setCell ..).trans y1⟩, ⟨?_, HSF.out _⟩, (World.cell?_setCell_far _ _ _ _ (by simp; omega)).trans y5⟩, ⟨?_, y7.setCell (p := ⟨w2.heap.size, 0, none⟩) (by simp; omega) _⟩, ?_, ?_⟩
                · rw [List.length_append]; exact HSV.out
                · show S2 < (W1.setCell _ _).heap.size
                  simp; omega
                · rw [vl_snoc]
                  intro i hi
                  rcases List.mem_append.1 hi with h | h
                  · exact HFR.out i h
                  · rw [List.mem_singleton.1 h]; exact HBT.out
                · simp; omega
            · rw [hbit] at hb2
              have HB2 := Lib.hid hb2
              have HBT := Lib.hid hbit
              clear hb2 hbit
              gi_wp2_with fail
              refine ⟨trivial, CallsIn.inRound l (callsIn_wide.2 ((HB2.out _).mono ?_))⟩
              rintro e w5 ⟨rfl, rfl⟩
              gi_wp2
              have hq := HEX.out W hS ⟨hsz, hB⟩ (.inr HBT.out)
              exact ⟨keeps_below (Below.refl _ _), hq.1, rfl, hq.2⟩
        case hdone =>
          rintro D ys W hD hys ⟨⟨⟨hS, hSf⟩, ⟨hL, hLf⟩, ho⟩, ⟨hsz, hB⟩, hfree, hlen2⟩ hK
          have HE : Hid (stepsR L X lf = L) := Lib.hid (stepsR_done (fun i hi => hfree i (by rw [hys]; exact hi)) (by have := congrArg List.length hys; rw [vl_len] at this; omega))
          clear hfree
          gi_wp2
          refine ⟨by simp, .inl ⟨_, _, rfl, run_takeDeferred hK, ?_⟩⟩
          exact ⟨_, results_tmp2 rfl _ _ _, by rw [HE.out]; rfl, hB.trans (belowK_b (Nat.le_refl _) W D _ _ (by omega) hK rfl rfl)⟩
        case hstop =>
          rintro D cc pre W hD hpre ⟨⟨hS, hsz, hB⟩, rfl, q, x, rfl, hfree, hlen2, hx⟩ hK
          rw [List.dropLast_concat] at hS
          have HE : Hid (stepsR L X lf = vl q) := Lib.hid (by
            rw [vl_snoc] at hpre
            exact stepsR_stop hpre hfree (by rw [vl_len]; exact hlen2) (by rw [vl_len]; exact hx))
          clear hfree hpre hx
          gi_wp2
          refine ⟨by simp, .inl ⟨_, _, rfl, run_takeDeferred hK, ?_⟩⟩
          exact ⟨_, results_tmp2 rfl _ _ _, by rw [HE.out]; rfl, hB.trans (belowK_b (Nat.le_refl _) W D _ _ (by omega) hK rfl rfl)⟩

end Go.Proofs.YtejlbjbmpdddkaaDoor
