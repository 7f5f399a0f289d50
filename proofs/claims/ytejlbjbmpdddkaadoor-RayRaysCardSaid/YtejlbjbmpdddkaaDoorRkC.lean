/- The examples of the chapter: each call with its answer. -/
import Derived.Test.YtejlbjbmpdddkaaDoorRkA
import Derived.Test.YtejlbjbmpdddkaaDoorRkB
import Derived.Test.YtejlbjbmpdddkaaDoorRpD
import Derived.Test.YtejlbjbmpdddkaaDoorRpJ
import Derived.Test.YtejlbjbmpdddkaaDoorRpK
namespace Go.Proofs.YtejlbjbmpdddkaaDoor
open Go.RowKit Go.Shelf Go.Sort

theorem vat88 (n : Int) (h : (decide (0 ≤ n) && decide (n < 64)) = true) : vat 8 8 n := by simp at h; exact ⟨v88, by omega, by omega⟩
theorem k_at_g7 (w : World) : Calls Tryd.prog 30 #[.string ⟨#[103, 55]⟩] w fun e w' => e = .returned (.int .i64 54) ∧ Below w.heap.size w w' :=
  at_sq ⟨#[103, 55]⟩ 54 (vat88 _ (by decide)) (by decide +kernel) w
theorem k_at_d4 (w : World) : Calls Tryd.prog 30 #[.string ⟨#[100, 52]⟩] w fun e w' => e = .returned (.int .i64 27) ∧ Below w.heap.size w w' :=
  at_sq ⟨#[100, 52]⟩ 27 (vat88 _ (by decide)) (by decide +kernel) w
theorem k_at_a2 (w : World) : Calls Tryd.prog 30 #[.string ⟨#[97, 50]⟩] w fun e w' => e = .returned (.int .i64 8) ∧ Below w.heap.size w w' :=
  at_sq ⟨#[97, 50]⟩ 8 (vat88 _ (by decide)) (by decide +kernel) w
theorem k_at_b3 (w : World) : Calls Tryd.prog 30 #[.string ⟨#[98, 51]⟩] w fun e w' => e = .returned (.int .i64 17) ∧ Below w.heap.size w w' :=
  at_sq ⟨#[98, 51]⟩ 17 (vat88 _ (by decide)) (by decide +kernel) w
theorem k_at_h1 (w : World) : Calls Tryd.prog 30 #[.string ⟨#[104, 49]⟩] w fun e w' => e = .returned (.int .i64 7) ∧ Below w.heap.size w w' :=
  at_sq ⟨#[104, 49]⟩ 7 (vat88 _ (by decide)) (by decide +kernel) w
theorem k_at_b1 (w : World) : Calls Tryd.prog 30 #[.string ⟨#[98, 49]⟩] w fun e w' => e = .returned (.int .i64 1) ∧ Below w.heap.size w w' :=
  at_sq ⟨#[98, 49]⟩ 1 (vat88 _ (by decide)) (by decide +kernel) w
theorem k_at_e2 (w : World) : Calls Tryd.prog 30 #[.string ⟨#[101, 50]⟩] w fun e w' => e = .returned (.int .i64 12) ∧ Below w.heap.size w w' :=
  at_sq ⟨#[101, 50]⟩ 12 (vat88 _ (by decide)) (by decide +kernel) w
theorem k_set_b2c3 (w : World) : Calls Tryd.prog 31 #[.string ⟨#[98, 50, 99, 51]⟩] w fun e w' => e = .returned (.int .u64 262656) ∧ Below w.heap.size w w' :=
  (set_sq ⟨#[98, 50, 99, 51]⟩ [9, 18] (by decide) ⟨by decide +kernel, fun k hk => by
    match k, hk with
    | 0, _ => exact ⟨vat88 _ (by decide), by decide +kernel⟩
    | 1, _ => exact ⟨vat88 _ (by decide), by decide +kernel⟩⟩ w).mono fun e w' h => ⟨by rw [h.1]; rfl, h.2⟩
theorem k_set_a3c3d2 (w : World) : Calls Tryd.prog 31 #[.string ⟨#[97, 51, 99, 51, 100, 50]⟩] w fun e w' => e = .returned (.int .u64 329728) ∧ Below w.heap.size w w' :=
  (set_sq ⟨#[97, 51, 99, 51, 100, 50]⟩ [16, 18, 11] (by decide) ⟨by decide +kernel, fun k hk => by
    match k, hk with
    | 0, _ => exact ⟨vat88 _ (by decide), by decide +kernel⟩
    | 1, _ => exact ⟨vat88 _ (by decide), by decide +kernel⟩
    | 2, _ => exact ⟨vat88 _ (by decide), by decide +kernel⟩⟩ w).mono fun e w' h => ⟨by rw [h.1]; rfl, h.2⟩
theorem k_set_a3c1 (w : World) : Calls Tryd.prog 31 #[.string ⟨#[97, 51, 99, 49]⟩] w fun e w' => e = .returned (.int .u64 65540) ∧ Below w.heap.size w w' :=
  (set_sq ⟨#[97, 51, 99, 49]⟩ [16, 2] (by decide) ⟨by decide +kernel, fun k hk => by
    match k, hk with
    | 0, _ => exact ⟨vat88 _ (by decide), by decide +kernel⟩
    | 1, _ => exact ⟨vat88 _ (by decide), by decide +kernel⟩⟩ w).mono fun e w' h => ⟨by rw [h.1]; rfl, h.2⟩
theorem k_set_a2a3b1c1 (w : World) : Calls Tryd.prog 31 #[.string ⟨#[97, 50, 97, 51, 98, 49, 99, 49]⟩] w fun e w' => e = .returned (.int .u64 65798) ∧ Below w.heap.size w w' :=
  (set_sq ⟨#[97, 50, 97, 51, 98, 49, 99, 49]⟩ [8, 16, 1, 2] (by decide) ⟨by decide +kernel, fun k hk => by
    match k, hk with
    | 0, _ => exact ⟨vat88 _ (by decide), by decide +kernel⟩
    | 1, _ => exact ⟨vat88 _ (by decide), by decide +kernel⟩
    | 2, _ => exact ⟨vat88 _ (by decide), by decide +kernel⟩
    | 3, _ => exact ⟨vat88 _ (by decide), by decide +kernel⟩⟩ w).mono fun e w' h => ⟨by rw [h.1]; rfl, h.2⟩
theorem k_set_b3 (w : World) : Calls Tryd.prog 31 #[.string ⟨#[98, 51]⟩] w fun e w' => e = .returned (.int .u64 131072) ∧ Below w.heap.size w w' :=
  (set_sq ⟨#[98, 51]⟩ [17] (by decide) ⟨by decide +kernel, fun k hk => by
    match k, hk with
    | 0, _ => exact ⟨vat88 _ (by decide), by decide +kernel⟩⟩ w).mono fun e w' h => ⟨by rw [h.1]; rfl, h.2⟩
theorem k_set_e3e4 (w : World) : Calls Tryd.prog 31 #[.string ⟨#[101, 51, 101, 52]⟩] w fun e w' => e = .returned (.int .u64 269484032) ∧ Below w.heap.size w w' :=
  (set_sq ⟨#[101, 51, 101, 52]⟩ [20, 28] (by decide) ⟨by decide +kernel, fun k hk => by
    match k, hk with
    | 0, _ => exact ⟨vat88 _ (by decide), by decide +kernel⟩
    | 1, _ => exact ⟨vat88 _ (by decide), by decide +kernel⟩⟩ w).mono fun e w' h => ⟨by rw [h.1]; rfl, h.2⟩
theorem k_set_e4 (w : World) : Calls Tryd.prog 31 #[.string ⟨#[101, 52]⟩] w fun e w' => e = .returned (.int .u64 268435456) ∧ Below w.heap.size w w' :=
  (set_sq ⟨#[101, 52]⟩ [28] (by decide) ⟨by decide +kernel, fun k hk => by
    match k, hk with
    | 0, _ => exact ⟨vat88 _ (by decide), by decide +kernel⟩⟩ w).mono fun e w' h => ⟨by rw [h.1]; rfl, h.2⟩
theorem k_set_e3 (w : World) : Calls Tryd.prog 31 #[.string ⟨#[101, 51]⟩] w fun e w' => e = .returned (.int .u64 1048576) ∧ Below w.heap.size w w' :=
  (set_sq ⟨#[101, 51]⟩ [20] (by decide) ⟨by decide +kernel, fun k hk => by
    match k, hk with
    | 0, _ => exact ⟨vat88 _ (by decide), by decide +kernel⟩⟩ w).mono fun e w' h => ⟨by rw [h.1]; rfl, h.2⟩
theorem k_set_e1 (w : World) : Calls Tryd.prog 31 #[.string ⟨#[101, 49]⟩] w fun e w' => e = .returned (.int .u64 16) ∧ Below w.heap.size w w' :=
  (set_sq ⟨#[101, 49]⟩ [4] (by decide) ⟨by decide +kernel, fun k hk => by
    match k, hk with
    | 0, _ => exact ⟨vat88 _ (by decide), by decide +kernel⟩⟩ w).mono fun e w' h => ⟨by rw [h.1]; rfl, h.2⟩
theorem k_bet1 (w : World) : Calls Tryd.prog 11 #[.agg #[.int .i64 8, .int .i64 8], .int .i64 0, .int .i64 27] w fun e w' => e = .returned (.tuple #[.int .u64 262656, .int .i64 0]) ∧ Below w.heap.size w w' :=
  (pBet_yes 8 8 0 27 (vat88 _ (by decide)) (vat88 _ (by decide)) (by decide) w).mono fun e w' h => ⟨by rw [h.1, show ofL (betL 8 8 0 27) = 262656 by decide +kernel]; rfl, h.2⟩
theorem k_bet2 (w : World) : Calls Tryd.prog 11 #[.agg #[.int .i64 8, .int .i64 8], .int .i64 0, .int .i64 8] w fun e w' => e = .returned (.tuple #[.int .u64 0, .int .i64 0]) ∧ Below w.heap.size w w' :=
  (pBet_yes 8 8 0 8 (vat88 _ (by decide)) (vat88 _ (by decide)) (by decide) w).mono fun e w' h => ⟨by rw [h.1, show ofL (betL 8 8 0 8) = 0 by decide +kernel]; rfl, h.2⟩
theorem k_bet3 (w : World) : Calls Tryd.prog 11 #[.agg #[.int .i64 8, .int .i64 8], .int .i64 0, .int .i64 17] w fun e w' => e = .returned (.tuple #[.int .u64 0, .int .i64 9]) ∧ Below w.heap.size w w' :=
  pBet_none 8 8 0 17 (vat88 _ (by decide)) (vat88 _ (by decide)) (by decide) w
theorem k_dir (w : World) : Calls Tryd.prog 12 #[.agg #[.int .i64 8, .int .i64 8], .int .i64 63, .int .i64 7] w fun e w' => e = .returned (.tuple #[.int .i64 0, .int .i64 (-1), .int .i64 0]) ∧ Below w.heap.size w w' :=
  (pDir_yes 8 8 63 7 (vat88 _ (by decide)) (vat88 _ (by decide)) w).mono fun e w' h => ⟨by rw [h.1, if_pos (by decide)]; rfl, h.2⟩
theorem k_reach1 (w : World) (hT : Tb w) : Calls Tryd.prog 17 #[.agg #[.int .i64 8, .int .i64 8], .int .i8 2, .int .i64 1, .int .u64 0] w fun e w' => e = .returned (.tuple #[.int .u64 329728, .int .i64 0]) ∧ Below w.heap.size w w' :=
  (pReach_yes 8 8 1 2 (by decide) (vat88 _ (by decide)) 0 (by decide) w hT).mono fun e w' h => ⟨by rw [h.1, show ofL (reachL 8 8 2 1 0) = 329728 by decide +kernel]; rfl, h.2⟩
theorem k_reach2 (w : World) (hT : Tb w) : Calls Tryd.prog 17 #[.agg #[.int .i64 8, .int .i64 8], .int .i8 4, .int .i64 0, .int .u64 65540] w fun e w' => e = .returned (.tuple #[.int .u64 65798, .int .i64 0]) ∧ Below w.heap.size w w' :=
  (pReach_yes 8 8 0 4 (by decide) (vat88 _ (by decide)) 65540 (by decide) w hT).mono fun e w' h => ⟨by rw [h.1, show ofL (reachL 8 8 4 0 65540) = 65798 by decide +kernel]; rfl, h.2⟩
theorem k_pawn (w : World) : Calls Tryd.prog 20 #[.agg #[.int .i64 8, .int .i64 8], .bool false, .int .i64 8] w fun e w' => e = .returned (.tuple #[.int .u64 131072, .int .i64 0]) ∧ Below w.heap.size w w' :=
  (pPawn_yes 8 8 8 false (vat88 _ (by decide)) w).mono fun e w' h => ⟨by rw [h.1, show ofL (pawnL 8 8 8 false) = 131072 by decide +kernel]; rfl, h.2⟩
theorem k_steps1 (w : World) : Calls Tryd.prog 21 #[.agg #[.int .i64 8, .int .i64 8], .bool false, .int .i64 12, .int .u64 0] w fun e w' => e = .returned (.tuple #[.int .u64 269484032, .int .i64 0]) ∧ Below w.heap.size w w' :=
  (pSteps_yes 8 8 12 false (vat88 _ (by decide)) 0 (by decide) w).mono fun e w' h => ⟨by rw [h.1, show ofL (stepL 8 8 12 false 0) = 269484032 by decide +kernel]; rfl, h.2⟩
theorem k_steps2 (w : World) : Calls Tryd.prog 21 #[.agg #[.int .i64 8, .int .i64 8], .bool false, .int .i64 12, .int .u64 268435456] w fun e w' => e = .returned (.tuple #[.int .u64 1048576, .int .i64 0]) ∧ Below w.heap.size w w' :=
  (pSteps_yes 8 8 12 false (vat88 _ (by decide)) 268435456 (by decide) w).mono fun e w' h => ⟨by rw [h.1, show ofL (stepL 8 8 12 false 268435456) = 1048576 by decide +kernel]; rfl, h.2⟩
theorem k_steps3 (w : World) : Calls Tryd.prog 21 #[.agg #[.int .i64 8, .int .i64 8], .bool true, .int .i64 12, .int .u64 0] w fun e w' => e = .returned (.tuple #[.int .u64 16, .int .i64 0]) ∧ Below w.heap.size w w' :=
  (pSteps_yes 8 8 12 true (vat88 _ (by decide)) 0 (by decide) w).mono fun e w' h => ⟨by rw [h.1, show ofL (stepL 8 8 12 true 0) = 16 by decide +kernel]; rfl, h.2⟩
theorem k_steps4 (w : World) : Calls Tryd.prog 21 #[.agg #[.int .i64 5, .int .i64 5], .bool false, .int .i64 5, .int .u64 0] w fun e w' => e = .returned (.tuple #[.int .u64 1024, .int .i64 0]) ∧ Below w.heap.size w w' :=
  (pSteps_yes 5 5 5 false ⟨vsz_of _ _ rfl, by omega, by omega⟩ 0 (by decide) w).mono fun e w' h => ⟨by rw [h.1, show ofL (stepL 5 5 5 false 0) = 1024 by decide +kernel]; rfl, h.2⟩

/-! ### the three rays -/
def ray1L : List Nat := [9, 18, 27, 36, 45, 54, 63]
theorem ray1_is : RayIs 8 8 0 1 1 ray1L := .inl ⟨vat88 _ (by decide), by omega, by decide +kernel⟩
theorem ray1_at (k : Nat) (h : k < ray1L.length) : ray1L[k] = 9 * (k + 1) := by
  have : ∀ i : Fin 7, ray1L[i.1]'(by unfold ray1L; simp) = 9 * (i.1 + 1) := by decide
  exact this ⟨k, h⟩
theorem ray2_is : RayIs 8 8 54 1 1 [63] := .inl ⟨vat88 _ (by decide), by omega, by decide +kernel⟩
theorem ray3_is : RayIs 8 8 0 0 0 [] := .inr (.inl ⟨vat88 _ (by decide), rfl, rfl, rfl⟩)

/-! ### facts that stay -/
/-- a box of one cell. -/
def Bx (W : World) (g : Nat) (v : Value) : Prop := W.cell? ⟨g, 0, none⟩ = some v ∧ W.frozen? ⟨g, 0, none⟩ = false
theorem Bx.lt {W : World} {g : Nat} {v : Value} (h : Bx W g v) : g < W.heap.size := World.block_lt_of_cell? W ⟨g, 0, none⟩ h.1
theorem Bx.below {W W' : World} {g : Nat} {v : Value} (h : Bx W g v) (hb : Below W.heap.size W W') : Bx W' g v :=
  ⟨(hb.cell (p := ⟨g, 0, none⟩) h.lt).trans h.1, (hb.frozen (p := ⟨g, 0, none⟩) h.lt).trans h.2⟩
theorem frz_of_block {W W' : World} {p : Addr} (h : W'.heap[p.block]? = W.heap[p.block]?) : W'.frozen? p = W.frozen? p := by
  unfold World.frozen?
  simp only [h]
theorem Bx.but {W W' : World} {g S : Nat} {v : Value} (h : Bx W g v) (hb : ButS S W W') (hS : g ≠ S) : Bx W' g v :=
  ⟨hb.cell h.1 hS, (frz_of_block (hb.2.2.2.2 g h.lt hS)).trans h.2⟩
/-- the four blocks that a ray holds. -/
def R5 (W : World) (b : Nat) (F R a f r : Int) : Prop := b + 4 ≤ W.heap.size ∧ W.cell? ⟨b, 0, none⟩ = some (.int .i64 F) ∧ W.cell? ⟨b, 1, none⟩ = some (.int .i64 R) ∧ W.cell? ⟨b + 1, 0, none⟩ = some (.int .i64 a) ∧ W.cell? ⟨b + 1 + 1, 0, none⟩ = some (.int .i64 f) ∧ W.cell? ⟨b + 1 + 1 + 1, 0, none⟩ = some (.int .i64 r)
theorem R5.new (w : World) (F R a f r : Int) : R5 ((((w.alloc (.cells #[.int .i64 F, .int .i64 R] 23)).alloc (.cells #[.int .i64 a] 3)).alloc (.cells #[.int .i64 f] 3)).alloc (.cells #[.int .i64 r] 3)) w.heap.size F R a f r := by
  refine ⟨by simp, ?_, ?_, ?_, ?_, ?_⟩ <;> simp [go_sem]
theorem R5.below {W W' : World} {b : Nat} {F R a f r : Int} (h : R5 W b F R a f r) (hb : Below W.heap.size W W') : R5 W' b F R a f r := by
  obtain ⟨h0, h1, h2, h3, h4, h5⟩ := h
  exact ⟨Nat.le_trans h0 hb.size, (hb.cell (p := ⟨b, 0, none⟩) (by simp; omega)).trans h1, (hb.cell (p := ⟨b, 1, none⟩) (by simp; omega)).trans h2, (hb.cell (p := ⟨b + 1, 0, none⟩) (by simp; omega)).trans h3, (hb.cell (p := ⟨b + 1 + 1, 0, none⟩) (by simp; omega)).trans h4, (hb.cell (p := ⟨b + 1 + 1 + 1, 0, none⟩) (by simp; omega)).trans h5⟩
theorem R5.but {W W' : World} {b S : Nat} {F R a f r : Int} (h : R5 W b F R a f r) (hb : ButS S W W') (hS : S < b ∨ b + 4 ≤ S) : R5 W' b F R a f r := by
  obtain ⟨h0, h1, h2, h3, h4, h5⟩ := h
  exact ⟨Nat.le_trans h0 hb.size, hb.cell h1 (by simp; omega), hb.cell h2 (by simp; omega), hb.cell h3 (by simp; omega), hb.cell h4 (by simp; omega), hb.cell h5 (by simp; omega)⟩
/-- a mark among the deferred calls. -/
def Mk (W : World) (D : Nat) : Prop := W.heap[D]? = some (.deferred (some []))
theorem Mk.lt {W : World} {D : Nat} (h : Mk W D) : D < W.heap.size := (Array.getElem?_eq_some_iff.1 h).1
theorem Mk.below {W W' : World} {D : Nat} (h : Mk W D) (hb : Below W.heap.size W W') : Mk W' D := (hb.block D h.lt).trans h
theorem Mk.but {W W' : World} {D S : Nat} (h : Mk W D) (hb : ButS S W W') (hS : D ≠ S) : Mk W' D := (hb.2.2.2.2 D h.lt hS).trans h
theorem ray_below (w : World) (F R a f r : Int) : Below w.heap.size w ((((w.alloc (.cells #[.int .i64 F, .int .i64 R] 23)).alloc (.cells #[.int .i64 a] 3)).alloc (.cells #[.int .i64 f] 3)).alloc (.cells #[.int .i64 r] 3)) := by
  go_grown

end Go.Proofs.YtejlbjbmpdddkaaDoor
