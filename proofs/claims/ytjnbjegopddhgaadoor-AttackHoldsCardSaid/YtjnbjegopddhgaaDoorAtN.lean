/- The law's known answers of chapter 5: true, given what the program's functions of attacks answer on orthodox boards. -/
import Derived.Test.YtjnbjegopddhgaaDoorAtM

namespace Go.Proofs.YtjnbjegopddhgaaDoor
open Go.RowKit Go.Sort

theorem cB5 {W W' : World} (hb : Below W.heap.size W W') {a : Addr} {v : Value} (h : W.cell? a = some v) : W'.cell? a = some v :=
  (hb.cell (World.block_lt_of_cell? W a h)).trans h
theorem rB5 {W W' : World} (hb : Below W.heap.size W W') {A : Option Addr} {l : List Int} {c : Nat} (h : RdP W W.heap.size A l c) : RdP W' W'.heap.size A l c := (h.below hb).grow hb.size
/-- what the program's functions answer on orthodox boards in worlds where `T` holds. -/
structure AtkC (T : World → Prop) : Prop where
  below : ∀ w w', T w → Below w.heap.size w w' → T w'
  atk : ∀ (F R : Int) (l : List Int) (A : Option Addr) (c : Nat) (t : Int) (bl : Bool) (w : World), vbd F R l → orA l = true → RdP w w.heap.size A l c → T w → vat F R t → Calls Tryd.prog 10 #[.agg #[.int .i64 F, .int .i64 R, .slice A l.length c], .int .i64 t, .bool bl] w fun e w' => e = .returned (.tuple #[.int .u64 (ofL (atkL F R l t bl) : Int), .int .i64 0]) ∧ Below w.heap.size w w'
  all : ∀ (F R : Int) (l : List Int) (A : Option Addr) (c : Nat) (bl : Bool) (w : World), vbd F R l → orA l = true → RdP w w.heap.size A l c → T w → Calls Tryd.prog 15 #[.agg #[.int .i64 F, .int .i64 R, .slice A l.length c], .bool bl] w fun e w' => e = .returned (.tuple #[.int .u64 (ofL (attackedL F R l bl) : Int), .int .i64 0]) ∧ Below w.heap.size w w'
  king : ∀ (F R : Int) (l : List Int) (A : Option Addr) (c : Nat) (bl : Bool) (w : World), vbd F R l → orA l = true → RdP w w.heap.size A l c → T w → 0 ≤ kingV l bl → Calls Tryd.prog 17 #[.agg #[.int .i64 F, .int .i64 R, .slice A l.length c], .bool bl] w fun e w' => e = .returned (.tuple #[.int .i64 (kingV l bl), .int .i64 0]) ∧ Below w.heap.size w w'
  kingN : ∀ (F R : Int) (l : List Int) (A : Option Addr) (c : Nat) (bl : Bool) (w : World), vbd F R l → orA l = true → RdP w w.heap.size A l c → T w → kingV l bl < 0 → Calls Tryd.prog 17 #[.agg #[.int .i64 F, .int .i64 R, .slice A l.length c], .bool bl] w fun e w' => e = .returned (.tuple #[.int .i64 0, .int .i64 9]) ∧ Below w.heap.size w w'
  chk : ∀ (F R : Int) (l : List Int) (A : Option Addr) (c : Nat) (bl : Bool) (w : World), vbd F R l → orA l = true → RdP w w.heap.size A l c → T w → 0 ≤ kingV l bl → Calls Tryd.prog 18 #[.agg #[.int .i64 F, .int .i64 R, .slice A l.length c], .bool bl] w fun e w' => e = .returned (.tuple #[.int .u64 (ofL (atkL F R l (kingV l bl) (!bl)) : Int), .int .i64 0]) ∧ Below w.heap.size w w'
  pin : ∀ (F R : Int) (l : List Int) (A : Option Addr) (c : Nat) (bl : Bool) (w : World), vbd F R l → orA l = true → RdP w w.heap.size A l c → T w → 0 ≤ kingV l bl → Calls Tryd.prog 20 #[.agg #[.int .i64 F, .int .i64 R, .slice A l.length c], .bool bl] w fun e w' => e = .returned (.tuple #[.int .u64 (ofL (pinnedL F R l bl) : Int), .int .i64 0]) ∧ Below w.heap.size w w'
  lin : ∀ (F R : Int) (l : List Int) (A : Option Addr) (c : Nat) (n : Nat) (w : World), vbd F R l → orA l = true → RdP w w.heap.size A l c → T w → n < l.length → l[n]?.getD 0 ≠ 0 → 0 ≤ kingV l (decide (l[n]?.getD 0 < 0)) → 0 ≤ pinV F R l n → Calls Tryd.prog 21 #[.agg #[.int .i64 F, .int .i64 R, .slice A l.length c], .int .i64 n] w fun e w' => e = .returned (.tuple #[.int .u64 (ofL (linL F R l n) : Int), .int .i64 0]) ∧ Below w.heap.size w w'
  atkE : ∀ (F R : Int) (l : List Int) (A : Option Addr) (c : Nat) (t : Int) (bl : Bool) (w : World), l.length ≤ 64 → RdP w w.heap.size A l c → T w → ¬ (vbd F R l ∧ orA l = true ∧ vat F R t) → Calls Tryd.prog 10 #[.agg #[.int .i64 F, .int .i64 R, .slice A l.length c], .int .i64 t, .bool bl] w fun e w' => e = .returned (.tuple #[.int .u64 0, .int .i64 2]) ∧ Below w.heap.size w w'
  allE : ∀ (F R : Int) (l : List Int) (A : Option Addr) (c : Nat) (bl : Bool) (w : World), l.length ≤ 64 → RdP w w.heap.size A l c → T w → ¬ (vbd F R l ∧ orA l = true) → Calls Tryd.prog 15 #[.agg #[.int .i64 F, .int .i64 R, .slice A l.length c], .bool bl] w fun e w' => e = .returned (.tuple #[.int .u64 0, .int .i64 2]) ∧ Below w.heap.size w w'
  kingE : ∀ (F R : Int) (l : List Int) (A : Option Addr) (c : Nat) (bl : Bool) (w : World), l.length ≤ 64 → RdP w w.heap.size A l c → T w → ¬ (vbd F R l ∧ orA l = true) → Calls Tryd.prog 17 #[.agg #[.int .i64 F, .int .i64 R, .slice A l.length c], .bool bl] w fun e w' => e = .returned (.tuple #[.int .i64 0, .int .i64 2]) ∧ Below w.heap.size w w'
  chkE : ∀ (F R : Int) (l : List Int) (A : Option Addr) (c : Nat) (bl : Bool) (w : World), l.length ≤ 64 → RdP w w.heap.size A l c → T w → ¬ (vbd F R l ∧ orA l = true) → Calls Tryd.prog 18 #[.agg #[.int .i64 F, .int .i64 R, .slice A l.length c], .bool bl] w fun e w' => e = .returned (.tuple #[.int .u64 0, .int .i64 2]) ∧ Below w.heap.size w w'
  pinE : ∀ (F R : Int) (l : List Int) (A : Option Addr) (c : Nat) (bl : Bool) (w : World), l.length ≤ 64 → RdP w w.heap.size A l c → T w → ¬ (vbd F R l ∧ orA l = true) → Calls Tryd.prog 20 #[.agg #[.int .i64 F, .int .i64 R, .slice A l.length c], .bool bl] w fun e w' => e = .returned (.tuple #[.int .u64 0, .int .i64 2]) ∧ Below w.heap.size w w'
  chkN : ∀ (F R : Int) (l : List Int) (A : Option Addr) (c : Nat) (bl : Bool) (w : World), vbd F R l → orA l = true → RdP w w.heap.size A l c → T w → kingV l bl < 0 → Calls Tryd.prog 18 #[.agg #[.int .i64 F, .int .i64 R, .slice A l.length c], .bool bl] w fun e w' => e = .returned (.tuple #[.int .u64 0, .int .i64 9]) ∧ Below w.heap.size w w'
  pinN : ∀ (F R : Int) (l : List Int) (A : Option Addr) (c : Nat) (bl : Bool) (w : World), vbd F R l → orA l = true → RdP w w.heap.size A l c → T w → kingV l bl < 0 → Calls Tryd.prog 20 #[.agg #[.int .i64 F, .int .i64 R, .slice A l.length c], .bool bl] w fun e w' => e = .returned (.tuple #[.int .u64 0, .int .i64 9]) ∧ Below w.heap.size w w'
  linE : ∀ (F R : Int) (l : List Int) (A : Option Addr) (c : Nat) (t : Int) (w : World), l.length ≤ 64 → RdP w w.heap.size A l c → T w → ¬ (vbd F R l ∧ orA l = true ∧ vat F R t) → Calls Tryd.prog 21 #[.agg #[.int .i64 F, .int .i64 R, .slice A l.length c], .int .i64 t] w fun e w' => e = .returned (.tuple #[.int .u64 0, .int .i64 2]) ∧ Below w.heap.size w w'
  linN : ∀ (F R : Int) (l : List Int) (A : Option Addr) (c : Nat) (n : Nat) (w : World), l.length ≤ 64 → RdP w w.heap.size A l c → T w → vbd F R l → orA l = true → n < l.length → ¬ (l[n]?.getD 0 ≠ 0 ∧ 0 ≤ kingV l (decide (l[n]?.getD 0 < 0)) ∧ 0 ≤ pinV F R l n) → Calls Tryd.prog 21 #[.agg #[.int .i64 F, .int .i64 R, .slice A l.length c], .int .i64 n] w fun e w' => e = .returned (.tuple #[.int .u64 0, .int .i64 9]) ∧ Below w.heap.size w w'
theorem x_atk_a {T : World → Prop} (HC : AtkC T) (A : Option Addr) (c : Nat) (w : World) (hT : T w) (hA : RdP w w.heap.size A bd_a c) :
    Calls Tryd.prog 10 #[.agg #[.int .i64 3, .int .i64 3, .slice A bd_a.length c], .int .i64 6, .bool false] w fun e w' => e = .returned (.tuple #[.int .u64 0, .int .i64 0]) ∧ Below w.heap.size w w' := (HC.atk 3 3 bd_a A c 6 false w bd_a_v bd_a_o hA hT ⟨bd_a_v.1, by decide, by decide⟩).mono fun e w' h => ⟨by rw [h.1, v_atk_a]; rfl, h.2⟩
theorem x_all_a {T : World → Prop} (HC : AtkC T) (A : Option Addr) (c : Nat) (w : World) (hT : T w) (hA : RdP w w.heap.size A bd_a c) :
    Calls Tryd.prog 15 #[.agg #[.int .i64 3, .int .i64 3, .slice A bd_a.length c], .bool false] w fun e w' => e = .returned (.tuple #[.int .u64 186, .int .i64 0]) ∧ Below w.heap.size w w' := (HC.all 3 3 bd_a A c false w bd_a_v bd_a_o hA hT).mono fun e w' h => ⟨by rw [h.1, v_all_a]; rfl, h.2⟩
theorem x_chk_a {T : World → Prop} (HC : AtkC T) (A : Option Addr) (c : Nat) (w : World) (hT : T w) (hA : RdP w w.heap.size A bd_a c) :
    Calls Tryd.prog 18 #[.agg #[.int .i64 3, .int .i64 3, .slice A bd_a.length c], .bool true] w fun e w' => e = .returned (.tuple #[.int .u64 0, .int .i64 0]) ∧ Below w.heap.size w w' := (HC.chk 3 3 bd_a A c true w bd_a_v bd_a_o hA hT (by rw [v_king_a_b]; decide)).mono fun e w' h => ⟨by rw [h.1, v_king_a_b, show (!true) = false from rfl, v_chk_a]; rfl, h.2⟩
theorem x_pin_c {T : World → Prop} (HC : AtkC T) (A : Option Addr) (c : Nat) (w : World) (hT : T w) (hA : RdP w w.heap.size A bd_c c) :
    Calls Tryd.prog 20 #[.agg #[.int .i64 5, .int .i64 5, .slice A bd_c.length c], .bool false] w fun e w' => e = .returned (.tuple #[.int .u64 512, .int .i64 0]) ∧ Below w.heap.size w w' := (HC.pin 5 5 bd_c A c false w bd_c_v bd_c_o hA hT (by rw [v_king_c_w]; decide)).mono fun e w' h => ⟨by rw [h.1, v_pin_c]; rfl, h.2⟩
theorem x_lin_c {T : World → Prop} (HC : AtkC T) (A : Option Addr) (c : Nat) (w : World) (hT : T w) (hA : RdP w w.heap.size A bd_c c) :
    Calls Tryd.prog 21 #[.agg #[.int .i64 5, .int .i64 5, .slice A bd_c.length c], .int .i64 9] w fun e w' => e = .returned (.tuple #[.int .u64 16384, .int .i64 0]) ∧ Below w.heap.size w w' := (HC.lin 5 5 bd_c A c 9 w bd_c_v bd_c_o hA hT (by decide) (by decide) (by rw [show decide (bd_c[9]?.getD 0 < 0) = false from rfl, v_king_c_w]; decide) (by rw [v_pinv_c]; decide)).mono fun e w' h => ⟨by rw [h.1, v_lin_c]; rfl, h.2⟩
theorem x_chk_c {T : World → Prop} (HC : AtkC T) (A : Option Addr) (c : Nat) (w : World) (hT : T w) (hA : RdP w w.heap.size A bd_c c) :
    Calls Tryd.prog 18 #[.agg #[.int .i64 5, .int .i64 5, .slice A bd_c.length c], .bool false] w fun e w' => e = .returned (.tuple #[.int .u64 0, .int .i64 0]) ∧ Below w.heap.size w w' := (HC.chk 5 5 bd_c A c false w bd_c_v bd_c_o hA hT (by rw [v_king_c_w]; decide)).mono fun e w' h => ⟨by rw [h.1, v_king_c_w, show (!false) = true from rfl, v_chk_c]; rfl, h.2⟩
theorem x_pin_d {T : World → Prop} (HC : AtkC T) (A : Option Addr) (c : Nat) (w : World) (hT : T w) (hA : RdP w w.heap.size A bd_d c) :
    Calls Tryd.prog 20 #[.agg #[.int .i64 5, .int .i64 5, .slice A bd_d.length c], .bool false] w fun e w' => e = .returned (.tuple #[.int .u64 512, .int .i64 0]) ∧ Below w.heap.size w w' := (HC.pin 5 5 bd_d A c false w bd_d_v bd_d_o hA hT (by rw [v_king_d_w]; decide)).mono fun e w' h => ⟨by rw [h.1, v_pin_d]; rfl, h.2⟩
theorem x_lin_d {T : World → Prop} (HC : AtkC T) (A : Option Addr) (c : Nat) (w : World) (hT : T w) (hA : RdP w w.heap.size A bd_d c) :
    Calls Tryd.prog 21 #[.agg #[.int .i64 5, .int .i64 5, .slice A bd_d.length c], .int .i64 9] w fun e w' => e = .returned (.tuple #[.int .u64 540672, .int .i64 0]) ∧ Below w.heap.size w w' := (HC.lin 5 5 bd_d A c 9 w bd_d_v bd_d_o hA hT (by decide) (by decide) (by rw [show decide (bd_d[9]?.getD 0 < 0) = false from rfl, v_king_d_w]; decide) (by rw [v_pinv_d]; decide)).mono fun e w' h => ⟨by rw [h.1, v_lin_d]; rfl, h.2⟩
theorem x_atk_h {T : World → Prop} (HC : AtkC T) (A : Option Addr) (c : Nat) (w : World) (hT : T w) (hA : RdP w w.heap.size A bd_h c) :
    Calls Tryd.prog 10 #[.agg #[.int .i64 4, .int .i64 4, .slice A bd_h.length c], .int .i64 15, .bool false] w fun e w' => e = .returned (.tuple #[.int .u64 1024, .int .i64 0]) ∧ Below w.heap.size w w' := (HC.atk 4 4 bd_h A c 15 false w bd_h_v bd_h_o hA hT ⟨bd_h_v.1, by decide, by decide⟩).mono fun e w' h => ⟨by rw [h.1, v_atk_h]; rfl, h.2⟩
theorem x_chk_h {T : World → Prop} (HC : AtkC T) (A : Option Addr) (c : Nat) (w : World) (hT : T w) (hA : RdP w w.heap.size A bd_h c) :
    Calls Tryd.prog 18 #[.agg #[.int .i64 4, .int .i64 4, .slice A bd_h.length c], .bool true] w fun e w' => e = .returned (.tuple #[.int .u64 1024, .int .i64 0]) ∧ Below w.heap.size w w' := (HC.chk 4 4 bd_h A c true w bd_h_v bd_h_o hA hT (by rw [v_king_h_b]; decide)).mono fun e w' h => ⟨by rw [h.1, v_king_h_b, show (!true) = false from rfl, v_atk_h]; rfl, h.2⟩
theorem x_king_h {T : World → Prop} (HC : AtkC T) (A : Option Addr) (c : Nat) (w : World) (hT : T w) (hA : RdP w w.heap.size A bd_h c) :
    Calls Tryd.prog 17 #[.agg #[.int .i64 4, .int .i64 4, .slice A bd_h.length c], .bool false] w fun e w' => e = .returned (.tuple #[.int .i64 0, .int .i64 0]) ∧ Below w.heap.size w w' := (HC.king 4 4 bd_h A c false w bd_h_v bd_h_o hA hT (by rw [v_king_h_w]; decide)).mono fun e w' h => ⟨by rw [h.1, v_king_h_w], h.2⟩
theorem x_king_m_w {T : World → Prop} (HC : AtkC T) (A : Option Addr) (c : Nat) (w : World) (hT : T w) (hA : RdP w w.heap.size A bd_m c) :
    Calls Tryd.prog 17 #[.agg #[.int .i64 4, .int .i64 4, .slice A bd_m.length c], .bool false] w fun e w' => e = .returned (.tuple #[.int .i64 0, .int .i64 9]) ∧ Below w.heap.size w w' := HC.kingN 4 4 bd_m A c false w bd_m_v bd_m_o hA hT (by rw [v_king_m_w]; decide)
theorem x_king_m_b {T : World → Prop} (HC : AtkC T) (A : Option Addr) (c : Nat) (w : World) (hT : T w) (hA : RdP w w.heap.size A bd_m c) :
    Calls Tryd.prog 17 #[.agg #[.int .i64 4, .int .i64 4, .slice A bd_m.length c], .bool true] w fun e w' => e = .returned (.tuple #[.int .i64 0, .int .i64 9]) ∧ Below w.heap.size w w' := HC.kingN 4 4 bd_m A c true w bd_m_v bd_m_o hA hT (by rw [v_king_m_b]; decide)

set_option maxRecDepth 100000 in
set_option maxHeartbeats 8000000 in
theorem known5_any {T : World → Prop} (HC0 : AtkC T) (w : World) (hT : T w) :
    Calls Tryd.prog 9 #[] w fun e w' => e = .returned (.bool true) ∧ Below w.heap.size w w' := by
  have HC := Lib.hid HC0
  clear HC0
  have B : Below w.heap.size w w := Below.refl _ _
  go_enter Tryd.func9, Tryd.ntmps9
  go_wp2_with fail
  refine (k_board_a _).mono ?_
  rintro e w1 ⟨Aa, ca, rfl, ra, hca, b1⟩
  replace hT := HC.out.below _ _ hT b1
  replace B := chain B b1
  clear b1
  have bx := box1 w1 (.cells #[.int .i64 3, .int .i64 3, .slice Aa bd_a.length ca] 26)
  replace ra := rB5 bx ra
  replace hT := HC.out.below _ _ hT bx
  replace B := chain B bx
  clear bx
  have p0 : (w1.alloc (.cells #[.int .i64 3, .int .i64 3, .slice Aa bd_a.length ca] 26)).cell? ⟨w1.heap.size, 0, none⟩ = some (.int .i64 3) := by simp [go_sem]
  have p1 : (w1.alloc (.cells #[.int .i64 3, .int .i64 3, .slice Aa bd_a.length ca] 26)).cell? ⟨w1.heap.size, 1, none⟩ = some (.int .i64 3) := by simp [go_sem]
  have p2 : (w1.alloc (.cells #[.int .i64 3, .int .i64 3, .slice Aa bd_a.length ca] 26)).cell? ⟨w1.heap.size, 2, none⟩ = some (.slice Aa bd_a.length ca) := by simp [go_sem]
  go_wp2
  obtain ⟨v2, hv2⟩ : ∃ V, w1.alloc (.cells #[.int .i64 3, .int .i64 3, .slice Aa bd_a.length ca] 26) = V := ⟨_, rfl⟩
  rw [hv2] at hT B ra p0 p1 p2   ⊢
  clear hv2
  have z0 := cell_regrown p0
  have z1 := cell_regrown p1
  have z2 := cell_regrown p2
  have G1 : ∀ d os, Calls Tryd.prog 29 #[.agg #[.int .i64 3, .int .i64 3], .string ⟨#[97, 51]⟩] (grow (redrawn v2 d) os) fun e w'' => e = .returned (.int .i64 6) ∧ ∃ q : Regrown, w'' = grow (redrawn v2 q.d) q.os := fun d os => Calls.regrown_of (refParse_yes 3 3 6 ⟨#[97, 51]⟩ ⟨bd_a_v.1, by decide, by decide⟩ (by decide +kernel) _)
  have G2 := fun d os => Calls.regrown_of (x_atk_a HC.out _ _ _ (HC.out.below _ _ hT (below_regrown v2 d os)) (rB5 (below_regrown v2 d os) ra))
  refine wp_region_quiet_below (by kernel_rfl) (by kernel_rfl) ?_
  repeat (go_big_quiet_step ((first | (go_at_call 29; exact G1 _ _) | (go_at_call 10; exact G2 _ _))))
  refine wpQuiet_nil ?_
  intro _ hw'
  obtain ⟨⟨dq, osq⟩, hw''⟩ := hw'
  subst hw''
  clear G1 G2 z0 z1 z2
  have b2 := below_regrown v2 dq osq
  replace p0 := cB5 b2 p0
  replace p1 := cB5 b2 p1
  replace p2 := cB5 b2 p2
  replace ra := rB5 b2 ra
  replace hT := HC.out.below _ _ hT b2
  replace B := chain B b2
  clear b2
  generalize grow (redrawn v2 dq) osq = w2 at *
  go_wp2_with fail
  refine (x_all_a HC.out _ _ _ hT ra).mono ?_
  rintro e w3 ⟨rfl, b3⟩
  replace p0 := cB5 b3 p0
  replace p1 := cB5 b3 p1
  replace p2 := cB5 b3 p2
  replace ra := rB5 b3 ra
  replace hT := HC.out.below _ _ hT b3
  replace B := chain B b3
  clear b3
  go_wp2_with fail
  refine (x_chk_a HC.out _ _ _ hT ra).mono ?_
  rintro e w4 ⟨rfl, b4⟩
  replace p0 := cB5 b4 p0
  replace p1 := cB5 b4 p1
  replace p2 := cB5 b4 p2
  replace ra := rB5 b4 ra
  replace hT := HC.out.below _ _ hT b4
  replace B := chain B b4
  clear b4
  go_wp2_with fail
  refine (k_set_a_a2b1b2b3c2 _ _ _ _).mono ?_
  rintro e w5 ⟨rfl, b5⟩
  replace p0 := cB5 b5 p0
  replace p1 := cB5 b5 p1
  replace p2 := cB5 b5 p2
  replace ra := rB5 b5 ra
  replace hT := HC.out.below _ _ hT b5
  replace B := chain B b5
  clear b5
  go_wp2_with fail
  refine (k_board_c _).mono ?_
  rintro e w6 ⟨Ac, cc, rfl, rc, hcc, b6⟩
  replace p0 := cB5 b6 p0
  replace p1 := cB5 b6 p1
  replace p2 := cB5 b6 p2
  replace ra := rB5 b6 ra
  replace hT := HC.out.below _ _ hT b6
  replace B := chain B b6
  clear b6
  have bx := box1 w6 (.cells #[.int .i64 5, .int .i64 5, .slice Ac bd_c.length cc] 26)
  replace p0 := cB5 bx p0
  replace p1 := cB5 bx p1
  replace p2 := cB5 bx p2
  replace ra := rB5 bx ra
  replace rc := rB5 bx rc
  replace hT := HC.out.below _ _ hT bx
  replace B := chain B bx
  clear bx
  have q0 : (w6.alloc (.cells #[.int .i64 5, .int .i64 5, .slice Ac bd_c.length cc] 26)).cell? ⟨w6.heap.size, 0, none⟩ = some (.int .i64 5) := by simp [go_sem]
  have q1 : (w6.alloc (.cells #[.int .i64 5, .int .i64 5, .slice Ac bd_c.length cc] 26)).cell? ⟨w6.heap.size, 1, none⟩ = some (.int .i64 5) := by simp [go_sem]
  have q2 : (w6.alloc (.cells #[.int .i64 5, .int .i64 5, .slice Ac bd_c.length cc] 26)).cell? ⟨w6.heap.size, 2, none⟩ = some (.slice Ac bd_c.length cc) := by simp [go_sem]
  go_wp2_with fail
  refine (x_pin_c HC.out _ _ _ hT rc).mono ?_
  rintro e w7 ⟨rfl, b7⟩
  replace p0 := cB5 b7 p0
  replace p1 := cB5 b7 p1
  replace p2 := cB5 b7 p2
  replace q0 := cB5 b7 q0
  replace q1 := cB5 b7 q1
  replace q2 := cB5 b7 q2
  replace ra := rB5 b7 ra
  replace rc := rB5 b7 rc
  replace hT := HC.out.below _ _ hT b7
  replace B := chain B b7
  clear b7
  go_wp2
  obtain ⟨v8, hv8⟩ : ∃ V, w7 = V := ⟨_, rfl⟩
  rw [hv8] at hT B rc q0 q1 q2 p0 p1 p2 ra ⊢
  clear hv8
  have z0 := cell_regrown q0
  have z1 := cell_regrown q1
  have z2 := cell_regrown q2
  have G1 : ∀ d os, Calls Tryd.prog 29 #[.agg #[.int .i64 5, .int .i64 5], .string ⟨#[101, 50]⟩] (grow (redrawn v8 d) os) fun e w'' => e = .returned (.int .i64 9) ∧ ∃ q : Regrown, w'' = grow (redrawn v8 q.d) q.os := fun d os => Calls.regrown_of (refParse_yes 5 5 9 ⟨#[101, 50]⟩ ⟨bd_c_v.1, by decide, by decide⟩ (by decide +kernel) _)
  have G2 := fun d os => Calls.regrown_of (x_lin_c HC.out _ _ _ (HC.out.below _ _ hT (below_regrown v8 d os)) (rB5 (below_regrown v8 d os) rc))
  refine wp_region_quiet_below (by kernel_rfl) (by kernel_rfl) ?_
  repeat (go_big_quiet_step ((first | (go_at_call 29; exact G1 _ _) | (go_at_call 21; exact G2 _ _))))
  refine wpQuiet_nil ?_
  intro _ hw'
  obtain ⟨⟨dq, osq⟩, hw''⟩ := hw'
  subst hw''
  clear G1 G2 z0 z1 z2
  have b8 := below_regrown v8 dq osq
  replace p0 := cB5 b8 p0
  replace p1 := cB5 b8 p1
  replace p2 := cB5 b8 p2
  replace q0 := cB5 b8 q0
  replace q1 := cB5 b8 q1
  replace q2 := cB5 b8 q2
  replace ra := rB5 b8 ra
  replace rc := rB5 b8 rc
  replace hT := HC.out.below _ _ hT b8
  replace B := chain B b8
  clear b8
  generalize grow (redrawn v8 dq) osq = w8 at *
  go_wp2_with fail
  refine (x_chk_c HC.out _ _ _ hT rc).mono ?_
  rintro e w9 ⟨rfl, b9⟩
  replace p0 := cB5 b9 p0
  replace p1 := cB5 b9 p1
  replace p2 := cB5 b9 p2
  replace q0 := cB5 b9 q0
  replace q1 := cB5 b9 q1
  replace q2 := cB5 b9 q2
  replace ra := rB5 b9 ra
  replace rc := rB5 b9 rc
  replace hT := HC.out.below _ _ hT b9
  replace B := chain B b9
  clear b9
  go_wp2_with fail
  refine (k_set_c_e2 _ _ _ _).mono ?_
  rintro e w10 ⟨rfl, b10⟩
  replace p0 := cB5 b10 p0
  replace p1 := cB5 b10 p1
  replace p2 := cB5 b10 p2
  replace q0 := cB5 b10 q0
  replace q1 := cB5 b10 q1
  replace q2 := cB5 b10 q2
  replace ra := rB5 b10 ra
  replace rc := rB5 b10 rc
  replace hT := HC.out.below _ _ hT b10
  replace B := chain B b10
  clear b10
  go_wp2_with fail
  refine (k_set_c_e3 _ _ _ _).mono ?_
  rintro e w11 ⟨rfl, b11⟩
  replace p0 := cB5 b11 p0
  replace p1 := cB5 b11 p1
  replace p2 := cB5 b11 p2
  replace q0 := cB5 b11 q0
  replace q1 := cB5 b11 q1
  replace q2 := cB5 b11 q2
  replace ra := rB5 b11 ra
  replace rc := rB5 b11 rc
  replace hT := HC.out.below _ _ hT b11
  replace B := chain B b11
  clear b11
  go_wp2_with fail
  refine (k_board_d _).mono ?_
  rintro e w12 ⟨Ad, cd, rfl, rd, hcd, b12⟩
  replace p0 := cB5 b12 p0
  replace p1 := cB5 b12 p1
  replace p2 := cB5 b12 p2
  replace q0 := cB5 b12 q0
  replace q1 := cB5 b12 q1
  replace q2 := cB5 b12 q2
  replace ra := rB5 b12 ra
  replace rc := rB5 b12 rc
  replace hT := HC.out.below _ _ hT b12
  replace B := chain B b12
  clear b12
  have bx := box1 w12 (.cells #[.int .i64 5, .int .i64 5, .slice Ad bd_d.length cd] 26)
  replace p0 := cB5 bx p0
  replace p1 := cB5 bx p1
  replace p2 := cB5 bx p2
  replace q0 := cB5 bx q0
  replace q1 := cB5 bx q1
  replace q2 := cB5 bx q2
  replace ra := rB5 bx ra
  replace rc := rB5 bx rc
  replace rd := rB5 bx rd
  replace hT := HC.out.below _ _ hT bx
  replace B := chain B bx
  clear bx
  have u0 : (w12.alloc (.cells #[.int .i64 5, .int .i64 5, .slice Ad bd_d.length cd] 26)).cell? ⟨w12.heap.size, 0, none⟩ = some (.int .i64 5) := by simp [go_sem]
  have u1 : (w12.alloc (.cells #[.int .i64 5, .int .i64 5, .slice Ad bd_d.length cd] 26)).cell? ⟨w12.heap.size, 1, none⟩ = some (.int .i64 5) := by simp [go_sem]
  have u2 : (w12.alloc (.cells #[.int .i64 5, .int .i64 5, .slice Ad bd_d.length cd] 26)).cell? ⟨w12.heap.size, 2, none⟩ = some (.slice Ad bd_d.length cd) := by simp [go_sem]
  go_wp2_with fail
  refine (x_pin_d HC.out _ _ _ hT rd).mono ?_
  rintro e w13 ⟨rfl, b13⟩
  replace p0 := cB5 b13 p0
  replace p1 := cB5 b13 p1
  replace p2 := cB5 b13 p2
  replace q0 := cB5 b13 q0
  replace q1 := cB5 b13 q1
  replace q2 := cB5 b13 q2
  replace u0 := cB5 b13 u0
  replace u1 := cB5 b13 u1
  replace u2 := cB5 b13 u2
  replace ra := rB5 b13 ra
  replace rc := rB5 b13 rc
  replace rd := rB5 b13 rd
  replace hT := HC.out.below _ _ hT b13
  replace B := chain B b13
  clear b13
  go_wp2
  obtain ⟨v14, hv14⟩ : ∃ V, w13 = V := ⟨_, rfl⟩
  rw [hv14] at hT B rd u0 u1 u2 p0 p1 p2 q0 q1 q2 ra rc ⊢
  clear hv14
  have z0 := cell_regrown u0
  have z1 := cell_regrown u1
  have z2 := cell_regrown u2
  have G1 : ∀ d os, Calls Tryd.prog 29 #[.agg #[.int .i64 5, .int .i64 5], .string ⟨#[101, 50]⟩] (grow (redrawn v14 d) os) fun e w'' => e = .returned (.int .i64 9) ∧ ∃ q : Regrown, w'' = grow (redrawn v14 q.d) q.os := fun d os => Calls.regrown_of (refParse_yes 5 5 9 ⟨#[101, 50]⟩ ⟨bd_d_v.1, by decide, by decide⟩ (by decide +kernel) _)
  have G2 := fun d os => Calls.regrown_of (x_lin_d HC.out _ _ _ (HC.out.below _ _ hT (below_regrown v14 d os)) (rB5 (below_regrown v14 d os) rd))
  refine wp_region_quiet_below (by kernel_rfl) (by kernel_rfl) ?_
  repeat (go_big_quiet_step ((first | (go_at_call 29; exact G1 _ _) | (go_at_call 21; exact G2 _ _))))
  refine wpQuiet_nil ?_
  intro _ hw'
  obtain ⟨⟨dq, osq⟩, hw''⟩ := hw'
  subst hw''
  clear G1 G2 z0 z1 z2
  have b14 := below_regrown v14 dq osq
  replace p0 := cB5 b14 p0
  replace p1 := cB5 b14 p1
  replace p2 := cB5 b14 p2
  replace q0 := cB5 b14 q0
  replace q1 := cB5 b14 q1
  replace q2 := cB5 b14 q2
  replace u0 := cB5 b14 u0
  replace u1 := cB5 b14 u1
  replace u2 := cB5 b14 u2
  replace ra := rB5 b14 ra
  replace rc := rB5 b14 rc
  replace rd := rB5 b14 rd
  replace hT := HC.out.below _ _ hT b14
  replace B := chain B b14
  clear b14
  generalize grow (redrawn v14 dq) osq = w14 at *
  go_wp2_with fail
  refine (k_set_d_e2 _ _ _ _).mono ?_
  rintro e w15 ⟨rfl, b15⟩
  replace p0 := cB5 b15 p0
  replace p1 := cB5 b15 p1
  replace p2 := cB5 b15 p2
  replace q0 := cB5 b15 q0
  replace q1 := cB5 b15 q1
  replace q2 := cB5 b15 q2
  replace u0 := cB5 b15 u0
  replace u1 := cB5 b15 u1
  replace u2 := cB5 b15 u2
  replace ra := rB5 b15 ra
  replace rc := rB5 b15 rc
  replace rd := rB5 b15 rd
  replace hT := HC.out.below _ _ hT b15
  replace B := chain B b15
  clear b15
  go_wp2_with fail
  refine (k_set_d_e3e4 _ _ _ _).mono ?_
  rintro e w16 ⟨rfl, b16⟩
  replace p0 := cB5 b16 p0
  replace p1 := cB5 b16 p1
  replace p2 := cB5 b16 p2
  replace q0 := cB5 b16 q0
  replace q1 := cB5 b16 q1
  replace q2 := cB5 b16 q2
  replace u0 := cB5 b16 u0
  replace u1 := cB5 b16 u1
  replace u2 := cB5 b16 u2
  replace ra := rB5 b16 ra
  replace rc := rB5 b16 rc
  replace rd := rB5 b16 rd
  replace hT := HC.out.below _ _ hT b16
  replace B := chain B b16
  clear b16
  go_wp2_with fail
  refine (k_board_h _).mono ?_
  rintro e w17 ⟨Ah, ch, rfl, rh, hch, b17⟩
  replace p0 := cB5 b17 p0
  replace p1 := cB5 b17 p1
  replace p2 := cB5 b17 p2
  replace q0 := cB5 b17 q0
  replace q1 := cB5 b17 q1
  replace q2 := cB5 b17 q2
  replace u0 := cB5 b17 u0
  replace u1 := cB5 b17 u1
  replace u2 := cB5 b17 u2
  replace ra := rB5 b17 ra
  replace rc := rB5 b17 rc
  replace rd := rB5 b17 rd
  replace hT := HC.out.below _ _ hT b17
  replace B := chain B b17
  clear b17
  have bx := box1 w17 (.cells #[.int .i64 4, .int .i64 4, .slice Ah bd_h.length ch] 26)
  replace p0 := cB5 bx p0
  replace p1 := cB5 bx p1
  replace p2 := cB5 bx p2
  replace q0 := cB5 bx q0
  replace q1 := cB5 bx q1
  replace q2 := cB5 bx q2
  replace u0 := cB5 bx u0
  replace u1 := cB5 bx u1
  replace u2 := cB5 bx u2
  replace ra := rB5 bx ra
  replace rc := rB5 bx rc
  replace rd := rB5 bx rd
  replace rh := rB5 bx rh
  replace hT := HC.out.below _ _ hT bx
  replace B := chain B bx
  clear bx
  have v0 : (w17.alloc (.cells #[.int .i64 4, .int .i64 4, .slice Ah bd_h.length ch] 26)).cell? ⟨w17.heap.size, 0, none⟩ = some (.int .i64 4) := by simp [go_sem]
  have v1 : (w17.alloc (.cells #[.int .i64 4, .int .i64 4, .slice Ah bd_h.length ch] 26)).cell? ⟨w17.heap.size, 1, none⟩ = some (.int .i64 4) := by simp [go_sem]
  have v2 : (w17.alloc (.cells #[.int .i64 4, .int .i64 4, .slice Ah bd_h.length ch] 26)).cell? ⟨w17.heap.size, 2, none⟩ = some (.slice Ah bd_h.length ch) := by simp [go_sem]
  go_wp2_with fail
  refine (x_atk_h HC.out _ _ _ hT rh).mono ?_
  rintro e w18 ⟨rfl, b18⟩
  replace p0 := cB5 b18 p0
  replace p1 := cB5 b18 p1
  replace p2 := cB5 b18 p2
  replace q0 := cB5 b18 q0
  replace q1 := cB5 b18 q1
  replace q2 := cB5 b18 q2
  replace u0 := cB5 b18 u0
  replace u1 := cB5 b18 u1
  replace u2 := cB5 b18 u2
  replace v0 := cB5 b18 v0
  replace v1 := cB5 b18 v1
  replace v2 := cB5 b18 v2
  replace ra := rB5 b18 ra
  replace rc := rB5 b18 rc
  replace rd := rB5 b18 rd
  replace rh := rB5 b18 rh
  replace hT := HC.out.below _ _ hT b18
  replace B := chain B b18
  clear b18
  go_wp2_with fail
  refine (x_chk_h HC.out _ _ _ hT rh).mono ?_
  rintro e w19 ⟨rfl, b19⟩
  replace p0 := cB5 b19 p0
  replace p1 := cB5 b19 p1
  replace p2 := cB5 b19 p2
  replace q0 := cB5 b19 q0
  replace q1 := cB5 b19 q1
  replace q2 := cB5 b19 q2
  replace u0 := cB5 b19 u0
  replace u1 := cB5 b19 u1
  replace u2 := cB5 b19 u2
  replace v0 := cB5 b19 v0
  replace v1 := cB5 b19 v1
  replace v2 := cB5 b19 v2
  replace ra := rB5 b19 ra
  replace rc := rB5 b19 rc
  replace rd := rB5 b19 rd
  replace rh := rB5 b19 rh
  replace hT := HC.out.below _ _ hT b19
  replace B := chain B b19
  clear b19
  go_wp2_with fail
  refine (x_king_h HC.out _ _ _ hT rh).mono ?_
  rintro e w20 ⟨rfl, b20⟩
  replace p0 := cB5 b20 p0
  replace p1 := cB5 b20 p1
  replace p2 := cB5 b20 p2
  replace q0 := cB5 b20 q0
  replace q1 := cB5 b20 q1
  replace q2 := cB5 b20 q2
  replace u0 := cB5 b20 u0
  replace u1 := cB5 b20 u1
  replace u2 := cB5 b20 u2
  replace v0 := cB5 b20 v0
  replace v1 := cB5 b20 v1
  replace v2 := cB5 b20 v2
  replace ra := rB5 b20 ra
  replace rc := rB5 b20 rc
  replace rd := rB5 b20 rd
  replace rh := rB5 b20 rh
  replace hT := HC.out.below _ _ hT b20
  replace B := chain B b20
  clear b20
  go_wp2_with fail
  refine (k_set_h_c3 _ _ _ _).mono ?_
  rintro e w21 ⟨rfl, b21⟩
  replace p0 := cB5 b21 p0
  replace p1 := cB5 b21 p1
  replace p2 := cB5 b21 p2
  replace q0 := cB5 b21 q0
  replace q1 := cB5 b21 q1
  replace q2 := cB5 b21 q2
  replace u0 := cB5 b21 u0
  replace u1 := cB5 b21 u1
  replace u2 := cB5 b21 u2
  replace v0 := cB5 b21 v0
  replace v1 := cB5 b21 v1
  replace v2 := cB5 b21 v2
  replace ra := rB5 b21 ra
  replace rc := rB5 b21 rc
  replace rd := rB5 b21 rd
  replace rh := rB5 b21 rh
  replace hT := HC.out.below _ _ hT b21
  replace B := chain B b21
  clear b21
  go_wp2_with fail
  refine (k_set_h_c3 _ _ _ _).mono ?_
  rintro e w22 ⟨rfl, b22⟩
  replace p0 := cB5 b22 p0
  replace p1 := cB5 b22 p1
  replace p2 := cB5 b22 p2
  replace q0 := cB5 b22 q0
  replace q1 := cB5 b22 q1
  replace q2 := cB5 b22 q2
  replace u0 := cB5 b22 u0
  replace u1 := cB5 b22 u1
  replace u2 := cB5 b22 u2
  replace v0 := cB5 b22 v0
  replace v1 := cB5 b22 v1
  replace v2 := cB5 b22 v2
  replace ra := rB5 b22 ra
  replace rc := rB5 b22 rc
  replace rd := rB5 b22 rd
  replace rh := rB5 b22 rh
  replace hT := HC.out.below _ _ hT b22
  replace B := chain B b22
  clear b22
  go_wp2_with fail
  refine (k_board_m _).mono ?_
  rintro e w23 ⟨Am, cm, rfl, rm, hcm, b23⟩
  replace p0 := cB5 b23 p0
  replace p1 := cB5 b23 p1
  replace p2 := cB5 b23 p2
  replace q0 := cB5 b23 q0
  replace q1 := cB5 b23 q1
  replace q2 := cB5 b23 q2
  replace u0 := cB5 b23 u0
  replace u1 := cB5 b23 u1
  replace u2 := cB5 b23 u2
  replace v0 := cB5 b23 v0
  replace v1 := cB5 b23 v1
  replace v2 := cB5 b23 v2
  replace ra := rB5 b23 ra
  replace rc := rB5 b23 rc
  replace rd := rB5 b23 rd
  replace rh := rB5 b23 rh
  replace hT := HC.out.below _ _ hT b23
  replace B := chain B b23
  clear b23
  go_wp2_with fail
  refine (x_king_m_w HC.out _ _ _ hT rm).mono ?_
  rintro e w24 ⟨rfl, b24⟩
  replace p0 := cB5 b24 p0
  replace p1 := cB5 b24 p1
  replace p2 := cB5 b24 p2
  replace q0 := cB5 b24 q0
  replace q1 := cB5 b24 q1
  replace q2 := cB5 b24 q2
  replace u0 := cB5 b24 u0
  replace u1 := cB5 b24 u1
  replace u2 := cB5 b24 u2
  replace v0 := cB5 b24 v0
  replace v1 := cB5 b24 v1
  replace v2 := cB5 b24 v2
  replace ra := rB5 b24 ra
  replace rc := rB5 b24 rc
  replace rd := rB5 b24 rd
  replace rh := rB5 b24 rh
  replace rm := rB5 b24 rm
  replace hT := HC.out.below _ _ hT b24
  replace B := chain B b24
  clear b24
  clear rm
  go_wp2_with fail
  refine (k_board_m _).mono ?_
  rintro e w25 ⟨Am, cm, rfl, rm, hcm, b25⟩
  replace p0 := cB5 b25 p0
  replace p1 := cB5 b25 p1
  replace p2 := cB5 b25 p2
  replace q0 := cB5 b25 q0
  replace q1 := cB5 b25 q1
  replace q2 := cB5 b25 q2
  replace u0 := cB5 b25 u0
  replace u1 := cB5 b25 u1
  replace u2 := cB5 b25 u2
  replace v0 := cB5 b25 v0
  replace v1 := cB5 b25 v1
  replace v2 := cB5 b25 v2
  replace ra := rB5 b25 ra
  replace rc := rB5 b25 rc
  replace rd := rB5 b25 rd
  replace rh := rB5 b25 rh
  replace hT := HC.out.below _ _ hT b25
  replace B := chain B b25
  clear b25
  go_wp2_with fail
  refine (x_king_m_b HC.out _ _ _ hT rm).mono ?_
  rintro e w26 ⟨rfl, b26⟩
  replace p0 := cB5 b26 p0
  replace p1 := cB5 b26 p1
  replace p2 := cB5 b26 p2
  replace q0 := cB5 b26 q0
  replace q1 := cB5 b26 q1
  replace q2 := cB5 b26 q2
  replace u0 := cB5 b26 u0
  replace u1 := cB5 b26 u1
  replace u2 := cB5 b26 u2
  replace v0 := cB5 b26 v0
  replace v1 := cB5 b26 v1
  replace v2 := cB5 b26 v2
  replace ra := rB5 b26 ra
  replace rc := rB5 b26 rc
  replace rd := rB5 b26 rd
  replace rh := rB5 b26 rh
  replace rm := rB5 b26 rm
  replace hT := HC.out.below _ _ hT b26
  replace B := chain B b26
  clear b26
  go_wp2
  go_ret
  exact ⟨rfl, B⟩

end Go.Proofs.YtjnbjegopddhgaaDoor
