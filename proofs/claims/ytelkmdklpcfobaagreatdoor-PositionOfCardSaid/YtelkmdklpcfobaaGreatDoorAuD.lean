/- Attacks, by the program: what its field holds in memory; single squares, sides, occupied squares, a piece that is added. -/
import Derived.BigQuiet
import Derived.Deep.QuietTactic
import Derived.Test.YtelkmdklpcfobaaGreatDoorAtF
import Derived.Test.YtelkmdklpcfobaaGreatDoorRpN
import Derived.StillTailTactics
import Derived.Laws.ResultCell
import Derived.Test.YtelkmdklpcfobaaGreatDoorBpC
import Derived.Test.YtelkmdklpcfobaaGreatDoorBdG
import Derived.Test.YtelkmdklpcfobaaGreatDoorAtB

namespace Go.Proofs.YtelkmdklpcfobaaGreatDoor
open Go.RowKit

/-- where the squares of a side begin in a field. -/
def offN (bl : Bool) : Nat := if bl then 10 else 2
/-- the pieces of a side and a kind. -/
def kP (bl : Bool) (k : Nat) (p : Int) : Bool := decide (k ≠ 0) && (p == sdN bl * k)
/-- the squares of a side, and those of a kind. -/
def sS (l : List Int) (bl : Bool) : Nat := ofL (idx (sdP (sdN bl)) l)
def kS (l : List Int) (bl : Bool) (k : Nat) : Nat := ofL (idx (kP bl k) l)
/-- a field in memory. -/
def Fld (W : World) (B : Nat) (F R : Int) (S : Bool → Nat) (K : Bool → Nat → Nat) : Prop :=
  (W.cell? ⟨B, 0, none⟩ = some (.int .i64 F) ∧ W.cell? ⟨B, 1, none⟩ = some (.int .i64 R)) ∧ (∀ bl, W.cell? ⟨B, offN bl, none⟩ = some (.int .u64 (S bl : Nat))) ∧ ∀ bl k, k < 7 → W.cell? ⟨B, offN bl + 1 + k, none⟩ = some (.int .u64 (K bl k : Nat))
theorem Fld.below {W W' : World} {B : Nat} {F R : Int} {S : Bool → Nat} {K : Bool → Nat → Nat} (h : Fld W B F R S K) (hb : Below W.heap.size W W') : Fld W' B F R S K :=
  ⟨⟨(hb.cell (World.block_lt_of_cell? _ _ h.1.1)).trans h.1.1, (hb.cell (World.block_lt_of_cell? _ _ h.1.2)).trans h.1.2⟩, fun bl => (hb.cell (World.block_lt_of_cell? _ _ (h.2.1 bl))).trans (h.2.1 bl), fun bl k hk => (hb.cell (World.block_lt_of_cell? _ _ (h.2.2 bl k hk))).trans (h.2.2 bl k hk)⟩
theorem Fld.but {W W' : World} {B T : Nat} {F R : Int} {S : Bool → Nat} {K : Bool → Nat → Nat} (h : Fld W B F R S K) (hb : ButS T W W') (hT : B ≠ T) : Fld W' B F R S K :=
  ⟨⟨hb.cell h.1.1 hT, hb.cell h.1.2 hT⟩, fun bl => hb.cell (h.2.1 bl) hT, fun bl k hk => hb.cell (h.2.2 bl k hk) hT⟩
theorem Fld.lt {W : World} {B : Nat} {F R : Int} {S : Bool → Nat} {K : Bool → Nat → Nat} (h : Fld W B F R S K) : B < W.heap.size := World.block_lt_of_cell? _ _ h.1.1
/-- a field by value. -/
def fieldV (F R : Int) (S : Bool → Nat) (K : Bool → Nat → Nat) : Value := .agg #[.int .i64 F, .int .i64 R, .int .u64 (S false : Nat), .int .u64 (K false 0 : Nat), .int .u64 (K false 1 : Nat), .int .u64 (K false 2 : Nat), .int .u64 (K false 3 : Nat), .int .u64 (K false 4 : Nat), .int .u64 (K false 5 : Nat), .int .u64 (K false 6 : Nat),
  .int .u64 (S true : Nat), .int .u64 (K true 0 : Nat), .int .u64 (K true 1 : Nat), .int .u64 (K true 2 : Nat), .int .u64 (K true 3 : Nat), .int .u64 (K true 4 : Nat), .int .u64 (K true 5 : Nat), .int .u64 (K true 6 : Nat)]
theorem seven {k : Nat} (h : k < 7) : k = 0 ∨ k = 1 ∨ k = 2 ∨ k = 3 ∨ k = 4 ∨ k = 5 ∨ k = 6 := by omega
theorem Fld.new (w : World) (F R : Int) (S : Bool → Nat) (K : Bool → Nat → Nat) : Fld (w.alloc (.cells (fieldV F R S K).cells 127)) w.heap.size F R S K := by
  refine ⟨⟨?_, ?_⟩, fun bl => ?_, fun bl k hk => ?_⟩
  · rw [World.cell?_alloc_new]; rfl
  · rw [World.cell?_alloc_new]; rfl
  · rw [World.cell?_alloc_new]; cases bl <;> rfl
  · rw [World.cell?_alloc_new]; rcases seven hk with rfl | rfl | rfl | rfl | rfl | rfl | rfl <;> cases bl <;> rfl

set_option maxRecDepth 100000 in
set_option maxHeartbeats 400000 in
theorem aSingle_any (n : Int) (h0 : 0 ≤ n) (h1 : n < 64) (w : World) :
    Calls Tryz.prog 166 #[.int .i64 n] w fun e w' => e = .returned (.int .u64 (bitN n.toNat : Int)) ∧ w = w' := by
  have E := Lib.hid (pow_wrap n h1)
  go_enter Tryz.func166, Tryz.ntmps166
  go_wp2
  go_ret
  exact ⟨ret_int E.out, rfl⟩

theorem aSide_any (B : Nat) (bl : Bool) (w : World) :
    Calls Tryz.prog 140 #[.pointer (some ⟨B, 0, none⟩), .bool bl] w fun e w' => e = .returned (.pointer (some ⟨B, offN bl, none⟩)) ∧ w = w' := by
  cases bl
  all_goals
    go_enter Tryz.func140, Tryz.ntmps140
    go_wp2
    go_ret
    exact ⟨rfl, rfl⟩

set_option maxRecDepth 100000 in
set_option maxHeartbeats 1000000 in
theorem aOcc_any (B x y : Nat) (hx : x < 18446744073709551616) (hy : y < 18446744073709551616) (w : World) (h1 : w.cell? ⟨B, 2, none⟩ = some (.int .u64 (x : Nat))) (h2 : w.cell? ⟨B, 10, none⟩ = some (.int .u64 (y : Nat))) :
    Calls Tryz.prog 144 #[.pointer (some ⟨B, 0, none⟩)] w fun e w' => e = .returned (.int .u64 ((x ||| y : Nat) : Int)) ∧ Below w.heap.size w w' := by
  have E := Lib.hid (u64_or_nat x y hx hy)
  go_enter Tryz.func144, Tryz.ntmps144
  go_wp2
  go_quiet (fail)
  go_wp2
  go_ret
  exact ⟨ret_int E.out, drawn (Below.refl _ _) _⟩

end Go.Proofs.YtelkmdklpcfobaaGreatDoor

/- Attacks, by the program: a piece that is added to a side. -/
namespace Go.Proofs.YtelkmdklpcfobaaGreatDoor
open Go.RowKit

/-- a piece of a kind is added to the side that begins at a cell. -/
def AddP (B q k n x y : Nat) (w w' : World) : Prop := ButS B w w' ∧ w'.heap.size = w.heap.size ∧ w'.cell? ⟨B, q, none⟩ = some (.int .u64 ((x ||| bitN n : Nat) : Int)) ∧ w'.cell? ⟨B, q + 1 + k, none⟩ = some (.int .u64 ((y ||| bitN n : Nat) : Int)) ∧
  (∀ o v, o ≠ q → o ≠ q + 1 + k → w.cell? ⟨B, o, none⟩ = some v → w'.cell? ⟨B, o, none⟩ = some v) ∧ ∀ a, w'.frozen? a = w.frozen? a
theorem addP_of {B q k n x y : Nat} {w : World} (h1 : w.cell? ⟨B, q, none⟩ = some (.int .u64 (x : Nat))) (h2 : w.cell? ⟨B, q + 1 + k, none⟩ = some (.int .u64 (y : Nat))) :
    AddP B q k n x y w (((w.setCell ⟨B, q, none⟩ (.int .u64 ((x ||| bitN n : Nat) : Int))).drew.setCell ⟨B, q + 1 + k, none⟩ (.int .u64 ((y ||| bitN n : Nat) : Int))).drew) := by
  refine ⟨((ButS.set _ _ _).drew).trans ((ButS.set _ _ _).drew), by simp, ?_, ?_, ?_, ?_⟩
  · rw [World.cell?_drew, World.cell?_setCell_other _ _ _ _ (fun e => by injection e; omega)]
    exact World.cell?_setCell_same w ⟨B, q, none⟩ _ h1
  · rw [World.cell?_drew]
    exact World.cell?_setCell_same _ ⟨B, q + 1 + k, none⟩ _ ((World.cell?_setCell_other w ⟨B, q, none⟩ ⟨B, q + 1 + k, none⟩ _ (fun e => by injection e; omega)).trans h2)
  · intro o v h3 h4 h5
    rw [World.cell?_drew]
    refine (World.cell?_setCell_other _ _ _ _ (fun e => by injection e; omega)).trans ?_
    exact (World.cell?_setCell_other w ⟨B, q, none⟩ ⟨B, o, none⟩ _ (fun e => by injection e; omega)).trans h5
  · intro a'
    refine (World.frozen?_setCell ..).trans ?_
    exact World.frozen?_setCell ..

set_option maxRecDepth 100000 in
set_option maxHeartbeats 1000000 in
theorem aAdd_any (B q k n x y : Nat) (hk : k < 7) (hn : n < 64) (hx : x < 18446744073709551616) (hy : y < 18446744073709551616) (w : World) (h1 : w.cell? ⟨B, q, none⟩ = some (.int .u64 (x : Nat))) (h2 : w.cell? ⟨B, q + 1 + k, none⟩ = some (.int .u64 (y : Nat)))
    (f1 : w.frozen? ⟨B, q, none⟩ = false) (f2 : w.frozen? ⟨B, q + 1 + k, none⟩ = false) :
    Calls Tryz.prog 139 #[.pointer (some ⟨B, q, none⟩), .int .i8 k, .int .i64 n] w fun e w' => e = .returned (.tuple #[]) ∧ AddP B q k n x y w w' := by
  have HX := Lib.hid (or_bitN x n hx hn)
  have HY := Lib.hid (or_bitN y n hy hn)
  have HS := Lib.hid (fun w => aSingle_any n (by omega) (by omega) w)
  have HP := Lib.hid (addP_of (n := n) h1 h2)
  go_enter Tryz.func139, Tryz.ntmps139
  go_wp2
  go_region_with (go_at_call 166; refine (HS.out _).mono ?_; rintro e w4 ⟨rfl, rfl⟩)
  all_goals
    simp only [Int.toNat_natCast] at *
    go_wp2
    rw [HX.out]
    have hp := HP.out
    have k2 : (w.setCell ⟨B, q, none⟩ (.int .u64 ((x ||| bitN n : Nat) : Int))).drew.cell? ⟨B, q + 1 + k, none⟩ = some (.int .u64 (y : Nat)) := (World.cell?_setCell_other w ⟨B, q, none⟩ ⟨B, q + 1 + k, none⟩ _ (fun e => by injection e; omega)).trans h2
    have g2 : (w.setCell ⟨B, q, none⟩ (.int .u64 ((x ||| bitN n : Nat) : Int))).drew.frozen? ⟨B, q + 1 + k, none⟩ = false := (World.frozen?_setCell ..).trans f2
    generalize (w.setCell ⟨B, q, none⟩ (.int .u64 ((x ||| bitN n : Nat) : Int))).drew = V at *
    clear HP h1 h2 f1 f2
    have HP := Lib.hid hp
    clear hp
    go_region_with (go_at_call 166; refine (HS.out _).mono ?_; rintro e w4 ⟨rfl, rfl⟩)
    all_goals
      try simp only [Int.toNat_natCast] at *
      go_wp2
      go_end0
      refine ⟨rfl, ?_⟩
      rw [HY.out]
      exact HP.out

end Go.Proofs.YtelkmdklpcfobaaGreatDoor

/- Attacks, by the program: the field of a board. -/
namespace Go.Proofs.YtelkmdklpcfobaaGreatDoor
open Go.RowKit

def Sn (l : List Int) (k : Nat) (bl : Bool) : Nat := ofL (idxTo (sdP (sdN bl)) l k)
def Kn (l : List Int) (k : Nat) (bl : Bool) (j : Nat) : Nat := ofL (idxTo (kP bl j) l k)
theorem idxTo_lt64 (P : Int → Bool) (l : List Int) (k : Nat) (hk : k ≤ 64) : ofL (idxTo P l k) < 18446744073709551616 := by
  have := ofL_lt (l := idxTo P l k) (n := 64) (fun i hi => by
    unfold idxTo at hi
    have := List.mem_range.1 (List.mem_filter.1 hi).1
    omega)
  simpa using this
theorem Sn_lt {l : List Int} {k : Nat} (hk : k ≤ 64) (bl : Bool) : Sn l k bl < 18446744073709551616 := idxTo_lt64 _ _ _ hk
theorem Kn_lt {l : List Int} {k : Nat} (hk : k ≤ 64) (bl : Bool) (j : Nat) : Kn l k bl j < 18446744073709551616 := idxTo_lt64 _ _ _ hk
theorem Sn_zero (l : List Int) (bl : Bool) : Sn l 0 bl = 0 := rfl
theorem Kn_zero (l : List Int) (bl : Bool) (j : Nat) : Kn l 0 bl j = 0 := rfl
theorem Sn_all (l : List Int) : Sn l l.length = sS l := rfl
theorem Kn_all (l : List Int) : Kn l l.length = kS l := rfl
/-- a field that may be written. -/
def FldF (W : World) (B : Nat) (F R : Int) (S : Bool → Nat) (K : Bool → Nat → Nat) : Prop := Fld W B F R S K ∧ ∀ o, W.frozen? ⟨B, o, none⟩ = false
theorem fld_same {W : World} {B : Nat} {F R : Int} {l : List Int} {k : Nat} (h : FldF W B F R (Sn l k) (Kn l k)) (h0 : l[k]?.getD 0 = 0) : FldF W B F R (Sn l (k + 1)) (Kn l (k + 1)) := by
  have e1 : Sn l (k + 1) = Sn l k := by
    funext bl
    unfold Sn
    rw [idxTo_no _ _ _ (by rw [h0]; cases bl <;> rfl)]
  have e2 : Kn l (k + 1) = Kn l k := by
    funext bl j
    unfold Kn
    rw [idxTo_no _ _ _ (by
      rw [h0]
      unfold kP
      by_cases hj : j = 0
      · simp [hj]
      · cases bl <;> simp [sdN, hj] <;> omega)]
  rw [e1, e2]
  exact h
theorem fld_add {W W' : World} {B : Nat} {F R : Int} {l : List Int} {k j : Nat} {bl : Bool} (h : FldF W B F R (Sn l k) (Kn l k)) (hj : 1 ≤ j) (hj6 : j ≤ 6) (hp : l[k]?.getD 0 = sdN bl * j) (ha : AddP B (offN bl) j k (Sn l k bl) (Kn l k bl j) W W') : FldF W' B F R (Sn l (k + 1)) (Kn l (k + 1)) := by
  obtain ⟨_, _, a1, a2, a3, a4⟩ := ha
  have hs : ∀ b, sdP (sdN b) (l[k]?.getD 0) = (b == bl) := by
    intro b
    rw [hp]
    unfold sdP sgnP
    cases b <;> cases bl <;> simp [sdN] <;> omega
  have hk : ∀ b i, i < 7 → kP b i (l[k]?.getD 0) = ((b == bl) && (i == j)) := by
    intro b i hi
    rw [hp]
    unfold kP
    rw [Bool.eq_iff_iff]
    cases b <;> cases bl <;> simp [sdN] <;> omega
  have hSy : Sn l (k + 1) bl = Sn l k bl ||| bitN k := by
    unfold Sn
    rw [idxTo_yes _ _ _ (by rw [hs]; simp), ofL_snoc]
  have hSn : ∀ b, b ≠ bl → Sn l (k + 1) b = Sn l k b := fun b hb => by
    unfold Sn
    rw [idxTo_no _ _ _ (by rw [hs]; simpa using hb)]
  have hKy : Kn l (k + 1) bl j = Kn l k bl j ||| bitN k := by
    unfold Kn
    rw [idxTo_yes _ _ _ (by rw [hk _ _ (by omega)]; simp), ofL_snoc]
  have hKn : ∀ b i, i < 7 → ¬ (b = bl ∧ i = j) → Kn l (k + 1) b i = Kn l k b i := fun b i hi hb => by
    unfold Kn
    rw [idxTo_no _ _ _ (by
      rw [hk _ _ hi, Bool.eq_false_iff]
      intro e
      simp at e
      exact hb e)]
  have off2 : ∀ b, offN b = 2 ∨ offN b = 10 := fun b => by cases b <;> simp [offN]
  have offne : ∀ b, b ≠ bl → (offN b = 2 ∧ offN bl = 10) ∨ (offN b = 10 ∧ offN bl = 2) := fun b hb => by cases b <;> cases bl <;> simp [offN] at hb ⊢
  have o2 := off2 bl
  refine ⟨⟨⟨a3 0 _ (by omega) (by omega) h.1.1.1, a3 1 _ (by omega) (by omega) h.1.1.2⟩, fun b => ?_, fun b i hi => ?_⟩, fun o => (a4 _).trans (h.2 o)⟩
  · by_cases hb : b = bl
    · subst hb
      rw [hSy]; exact a1
    · rw [hSn b hb]
      have := offne b hb
      exact a3 _ _ (by omega) (by omega) (h.1.2.1 b)
  · by_cases hb : b = bl
    · subst hb
      by_cases hi2 : i = j
      · subst hi2
        rw [hKy]; exact a2
      · rw [hKn b i hi (fun e => hi2 e.2)]
        exact a3 _ _ (by omega) (by omega) (h.1.2.2 b i hi)
    · rw [hKn b i hi (fun e => hb e.1)]
      have := offne b hb
      exact a3 _ _ (by omega) (by omega) (h.1.2.2 b i hi)

/-- what the program's survey of a board returns. -/
def survV (F R : Int) (l : List Int) : Value := if orA l = true then .tuple #[fieldV F R (sS l) (kS l), .int .i64 0] else .tuple #[fieldV 0 0 (fun _ => 0) (fun _ _ => 0), .int .i64 2]

/-- cells that are written one after the other. -/
def putL (B : Nat) : World → Nat → List Value → World
  | W, _, [] => W
  | W, o, v :: vs => putL B (W.setCell ⟨B, o, none⟩ v) (o + 1) vs
theorem putL_but (B : Nat) : ∀ (vs : List Value) (W : World) (o : Nat), ButS B W (putL B W o vs)
  | [], _, _ => ButS.refl _ _
  | v :: vs, W, o => (ButS.set W o v).trans (putL_but B vs _ _)
theorem putL_other (B : Nat) : ∀ (vs : List Value) (W : World) (o q : Nat) (u : Value), q < o → W.cell? ⟨B, q, none⟩ = some u → (putL B W o vs).cell? ⟨B, q, none⟩ = some u
  | [], _, _, _, _, _, h => h
  | v :: vs, W, o, q, u, hq, h => putL_other B vs _ (o + 1) q u (by omega) ((World.cell?_setCell_other W ⟨B, o, none⟩ ⟨B, q, none⟩ _ (fun e => by injection e; omega)).trans h)
theorem putL_cell (B : Nat) : ∀ (vs : List Value) (W : World) (o : Nat), (∀ j, j < vs.length → ∃ u, W.cell? ⟨B, o + j, none⟩ = some u) → ∀ j (hj : j < vs.length), (putL B W o vs).cell? ⟨B, o + j, none⟩ = some vs[j]
  | [], _, _, _, j, hj => by simp at hj
  | v :: vs, W, o, h, 0, _ => by
    obtain ⟨u, hu⟩ := h 0 (by simp)
    exact putL_other B vs _ (o + 1) o v (by omega) (World.cell?_setCell_same W ⟨B, o, none⟩ _ hu)
  | v :: vs, W, o, h, j + 1, hj => by
    have := putL_cell B vs (W.setCell ⟨B, o, none⟩ v) (o + 1) (fun i hi => by
      obtain ⟨u, hu⟩ := h (i + 1) (by simpa using hi)
      rw [show o + (i + 1) = o + 1 + i by omega] at hu
      exact ⟨u, (World.cell?_setCell_other W ⟨B, o, none⟩ ⟨B, o + 1 + i, none⟩ _ (fun e => by injection e; omega)).trans hu⟩) j (by simpa using hj)
    rw [show o + (j + 1) = o + 1 + j by omega]
    exact this
/-- the cells of a field by value. -/
def fieldC (F R : Int) (S : Bool → Nat) (K : Bool → Nat → Nat) : List Value := [.int .i64 F, .int .i64 R, .int .u64 (S false : Nat), .int .u64 (K false 0 : Nat), .int .u64 (K false 1 : Nat), .int .u64 (K false 2 : Nat), .int .u64 (K false 3 : Nat), .int .u64 (K false 4 : Nat), .int .u64 (K false 5 : Nat), .int .u64 (K false 6 : Nat), .int .u64 (S true : Nat), .int .u64 (K true 0 : Nat), .int .u64 (K true 1 : Nat), .int .u64 (K true 2 : Nat), .int .u64 (K true 3 : Nat), .int .u64 (K true 4 : Nat), .int .u64 (K true 5 : Nat), .int .u64 (K true 6 : Nat)]
theorem fld_put {W : World} {B : Nat} {F R : Int} {S : Bool → Nat} {K : Bool → Nat → Nat} (h : ∀ j, j < 18 → ∃ u, W.cell? ⟨B, j, none⟩ = some u) : Fld (putL B W 0 (fieldC F R S K)) B F R S K := by
  have hp := putL_cell B (fieldC F R S K) W 0 (fun j hj => by rw [Nat.zero_add]; exact h j hj)
  simp only [Nat.zero_add] at hp
  have hq : ∀ j (hj : j < 18), (putL B W 0 (fieldC F R S K)).cell? ⟨B, j, none⟩ = some ((fieldC F R S K)[j]'hj) := fun j hj => hp j hj
  refine ⟨⟨hq 0 (by omega), hq 1 (by omega)⟩, fun bl => ?_, fun bl k hk => ?_⟩
  · cases bl
    · exact hq 2 (by omega)
    · exact hq 10 (by omega)
  · cases bl
    · rcases seven hk with rfl | rfl | rfl | rfl | rfl | rfl | rfl
      · exact hq 3 (by omega)
      · exact hq 4 (by omega)
      · exact hq 5 (by omega)
      · exact hq 6 (by omega)
      · exact hq 7 (by omega)
      · exact hq 8 (by omega)
      · exact hq 9 (by omega)
    · rcases seven hk with rfl | rfl | rfl | rfl | rfl | rfl | rfl
      · exact hq 11 (by omega)
      · exact hq 12 (by omega)
      · exact hq 13 (by omega)
      · exact hq 14 (by omega)
      · exact hq 15 (by omega)
      · exact hq 16 (by omega)
      · exact hq 17 (by omega)
/-- the cells of a field, one by one. -/
theorem Fld.cells {W : World} {B : Nat} {F R : Int} {S : Bool → Nat} {K : Bool → Nat → Nat} (h : Fld W B F R S K) : ∀ j (hj : j < 18), W.cell? ⟨B, j, none⟩ = some ((fieldC F R S K)[j]'hj) := by
  intro j hj
  have : j = 0 ∨ j = 1 ∨ j = 2 ∨ j = 3 ∨ j = 4 ∨ j = 5 ∨ j = 6 ∨ j = 7 ∨ j = 8 ∨ j = 9 ∨ j = 10 ∨ j = 11 ∨ j = 12 ∨ j = 13 ∨ j = 14 ∨ j = 15 ∨ j = 16 ∨ j = 17 := by omega
  rcases this with rfl | rfl | rfl | rfl | rfl | rfl | rfl | rfl | rfl | rfl | rfl | rfl | rfl | rfl | rfl | rfl | rfl | rfl
  · exact h.1.1
  · exact h.1.2
  · exact h.2.1 false
  · exact h.2.2 false 0 (by omega)
  · exact h.2.2 false 1 (by omega)
  · exact h.2.2 false 2 (by omega)
  · exact h.2.2 false 3 (by omega)
  · exact h.2.2 false 4 (by omega)
  · exact h.2.2 false 5 (by omega)
  · exact h.2.2 false 6 (by omega)
  · exact h.2.1 true
  · exact h.2.2 true 0 (by omega)
  · exact h.2.2 true 1 (by omega)
  · exact h.2.2 true 2 (by omega)
  · exact h.2.2 true 3 (by omega)
  · exact h.2.2 true 4 (by omega)
  · exact h.2.2 true 5 (by omega)
  · exact h.2.2 true 6 (by omega)
set_option maxRecDepth 100000 in
set_option maxHeartbeats 1000000 in
theorem res18 {fn : Func} {p u : Tmp} (hf : fn.results = #[.cell p 127, .tmp u]) {tmps : Array Value} {W : World} {B : Nat} {F R : Int} {S : Bool → Nat} {K : Bool → Nat → Nat} (hp : tmps.getD p undef = .pointer (some ⟨B, 0, none⟩)) (h : Fld W B F R S K) :
    (results fn tmps).run Tryz.prog W = .ok (.tuple #[fieldV F R S K, tmps.getD u undef]) W := by
  rw [results_cell_tmp hf, hp]
  have r0 := h.cells 0 (by omega)
  have r1 := h.cells 1 (by omega)
  have r2 := h.cells 2 (by omega)
  have r3 := h.cells 3 (by omega)
  have r4 := h.cells 4 (by omega)
  have r5 := h.cells 5 (by omega)
  have r6 := h.cells 6 (by omega)
  have r7 := h.cells 7 (by omega)
  have r8 := h.cells 8 (by omega)
  have r9 := h.cells 9 (by omega)
  have r10 := h.cells 10 (by omega)
  have r11 := h.cells 11 (by omega)
  have r12 := h.cells 12 (by omega)
  have r13 := h.cells 13 (by omega)
  have r14 := h.cells 14 (by omega)
  have r15 := h.cells 15 (by omega)
  have r16 := h.cells 16 (by omega)
  have r17 := h.cells 17 (by omega)
  simp only [fieldC, List.getElem_cons_zero, List.getElem_cons_succ] at r0 r1 r2 r3 r4 r5 r6 r7 r8 r9 r10 r11 r12 r13 r14 r15 r16 r17
  simp [go_sem, r0, r1, r2, r3, r4, r5, r6, r7, r8, r9, r10, r11, r12, r13, r14, r15, r16, r17]
  rfl

def zeroF (o : Nat) : Value := if o < 2 then .int .i64 0 else .int .u64 0
theorem zero_cells (w : World) (o : Nat) (ho : o < 18) : (w.alloc (.cells (fieldV 0 0 (fun _ => 0) (fun _ _ => 0)).cells 127)).cell? ⟨w.heap.size, o, none⟩ = some (zeroF o) ∧ (w.alloc (.cells (fieldV 0 0 (fun _ => 0) (fun _ _ => 0)).cells 127)).frozen? ⟨w.heap.size, o, none⟩ = false := by
  refine ⟨?_, by simp [go_sem]⟩
  rw [World.cell?_alloc_new]
  have : o = 0 ∨ o = 1 ∨ o = 2 ∨ o = 3 ∨ o = 4 ∨ o = 5 ∨ o = 6 ∨ o = 7 ∨ o = 8 ∨ o = 9 ∨ o = 10 ∨ o = 11 ∨ o = 12 ∨ o = 13 ∨ o = 14 ∨ o = 15 ∨ o = 16 ∨ o = 17 := by omega
  rcases this with rfl | rfl | rfl | rfl | rfl | rfl | rfl | rfl | rfl | rfl | rfl | rfl | rfl | rfl | rfl | rfl | rfl | rfl <;> rfl
abbrev zS : Bool → Nat := fun _ => 0
abbrev zK : Bool → Nat → Nat := fun _ _ => 0

theorem putL_gen (W : World) (B : Nat) (F R : Int) (S : Bool → Nat) (K : Bool → Nat → Nat) : ((((((((((((((((((W.setCell ⟨B, 0, none⟩ (.int .i64 F)).setCell ⟨B, 1, none⟩ (.int .i64 R)).setCell ⟨B, 2, none⟩ (.int .u64 (S false : Nat))).setCell ⟨B, 3, none⟩ (.int .u64 (K false 0 : Nat))).setCell ⟨B, 4, none⟩ (.int .u64 (K false 1 : Nat))).setCell ⟨B, 5, none⟩ (.int .u64 (K false 2 : Nat))).setCell ⟨B, 6, none⟩ (.int .u64 (K false 3 : Nat))).setCell ⟨B, 7, none⟩ (.int .u64 (K false 4 : Nat))).setCell ⟨B, 8, none⟩ (.int .u64 (K false 5 : Nat))).setCell ⟨B, 9, none⟩ (.int .u64 (K false 6 : Nat))).setCell ⟨B, 10, none⟩ (.int .u64 (S true : Nat))).setCell ⟨B, 11, none⟩ (.int .u64 (K true 0 : Nat))).setCell ⟨B, 12, none⟩ (.int .u64 (K true 1 : Nat))).setCell ⟨B, 13, none⟩ (.int .u64 (K true 2 : Nat))).setCell ⟨B, 14, none⟩ (.int .u64 (K true 3 : Nat))).setCell ⟨B, 15, none⟩ (.int .u64 (K true 4 : Nat))).setCell ⟨B, 16, none⟩ (.int .u64 (K true 5 : Nat))).setCell ⟨B, 17, none⟩ (.int .u64 (K true 6 : Nat))) = putL B W 0 (fieldC F R S K) := rfl
theorem putL_zero (W : World) (B : Nat) : ((((((((((((((((((W.setCell ⟨B, 0, none⟩ (.int .i64 0)).setCell ⟨B, 1, none⟩ (.int .i64 0)).setCell ⟨B, 2, none⟩ (.int .u64 0)).setCell ⟨B, 3, none⟩ (.int .u64 0)).setCell ⟨B, 4, none⟩ (.int .u64 0)).setCell ⟨B, 5, none⟩ (.int .u64 0)).setCell ⟨B, 6, none⟩ (.int .u64 0)).setCell ⟨B, 7, none⟩ (.int .u64 0)).setCell ⟨B, 8, none⟩ (.int .u64 0)).setCell ⟨B, 9, none⟩ (.int .u64 0)).setCell ⟨B, 10, none⟩ (.int .u64 0)).setCell ⟨B, 11, none⟩ (.int .u64 0)).setCell ⟨B, 12, none⟩ (.int .u64 0)).setCell ⟨B, 13, none⟩ (.int .u64 0)).setCell ⟨B, 14, none⟩ (.int .u64 0)).setCell ⟨B, 15, none⟩ (.int .u64 0)).setCell ⟨B, 16, none⟩ (.int .u64 0)).setCell ⟨B, 17, none⟩ (.int .u64 0)) = putL B W 0 (fieldC 0 0 zS zK) := putL_gen W B 0 0 zS zK

end Go.Proofs.YtelkmdklpcfobaaGreatDoor
