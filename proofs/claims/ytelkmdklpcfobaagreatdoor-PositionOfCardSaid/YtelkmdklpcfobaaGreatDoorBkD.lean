/- Boards: facts that stay when a call changes nothing that lay before. -/
import Derived.Test.YtelkmdklpcfobaaGreatDoorBkA
import Derived.Test.YtelkmdklpcfobaaGreatDoorBdH
import Derived.Test.YtelkmdklpcfobaaGreatDoorBdF

namespace Go.Proofs.YtelkmdklpcfobaaGreatDoor
open Go.RowKit

theorem cellB {W W' : World} (hb : Below W.heap.size W W') {a : Addr} {v : Value} (h : W.cell? a = some v) : W'.cell? a = some v :=
  (hb.cell (World.block_lt_of_cell? W a h)).trans h
theorem rdB {W W' : World} (hb : Below W.heap.size W W') {A : Option Addr} {l : List Int} {c : Nat} (h : RdP W W.heap.size A l c) : RdP W' W'.heap.size A l c := (h.below hb).grow hb.size
/-- a block of which nothing is frozen. -/
def Soft (W : World) (b : Nat) : Prop := b < W.heap.size ∧ ∀ o, W.frozen? ⟨b, o, none⟩ = false
theorem frB {W W' : World} (hb : Below W.heap.size W W') {b : Nat} (h : Soft W b) : Soft W' b := ⟨Nat.lt_of_lt_of_le h.1 hb.size, fun o => (hb.frozen (p := ⟨b, o, none⟩) h.1).trans (h.2 o)⟩

/-- the texts of a valid board, by both. -/
theorem text_yes' (F R : Int) (l : List Int) (A : Option Addr) (c : Nat) (w : World) (hv : vbd F R l) (hcap : l.length ≤ c) (hA : RdP w w.heap.size A l c) (hK : Kinds w) :
    Calls Tryz.prog 52 #[.agg #[.int .i64 F, .int .i64 R, .slice A l.length c]] w fun e w' => e = .returned (.tuple #[.string (textB F.toNat R.toNat l), .int .i64 0]) ∧ Below w.heap.size w w' := by
  obtain ⟨f, r, rfl, rfl, _⟩ := vbd_nat hv
  exact text_yes f r l A c w hv hcap hA hK
theorem rText_any' (F R : Int) (l : List Int) (A : Option Addr) (c : Nat) (w : World) (hv : vbd F R l) (hA : RdP w w.heap.size A l c) :
    Calls Tryz.prog 60 #[.agg #[.int .i64 F, .int .i64 R, .slice A l.length c]] w fun e w' => e = .returned (.string (textB F.toNat R.toNat l)) ∧ Below w.heap.size w w' := by
  obtain ⟨f, r, rfl, rfl, f3, f8, r3, r8, hl⟩ := vbd_nat hv
  exact rText_any f r l A c w f3 f8 r3 r8 hl hv.2.2 hA

end Go.Proofs.YtelkmdklpcfobaaGreatDoor

/- Boards: a loop that writes into one block alone. -/
namespace Go.Proofs.YtelkmdklpcfobaaGreatDoor
open Go.RowKit

/-- all is as it was but for the block g. -/
structure But (g : Nat) (W W' : World) : Prop where
  os : W'.os = W.os
  tape : W'.tape = W.tape
  output : W'.output = W.output
  size : W'.heap.size = W.heap.size
  block : ∀ k, k ≠ g → W'.heap[k]? = W.heap[k]?
theorem But.refl (g : Nat) (W : World) : But g W W := ⟨rfl, rfl, rfl, rfl, fun _ _ => rfl⟩
theorem But.setCell {g : Nat} {W W' : World} (h : But g W W') (o : Nat) (v : Value) : But g W (W'.setCell ⟨g, o, none⟩ v) := by
  have hg := grownBy_setCell' W' g v
  refine ⟨h.os, h.tape, h.output, by simpa using h.size, fun k hk => ?_⟩
  by_cases hl : k < W'.heap.size
  · have : (W'.setCell ⟨g, o, none⟩ v).heap[k]? = W'.heap[k]? := by
      have hb : Below g W' (W'.setCell ⟨g, o, none⟩ v) := (Below.refl g W').setCell (p := ⟨g, o, none⟩) (Nat.le_refl _) v
      by_cases hkg : k < g
      · exact hb.block k hkg
      · simp [World.setCell, Array.getElem?_modify, Ne.symm hk]
    exact this.trans (h.block k hk)
  · rw [Array.getElem?_eq_none (by simpa using hl), ← h.block k hk, Array.getElem?_eq_none (by omega)]
theorem But.drewN {g : Nat} {W W' : World} (h : But g W W') (n : Nat) : But g W (W'.drewN n) := ⟨h.os, h.tape, h.output, h.size, h.block⟩
theorem But.drew {g : Nat} {W W' : World} (h : But g W W') : But g W W'.drew := ⟨h.os, h.tape, h.output, h.size, h.block⟩
theorem But.cell {g : Nat} {W W' : World} (h : But g W W') {a : Addr} {v : Value} (hc : W.cell? a = some v) (hne : a.block ≠ g) : W'.cell? a = some v := (World.cell?_of_block (h.block _ hne)).trans hc
theorem But.rd {g : Nat} {W W' : World} (h : But g W W') {A : Option Addr} {l : List Int} {c : Nat} (hA : RdP W W.heap.size A l c) (hne : ∀ ad, A = some ad → ad.block ≠ g) : RdP W' W'.heap.size A l c := ⟨hA.1, fun hl => by
  obtain ⟨ad, e, h1, hc⟩ := hA.2 hl
  exact ⟨ad, e, by rw [h.size]; exact h1, fun j u hu => h.cell (hc j u hu) (by rw [blk_add]; exact hne ad e)⟩⟩
theorem But.below {g B : Nat} {a W W' : World} (h : But g W W') (hb : Below B a W) (hg : B ≤ g) : Below B a W' :=
  ⟨h.os.trans hb.os, h.tape.trans hb.tape, h.output.trans hb.output, by rw [h.size]; exact hb.size, fun k hk => (h.block k (by omega)).trans (hb.block k hk)⟩

end Go.Proofs.YtelkmdklpcfobaaGreatDoor

/- Boards: contracts that answer with a truth value; copies whose cells are the call's own. -/
namespace Go.Proofs.YtelkmdklpcfobaaGreatDoor
open Go.RowKit

theorem bool_of (P : Prop) : ∃ b : Bool, (b = true ↔ P) := by
  by_cases h : P
  · exact ⟨true, by simp [h]⟩
  · exact ⟨false, by simp [h]⟩
theorem bValid_as (F R : Int) (l : List Int) (A : Option Addr) (c : Nat) (t : Bool) (h : t = true ↔ vbd F R l) (w : World) (hlen : l.length ≤ 100000) (hA : RdP w w.heap.size A l c) :
    Calls Tryz.prog 87 #[.agg #[.int .i64 F, .int .i64 R, .slice A l.length c]] w fun e w' => e = .returned (.bool t) ∧ Below w.heap.size w w' := by
  cases t with
  | true => exact bValid_yes F R l A c (h.1 rfl) w hA
  | false => exact bValid_no F R l A c (fun hv => by cases h.2 hv) w hlen hA
theorem rbValid_as (F R : Int) (l : List Int) (A : Option Addr) (c : Nat) (t : Bool) (h : t = true ↔ vbd F R l) (w : World) (hlen : l.length ≤ 100000) (hA : RdP w w.heap.size A l c) :
    Calls Tryz.prog 76 #[.agg #[.int .i64 F, .int .i64 R, .slice A l.length c]] w fun e w' => e = .returned (.bool t) ∧ Below w.heap.size w w' := by
  cases t with
  | true => exact rbValid_yes F R l A c (h.1 rfl) w hA
  | false => exact rbValid_no F R l A c (fun hv => by cases h.2 hv) w hlen hA
theorem equal_as (F R F' R' : Int) (l l' : List Int) (A A' : Option Addr) (c c' : Nat) (t : Bool) (h : t = true ↔ (F = F' ∧ R = R' ∧ l = l')) (w : World) (hlen : l.length ≤ 100000) (hA : RdP w w.heap.size A l c) (hA' : RdP w w.heap.size A' l' c') :
    Calls Tryz.prog 51 #[.agg #[.int .i64 F, .int .i64 R, .slice A l.length c], .agg #[.int .i64 F', .int .i64 R', .slice A' l'.length c']] w fun e w' => e = .returned (.bool t) ∧ Below w.heap.size w w' := by
  cases t with
  | true =>
    obtain ⟨rfl, rfl, rfl⟩ := h.1 rfl
    exact equal_yes F R l A A' c c' w hlen hA hA'
  | false => exact equal_no F R F' R' l l' A A' c c' w hlen hA hA' (fun hv => by cases h.2 hv)
theorem same_as (F R F' R' : Int) (l l' : List Int) (A A' : Option Addr) (c c' : Nat) (t : Bool) (h : t = true ↔ (F = F' ∧ R = R' ∧ l = l')) (w : World) (hlen : l.length ≤ 100000) (hA : RdP w w.heap.size A l c) (hA' : RdP w w.heap.size A' l' c') :
    Calls Tryz.prog 17 #[.agg #[.int .i64 F, .int .i64 R, .slice A l.length c], .agg #[.int .i64 F', .int .i64 R', .slice A' l'.length c']] w fun e w' => e = .returned (.bool t) ∧ Below w.heap.size w w' := by
  cases t with
  | true =>
    obtain ⟨rfl, rfl, rfl⟩ := h.1 rfl
    exact same_yes F R l A A' c c' w hlen hA hA'
  | false => exact same_no F R F' R' l l' A A' c c' w hlen hA hA' (fun hv => by cases h.2 hv)
theorem rd_nil (w : World) (B : Nat) : RdP w B none [] 0 := ⟨fun _ => ⟨rfl, rfl⟩, fun h => by simp at h⟩

/-- a row of the call's own: what it reads as, and that none of it lay before. -/
theorem own_parts {w : World} {B e : Nat} {v : Value} {l : List Int} (h : w.ownsRow B e 1 v l.length (vpcs l)) :
    ∃ A c, v = .slice A l.length c ∧ RdP w w.heap.size A l c ∧ w.ownsRow B e 1 (.slice A l.length c) l.length (vpcs l) := by
  obtain ⟨A, c, rfl, _, hr⟩ := RdP.own h
  exact ⟨A, c, rfl, hr, h⟩
/-- the cells of such a row, while a loop writes into them: n cells of block g, whatever they hold. -/
def Row (w : World) (B e g c n : Nat) : Prop := ∃ xs : List Int, xs.length = n ∧ w.ownsRow B e 1 (.slice (some ⟨g, 0, none⟩) n c) n (vpcs xs)
theorem Row.at_ {w : World} {B e g c n k : Nat} (h : Row w B e g c n) (hk : k < n) : (∃ x, w.cell? ⟨g, k, none⟩ = some (.int .i8 x)) ∧ w.frozen? ⟨g, k, none⟩ = false := by
  obtain ⟨xs, hl, ho⟩ := h
  refine ⟨⟨xs[k]?.getD 0, ?_⟩, ho.frozenAt k⟩
  rw [ho.cellAt k (by omega)]
  simp [vpcs, vpc, List.getElem?_eq_getElem (show k < xs.length by omega)]
theorem Row.stored {w : World} {B e g c n : Nat} (h : Row w B e g c n) (k : Nat) (x : Int) : Row (w.setCell ⟨g, k, none⟩ (.int .i8 x)) B e g c n := by
  obtain ⟨xs, hl, ho⟩ := h
  have h2 := ho.stored k (.int .i8 x)
  rw [set_vpcs] at h2
  exact ⟨xs.set k x, by simp [hl], h2.1⟩
theorem Row.drewN {w : World} {B e g c n : Nat} (h : Row w B e g c n) (m : Nat) : Row (w.drewN m) B e g c n := by
  obtain ⟨xs, hl, ho⟩ := h
  exact ⟨xs, hl, ho⟩
theorem Row.drew {w : World} {B e g c n : Nat} (h : Row w B e g c n) : Row w.drew B e g c n := by
  obtain ⟨xs, hl, ho⟩ := h
  exact ⟨xs, hl, ho.drew⟩
theorem Row.of {w : World} {B e : Nat} {A : Option Addr} {l : List Int} {c : Nat} (h : w.ownsRow B e 1 (.slice A l.length c) l.length (vpcs l)) (hl : 0 < l.length) : ∃ g, A = some ⟨g, 0, none⟩ ∧ B ≤ g ∧ g < w.heap.size ∧ Row w B e g c l.length := by
  obtain ⟨g, cap, hv⟩ := Joins.ownsRow_form h hl
  injection hv with h1 h2 h3
  subst h1
  subst h3
  obtain ⟨hg0, hg1⟩ := World.ownsRow.lt h g rfl
  exact ⟨g, rfl, hg0, hg1, l, rfl, h⟩
theorem own_block {w : World} {B e n c : Nat} {A : Option Addr} {xs : List Value} (h : w.ownsRow B e 1 (.slice A n c) n xs) : ∀ ad, A = some ad → B ≤ ad.block ∧ ad.block < w.heap.size := by
  intro ad he
  subst he
  rcases Joins.ownsRow_forms h with ⟨h1, _⟩ | ⟨g, cap, h1⟩
  · injection h1 with h1 _ _
    cases h1
  · injection h1 with h1 h2 h3
    injection h1 with h1
    subst h1
    subst h3
    exact World.ownsRow.lt h g rfl
theorem RdP.lt {w : World} {B : Nat} {A : Option Addr} {l : List Int} {c : Nat} (h : RdP w B A l c) (hl : 0 < l.length) : ∀ ad, A = some ad → ad.block < B := by
  intro a' ha'
  obtain ⟨ad, e, hb, _⟩ := h.2 hl
  rw [e] at ha'
  injection ha' with ha'
  subst ha'
  exact hb

end Go.Proofs.YtelkmdklpcfobaaGreatDoor
