/- Boards: contracts that answer with a truth value; copies whose cells are the call's own. -/
import Derived.Test.YtolohfkenglpcaaDoorBkC
namespace Go.Proofs.YtolohfkenglpcaaDoor
open Go.RowKit

theorem bool_of (P : Prop) : ∃ b : Bool, (b = true ↔ P) := by
  by_cases h : P
  · exact ⟨true, by simp [h]⟩
  · exact ⟨false, by simp [h]⟩
theorem bValid_as (F R : Int) (l : List Int) (A : Option Addr) (c : Nat) (t : Bool) (h : t = true ↔ vbd F R l) (w : World) (hlen : l.length ≤ 100000) (hA : RdP w w.heap.size A l c) :
    Calls Tryd.prog 12 #[.agg #[.int .i64 F, .int .i64 R, .slice A l.length c]] w fun e w' => e = .returned (.bool t) ∧ Below w.heap.size w w' := by
  cases t with
  | true => exact bValid_yes F R l A c (h.1 rfl) w hA
  | false => exact bValid_no F R l A c (fun hv => by cases h.2 hv) w hlen hA
theorem rbValid_as (F R : Int) (l : List Int) (A : Option Addr) (c : Nat) (t : Bool) (h : t = true ↔ vbd F R l) (w : World) (hlen : l.length ≤ 100000) (hA : RdP w w.heap.size A l c) :
    Calls Tryd.prog 13 #[.agg #[.int .i64 F, .int .i64 R, .slice A l.length c]] w fun e w' => e = .returned (.bool t) ∧ Below w.heap.size w w' := by
  cases t with
  | true => exact rbValid_yes F R l A c (h.1 rfl) w hA
  | false => exact rbValid_no F R l A c (fun hv => by cases h.2 hv) w hlen hA
theorem equal_as (F R F' R' : Int) (l l' : List Int) (A A' : Option Addr) (c c' : Nat) (t : Bool) (h : t = true ↔ (F = F' ∧ R = R' ∧ l = l')) (w : World) (hlen : l.length ≤ 100000) (hA : RdP w w.heap.size A l c) (hA' : RdP w w.heap.size A' l' c') :
    Calls Tryd.prog 14 #[.agg #[.int .i64 F, .int .i64 R, .slice A l.length c], .agg #[.int .i64 F', .int .i64 R', .slice A' l'.length c']] w fun e w' => e = .returned (.bool t) ∧ Below w.heap.size w w' := by
  cases t with
  | true =>
    obtain ⟨rfl, rfl, rfl⟩ := h.1 rfl
    exact equal_yes F R l A A' c c' w hlen hA hA'
  | false => exact equal_no F R F' R' l l' A A' c c' w hlen hA hA' (fun hv => by cases h.2 hv)
theorem same_as (F R F' R' : Int) (l l' : List Int) (A A' : Option Addr) (c c' : Nat) (t : Bool) (h : t = true ↔ (F = F' ∧ R = R' ∧ l = l')) (w : World) (hlen : l.length ≤ 100000) (hA : RdP w w.heap.size A l c) (hA' : RdP w w.heap.size A' l' c') :
    Calls Tryd.prog 15 #[.agg #[.int .i64 F, .int .i64 R, .slice A l.length c], .agg #[.int .i64 F', .int .i64 R', .slice A' l'.length c']] w fun e w' => e = .returned (.bool t) ∧ Below w.heap.size w w' := by
  cases t with
  | true =>
    obtain ⟨rfl, rfl, rfl⟩ := h.1 rfl
    exact same_yes F R l A A' c c' w hlen hA hA'
  | false => exact same_no F R F' R' l l' A A' c c' w hlen hA hA' (fun hv => by cases h.2 hv)
theorem rd_nil (w : World) (B : Nat) : RdP w B none [] 0 := ⟨fun _ => ⟨rfl, rfl⟩, fun h => by simp at h⟩

/-- a row of the call's own: what it reads as, and that none of it lay before. -/
theorem own_parts {w : World} {B e : Nat} {v : Value} {l : List Int} (h : w.ownsRow B e 1 v l.length (vpcs l)) :
    ∃ A c, v = .slice A l.length c ∧ RdP w w.heap.size A l c ∧ w.ownsRow B e 1 (.slice A l.length c) l.length (vpcs l) := by
  obtain ⟨A, c, rfl, _, hr⟩ := RdP.own h
  exact ⟨A, c, rfl, hr, h⟩
/-- the cells of such a row, while a loop writes into them: n cells of block g, whatever they hold. -/
def Row (w : World) (B e g c n : Nat) : Prop := ∃ xs : List Int, xs.length = n ∧ w.ownsRow B e 1 (.slice (some ⟨g, 0, none⟩) n c) n (vpcs xs)
theorem Row.at_ {w : World} {B e g c n k : Nat} (h : Row w B e g c n) (hk : k < n) : (∃ x, w.cell? ⟨g, k, none⟩ = some (.int .i8 x)) ∧ w.frozen? ⟨g, k, none⟩ = false := by
  obtain ⟨xs, hl, ho⟩ := h
  refine ⟨⟨xs[k]?.getD 0, ?_⟩, ho.frozenAt k⟩
  rw [ho.cellAt k (by omega)]
  simp [vpcs, vpc, List.getElem?_eq_getElem (show k < xs.length by omega)]
theorem Row.stored {w : World} {B e g c n : Nat} (h : Row w B e g c n) (k : Nat) (x : Int) : Row (w.setCell ⟨g, k, none⟩ (.int .i8 x)) B e g c n := by
  obtain ⟨xs, hl, ho⟩ := h
  have h2 := ho.stored k (.int .i8 x)
  rw [set_vpcs] at h2
  exact ⟨xs.set k x, by simp [hl], h2.1⟩
theorem Row.drewN {w : World} {B e g c n : Nat} (h : Row w B e g c n) (m : Nat) : Row (w.drewN m) B e g c n := by
  obtain ⟨xs, hl, ho⟩ := h
  exact ⟨xs, hl, ho⟩
theorem Row.drew {w : World} {B e g c n : Nat} (h : Row w B e g c n) : Row w.drew B e g c n := by
  obtain ⟨xs, hl, ho⟩ := h
  exact ⟨xs, hl, ho.drew⟩
theorem Row.of {w : World} {B e : Nat} {A : Option Addr} {l : List Int} {c : Nat} (h : w.ownsRow B e 1 (.slice A l.length c) l.length (vpcs l)) (hl : 0 < l.length) : ∃ g, A = some ⟨g, 0, none⟩ ∧ B ≤ g ∧ g < w.heap.size ∧ Row w B e g c l.length := by
  obtain ⟨g, cap, hv⟩ := Joins.ownsRow_form h hl
  injection hv with h1 h2 h3
  subst h1
  subst h3
  obtain ⟨hg0, hg1⟩ := World.ownsRow.lt h g rfl
  exact ⟨g, rfl, hg0, hg1, l, rfl, h⟩
theorem own_block {w : World} {B e n c : Nat} {A : Option Addr} {xs : List Value} (h : w.ownsRow B e 1 (.slice A n c) n xs) : ∀ ad, A = some ad → B ≤ ad.block ∧ ad.block < w.heap.size := by
  intro ad he
  subst he
  rcases Joins.ownsRow_forms h with ⟨h1, _⟩ | ⟨g, cap, h1⟩
  · injection h1 with h1 _ _
    cases h1
  · injection h1 with h1 h2 h3
    injection h1 with h1
    subst h1
    subst h3
    exact World.ownsRow.lt h g rfl
theorem bEmpty_as (F R : Int) (hv : vsz F R) (z : List Int) (hz : z = List.replicate (F * R).toNat 0) (w : World) :
    Calls Tryd.prog 17 #[.agg #[.int .i64 F, .int .i64 R]] w fun e w' => ∃ v, e = .returned (.tuple #[.agg #[.int .i64 F, .int .i64 R, v], .int .i64 0]) ∧ w'.ownsRow w.heap.size 32 1 v z.length (vpcs z) ∧ Below w.heap.size w w' := by
  subst hz
  rw [List.length_replicate]
  exact bEmpty_yes F R hv w
theorem rEmpty_as (F R : Int) (hv : vsz F R) (z : List Int) (hz : z = List.replicate (F * R).toNat 0) (w : World) :
    Calls Tryd.prog 20 #[.agg #[.int .i64 F, .int .i64 R]] w (NewB w F R z) := by
  subst hz
  exact rEmpty_any F R hv w
theorem put_as (F R : Int) (l : List Int) (A : Option Addr) (c : Nat) (n : Nat) (p : Int) (y : List Int) (hy : y = l.set n p) (w : World) (hv : vbd F R l) (ha : vat F R n) (hp : okP p) (hA : RdP w w.heap.size A l c) :
    Calls Tryd.prog 18 #[.agg #[.int .i64 F, .int .i64 R, .slice A l.length c], .int .i64 (n : Int), .int .i8 p] w fun e w' => ∃ v, e = .returned (.tuple #[.agg #[.int .i64 F, .int .i64 R, v], .int .i64 0]) ∧ w'.ownsRow w.heap.size 32 1 v y.length (vpcs y) ∧ Below w.heap.size w w' := by
  subst hy
  rw [List.length_set]
  exact put_yes F R l A c n p w hv ha hp hA
theorem rPut_as (F R : Int) (l : List Int) (A : Option Addr) (c : Nat) (n : Nat) (p : Int) (y : List Int) (hy : y = l.set n p) (w : World) (hlen : l.length ≤ 100000) (hn : n < l.length) (hA : RdP w w.heap.size A l c) :
    Calls Tryd.prog 23 #[.agg #[.int .i64 F, .int .i64 R, .slice A l.length c], .int .i64 n, .int .i8 p] w (NewB w F R y) := by
  subst hy
  exact rPut_any F R l A c n p w hlen hn hA
theorem RdP.lt {w : World} {B : Nat} {A : Option Addr} {l : List Int} {c : Nat} (h : RdP w B A l c) (hl : 0 < l.length) : ∀ ad, A = some ad → ad.block < B := by
  intro a' ha'
  obtain ⟨ad, e, hb, _⟩ := h.2 hl
  rw [e] at ha'
  injection ha' with ha'
  subst ha'
  exact hb

end Go.Proofs.YtolohfkenglpcaaDoor
