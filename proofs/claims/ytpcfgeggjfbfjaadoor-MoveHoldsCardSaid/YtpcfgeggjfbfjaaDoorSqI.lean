/- The set of a list of squares: the reference's and the program's; lists of squares. -/
import Derived.Test.YtpcfgeggjfbfjaaDoorSqH
namespace Go.Proofs.YtpcfgeggjfbfjaaDoor
open Go.RowKit

/-- a slice value that reads, below block B, as the list l of int64s. -/
def RdI (w : World) (B : Nat) (A : Option Addr) (l : List Int) : Prop :=
  0 < l.length → ∃ ad, A = some ad ∧ ad.block < B ∧ ∀ j u, l[j]? = some u → w.cell? (ad.add j) = some (.int .i64 u)
theorem RdI.at_ {w : World} {B : Nat} {A : Option Addr} {l : List Int} (h : RdI w B A l) {k : Nat} (hk : k < l.length) : ∃ ad, A = some ad ∧ ad.block < B ∧ w.cell? (ad.add k) = some (.int .i64 (l[k]?.getD 0)) := by
  obtain ⟨ad, e, hb, hc⟩ := h (by omega)
  exact ⟨ad, e, hb, hc k _ (by rw [List.getElem?_eq_getElem hk]; rfl)⟩
theorem blk_add (a : Addr) (n : Nat) : (a.add n).block = a.block := by unfold Addr.add; split <;> rfl
theorem RdI.below {w w' : World} {B : Nat} {A : Option Addr} {l : List Int} (h : RdI w B A l) (hb : Below B w w') : RdI w' B A l := fun hl => by
  obtain ⟨ad, e, h1, hc⟩ := h hl
  exact ⟨ad, e, h1, fun j u hu => (hb.cell (by rw [blk_add]; exact h1)).trans (hc j u hu)⟩
theorem RdI.own {w : World} {B e : Nat} {v : Value} {l : List Nat} (h : w.ownsRow B e 1 v l.length (vnats l)) : ∃ A c, v = .slice A l.length c ∧ RdI w w.heap.size A (l.map fun i : Nat => (i : Int)) := by
  obtain ⟨hl, ⟨rfl, h0⟩ | ⟨g, cap, cur, rfl, hg, hh, hn, hc, hs, ht⟩⟩ := h
  · exact ⟨none, 0, by rw [h0], fun hh => by simp at hh; omega⟩
  · refine ⟨some ⟨g, 0, none⟩, cap, rfl, fun _ => ⟨_, rfl, (Array.getElem?_eq_some_iff.1 hh).1, fun j u hu => ?_⟩⟩
    have hcell := World.ownsRow.cells (w := w) (base := B) (e := e) (size := 1) (v := .slice (some ⟨g, 0, none⟩) l.length cap) (n := l.length) (xs := vnats l) ⟨hl, .inr ⟨g, cap, cur, rfl, hg, hh, hn, hc, hs, ht⟩⟩ (g := g) rfl j (.int .i64 u)
    apply hcell
    rw [List.getElem?_map] at hu
    simp only [vnats, List.getElem?_map]
    cases hj : l[j]? with
    | none => rw [hj] at hu; simp at hu
    | some x => rw [hj] at hu; simp at hu; subst hu; rfl

theorem own_below {w w' : World} {base : Nat} {e : TypeId} {size : Nat} {v : Value} {n : Nat} {xs : List Value} (h : w.ownsRow base e size v n xs) (hb : Below w.heap.size w w') : w'.ownsRow base e size v n xs := by
  obtain ⟨hl, h0 | ⟨g, cap, cur, rfl, hg, hh, hr⟩⟩ := h
  · exact ⟨hl, .inl h0⟩
  · exact ⟨hl, .inr ⟨g, cap, cur, rfl, hg, (hb.block g (Array.getElem?_eq_some_iff.1 hh).1).trans hh, hr⟩⟩

theorem add_wrap (X : Nat) (n : Int) (hX : X < 18446744073709551616) (h1 : n < 64) (hb : X.testBit n.toNat = false) :
    IntKind.u64.wrap ((X : Int) + IntKind.u64.wrap ((2 : Int) ^ n.toNat)) = ((X ||| bitN n.toNat : Nat) : Int) := by
  have e := add_bit hb
  have l := or_lt X n.toNat hX (by omega)
  rw [pow_wrap n h1, IntKind.wrap_u64]
  unfold bitN at *
  omega

def sqs (l : List Int) : List Nat := l.map Int.toNat
/-- the set of the first k. -/
def ofTo (l : List Int) (k : Nat) : Nat := ofL ((sqs l).take k)
theorem ofTo_zero (l : List Int) : ofTo l 0 = 0 := rfl
theorem ofTo_succ (l : List Int) (k : Nat) (h : k < l.length) : ofTo l (k + 1) = ofTo l k ||| bitN (l[k]?.getD 0).toNat := by
  unfold ofTo
  have h' : k < (sqs l).length := by simpa [sqs] using h
  rw [List.take_succ_eq_append_getElem h', ofL_snoc]
  congr 2
  simp [sqs, List.getElem?_eq_getElem h]
theorem ofTo_all (l : List Int) : ofTo l l.length = ofL (sqs l) := by
  unfold ofTo; rw [List.take_of_length_le (by simp [sqs])]
theorem ofTo_lt (l : List Int) (k : Nat) (h : ∀ j, j < l.length → 0 ≤ l[j]?.getD 0 ∧ l[j]?.getD 0 < 64) : ofTo l k < 18446744073709551616 := by
  have := ofL_lt (l := (sqs l).take k) (n := 64) (by
    intro i hi
    have hi := List.mem_of_mem_take hi
    simp only [sqs, List.mem_map] at hi
    obtain ⟨x, hx, rfl⟩ := hi
    obtain ⟨j, hj, rfl⟩ := List.mem_iff_getElem.1 hx
    have := h j hj
    rw [List.getElem?_eq_getElem hj] at this
    simp at this
    omega)
  unfold ofTo
  simpa using this

end Go.Proofs.YtpcfgeggjfbfjaaDoor
