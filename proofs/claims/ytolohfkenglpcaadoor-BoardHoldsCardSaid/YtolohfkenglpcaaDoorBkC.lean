/- Boards: a loop that writes into one block alone. -/
import Derived.Test.YtolohfkenglpcaaDoorBkB
namespace Go.Proofs.YtolohfkenglpcaaDoor
open Go.RowKit

/-- all is as it was but for the block g. -/
structure But (g : Nat) (W W' : World) : Prop where
  os : W'.os = W.os
  tape : W'.tape = W.tape
  output : W'.output = W.output
  size : W'.heap.size = W.heap.size
  block : ∀ k, k ≠ g → W'.heap[k]? = W.heap[k]?
theorem But.refl (g : Nat) (W : World) : But g W W := ⟨rfl, rfl, rfl, rfl, fun _ _ => rfl⟩
theorem But.setCell {g : Nat} {W W' : World} (h : But g W W') (o : Nat) (v : Value) : But g W (W'.setCell ⟨g, o, none⟩ v) := by
  have hg := grownBy_setCell' W' g v
  refine ⟨h.os, h.tape, h.output, by simpa using h.size, fun k hk => ?_⟩
  by_cases hl : k < W'.heap.size
  · have : (W'.setCell ⟨g, o, none⟩ v).heap[k]? = W'.heap[k]? := by
      have hb : Below g W' (W'.setCell ⟨g, o, none⟩ v) := (Below.refl g W').setCell (p := ⟨g, o, none⟩) (Nat.le_refl _) v
      by_cases hkg : k < g
      · exact hb.block k hkg
      · simp [World.setCell, Array.getElem?_modify, Ne.symm hk]
    exact this.trans (h.block k hk)
  · rw [Array.getElem?_eq_none (by simpa using hl), ← h.block k hk, Array.getElem?_eq_none (by omega)]
theorem But.drewN {g : Nat} {W W' : World} (h : But g W W') (n : Nat) : But g W (W'.drewN n) := ⟨h.os, h.tape, h.output, h.size, h.block⟩
theorem But.drew {g : Nat} {W W' : World} (h : But g W W') : But g W W'.drew := ⟨h.os, h.tape, h.output, h.size, h.block⟩
theorem But.cell {g : Nat} {W W' : World} (h : But g W W') {a : Addr} {v : Value} (hc : W.cell? a = some v) (hne : a.block ≠ g) : W'.cell? a = some v := (World.cell?_of_block (h.block _ hne)).trans hc
theorem But.rd {g : Nat} {W W' : World} (h : But g W W') {A : Option Addr} {l : List Int} {c : Nat} (hA : RdP W W.heap.size A l c) (hne : ∀ ad, A = some ad → ad.block ≠ g) : RdP W' W'.heap.size A l c := ⟨hA.1, fun hl => by
  obtain ⟨ad, e, h1, hc⟩ := hA.2 hl
  exact ⟨ad, e, by rw [h.size]; exact h1, fun j u hu => h.cell (hc j u hu) (by rw [blk_add]; exact hne ad e)⟩⟩
theorem But.below {g B : Nat} {a W W' : World} (h : But g W W') (hb : Below B a W) (hg : B ≤ g) : Below B a W' :=
  ⟨h.os.trans hb.os, h.tape.trans hb.tape, h.output.trans hb.output, by rw [h.size]; exact hb.size, fun k hk => (h.block k (by omega)).trans (hb.block k hk)⟩

end Go.Proofs.YtolohfkenglpcaaDoor
