/- Moves: boxes of a size and of a move. -/
import Derived.Test.YtpcfgeggjfbfjaaDoorMvB
namespace Go.Proofs.YtpcfgeggjfbfjaaDoor
open Go.RowKit Go.Sort

/-- the two cells of a size in block b. -/
def Bx2 (W : World) (b : Nat) (F R : Int) : Prop := W.cell? ⟨b, 0, none⟩ = some (.int .i64 F) ∧ W.cell? ⟨b, 1, none⟩ = some (.int .i64 R)
theorem box2 (w : World) (F R : Int) : Bx2 (w.alloc (.cells #[.int .i64 F, .int .i64 R] 23)) w.heap.size F R := by
  refine ⟨?_, ?_⟩ <;> simp [go_sem]
theorem Bx2.lt {W : World} {b : Nat} {F R : Int} (h : Bx2 W b F R) : b < W.heap.size := World.block_lt_of_cell? W _ h.1
theorem Bx2.below {W W' : World} {B b : Nat} {F R : Int} (h : Bx2 W b F R) (hb : Below B W W') (hB : b < B) : Bx2 W' b F R := by
  have q : ∀ o, W'.cell? ⟨b, o, none⟩ = W.cell? ⟨b, o, none⟩ := fun o => hb.cell (p := ⟨b, o, none⟩) hB
  unfold Bx2
  simp only [q]
  exact h

/-- the three cells of a move in block b. -/
def Bx3 (W : World) (b : Nat) (x y p : Int) : Prop := (W.cell? ⟨b, 0, none⟩ = some (.int .i64 x) ∧ W.cell? ⟨b, 1, none⟩ = some (.int .i64 y) ∧ W.cell? ⟨b, 2, none⟩ = some (.int .i8 p)) ∧ ∀ o, W.frozen? ⟨b, o, none⟩ = false
theorem box3 (w : World) (x y p : Int) : Bx3 (w.alloc (.cells #[.int .i64 x, .int .i64 y, .int .i8 p] 27)) w.heap.size x y p := by
  refine ⟨⟨?_, ?_, ?_⟩, fun o => ?_⟩ <;> simp [go_sem]
theorem Bx3.lt {W : World} {b : Nat} {x y p : Int} (h : Bx3 W b x y p) : b < W.heap.size := World.block_lt_of_cell? W _ h.1.1
theorem Bx3.below {W W' : World} {B b : Nat} {x y p : Int} (h : Bx3 W b x y p) (hb : Below B W W') (hB : b < B) : Bx3 W' b x y p := by
  have q : ∀ o, W'.cell? ⟨b, o, none⟩ = W.cell? ⟨b, o, none⟩ := fun o => hb.cell (p := ⟨b, o, none⟩) hB
  have f : ∀ o, W'.frozen? ⟨b, o, none⟩ = W.frozen? ⟨b, o, none⟩ := fun o => hb.frozen (p := ⟨b, o, none⟩) hB
  unfold Bx3
  simp only [q, f]
  exact h
theorem Bx3.setp {W : World} {b : Nat} {x y p : Int} (h : Bx3 W b x y p) (u : Int) : Bx3 (W.setCell ⟨b, 2, none⟩ (.int .i8 u)) b x y u := by
  have q : ∀ o, o ≠ 2 → (W.setCell ⟨b, 2, none⟩ (.int .i8 u)).cell? ⟨b, o, none⟩ = W.cell? ⟨b, o, none⟩ := fun o ho => World.cell?_setCell_other _ _ _ _ (by simp)
  refine ⟨⟨(q 0 (by decide)).trans h.1.1, (q 1 (by decide)).trans h.1.2.1, World.cell?_setCell_same _ _ _ h.1.2.2⟩, fun o => (World.frozen?_setCell ..).trans (h.2 o)⟩

theorem liv3 {w : World} (o : Obj) {p : Addr} {v : Value} (h : w.cell? p = some v) : (w.alloc o).cell? p = some v := by
  have hb := World.block_lt_of_cell? w _ h
  rw [← h]
  exact (box1 w o).cell hb
theorem bool_is (P : Prop) : ∃ b : Bool, (b = true ↔ P) := by
  by_cases h : P
  · exact ⟨true, by simp [h]⟩
  · exact ⟨false, by simp [h]⟩
theorem b_true {b : Bool} {P : Prop} (h : b = true ↔ P) (hp : P) : b = true := h.2 hp
theorem b_false {b : Bool} {P : Prop} (h : b = true ↔ P) (hp : ¬ P) : b = false := by
  cases b
  · rfl
  · exact absurd (h.1 rfl) hp

end Go.Proofs.YtpcfgeggjfbfjaaDoor
