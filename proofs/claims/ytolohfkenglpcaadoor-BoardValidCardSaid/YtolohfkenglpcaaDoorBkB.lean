/- Boards: facts that stay when a call changes nothing that lay before. -/
import Derived.Test.YtolohfkenglpcaaDoorBkA
import Derived.Test.YtolohfkenglpcaaDoorBdH
import Derived.Test.YtolohfkenglpcaaDoorBdF
namespace Go.Proofs.YtolohfkenglpcaaDoor
open Go.RowKit

theorem cellB {W W' : World} (hb : Below W.heap.size W W') {a : Addr} {v : Value} (h : W.cell? a = some v) : W'.cell? a = some v :=
  (hb.cell (World.block_lt_of_cell? W a h)).trans h
theorem rdB {W W' : World} (hb : Below W.heap.size W W') {A : Option Addr} {l : List Int} {c : Nat} (h : RdP W W.heap.size A l c) : RdP W' W'.heap.size A l c := (h.below hb).grow hb.size
/-- a block of which nothing is frozen. -/
def Soft (W : World) (b : Nat) : Prop := b < W.heap.size ∧ ∀ o, W.frozen? ⟨b, o, none⟩ = false
theorem frB {W W' : World} (hb : Below W.heap.size W W') {b : Nat} (h : Soft W b) : Soft W' b := ⟨Nat.lt_of_lt_of_le h.1 hb.size, fun o => (hb.frozen (p := ⟨b, o, none⟩) h.1).trans (h.2 o)⟩

/-- the texts of a valid board, by both. -/
theorem text_yes' (F R : Int) (l : List Int) (A : Option Addr) (c : Nat) (w : World) (hv : vbd F R l) (hcap : l.length ≤ c) (hA : RdP w w.heap.size A l c) (hK : Kinds w) :
    Calls Tryd.prog 31 #[.agg #[.int .i64 F, .int .i64 R, .slice A l.length c]] w fun e w' => e = .returned (.tuple #[.string (textB F.toNat R.toNat l), .int .i64 0]) ∧ Below w.heap.size w w' := by
  obtain ⟨f, r, rfl, rfl, _⟩ := vbd_nat hv
  exact text_yes f r l A c w hv hcap hA hK
theorem rText_any' (F R : Int) (l : List Int) (A : Option Addr) (c : Nat) (w : World) (hv : vbd F R l) (hA : RdP w w.heap.size A l c) :
    Calls Tryd.prog 32 #[.agg #[.int .i64 F, .int .i64 R, .slice A l.length c]] w fun e w' => e = .returned (.string (textB F.toNat R.toNat l)) ∧ Below w.heap.size w w' := by
  obtain ⟨f, r, rfl, rfl, f3, f8, r3, r8, hl⟩ := vbd_nat hv
  exact rText_any f r l A c w f3 f8 r3 r8 hl hv.2.2 hA

end Go.Proofs.YtolohfkenglpcaaDoor
