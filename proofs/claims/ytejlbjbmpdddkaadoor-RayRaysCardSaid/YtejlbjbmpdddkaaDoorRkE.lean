/- What the laws of layer 4 share: sets of squares by the document, facts that stay. -/
import Derived.Test.YtejlbjbmpdddkaaDoorRkD
namespace Go.Proofs.YtejlbjbmpdddkaaDoor
open Go.RowKit Go.Shelf Go.Sort

theorem cB {w w' : World} {a : Addr} {v : Value} (hb : Below w.heap.size w w') (h : w.cell? a = some v) : w'.cell? a = some v := (hb.cell (World.block_lt_of_cell? w _ h)).trans h
theorem known_any (w : World) (hT : Tb w) : Calls Tryd.prog 10 #[] w fun e w' => e = .returned (.bool true) ∧ Below w.heap.size w w' := callsIn_wide.1 (known_in w hT)
theorem refOfN (l : List Nat) (A : Option Addr) (c : Nat) (w : World) (hlen : l.length ≤ 1000000) (hA : RdI w w.heap.size A (l.map fun i : Nat => (i : Int))) (h : ∀ i ∈ l, i < 64) :
    Calls Tryd.prog 15 #[.slice A l.length c] w fun e w' => e = .returned (.int .u64 (ofL l : Int)) ∧ w' = w := by
  have := refOf_any (l.map fun i : Nat => (i : Int)) A c w (by simpa using hlen) hA (fun j hj => by
    simp at hj
    have h1 : (l.map fun i : Nat => (i : Int))[j]?.getD 0 = ((l[j]'hj : Nat) : Int) := by rw [List.getElem?_map, List.getElem?_eq_getElem hj]; rfl
    have h2 := h _ (List.getElem_mem hj)
    rw [h1]
    omega)
  rw [sqs_nat] at this
  simpa using this
theorem pick_64 {P : Nat → Bool} {F R : Int} (hv : vsz F R) : ∀ i ∈ pickTo P (F * R).toNat, i < 64 := fun i hi => by
  have := (mem_pick.1 hi).1
  have := (vsz_mul hv).2
  omega
theorem pick_len {P : Nat → Bool} {F R : Int} (hv : vsz F R) : (pickTo P (F * R).toNat).length ≤ 1000000 := by
  have := pickTo_le P (F * R).toNat
  have := (vsz_mul hv).2
  omega
theorem bet_64 {F R a b : Int} (hv : vsz F R) : ∀ i ∈ betL F R a b, i < 64 := fun i hi => by
  unfold betL befL at hi
  split at hi
  · have := rayL_lt hv i ((List.takeWhile_sublist _).subset hi)
    have := (vsz_mul hv).2
    omega
  · cases hi
theorem bet_len {F R a b : Int} : (betL F R a b).length ≤ 1000000 := by
  unfold betL befL
  split
  · have h1 := (List.takeWhile_sublist (fun i : Nat => !((i : Int) == b)) (l := rayL F R (a % F) (a / F) (sg (b % F - a % F)) (sg (b / F - a / F)))).length_le
    have h2 := rayL_len F R (a % F) (a / F) (sg (b % F - a % F)) (sg (b / F - a / F))
    omega
  · simp

end Go.Proofs.YtejlbjbmpdddkaaDoor
