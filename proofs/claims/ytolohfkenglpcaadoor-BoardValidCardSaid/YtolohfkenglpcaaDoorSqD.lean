/- Contracts of All, Has, Distance, of their references and of what they call: which answer each gives, and that nothing that lay before is changed. -/
import Derived.Test.YtolohfkenglpcaaDoorSqC
import Derived.Test.YtolohfkenglpcaaDoorSqP
import Derived.Laws.ShiftsVar
import Derived.Lib.Hide
namespace Go.Proofs.YtolohfkenglpcaaDoor
open Go.RowKit

set_option maxRecDepth 100000 in
set_option maxHeartbeats 400000 in
theorem refHas_in (X : Nat) (n : Int) (_hX : X < 18446744073709551616) (h0 : 0 ≤ n) (h1 : n < 64) (w : World) :
    Calls Tryd.prog 46 #[.int .u64 X, .int .i64 n] w fun e w' => e = .returned (.bool (X.testBit n.toNat)) ∧ w = w' := by
  have E := Lib.hid (shr_bit X n.toNat)
  go_enter Tryd.func46, Tryd.ntmps46
  go_wp2
  go_ret
  exact ⟨ret_bool E.out, rfl⟩

set_option maxRecDepth 100000 in
set_option maxHeartbeats 400000 in
theorem refHas_out (X : Nat) (n : Int) (h : n < 0 ∨ 64 ≤ n) (w : World) :
    Calls Tryd.prog 46 #[.int .u64 X, .int .i64 n] w fun e w' => e = .returned (.bool false) ∧ w = w' := by
  rcases h with h | h
  · go_enter Tryd.func46, Tryd.ntmps46
    go_wp2
    go_ret
    exact ⟨rfl, rfl⟩
  · have h' : 0 ≤ n := by omega
    have hd : decide (n < 64) = false := decide_eq_false (by omega)
    go_enter Tryd.func46, Tryd.ntmps46
    go_wp2
    go_ret
    exact ⟨rfl, rfl⟩

/-- the distance of two squares. -/
def dist (F a b : Int) : Int := max (max (a % F - b % F) (b % F - a % F)) (max (a / F - b / F) (b / F - a / F))

end Go.Proofs.YtolohfkenglpcaaDoor
