/- Shift's other answers: errors, and too many steps. -/
import Derived.Test.YtejlbjbmpdddkaaDoorSqT
namespace Go.Proofs.YtejlbjbmpdddkaaDoor
open Go.RowKit

theorem x64 {F R : Int} {X : Nat} (hv : vsz F R) (hX : X < 2 ^ (F * R).toNat) : X < 18446744073709551616 := by
  have h := (vsz_mul hv).2
  have : 2 ^ (F * R).toNat ≤ 2 ^ 64 := Nat.pow_le_pow_right (by decide) (by omega)
  simp at this
  omega

end Go.Proofs.YtejlbjbmpdddkaaDoor
