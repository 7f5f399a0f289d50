/- The reference's test whether a set is one of a board. -/
import Derived.Test.YtolohfkenglpcaaDoorSqT
import Derived.Lib.QuietBelow
namespace Go.Proofs.YtolohfkenglpcaaDoor
open Go.RowKit Go.Sort Go.BigFrame

theorem RdI.own' {w : World} {B e : Nat} {v : Value} {l : List Nat} (h : w.ownsRow B e 1 v l.length (vnats l)) : ∃ A c, v = .slice A l.length c ∧ l.length ≤ c ∧ RdI w w.heap.size A (l.map fun i : Nat => (i : Int)) := by
  obtain ⟨A, c, hv, hA⟩ := RdI.own h
  refine ⟨A, c, hv, ?_, hA⟩
  obtain ⟨hl, ⟨rfl, h0⟩ | ⟨g, cap, cur, rfl, hg, hh, hn, hc, hs, ht⟩⟩ := h
  · omega
  · have : cap = c := by injection hv
    omega

theorem last_board (X m : Nat) (hX : X < 18446744073709551616) (n : Nat) (hn : (listOf X).length = n + 1) : X < 2 ^ m ↔ ((listOf X)[n]?.getD 0) < m := by
  have hl : n < (listOf X).length := by omega
  rw [List.getElem?_eq_getElem hl]
  constructor
  · intro h
    exact in_board h (List.getElem_mem hl)
  · intro h
    have hs : (listOf X).Pairwise (· < ·) := List.Pairwise.filter _ List.pairwise_lt_range
    apply lt_of_bits
    intro j hj
    by_cases h64 : j < 64
    · cases hb : X.testBit j
      · rfl
      · have hm : j ∈ listOf X := mem_listOf.2 ⟨h64, hb⟩
        obtain ⟨i, hi, he⟩ := List.mem_iff_getElem.1 hm
        simp at h
        rcases Nat.lt_or_ge i n with hin | hin
        · have := List.pairwise_iff_getElem.1 hs i n hi hl hin
          omega
        · have : i = n := by omega
          subst this
          omega
    · exact bit_high (n := 64) (by simpa using hX) (by omega)

end Go.Proofs.YtolohfkenglpcaaDoor
