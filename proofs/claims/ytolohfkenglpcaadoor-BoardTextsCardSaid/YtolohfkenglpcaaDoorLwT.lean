/- The law of the texts of boards: it answers true, and changes nothing that lay before. -/
import Derived.Test.YtolohfkenglpcaaDoorBkB
namespace Go.Proofs.YtolohfkenglpcaaDoor
open Go.RowKit

set_option maxRecDepth 100000 in
set_option maxHeartbeats 1000000 in
theorem law_btexts (F R : Int) (l : List Int) (A : Option Addr) (c : Nat) (w : World) (hcap : l.length ≤ c) (hA : RdP w w.heap.size A l c) (hK : Kinds w) :
    Calls Tryd.prog 6 #[.agg #[.int .i64 F, .int .i64 R, .slice A l.length c]] w fun e w' => e = .returned (.bool true) ∧ Below w.heap.size w w' := by
  have B : Below w.heap.size w (w.alloc (.cells #[.int .i64 F, .int .i64 R, .slice A l.length c] 26)) := box1 _ _
  replace hA := rdB B hA
  replace hK := hK.below B hK.1
  have q0 : (w.alloc (.cells #[.int .i64 F, .int .i64 R, .slice A l.length c] 26)).cell? ⟨w.heap.size, 0, none⟩ = some (.int .i64 F) := by simp [go_sem]
  have q1 : (w.alloc (.cells #[.int .i64 F, .int .i64 R, .slice A l.length c] 26)).cell? ⟨w.heap.size, 1, none⟩ = some (.int .i64 R) := by simp [go_sem]
  have q2 : (w.alloc (.cells #[.int .i64 F, .int .i64 R, .slice A l.length c] 26)).cell? ⟨w.heap.size, 2, none⟩ = some (.slice A l.length c) := by simp [go_sem]
  by_cases hs : l.length ≤ 70
  · by_cases hv : vbd F R l
    · go_enter Tryd.func6, Tryd.ntmps6
      go_wp2_with fail
      refine (small_yes F R l A c hs _).mono ?_
      rintro e w1 ⟨rfl, b1⟩
      replace q0 := cellB b1 q0
      replace q1 := cellB b1 q1
      replace q2 := cellB b1 q2
      replace hA := rdB b1 hA
      replace hK := hK.below b1 hK.1
      replace B := chain B b1
      clear b1
      go_wp2_with fail
      refine (text_yes' F R l A c _ hv hcap hA hK).mono ?_
      rintro e w2 ⟨rfl, b2⟩
      replace q0 := cellB b2 q0
      replace q1 := cellB b2 q1
      replace q2 := cellB b2 q2
      replace hA := rdB b2 hA
      replace hK := hK.below b2 hK.1
      replace B := chain B b2
      clear b2
      go_wp2_with fail
      refine (rbValid_yes F R l A c hv _ hA).mono ?_
      rintro e w3 ⟨rfl, b3⟩
      replace q0 := cellB b3 q0
      replace q1 := cellB b3 q1
      replace q2 := cellB b3 q2
      replace hA := rdB b3 hA
      replace hK := hK.below b3 hK.1
      replace B := chain B b3
      clear b3
      go_wp2_with fail
      refine (rText_any' F R l A c _ hv hA).mono ?_
      rintro e w4 ⟨rfl, b4⟩
      replace q0 := cellB b4 q0
      replace q1 := cellB b4 q1
      replace q2 := cellB b4 q2
      replace hA := rdB b4 hA
      replace hK := hK.below b4 hK.1
      replace B := chain B b4
      clear b4
      go_wp2_with fail
      refine (knownB_any _ hK).mono ?_
      rintro e w5 ⟨rfl, b5⟩
      replace q0 := cellB b5 q0
      replace q1 := cellB b5 q1
      replace q2 := cellB b5 q2
      replace hA := rdB b5 hA
      replace hK := hK.below b5 hK.1
      replace B := chain B b5
      clear b5
      go_wp2
      go_ret
      exact ⟨rfl, B⟩
    · go_enter Tryd.func6, Tryd.ntmps6
      go_wp2_with fail
      refine (small_yes F R l A c hs _).mono ?_
      rintro e w1 ⟨rfl, b1⟩
      replace q0 := cellB b1 q0
      replace q1 := cellB b1 q1
      replace q2 := cellB b1 q2
      replace hA := rdB b1 hA
      replace hK := hK.below b1 hK.1
      replace B := chain B b1
      clear b1
      go_wp2_with fail
      refine (text_no F R l A c _ (by omega) hv hA).mono ?_
      rintro e w2 ⟨rfl, b2⟩
      replace q0 := cellB b2 q0
      replace q1 := cellB b2 q1
      replace q2 := cellB b2 q2
      replace hA := rdB b2 hA
      replace hK := hK.below b2 hK.1
      replace B := chain B b2
      clear b2
      go_wp2_with fail
      refine (rbValid_no F R l A c hv _ (by omega) hA).mono ?_
      rintro e w3 ⟨rfl, b3⟩
      replace q0 := cellB b3 q0
      replace q1 := cellB b3 q1
      replace q2 := cellB b3 q2
      replace hA := rdB b3 hA
      replace hK := hK.below b3 hK.1
      replace B := chain B b3
      clear b3
      go_wp2_with fail
      refine (knownB_any _ hK).mono ?_
      rintro e w4 ⟨rfl, b4⟩
      replace q0 := cellB b4 q0
      replace q1 := cellB b4 q1
      replace q2 := cellB b4 q2
      replace hA := rdB b4 hA
      replace hK := hK.below b4 hK.1
      replace B := chain B b4
      clear b4
      go_wp2
      go_ret
      exact ⟨rfl, B⟩
  · go_enter Tryd.func6, Tryd.ntmps6
    go_wp2_with fail
    refine (small_no F R l A c (by omega) _).mono ?_
    rintro e w1 ⟨rfl, b1⟩
    replace q0 := cellB b1 q0
    replace q1 := cellB b1 q1
    replace q2 := cellB b1 q2
    replace hA := rdB b1 hA
    replace hK := hK.below b1 hK.1
    replace B := chain B b1
    clear b1
    go_wp2_with fail
    refine (knownB_any _ hK).mono ?_
    rintro e w2 ⟨rfl, b2⟩
    replace q0 := cellB b2 q0
    replace q1 := cellB b2 q1
    replace q2 := cellB b2 q2
    replace hA := rdB b2 hA
    replace hK := hK.below b2 hK.1
    replace B := chain B b2
    clear b2
    go_wp2
    go_ret
    exact ⟨rfl, B⟩

end Go.Proofs.YtolohfkenglpcaaDoor
