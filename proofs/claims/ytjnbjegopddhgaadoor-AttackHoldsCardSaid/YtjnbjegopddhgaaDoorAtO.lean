/- The laws of attackers and of attacked squares: they answer true, given what the program's functions answer. -/
import Derived.Test.YtjnbjegopddhgaaDoorAtN

namespace Go.Proofs.YtjnbjegopddhgaaDoor
open Go.RowKit Go.Sort

/-- Orthodox says no of a board that is not valid, or that has a piece of another kind. -/
theorem rOrth_bad (F R : Int) (l : List Int) (A : Option Addr) (c : Nat) (h : ¬ (vbd F R l ∧ orA l = true)) (w : World) (hlen : l.length ≤ 64) (hA : RdP w w.heap.size A l c) :
    Calls Tryd.prog 11 #[.agg #[.int .i64 F, .int .i64 R, .slice A l.length c]] w fun e w' => e = .returned (.bool false) ∧ Below w.heap.size w w' := by
  by_cases hv : vbd F R l
  · have ho : orA l = false := by cases h' : orA l with | true => exact absurd ⟨hv, h'⟩ h | false => rfl
    have := rOrth_is F R l A c hv w hA
    rwa [ho] at this
  · exact rOrth_no F R l A c hv w (by omega) hA
theorem rOrth_good (F R : Int) (l : List Int) (A : Option Addr) (c : Nat) (h : vbd F R l) (ho : orA l = true) (w : World) (hA : RdP w w.heap.size A l c) :
    Calls Tryd.prog 11 #[.agg #[.int .i64 F, .int .i64 R, .slice A l.length c]] w fun e w' => e = .returned (.bool true) ∧ Below w.heap.size w w' := by
  have := rOrth_is F R l A c h w hA
  rwa [ho] at this
theorem vbd_64 {F R : Int} {l : List Int} (h : vbd F R l) : l.length ≤ 64 := by
  have := (vsz_mul h.1).2
  have := h.2.1
  omega
theorem atk_64 {F R t : Int} {l : List Int} {bl : Bool} (h : vbd F R l) : ∀ i ∈ atkL F R l t bl, i < 64 := fun i hi => by
  have := atk_lt hi
  have := vbd_64 h
  omega
theorem attacked_lt {F R : Int} {l : List Int} {bl : Bool} {i : Nat} (h : i ∈ attackedL F R l bl) : i < l.length := List.mem_range.1 (List.mem_filter.1 h).1
theorem attacked_len {F R : Int} {l : List Int} {bl : Bool} : (attackedL F R l bl).length ≤ l.length := by
  have := List.length_filter_le (fun n : Nat => decide (0 < (atkL F R l (n : Int) bl).length)) (List.range l.length)
  rw [List.length_range] at this
  exact this

set_option maxRecDepth 100000 in
set_option maxHeartbeats 4000000 in
theorem law_aatk {T : World → Prop} (HC0 : AtkC T) (F R : Int) (l : List Int) (A : Option Addr) (c : Nat) (t : Int) (bl : Bool) (w : World) (hA : RdP w w.heap.size A l c) (hT : T w) :
    Calls Tryd.prog 3 #[.agg #[.int .i64 F, .int .i64 R, .slice A l.length c], .int .i64 t, .bool bl] w fun e w' => e = .returned (.bool true) ∧ Below w.heap.size w w' := by
  have HC := Lib.hid HC0
  clear HC0
  have B : Below w.heap.size w (w.alloc (.cells #[.int .i64 F, .int .i64 R, .slice A l.length c] 26)) := box1 _ _
  replace hA := rB5 B hA
  replace hT := HC.out.below _ _ hT B
  have q0 : (w.alloc (.cells #[.int .i64 F, .int .i64 R, .slice A l.length c] 26)).cell? ⟨w.heap.size, 0, none⟩ = some (.int .i64 F) := by simp [go_sem]
  have q1 : (w.alloc (.cells #[.int .i64 F, .int .i64 R, .slice A l.length c] 26)).cell? ⟨w.heap.size, 1, none⟩ = some (.int .i64 R) := by simp [go_sem]
  have q2 : (w.alloc (.cells #[.int .i64 F, .int .i64 R, .slice A l.length c] 26)).cell? ⟨w.heap.size, 2, none⟩ = some (.slice A l.length c) := by simp [go_sem]
  by_cases hs : l.length ≤ 64
  · have HS := Lib.hid hs
    clear hs
    by_cases hb : vbd F R l ∧ orA l = true
    · have HB := Lib.hid hb
      clear hb
      by_cases ht : vat F R t
      · have HV := Lib.hid ht
        clear ht
        go_enter Tryd.func3, Tryd.ntmps3
        go_wp2_with fail
        refine (small5_yes F R l A c HS.out _).mono ?_
        rintro e w1 ⟨rfl, b1⟩
        replace q0 := cB5 b1 q0
        replace q1 := cB5 b1 q1
        replace q2 := cB5 b1 q2
        replace hA := rB5 b1 hA
        replace hT := HC.out.below _ _ hT b1
        replace B := chain B b1
        clear b1
        go_wp2_with fail
        refine (HC.out.atk F R l A c t bl _ HB.out.1 HB.out.2 hA hT HV.out).mono ?_
        rintro e w2 ⟨rfl, b2⟩
        replace q0 := cB5 b2 q0
        replace q1 := cB5 b2 q1
        replace q2 := cB5 b2 q2
        replace hA := rB5 b2 hA
        replace hT := HC.out.below _ _ hT b2
        replace B := chain B b2
        clear b2
        go_wp2_with fail
        refine (rOrth_good F R l A c HB.out.1 HB.out.2 _ hA).mono ?_
        rintro e w3 ⟨rfl, b3⟩
        replace q0 := cB5 b3 q0
        replace q1 := cB5 b3 q1
        replace q2 := cB5 b3 q2
        replace hA := rB5 b3 hA
        replace hT := HC.out.below _ _ hT b3
        replace B := chain B b3
        clear b3
        go_wp2_with fail
        refine (refValid_yes F R t HV.out _).mono ?_
        rintro e w4 ⟨rfl, b4⟩
        replace q0 := cB5 b4 q0
        replace q1 := cB5 b4 q1
        replace q2 := cB5 b4 q2
        replace hA := rB5 b4 hA
        replace hT := HC.out.below _ _ hT b4
        replace B := chain B b4
        clear b4
        go_wp2_with fail
        refine (ratkL_any F R l A c t bl _ HB.out.1 HB.out.2 HV.out hA).mono ?_
        rintro e w5 ⟨v, rfl, hown, b5⟩
        obtain ⟨Ar, cr, rfl, hsr⟩ := SrcI.own hown
        replace q0 := cB5 b5 q0
        replace q1 := cB5 b5 q1
        replace q2 := cB5 b5 q2
        replace hA := rB5 b5 hA
        replace hT := HC.out.below _ _ hT b5
        replace B := chain B b5
        clear b5
        go_wp2_with fail
        refine (refOfO _ _ _ _ _ _ hown rfl (Nat.le_trans (atkL_len HS.out) (by decide)) (atk_64 HB.out.1)).mono ?_
        rintro e wx ⟨rfl, rfl⟩
        clear hown hsr
        go_wp2_with fail
        refine (known5_any HC.out _ hT).mono ?_
        rintro e w6 ⟨rfl, b6⟩
        replace q0 := cB5 b6 q0
        replace q1 := cB5 b6 q1
        replace q2 := cB5 b6 q2
        replace hA := rB5 b6 hA
        replace hT := HC.out.below _ _ hT b6
        replace B := chain B b6
        clear b6
        go_wp2
        go_ret
        exact ⟨rfl, B⟩
      · have HV := Lib.hid ht
        clear ht
        go_enter Tryd.func3, Tryd.ntmps3
        go_wp2_with fail
        refine (small5_yes F R l A c HS.out _).mono ?_
        rintro e w1 ⟨rfl, b1⟩
        replace q0 := cB5 b1 q0
        replace q1 := cB5 b1 q1
        replace q2 := cB5 b1 q2
        replace hA := rB5 b1 hA
        replace hT := HC.out.below _ _ hT b1
        replace B := chain B b1
        clear b1
        go_wp2_with fail
        refine (HC.out.atkE F R l A c t bl _ HS.out hA hT (fun h => HV.out h.2.2)).mono ?_
        rintro e w2 ⟨rfl, b2⟩
        replace q0 := cB5 b2 q0
        replace q1 := cB5 b2 q1
        replace q2 := cB5 b2 q2
        replace hA := rB5 b2 hA
        replace hT := HC.out.below _ _ hT b2
        replace B := chain B b2
        clear b2
        go_wp2_with fail
        refine (rOrth_good F R l A c HB.out.1 HB.out.2 _ hA).mono ?_
        rintro e w3 ⟨rfl, b3⟩
        replace q0 := cB5 b3 q0
        replace q1 := cB5 b3 q1
        replace q2 := cB5 b3 q2
        replace hA := rB5 b3 hA
        replace hT := HC.out.below _ _ hT b3
        replace B := chain B b3
        clear b3
        go_wp2_with fail
        refine (refValid_no F R t HV.out _).mono ?_
        rintro e w4 ⟨rfl, b4⟩
        replace q0 := cB5 b4 q0
        replace q1 := cB5 b4 q1
        replace q2 := cB5 b4 q2
        replace hA := rB5 b4 hA
        replace hT := HC.out.below _ _ hT b4
        replace B := chain B b4
        clear b4
        go_wp2_with fail
        refine (known5_any HC.out _ hT).mono ?_
        rintro e w5 ⟨rfl, b5⟩
        replace q0 := cB5 b5 q0
        replace q1 := cB5 b5 q1
        replace q2 := cB5 b5 q2
        replace hA := rB5 b5 hA
        replace hT := HC.out.below _ _ hT b5
        replace B := chain B b5
        clear b5
        go_wp2
        go_ret
        exact ⟨rfl, B⟩
    · have HB := Lib.hid hb
      clear hb
      go_enter Tryd.func3, Tryd.ntmps3
      go_wp2_with fail
      refine (small5_yes F R l A c HS.out _).mono ?_
      rintro e w1 ⟨rfl, b1⟩
      replace q0 := cB5 b1 q0
      replace q1 := cB5 b1 q1
      replace q2 := cB5 b1 q2
      replace hA := rB5 b1 hA
      replace hT := HC.out.below _ _ hT b1
      replace B := chain B b1
      clear b1
      go_wp2_with fail
      refine (HC.out.atkE F R l A c t bl _ HS.out hA hT (fun h => HB.out ⟨h.1, h.2.1⟩)).mono ?_
      rintro e w2 ⟨rfl, b2⟩
      replace q0 := cB5 b2 q0
      replace q1 := cB5 b2 q1
      replace q2 := cB5 b2 q2
      replace hA := rB5 b2 hA
      replace hT := HC.out.below _ _ hT b2
      replace B := chain B b2
      clear b2
      go_wp2_with fail
      refine (rOrth_bad F R l A c HB.out _ HS.out hA).mono ?_
      rintro e w3 ⟨rfl, b3⟩
      replace q0 := cB5 b3 q0
      replace q1 := cB5 b3 q1
      replace q2 := cB5 b3 q2
      replace hA := rB5 b3 hA
      replace hT := HC.out.below _ _ hT b3
      replace B := chain B b3
      clear b3
      go_wp2_with fail
      refine (known5_any HC.out _ hT).mono ?_
      rintro e w4 ⟨rfl, b4⟩
      replace q0 := cB5 b4 q0
      replace q1 := cB5 b4 q1
      replace q2 := cB5 b4 q2
      replace hA := rB5 b4 hA
      replace hT := HC.out.below _ _ hT b4
      replace B := chain B b4
      clear b4
      go_wp2
      go_ret
      exact ⟨rfl, B⟩
  · go_enter Tryd.func3, Tryd.ntmps3
    go_wp2_with fail
    refine (small5_no F R l A c (by omega) _).mono ?_
    rintro e w1 ⟨rfl, b1⟩
    replace q0 := cB5 b1 q0
    replace q1 := cB5 b1 q1
    replace q2 := cB5 b1 q2
    replace hA := rB5 b1 hA
    replace hT := HC.out.below _ _ hT b1
    replace B := chain B b1
    clear b1
    go_wp2_with fail
    refine (known5_any HC.out _ hT).mono ?_
    rintro e w2 ⟨rfl, b2⟩
    replace q0 := cB5 b2 q0
    replace q1 := cB5 b2 q1
    replace q2 := cB5 b2 q2
    replace hA := rB5 b2 hA
    replace hT := HC.out.below _ _ hT b2
    replace B := chain B b2
    clear b2
    go_wp2
    go_ret
    exact ⟨rfl, B⟩

set_option maxRecDepth 100000 in
set_option maxHeartbeats 4000000 in
theorem law_aall {T : World → Prop} (HC0 : AtkC T) (F R : Int) (l : List Int) (A : Option Addr) (c : Nat) (bl : Bool) (w : World) (hA : RdP w w.heap.size A l c) (hT : T w) :
    Calls Tryd.prog 4 #[.agg #[.int .i64 F, .int .i64 R, .slice A l.length c], .bool bl] w fun e w' => e = .returned (.bool true) ∧ Below w.heap.size w w' := by
  have HC := Lib.hid HC0
  clear HC0
  have B : Below w.heap.size w (w.alloc (.cells #[.int .i64 F, .int .i64 R, .slice A l.length c] 26)) := box1 _ _
  replace hA := rB5 B hA
  replace hT := HC.out.below _ _ hT B
  have q0 : (w.alloc (.cells #[.int .i64 F, .int .i64 R, .slice A l.length c] 26)).cell? ⟨w.heap.size, 0, none⟩ = some (.int .i64 F) := by simp [go_sem]
  have q1 : (w.alloc (.cells #[.int .i64 F, .int .i64 R, .slice A l.length c] 26)).cell? ⟨w.heap.size, 1, none⟩ = some (.int .i64 R) := by simp [go_sem]
  have q2 : (w.alloc (.cells #[.int .i64 F, .int .i64 R, .slice A l.length c] 26)).cell? ⟨w.heap.size, 2, none⟩ = some (.slice A l.length c) := by simp [go_sem]
  by_cases hs : l.length ≤ 64
  · have HS := Lib.hid hs
    clear hs
    by_cases hb : vbd F R l ∧ orA l = true
    · have HB := Lib.hid hb
      clear hb
      go_enter Tryd.func4, Tryd.ntmps4
      go_wp2_with fail
      refine (small5_yes F R l A c HS.out _).mono ?_
      rintro e w1 ⟨rfl, b1⟩
      replace q0 := cB5 b1 q0
      replace q1 := cB5 b1 q1
      replace q2 := cB5 b1 q2
      replace hA := rB5 b1 hA
      replace hT := HC.out.below _ _ hT b1
      replace B := chain B b1
      clear b1
      go_wp2_with fail
      refine (HC.out.all F R l A c bl _ HB.out.1 HB.out.2 hA hT).mono ?_
      rintro e w2 ⟨rfl, b2⟩
      replace q0 := cB5 b2 q0
      replace q1 := cB5 b2 q1
      replace q2 := cB5 b2 q2
      replace hA := rB5 b2 hA
      replace hT := HC.out.below _ _ hT b2
      replace B := chain B b2
      clear b2
      go_wp2_with fail
      refine (rOrth_good F R l A c HB.out.1 HB.out.2 _ hA).mono ?_
      rintro e w3 ⟨rfl, b3⟩
      replace q0 := cB5 b3 q0
      replace q1 := cB5 b3 q1
      replace q2 := cB5 b3 q2
      replace hA := rB5 b3 hA
      replace hT := HC.out.below _ _ hT b3
      replace B := chain B b3
      clear b3
      go_wp2_with fail
      refine (rAttacked_any F R l A c bl _ HB.out.1 HB.out.2 hA).mono ?_
      rintro e w4 ⟨v, rfl, hown, b4⟩
      obtain ⟨Ar, cr, rfl, hsr⟩ := SrcI.own hown
      replace q0 := cB5 b4 q0
      replace q1 := cB5 b4 q1
      replace q2 := cB5 b4 q2
      replace hA := rB5 b4 hA
      replace hT := HC.out.below _ _ hT b4
      replace B := chain B b4
      clear b4
      go_wp2_with fail
      refine (refOfO _ _ _ _ _ _ hown rfl (Nat.le_trans attacked_len (Nat.le_trans HS.out (by decide))) (fun i hi => Nat.lt_of_lt_of_le (attacked_lt hi) HS.out)).mono ?_
      rintro e wx ⟨rfl, rfl⟩
      clear hown hsr
      go_wp2_with fail
      refine (known5_any HC.out _ hT).mono ?_
      rintro e w5 ⟨rfl, b5⟩
      replace q0 := cB5 b5 q0
      replace q1 := cB5 b5 q1
      replace q2 := cB5 b5 q2
      replace hA := rB5 b5 hA
      replace hT := HC.out.below _ _ hT b5
      replace B := chain B b5
      clear b5
      go_wp2
      go_ret
      exact ⟨rfl, B⟩
    · have HB := Lib.hid hb
      clear hb
      go_enter Tryd.func4, Tryd.ntmps4
      go_wp2_with fail
      refine (small5_yes F R l A c HS.out _).mono ?_
      rintro e w1 ⟨rfl, b1⟩
      replace q0 := cB5 b1 q0
      replace q1 := cB5 b1 q1
      replace q2 := cB5 b1 q2
      replace hA := rB5 b1 hA
      replace hT := HC.out.below _ _ hT b1
      replace B := chain B b1
      clear b1
      go_wp2_with fail
      refine (HC.out.allE F R l A c bl _ HS.out hA hT HB.out).mono ?_
      rintro e w2 ⟨rfl, b2⟩
      replace q0 := cB5 b2 q0
      replace q1 := cB5 b2 q1
      replace q2 := cB5 b2 q2
      replace hA := rB5 b2 hA
      replace hT := HC.out.below _ _ hT b2
      replace B := chain B b2
      clear b2
      go_wp2_with fail
      refine (rOrth_bad F R l A c HB.out _ HS.out hA).mono ?_
      rintro e w3 ⟨rfl, b3⟩
      replace q0 := cB5 b3 q0
      replace q1 := cB5 b3 q1
      replace q2 := cB5 b3 q2
      replace hA := rB5 b3 hA
      replace hT := HC.out.below _ _ hT b3
      replace B := chain B b3
      clear b3
      go_wp2_with fail
      refine (known5_any HC.out _ hT).mono ?_
      rintro e w4 ⟨rfl, b4⟩
      replace q0 := cB5 b4 q0
      replace q1 := cB5 b4 q1
      replace q2 := cB5 b4 q2
      replace hA := rB5 b4 hA
      replace hT := HC.out.below _ _ hT b4
      replace B := chain B b4
      clear b4
      go_wp2
      go_ret
      exact ⟨rfl, B⟩
  · go_enter Tryd.func4, Tryd.ntmps4
    go_wp2_with fail
    refine (small5_no F R l A c (by omega) _).mono ?_
    rintro e w1 ⟨rfl, b1⟩
    replace q0 := cB5 b1 q0
    replace q1 := cB5 b1 q1
    replace q2 := cB5 b1 q2
    replace hA := rB5 b1 hA
    replace hT := HC.out.below _ _ hT b1
    replace B := chain B b1
    clear b1
    go_wp2_with fail
    refine (known5_any HC.out _ hT).mono ?_
    rintro e w2 ⟨rfl, b2⟩
    replace q0 := cB5 b2 q0
    replace q1 := cB5 b2 q1
    replace q2 := cB5 b2 q2
    replace hA := rB5 b2 hA
    replace hT := HC.out.below _ _ hT b2
    replace B := chain B b2
    clear b2
    go_wp2
    go_ret
    exact ⟨rfl, B⟩

end Go.Proofs.YtjnbjegopddhgaaDoor
