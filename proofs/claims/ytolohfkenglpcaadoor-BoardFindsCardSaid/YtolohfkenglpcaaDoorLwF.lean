/- The law of finding pieces, of both sides and of the material: it answers true, and changes nothing that lay before. -/
import Derived.Test.YtolohfkenglpcaaDoorBkB
import Derived.Test.YtolohfkenglpcaaDoorSqJ
namespace Go.Proofs.YtolohfkenglpcaaDoor
open Go.RowKit

theorem idx_bd {P : Int → Bool} {l : List Int} (hl : l.length ≤ 64) : ∀ j, j < ((idx P l).map fun i : Nat => (i : Int)).length → 0 ≤ ((idx P l).map fun i : Nat => (i : Int))[j]?.getD 0 ∧ ((idx P l).map fun i : Nat => (i : Int))[j]?.getD 0 < 64 := by
  intro j hj
  have hj' : j < (idx P l).length := by simpa using hj
  rw [List.getElem?_map, List.getElem?_eq_getElem hj']
  have := (idx_lt (List.getElem_mem hj')).1
  simp
  omega
/-- the document's set of such a list. -/
theorem of_idx (P : Int → Bool) (l : List Int) (A : Option Addr) (c : Nat) (w : World) (hl : l.length ≤ 64) (hA : RdI w w.heap.size A ((idx P l).map fun i : Nat => (i : Int))) :
    Calls Tryd.prog 27 #[.slice A (idx P l).length c] w fun e w' => e = .returned (.int .u64 (setP P l : Int)) ∧ w' = w := by
  have h := refOf_any ((idx P l).map fun i : Nat => (i : Int)) A c w (by have := idxTo_le P l l.length; unfold idx; simp; omega) hA (idx_bd hl)
  rw [sqs_nat, List.length_map] at h
  exact h
theorem rdiB {W W' : World} (hb : Below W.heap.size W W') {A : Option Addr} {l : List Int} (h : RdI W W.heap.size A l) : RdI W' W'.heap.size A l := fun hl => by
  obtain ⟨ad, e, h1, hc⟩ := h.below hb hl
  exact ⟨ad, e, Nat.lt_of_lt_of_le h1 hb.size, hc⟩
/-- a list of the document's, and what its set is. -/
def GetsI (P : Int → Bool) (l : List Int) (w : World) (e : Ending) (w' : World) : Prop := ∃ A c, e = .returned (.slice A (idx P l).length c) ∧ RdI w' w'.heap.size A ((idx P l).map fun i : Nat => (i : Int)) ∧ Below w.heap.size w w'
theorem rList_any' (F R : Int) (l : List Int) (A : Option Addr) (c : Nat) (p : Int) (w : World) (hlen : l.length ≤ 100000) (hA : RdP w w.heap.size A l c) :
    Calls Tryd.prog 28 #[.agg #[.int .i64 F, .int .i64 R, .slice A l.length c], .int .i8 p] w (GetsI (eqP p) l w) :=
  (rList_any F R l A c p w hlen hA).mono fun e w' ⟨v, he, ho, hb⟩ => by
    obtain ⟨A', c', rfl, _, h⟩ := RdI.own' ho
    exact ⟨A', c', he, h, hb⟩
theorem rSideL_any' (F R : Int) (l : List Int) (A : Option Addr) (c : Nat) (s : Int) (w : World) (hlen : l.length ≤ 100000) (hp : ∀ j, j < l.length → okP (l[j]?.getD 0)) (hA : RdP w w.heap.size A l c) :
    Calls Tryd.prog 29 #[.agg #[.int .i64 F, .int .i64 R, .slice A l.length c], .int .i64 s] w (GetsI (sdP s) l w) :=
  (rSideL_any F R l A c s w hlen hp hA).mono fun e w' ⟨v, he, ho, hb⟩ => by
    obtain ⟨A', c', rfl, _, h⟩ := RdI.own' ho
    exact ⟨A', c', he, h, hb⟩

set_option maxRecDepth 100000 in
set_option maxHeartbeats 2000000 in
theorem law_bfinds (F R : Int) (l : List Int) (A : Option Addr) (c : Nat) (p : Int) (w : World) (hA : RdP w w.heap.size A l c) (hK : Kinds w) :
    Calls Tryd.prog 5 #[.agg #[.int .i64 F, .int .i64 R, .slice A l.length c], .int .i8 p] w fun e w' => e = .returned (.bool true) ∧ Below w.heap.size w w' := by
  have B : Below w.heap.size w (w.alloc (.cells #[.int .i64 F, .int .i64 R, .slice A l.length c] 26)) := box1 _ _
  replace hA := rdB B hA
  replace hK := hK.below B hK.1
  have q0 : (w.alloc (.cells #[.int .i64 F, .int .i64 R, .slice A l.length c] 26)).cell? ⟨w.heap.size, 0, none⟩ = some (.int .i64 F) := by simp [go_sem]
  have q1 : (w.alloc (.cells #[.int .i64 F, .int .i64 R, .slice A l.length c] 26)).cell? ⟨w.heap.size, 1, none⟩ = some (.int .i64 R) := by simp [go_sem]
  have q2 : (w.alloc (.cells #[.int .i64 F, .int .i64 R, .slice A l.length c] 26)).cell? ⟨w.heap.size, 2, none⟩ = some (.slice A l.length c) := by simp [go_sem]
  by_cases hs : l.length ≤ 70
  · by_cases hv : vbd F R l
    · have hl64 := vbd_len hv
      have hok := Lib.hid hv.2.2
      by_cases hp : okP p
      · go_enter Tryd.func5, Tryd.ntmps5
        go_wp2_with fail
        refine (small_yes F R l A c hs _).mono ?_
        rintro e w1 ⟨rfl, b1⟩
        replace q0 := cellB b1 q0
        replace q1 := cellB b1 q1
        replace q2 := cellB b1 q2
        replace hA := rdB b1 hA
        replace hK := hK.below b1 hK.1
        replace B := chain B b1
        clear b1
        go_wp2_with fail
        refine (find_yes F R l A c p _ hv hp hA).mono ?_
        rintro e w2 ⟨rfl, b2⟩
        replace q0 := cellB b2 q0
        replace q1 := cellB b2 q1
        replace q2 := cellB b2 q2
        replace hA := rdB b2 hA
        replace hK := hK.below b2 hK.1
        replace B := chain B b2
        clear b2
        go_wp2_with fail
        refine (sides_yes F R l A c _ hv hA).mono ?_
        rintro e w3 ⟨rfl, b3⟩
        replace q0 := cellB b3 q0
        replace q1 := cellB b3 q1
        replace q2 := cellB b3 q2
        replace hA := rdB b3 hA
        replace hK := hK.below b3 hK.1
        replace B := chain B b3
        clear b3
        go_wp2_with fail
        refine (material_yes F R l A c _ hv hK hA).mono ?_
        rintro e w4 ⟨rfl, b4⟩
        replace q0 := cellB b4 q0
        replace q1 := cellB b4 q1
        replace q2 := cellB b4 q2
        replace hA := rdB b4 hA
        replace hK := hK.below b4 hK.1
        replace B := chain B b4
        clear b4
        go_wp2_with fail
        refine (rbValid_yes F R l A c hv _ hA).mono ?_
        rintro e w5 ⟨rfl, b5⟩
        replace q0 := cellB b5 q0
        replace q1 := cellB b5 q1
        replace q2 := cellB b5 q2
        replace hA := rdB b5 hA
        replace hK := hK.below b5 hK.1
        replace B := chain B b5
        clear b5
        go_wp2_with fail
        refine (rpValid_yes p hp _).mono ?_
        rintro e w6 ⟨rfl, rfl⟩
        go_wp2_with fail
        refine (rList_any' F R l A c p _ (by omega) hA).mono ?_
        rintro e w7 ⟨Ai, ci, rfl, hi, b7⟩
        replace q0 := cellB b7 q0
        replace q1 := cellB b7 q1
        replace q2 := cellB b7 q2
        replace hA := rdB b7 hA
        replace hK := hK.below b7 hK.1
        replace B := chain B b7
        clear b7
        go_wp2_with fail
        refine (of_idx (eqP p) l Ai ci _ hl64 hi).mono ?_
        rintro e w8 ⟨rfl, rfl⟩
        clear hi
        go_wp2_with fail
        refine (rSideL_any' F R l A c 1 _ (by omega) hok.out hA).mono ?_
        rintro e w9 ⟨Ai, ci, rfl, hi, b9⟩
        replace q0 := cellB b9 q0
        replace q1 := cellB b9 q1
        replace q2 := cellB b9 q2
        replace hA := rdB b9 hA
        replace hK := hK.below b9 hK.1
        replace B := chain B b9
        clear b9
        go_wp2_with fail
        refine (of_idx (sdP 1) l Ai ci _ hl64 hi).mono ?_
        rintro e w10 ⟨rfl, rfl⟩
        clear hi
        go_wp2_with fail
        refine (rSideL_any' F R l A c (-1) _ (by omega) hok.out hA).mono ?_
        rintro e w11 ⟨Ai, ci, rfl, hi, b11⟩
        replace q0 := cellB b11 q0
        replace q1 := cellB b11 q1
        replace q2 := cellB b11 q2
        replace hA := rdB b11 hA
        replace hK := hK.below b11 hK.1
        replace B := chain B b11
        clear b11
        go_wp2_with fail
        refine (of_idx (sdP (-1)) l Ai ci _ hl64 hi).mono ?_
        rintro e w12 ⟨rfl, rfl⟩
        clear hi
        go_wp2_with fail
        refine (rMaterial_any F R l A c 1 _ (by omega) hok.out hA).mono ?_
        rintro e w13 ⟨rfl, b13⟩
        replace q0 := cellB b13 q0
        replace q1 := cellB b13 q1
        replace q2 := cellB b13 q2
        replace hA := rdB b13 hA
        replace hK := hK.below b13 hK.1
        replace B := chain B b13
        clear b13
        go_wp2_with fail
        refine (rMaterial_any F R l A c (-1) _ (by omega) hok.out hA).mono ?_
        rintro e w14 ⟨rfl, b14⟩
        replace q0 := cellB b14 q0
        replace q1 := cellB b14 q1
        replace q2 := cellB b14 q2
        replace hA := rdB b14 hA
        replace hK := hK.below b14 hK.1
        replace B := chain B b14
        clear b14
        go_wp2_with fail
        refine (knownB_any _ hK).mono ?_
        rintro e w15 ⟨rfl, b15⟩
        replace q0 := cellB b15 q0
        replace q1 := cellB b15 q1
        replace q2 := cellB b15 q2
        replace hA := rdB b15 hA
        replace hK := hK.below b15 hK.1
        replace B := chain B b15
        clear b15
        go_wp2
        go_ret
        exact ⟨rfl, B⟩
      · go_enter Tryd.func5, Tryd.ntmps5
        go_wp2_with fail
        refine (small_yes F R l A c hs _).mono ?_
        rintro e w1 ⟨rfl, b1⟩
        replace q0 := cellB b1 q0
        replace q1 := cellB b1 q1
        replace q2 := cellB b1 q2
        replace hA := rdB b1 hA
        replace hK := hK.below b1 hK.1
        replace B := chain B b1
        clear b1
        go_wp2_with fail
        refine (find_no F R l A c p _ (by omega) (fun h => hp h.2) hA).mono ?_
        rintro e w2 ⟨rfl, b2⟩
        replace q0 := cellB b2 q0
        replace q1 := cellB b2 q1
        replace q2 := cellB b2 q2
        replace hA := rdB b2 hA
        replace hK := hK.below b2 hK.1
        replace B := chain B b2
        clear b2
        go_wp2_with fail
        refine (sides_yes F R l A c _ hv hA).mono ?_
        rintro e w3 ⟨rfl, b3⟩
        replace q0 := cellB b3 q0
        replace q1 := cellB b3 q1
        replace q2 := cellB b3 q2
        replace hA := rdB b3 hA
        replace hK := hK.below b3 hK.1
        replace B := chain B b3
        clear b3
        go_wp2_with fail
        refine (material_yes F R l A c _ hv hK hA).mono ?_
        rintro e w4 ⟨rfl, b4⟩
        replace q0 := cellB b4 q0
        replace q1 := cellB b4 q1
        replace q2 := cellB b4 q2
        replace hA := rdB b4 hA
        replace hK := hK.below b4 hK.1
        replace B := chain B b4
        clear b4
        go_wp2_with fail
        refine (rbValid_yes F R l A c hv _ hA).mono ?_
        rintro e w5 ⟨rfl, b5⟩
        replace q0 := cellB b5 q0
        replace q1 := cellB b5 q1
        replace q2 := cellB b5 q2
        replace hA := rdB b5 hA
        replace hK := hK.below b5 hK.1
        replace B := chain B b5
        clear b5
        go_wp2_with fail
        refine (rpValid_no p hp _).mono ?_
        rintro e w6 ⟨rfl, rfl⟩
        go_wp2_with fail
        refine (rSideL_any' F R l A c 1 _ (by omega) hok.out hA).mono ?_
        rintro e w7 ⟨Ai, ci, rfl, hi, b7⟩
        replace q0 := cellB b7 q0
        replace q1 := cellB b7 q1
        replace q2 := cellB b7 q2
        replace hA := rdB b7 hA
        replace hK := hK.below b7 hK.1
        replace B := chain B b7
        clear b7
        go_wp2_with fail
        refine (of_idx (sdP 1) l Ai ci _ hl64 hi).mono ?_
        rintro e w8 ⟨rfl, rfl⟩
        clear hi
        go_wp2_with fail
        refine (rSideL_any' F R l A c (-1) _ (by omega) hok.out hA).mono ?_
        rintro e w9 ⟨Ai, ci, rfl, hi, b9⟩
        replace q0 := cellB b9 q0
        replace q1 := cellB b9 q1
        replace q2 := cellB b9 q2
        replace hA := rdB b9 hA
        replace hK := hK.below b9 hK.1
        replace B := chain B b9
        clear b9
        go_wp2_with fail
        refine (of_idx (sdP (-1)) l Ai ci _ hl64 hi).mono ?_
        rintro e w10 ⟨rfl, rfl⟩
        clear hi
        go_wp2_with fail
        refine (rMaterial_any F R l A c 1 _ (by omega) hok.out hA).mono ?_
        rintro e w11 ⟨rfl, b11⟩
        replace q0 := cellB b11 q0
        replace q1 := cellB b11 q1
        replace q2 := cellB b11 q2
        replace hA := rdB b11 hA
        replace hK := hK.below b11 hK.1
        replace B := chain B b11
        clear b11
        go_wp2_with fail
        refine (rMaterial_any F R l A c (-1) _ (by omega) hok.out hA).mono ?_
        rintro e w12 ⟨rfl, b12⟩
        replace q0 := cellB b12 q0
        replace q1 := cellB b12 q1
        replace q2 := cellB b12 q2
        replace hA := rdB b12 hA
        replace hK := hK.below b12 hK.1
        replace B := chain B b12
        clear b12
        go_wp2_with fail
        refine (knownB_any _ hK).mono ?_
        rintro e w13 ⟨rfl, b13⟩
        replace q0 := cellB b13 q0
        replace q1 := cellB b13 q1
        replace q2 := cellB b13 q2
        replace hA := rdB b13 hA
        replace hK := hK.below b13 hK.1
        replace B := chain B b13
        clear b13
        go_wp2
        go_ret
        exact ⟨rfl, B⟩
    · go_enter Tryd.func5, Tryd.ntmps5
      go_wp2_with fail
      refine (small_yes F R l A c hs _).mono ?_
      rintro e w1 ⟨rfl, b1⟩
      replace q0 := cellB b1 q0
      replace q1 := cellB b1 q1
      replace q2 := cellB b1 q2
      replace hA := rdB b1 hA
      replace hK := hK.below b1 hK.1
      replace B := chain B b1
      clear b1
      go_wp2_with fail
      refine (find_no F R l A c p _ (by omega) (fun h => hv h.1) hA).mono ?_
      rintro e w2 ⟨rfl, b2⟩
      replace q0 := cellB b2 q0
      replace q1 := cellB b2 q1
      replace q2 := cellB b2 q2
      replace hA := rdB b2 hA
      replace hK := hK.below b2 hK.1
      replace B := chain B b2
      clear b2
      go_wp2_with fail
      refine (sides_no F R l A c _ (by omega) hv hA).mono ?_
      rintro e w3 ⟨rfl, b3⟩
      replace q0 := cellB b3 q0
      replace q1 := cellB b3 q1
      replace q2 := cellB b3 q2
      replace hA := rdB b3 hA
      replace hK := hK.below b3 hK.1
      replace B := chain B b3
      clear b3
      go_wp2_with fail
      refine (material_no F R l A c _ (by omega) hv hA).mono ?_
      rintro e w4 ⟨rfl, b4⟩
      replace q0 := cellB b4 q0
      replace q1 := cellB b4 q1
      replace q2 := cellB b4 q2
      replace hA := rdB b4 hA
      replace hK := hK.below b4 hK.1
      replace B := chain B b4
      clear b4
      go_wp2_with fail
      refine (rbValid_no F R l A c hv _ (by omega) hA).mono ?_
      rintro e w5 ⟨rfl, b5⟩
      replace q0 := cellB b5 q0
      replace q1 := cellB b5 q1
      replace q2 := cellB b5 q2
      replace hA := rdB b5 hA
      replace hK := hK.below b5 hK.1
      replace B := chain B b5
      clear b5
      go_wp2_with fail
      refine (knownB_any _ hK).mono ?_
      rintro e w6 ⟨rfl, b6⟩
      replace q0 := cellB b6 q0
      replace q1 := cellB b6 q1
      replace q2 := cellB b6 q2
      replace hA := rdB b6 hA
      replace hK := hK.below b6 hK.1
      replace B := chain B b6
      clear b6
      go_wp2
      go_ret
      exact ⟨rfl, B⟩
  · go_enter Tryd.func5, Tryd.ntmps5
    go_wp2_with fail
    refine (small_no F R l A c (by omega) _).mono ?_
    rintro e w1 ⟨rfl, b1⟩
    replace q0 := cellB b1 q0
    replace q1 := cellB b1 q1
    replace q2 := cellB b1 q2
    replace hA := rdB b1 hA
    replace hK := hK.below b1 hK.1
    replace B := chain B b1
    clear b1
    go_wp2_with fail
    refine (knownB_any _ hK).mono ?_
    rintro e w2 ⟨rfl, b2⟩
    replace q0 := cellB b2 q0
    replace q1 := cellB b2 q1
    replace q2 := cellB b2 q2
    replace hA := rdB b2 hA
    replace hK := hK.below b2 hK.1
    replace B := chain B b2
    clear b2
    go_wp2
    go_ret
    exact ⟨rfl, B⟩

end Go.Proofs.YtolohfkenglpcaaDoor
