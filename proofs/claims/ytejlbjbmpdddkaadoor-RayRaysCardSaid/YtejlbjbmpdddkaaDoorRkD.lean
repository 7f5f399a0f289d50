/- The examples of the chapter: known answers true, and changes nothing that lay before. Under the tables of directions as the program's text lays them. -/
import Derived.Test.YtejlbjbmpdddkaaDoorRkC
namespace Go.Proofs.YtejlbjbmpdddkaaDoor
open Go.RowKit Go.Shelf Go.Sort
attribute [local go_sem] Oper.semAt_some

set_option maxRecDepth 100000 in
set_option maxHeartbeats 8000000 in
theorem known_in (w : World) (hT : Tb w) :
    CallsIn Fence.wide 6 Tryd.prog 10 #[] w fun e w' => e = .returned (.bool true) ∧ Below w.heap.size w w' := by
  have hnil : ∀ (p q r s : Value) (W : World), (binOp BinOp.eql 27 (.func (.func 26) #[] #[p, q, r, s]) Value.nilFunc).run Tryd.prog W = .ok (.bool false) W := fun _ _ _ _ _ => by kernel_rfl
  refine callsIn_of_wp_marks Tryd.func10 rfl trivial ?_ rfl
  simp only [Tryd.ntmps10, List.size_toArray, List.length_nil, Nat.reduceSub, Array.replicate_succ, Array.replicate_zero, List.push_toArray, List.append_toArray, List.nil_append, List.cons_append]
  have B : Below w.heap.size w (w.alloc (.cells #[.bool false] 4)) := box1 _ _
  have q : Bx (w.alloc (.cells #[.bool false] 4)) w.heap.size (.bool false) := ⟨by simp [go_sem], by simp [go_sem]⟩
  gi_wp2_with fail
  refine ⟨trivial, callsIn_wide.2 ((full_any _).mono ?_)⟩
  rintro e w1 ⟨rfl, hb⟩
  replace q := q.below hb
  replace B := chain B hb
  clear hb
  gi_wp2_with fail
  refine ⟨trivial, callsIn_wide.2 ((pRay_any 8 8 0 1 1 _).mono ?_)⟩
  rintro e wx ⟨rfl, rfl⟩
  have r1 := R5.new w1 8 8 0 1 1
  have hb := ray_below w1 8 8 0 1 1
  obtain ⟨V1, hV⟩ : ∃ V, ((((w1.alloc (.cells #[.int .i64 8, .int .i64 8] 23)).alloc (.cells #[.int .i64 0] 3)).alloc (.cells #[.int .i64 1] 3)).alloc (.cells #[.int .i64 1] 3)) = V := ⟨_, rfl⟩
  rw [hV] at r1 hb ⊢
  clear hV
  have g1 : w1.heap.size + 4 ≤ V1.heap.size := r1.1
  replace q := q.below hb
  replace B := chain B hb
  clear hb
  gi_wp2_with fail
  refine ⟨trivial, callsIn_wide.2 ((full_any _).mono ?_)⟩
  rintro e w2 ⟨rfl, hb⟩
  replace q := q.below hb
  replace r1 := r1.below hb
  replace B := chain B hb
  clear hb
  gi_wp2_with fail
  refine ⟨trivial, callsIn_wide.2 ((k_at_g7 _).mono ?_)⟩
  rintro e w3 ⟨rfl, hb⟩
  replace q := q.below hb
  replace r1 := r1.below hb
  replace B := chain B hb
  clear hb
  gi_wp2_with fail
  refine ⟨trivial, callsIn_wide.2 ((pRay_any 8 8 54 1 1 _).mono ?_)⟩
  rintro e wx ⟨rfl, rfl⟩
  have r2 := R5.new w3 8 8 54 1 1
  have hb := ray_below w3 8 8 54 1 1
  obtain ⟨V2, hV⟩ : ∃ V, ((((w3.alloc (.cells #[.int .i64 8, .int .i64 8] 23)).alloc (.cells #[.int .i64 54] 3)).alloc (.cells #[.int .i64 1] 3)).alloc (.cells #[.int .i64 1] 3)) = V := ⟨_, rfl⟩
  rw [hV] at r2 hb ⊢
  clear hV
  have g2 : w3.heap.size + 4 ≤ V2.heap.size := r2.1
  replace q := q.below hb
  replace r1 := r1.below hb
  replace B := chain B hb
  clear hb
  gi_wp2_with fail
  refine ⟨trivial, callsIn_wide.2 ((full_any _).mono ?_)⟩
  rintro e w4 ⟨rfl, hb⟩
  replace q := q.below hb
  replace r1 := r1.below hb
  replace r2 := r2.below hb
  replace B := chain B hb
  clear hb
  gi_wp2_with fail
  refine ⟨trivial, callsIn_wide.2 ((pRay_any 8 8 0 0 0 _).mono ?_)⟩
  rintro e wx ⟨rfl, rfl⟩
  have r3 := R5.new w4 8 8 0 0 0
  have hb := ray_below w4 8 8 0 0 0
  obtain ⟨V3, hV⟩ : ∃ V, ((((w4.alloc (.cells #[.int .i64 8, .int .i64 8] 23)).alloc (.cells #[.int .i64 0] 3)).alloc (.cells #[.int .i64 0] 3)).alloc (.cells #[.int .i64 0] 3)) = V := ⟨_, rfl⟩
  rw [hV] at r3 hb ⊢
  clear hV
  have g3 : w4.heap.size + 4 ≤ V3.heap.size := r3.1
  replace q := q.below hb
  replace r1 := r1.below hb
  replace r2 := r2.below hb
  replace B := chain B hb
  clear hb
  gi_wp2_with fail
  obtain ⟨X1, hX⟩ : ∃ X, V3.alloc (.cells #[.int .i64 0] 3) = X := ⟨_, rfl⟩
  have hb : Below V3.heap.size V3 X1 := by rw [← hX]; exact box1 _ _
  have n1 : Bx X1 V3.heap.size (.int .i64 0) := by rw [← hX]; exact ⟨by simp [go_sem], by simp [go_sem]⟩
  have hs1 : X1.heap.size = V3.heap.size + 1 := by rw [← hX]; simp
  rw [hX]
  clear hX
  have l1q := q.lt
  have l1r1 := r1.1
  have l1r2 := r2.1
  have l1r3 := r3.1
  replace q := q.below hb
  replace r1 := r1.below hb
  replace r2 := r2.below hb
  replace r3 := r3.below hb
  replace B := chain B hb
  clear hb
  apply range_rayX ray1_is (by omega) (by omega) (by omega) (by omega) (by omega) rfl w1.heap.size (V3.heap.size) (.inr (by omega)) r1.1 rfl r1.2.1 r1.2.2.1 r1.2.2.2.1 r1.2.2.2.2.1 r1.2.2.2.2.2
    (fun pre => .int .i64 (pre.length : Int)) (fun _ => True) (fun _ _ => False) n1.1 n1.2 trivial
  case hassign =>
    intro l x W K hK
    gi_wp2
    exact hK
  case hstop => rintro D id pre W _ _ _ _ _ h _; exact h.elim
  case hbody =>
    intro l pre x W hS hSf hB _ hlen
    have hl7 : pre.length ≤ 6 := by have : ray1L.length = 7 := rfl; omega
    have q1 := (q.but hB (by omega)).1
    have q2 := (q.but hB (by omega)).2
    have q3 : (W.setCell ⟨V3.heap.size, 0, none⟩ (.int .i64 ((pre.length : Int) + 1))).cell? ⟨w.heap.size, 0, none⟩ = some (.bool false) := (World.cell?_setCell_far _ _ _ _ (by simp; omega)).trans q1
    by_cases hm : (x.1 : Int) = 9 * ((pre.length : Int) + 1)
    · have hne : ((x.1 : Int) != 9 * ((pre.length : Int) + 1)) = false := by simp [hm]
      have hgt : decide ((7 : Int) < (pre.length : Int) + 1) = false := decide_eq_false (by omega)
      have hp : (((pre ++ [x]).length : Nat) : Int) = (pre.length : Int) + 1 := by simp
      have HM := Lib.hid hm
      clear hm hlen
      gi_wp2
      exact ⟨⟨by show _ = some (Value.int .i64 (((pre ++ [x]).length : Nat) : Int)); rw [hp]; exact World.cell?_setCell_same W ⟨_, 0, none⟩ _ hS, (World.frozen?_setCell ..).trans hSf⟩, ButS.set _ _ _, trivial⟩
    · have hne : ((x.1 : Int) != 9 * ((pre.length : Int) + 1)) = true := by simp [hm]
      have hno : ¬ vl (pre ++ [x]) <+: ray1L := fun h => hm (by rw [next_ray h hlen, ray1_at]; simp)
      clear hm hlen
      gi_wp2
      exact ⟨(KeepsOthers.setCell _ _ _).trans (KeepsOthers.setCell _ _ _), hno⟩
  case hdone =>
    intro D1 ys W1 hD hys hS hSf hW _ hK
    have hlen := congrArg List.length hys
    rw [vl_len] at hlen
    rw [show ((ys.length : Nat) : Int) = 7 by rw [hlen]; rfl] at hS
    clear hlen hys
    have hz1 := hW.size
    replace B := B.trans (hW.below (by omega) (by omega))
    replace q := q.but hW (by omega)
    replace r2 := r2.but hW (.inr (by omega))
    replace r3 := r3.but hW (.inr (by omega))
    have n1 : Bx W1 (V3.heap.size) _ := ⟨hS, hSf⟩
    have m1 : Mk W1 D1 := hK
    clear hS hSf hK r1
    have hd1 := hD
    clear hD
    gi_wp2_with fail
    obtain ⟨X2, hX⟩ : ∃ X, W1.alloc (.cells #[.int .i64 0] 3) = X := ⟨_, rfl⟩
    have hb : Below W1.heap.size W1 X2 := by rw [← hX]; exact box1 _ _
    have n2 : Bx X2 W1.heap.size (.int .i64 0) := by rw [← hX]; exact ⟨by simp [go_sem], by simp [go_sem]⟩
    have hs2 : X2.heap.size = W1.heap.size + 1 := by rw [← hX]; simp
    rw [hX]
    clear hX
    have l2q := q.lt
    have l2r2 := r2.1
    have l2r3 := r3.1
    have l2n1 := n1.lt
    have l2m1 := m1.lt
    replace q := q.below hb
    replace r2 := r2.below hb
    replace r3 := r3.below hb
    replace n1 := n1.below hb
    replace m1 := m1.below hb
    replace B := chain B hb
    clear hb
    apply range_rayX ray2_is (by omega) (by omega) (by omega) (by omega) (by omega) rfl w3.heap.size (W1.heap.size) (.inr (by omega)) r2.1 rfl r2.2.1 r2.2.2.1 r2.2.2.2.1 r2.2.2.2.2.1 r2.2.2.2.2.2
      (fun pre => .int .i64 (pre.length : Int)) (fun _ => True) (fun _ _ => False) n2.1 n2.2 trivial
    case hassign =>
      intro l x W K hK
      gi_wp2
      exact hK
    case hstop => rintro D id pre W _ _ _ _ _ h _; exact h.elim
    case hbody =>
      intro l pre x W hS hSf hB _ hlen
      have hl7 : pre.length ≤ 0 := by have : [63].length = 1 := rfl; omega
      have q1 := (q.but hB (by omega)).1
      have q2 := (q.but hB (by omega)).2
      have q3 : (W.setCell ⟨W1.heap.size, 0, none⟩ (.int .i64 ((pre.length : Int) + 1))).cell? ⟨w.heap.size, 0, none⟩ = some (.bool false) := (World.cell?_setCell_far _ _ _ _ (by simp; omega)).trans q1
      by_cases hm : (x.1 : Int) = 63
      · have hne : ((x.1 : Int) != 63) = false := by simp [hm]
        have hgt : decide ((1 : Int) < (pre.length : Int) + 1) = false := decide_eq_false (by omega)
        have hp : (((pre ++ [x]).length : Nat) : Int) = (pre.length : Int) + 1 := by simp
        have HM := Lib.hid hm
        clear hm hlen
        gi_wp2
        exact ⟨⟨by show _ = some (Value.int .i64 (((pre ++ [x]).length : Nat) : Int)); rw [hp]; exact World.cell?_setCell_same W ⟨_, 0, none⟩ _ hS, (World.frozen?_setCell ..).trans hSf⟩, ButS.set _ _ _, trivial⟩
      · have hne : ((x.1 : Int) != 63) = true := by simp [hm]
        have hno : ¬ vl (pre ++ [x]) <+: [63] := fun h => hm (by have h1 := next_ray h hlen; simp at h1; omega)
        clear hm hlen
        gi_wp2
        exact ⟨(KeepsOthers.setCell _ _ _).trans (KeepsOthers.setCell _ _ _), hno⟩
    case hdone =>
      intro D2 ys W2 hD hys hS hSf hW _ hK
      have hlen := congrArg List.length hys
      rw [vl_len] at hlen
      rw [show ((ys.length : Nat) : Int) = 1 by rw [hlen]; rfl] at hS
      clear hlen hys
      have hz2 := hW.size
      replace B := B.trans (hW.below (by omega) (by omega))
      replace q := q.but hW (by omega)
      replace r3 := r3.but hW (.inr (by omega))
      replace n1 := n1.but hW (by omega)
      replace m1 := m1.but hW (by omega)
      have n2 : Bx W2 (W1.heap.size) _ := ⟨hS, hSf⟩
      have m2 : Mk W2 D2 := hK
      clear hS hSf hK r2
      have hd2 := hD
      clear hD
      gi_wp2_with fail
      have l3q := q.lt
      have l3r3 := r3.1
      have l3n1 := n1.lt
      have l3m1 := m1.lt
      have l3n2 := n2.lt
      have l3m2 := m2.lt
      apply range_rayX ray3_is (by omega) (by omega) (by omega) (by omega) (by omega) rfl w4.heap.size (W1.heap.size) (.inr (by omega)) r3.1 rfl r3.2.1 r3.2.2.1 r3.2.2.2.1 r3.2.2.2.2.1 r3.2.2.2.2.2
        (fun _ => .int .i64 1) (fun _ => True) (fun _ _ => False) n2.1 n2.2 trivial
      case hassign =>
        intro l x W K hK
        gi_wp2
        exact hK
      case hstop => rintro D id pre W _ _ _ _ _ h _; exact h.elim
      case hbody =>
        intro l pre x W hS hSf hB _ hlen
        simp at hlen
      case hdone =>
        intro D3 ys W3 hD hys hS hSf hW _ hK
        have hz3 := hW.size
        replace B := B.trans (hW.below (by omega) (by omega))
        replace q := q.but hW (by omega)
        replace n1 := n1.but hW (by omega)
        replace m1 := m1.but hW (by omega)
        replace m2 := m2.but hW (by omega)
        replace n2 : Bx W3 (W1.heap.size) _ := ⟨hS, hSf⟩
        have m3 : Mk W3 D3 := hK
        clear hS hSf hK r3
        have hd3 := hD
        clear hD
        gi_wp2_with fail
        refine ⟨trivial, callsIn_wide.2 ((full_any _).mono ?_)⟩
        rintro e w20 ⟨rfl, hb⟩
        replace q := q.below hb
        replace n1 := n1.below hb
        replace m1 := m1.below hb
        replace n2 := n2.below hb
        replace m2 := m2.below hb
        replace m3 := m3.below hb
        replace B := chain B hb
        clear hb
        gi_wp2_with fail
        refine ⟨trivial, callsIn_wide.2 ((k_at_d4 _).mono ?_)⟩
        rintro e w21 ⟨rfl, hb⟩
        replace q := q.below hb
        replace n1 := n1.below hb
        replace m1 := m1.below hb
        replace n2 := n2.below hb
        replace m2 := m2.below hb
        replace m3 := m3.below hb
        replace B := chain B hb
        clear hb
        gi_wp2_with fail
        refine ⟨trivial, callsIn_wide.2 ((k_bet1 _).mono ?_)⟩
        rintro e w22 ⟨rfl, hb⟩
        replace q := q.below hb
        replace n1 := n1.below hb
        replace m1 := m1.below hb
        replace n2 := n2.below hb
        replace m2 := m2.below hb
        replace m3 := m3.below hb
        replace B := chain B hb
        clear hb
        gi_wp2_with fail
        refine ⟨trivial, callsIn_wide.2 ((full_any _).mono ?_)⟩
        rintro e w23 ⟨rfl, hb⟩
        replace q := q.below hb
        replace n1 := n1.below hb
        replace m1 := m1.below hb
        replace n2 := n2.below hb
        replace m2 := m2.below hb
        replace m3 := m3.below hb
        replace B := chain B hb
        clear hb
        gi_wp2_with fail
        refine ⟨trivial, callsIn_wide.2 ((k_at_a2 _).mono ?_)⟩
        rintro e w24 ⟨rfl, hb⟩
        replace q := q.below hb
        replace n1 := n1.below hb
        replace m1 := m1.below hb
        replace n2 := n2.below hb
        replace m2 := m2.below hb
        replace m3 := m3.below hb
        replace B := chain B hb
        clear hb
        gi_wp2_with fail
        refine ⟨trivial, callsIn_wide.2 ((k_bet2 _).mono ?_)⟩
        rintro e w25 ⟨rfl, hb⟩
        replace q := q.below hb
        replace n1 := n1.below hb
        replace m1 := m1.below hb
        replace n2 := n2.below hb
        replace m2 := m2.below hb
        replace m3 := m3.below hb
        replace B := chain B hb
        clear hb
        gi_wp2_with fail
        refine ⟨trivial, callsIn_wide.2 ((full_any _).mono ?_)⟩
        rintro e w26 ⟨rfl, hb⟩
        replace q := q.below hb
        replace n1 := n1.below hb
        replace m1 := m1.below hb
        replace n2 := n2.below hb
        replace m2 := m2.below hb
        replace m3 := m3.below hb
        replace B := chain B hb
        clear hb
        gi_wp2_with fail
        refine ⟨trivial, callsIn_wide.2 ((k_at_b3 _).mono ?_)⟩
        rintro e w27 ⟨rfl, hb⟩
        replace q := q.below hb
        replace n1 := n1.below hb
        replace m1 := m1.below hb
        replace n2 := n2.below hb
        replace m2 := m2.below hb
        replace m3 := m3.below hb
        replace B := chain B hb
        clear hb
        gi_wp2_with fail
        refine ⟨trivial, callsIn_wide.2 ((k_bet3 _).mono ?_)⟩
        rintro e w28 ⟨rfl, hb⟩
        replace q := q.below hb
        replace n1 := n1.below hb
        replace m1 := m1.below hb
        replace n2 := n2.below hb
        replace m2 := m2.below hb
        replace m3 := m3.below hb
        replace B := chain B hb
        clear hb
        gi_wp2_with fail
        refine ⟨trivial, callsIn_wide.2 ((full_any _).mono ?_)⟩
        rintro e w29 ⟨rfl, hb⟩
        replace q := q.below hb
        replace n1 := n1.below hb
        replace m1 := m1.below hb
        replace n2 := n2.below hb
        replace m2 := m2.below hb
        replace m3 := m3.below hb
        replace B := chain B hb
        clear hb
        gi_wp2_with fail
        refine ⟨trivial, callsIn_wide.2 ((k_at_h1 _).mono ?_)⟩
        rintro e w30 ⟨rfl, hb⟩
        replace q := q.below hb
        replace n1 := n1.below hb
        replace m1 := m1.below hb
        replace n2 := n2.below hb
        replace m2 := m2.below hb
        replace m3 := m3.below hb
        replace B := chain B hb
        clear hb
        gi_wp2_with fail
        refine ⟨trivial, callsIn_wide.2 ((k_dir _).mono ?_)⟩
        rintro e w31 ⟨rfl, hb⟩
        replace q := q.below hb
        replace n1 := n1.below hb
        replace m1 := m1.below hb
        replace n2 := n2.below hb
        replace m2 := m2.below hb
        replace m3 := m3.below hb
        replace B := chain B hb
        clear hb
        have a1 := n1.1
        have a2 := n2.1
        gi_wp2_with fail
        refine ⟨trivial, callsIn_wide.2 ((k_set_b2c3 _).mono ?_)⟩
        rintro e w32 ⟨rfl, hb⟩
        replace q := q.below hb
        replace n1 := n1.below hb
        replace m1 := m1.below hb
        replace n2 := n2.below hb
        replace m2 := m2.below hb
        replace m3 := m3.below hb
        replace B := chain B hb
        clear hb
        clear a1 a2 n1 n2
        gi_wp2_with fail
        refine ⟨trivial, callsIn_wide.2 ((full_any _).mono ?_)⟩
        rintro e w33 ⟨rfl, hb⟩
        replace q := q.below hb
        replace m1 := m1.below hb
        replace m2 := m2.below hb
        replace m3 := m3.below hb
        replace B := chain B hb
        clear hb
        gi_wp2_with fail
        refine ⟨trivial, callsIn_wide.2 ((k_at_b1 _).mono ?_)⟩
        rintro e w34 ⟨rfl, hb⟩
        replace q := q.below hb
        replace m1 := m1.below hb
        replace m2 := m2.below hb
        replace m3 := m3.below hb
        replace B := chain B hb
        clear hb
        gi_wp2_with fail
        refine ⟨trivial, callsIn_wide.2 ((k_reach1 _ (hT.below B)).mono ?_)⟩
        rintro e w35 ⟨rfl, hb⟩
        replace q := q.below hb
        replace m1 := m1.below hb
        replace m2 := m2.below hb
        replace m3 := m3.below hb
        replace B := chain B hb
        clear hb
        gi_wp2_with fail
        refine ⟨trivial, callsIn_wide.2 ((full_any _).mono ?_)⟩
        rintro e w36 ⟨rfl, hb⟩
        replace q := q.below hb
        replace m1 := m1.below hb
        replace m2 := m2.below hb
        replace m3 := m3.below hb
        replace B := chain B hb
        clear hb
        gi_wp2_with fail
        refine ⟨trivial, callsIn_wide.2 ((k_set_a3c1 _).mono ?_)⟩
        rintro e w37 ⟨rfl, hb⟩
        replace q := q.below hb
        replace m1 := m1.below hb
        replace m2 := m2.below hb
        replace m3 := m3.below hb
        replace B := chain B hb
        clear hb
        gi_wp2_with fail
        refine ⟨trivial, callsIn_wide.2 ((k_reach2 _ (hT.below B)).mono ?_)⟩
        rintro e w38 ⟨rfl, hb⟩
        replace q := q.below hb
        replace m1 := m1.below hb
        replace m2 := m2.below hb
        replace m3 := m3.below hb
        replace B := chain B hb
        clear hb
        gi_wp2_with fail
        refine ⟨trivial, callsIn_wide.2 ((full_any _).mono ?_)⟩
        rintro e w39 ⟨rfl, hb⟩
        replace q := q.below hb
        replace m1 := m1.below hb
        replace m2 := m2.below hb
        replace m3 := m3.below hb
        replace B := chain B hb
        clear hb
        gi_wp2_with fail
        refine ⟨trivial, callsIn_wide.2 ((k_at_a2 _).mono ?_)⟩
        rintro e w40 ⟨rfl, hb⟩
        replace q := q.below hb
        replace m1 := m1.below hb
        replace m2 := m2.below hb
        replace m3 := m3.below hb
        replace B := chain B hb
        clear hb
        gi_wp2_with fail
        refine ⟨trivial, callsIn_wide.2 ((k_pawn _).mono ?_)⟩
        rintro e w41 ⟨rfl, hb⟩
        replace q := q.below hb
        replace m1 := m1.below hb
        replace m2 := m2.below hb
        replace m3 := m3.below hb
        replace B := chain B hb
        clear hb
        gi_wp2_with fail
        refine ⟨trivial, callsIn_wide.2 ((k_set_a3c3d2 _).mono ?_)⟩
        rintro e w42 ⟨rfl, hb⟩
        replace q := q.below hb
        replace m1 := m1.below hb
        replace m2 := m2.below hb
        replace m3 := m3.below hb
        replace B := chain B hb
        clear hb
        gi_wp2_with fail
        refine ⟨trivial, callsIn_wide.2 ((k_set_a2a3b1c1 _).mono ?_)⟩
        rintro e w43 ⟨rfl, hb⟩
        replace q := q.below hb
        replace m1 := m1.below hb
        replace m2 := m2.below hb
        replace m3 := m3.below hb
        replace B := chain B hb
        clear hb
        gi_wp2_with fail
        refine ⟨trivial, callsIn_wide.2 ((k_set_b3 _).mono ?_)⟩
        rintro e w44 ⟨rfl, hb⟩
        replace q := q.below hb
        replace m1 := m1.below hb
        replace m2 := m2.below hb
        replace m3 := m3.below hb
        replace B := chain B hb
        clear hb
        gi_wp2_with fail
        refine ⟨trivial, callsIn_wide.2 ((full_any _).mono ?_)⟩
        rintro e w45 ⟨rfl, hb⟩
        replace q := q.below hb
        replace m1 := m1.below hb
        replace m2 := m2.below hb
        replace m3 := m3.below hb
        replace B := chain B hb
        clear hb
        gi_wp2_with fail
        refine ⟨trivial, callsIn_wide.2 ((k_at_e2 _).mono ?_)⟩
        rintro e w46 ⟨rfl, hb⟩
        replace q := q.below hb
        replace m1 := m1.below hb
        replace m2 := m2.below hb
        replace m3 := m3.below hb
        replace B := chain B hb
        clear hb
        gi_wp2_with fail
        refine ⟨trivial, callsIn_wide.2 ((k_steps1 _).mono ?_)⟩
        rintro e w47 ⟨rfl, hb⟩
        replace q := q.below hb
        replace m1 := m1.below hb
        replace m2 := m2.below hb
        replace m3 := m3.below hb
        replace B := chain B hb
        clear hb
        gi_wp2_with fail
        refine ⟨trivial, callsIn_wide.2 ((full_any _).mono ?_)⟩
        rintro e w48 ⟨rfl, hb⟩
        replace q := q.below hb
        replace m1 := m1.below hb
        replace m2 := m2.below hb
        replace m3 := m3.below hb
        replace B := chain B hb
        clear hb
        gi_wp2_with fail
        refine ⟨trivial, callsIn_wide.2 ((k_at_e2 _).mono ?_)⟩
        rintro e w49 ⟨rfl, hb⟩
        replace q := q.below hb
        replace m1 := m1.below hb
        replace m2 := m2.below hb
        replace m3 := m3.below hb
        replace B := chain B hb
        clear hb
        gi_wp2_with fail
        refine ⟨trivial, callsIn_wide.2 ((k_set_e4 _).mono ?_)⟩
        rintro e w50 ⟨rfl, hb⟩
        replace q := q.below hb
        replace m1 := m1.below hb
        replace m2 := m2.below hb
        replace m3 := m3.below hb
        replace B := chain B hb
        clear hb
        gi_wp2_with fail
        refine ⟨trivial, callsIn_wide.2 ((k_steps2 _).mono ?_)⟩
        rintro e w51 ⟨rfl, hb⟩
        replace q := q.below hb
        replace m1 := m1.below hb
        replace m2 := m2.below hb
        replace m3 := m3.below hb
        replace B := chain B hb
        clear hb
        gi_wp2_with fail
        refine ⟨trivial, callsIn_wide.2 ((full_any _).mono ?_)⟩
        rintro e w52 ⟨rfl, hb⟩
        replace q := q.below hb
        replace m1 := m1.below hb
        replace m2 := m2.below hb
        replace m3 := m3.below hb
        replace B := chain B hb
        clear hb
        gi_wp2_with fail
        refine ⟨trivial, callsIn_wide.2 ((k_at_e2 _).mono ?_)⟩
        rintro e w53 ⟨rfl, hb⟩
        replace q := q.below hb
        replace m1 := m1.below hb
        replace m2 := m2.below hb
        replace m3 := m3.below hb
        replace B := chain B hb
        clear hb
        gi_wp2_with fail
        refine ⟨trivial, callsIn_wide.2 ((k_steps3 _).mono ?_)⟩
        rintro e w54 ⟨rfl, hb⟩
        replace q := q.below hb
        replace m1 := m1.below hb
        replace m2 := m2.below hb
        replace m3 := m3.below hb
        replace B := chain B hb
        clear hb
        gi_wp2_with fail
        refine ⟨trivial, callsIn_wide.2 ((k_steps4 _).mono ?_)⟩
        rintro e w55 ⟨rfl, hb⟩
        replace q := q.below hb
        replace m1 := m1.below hb
        replace m2 := m2.below hb
        replace m3 := m3.below hb
        replace B := chain B hb
        clear hb
        gi_wp2_with fail
        refine ⟨trivial, callsIn_wide.2 ((k_set_e3e4 _).mono ?_)⟩
        rintro e w56 ⟨rfl, hb⟩
        replace q := q.below hb
        replace m1 := m1.below hb
        replace m2 := m2.below hb
        replace m3 := m3.below hb
        replace B := chain B hb
        clear hb
        gi_wp2_with fail
        refine ⟨trivial, callsIn_wide.2 ((k_set_e3 _).mono ?_)⟩
        rintro e w57 ⟨rfl, hb⟩
        replace q := q.below hb
        replace m1 := m1.below hb
        replace m2 := m2.below hb
        replace m3 := m3.below hb
        replace B := chain B hb
        clear hb
        gi_wp2_with fail
        refine ⟨trivial, callsIn_wide.2 ((k_set_e1 _).mono ?_)⟩
        rintro e w58 ⟨rfl, hb⟩
        replace q := q.below hb
        replace m1 := m1.below hb
        replace m2 := m2.below hb
        replace m3 := m3.below hb
        replace B := chain B hb
        clear hb
        have l1 := m1.lt
        have l2 := m2.lt
        have l3 := m3.lt
        have ql := q.lt
        have q1 := q.1
        have q2 := q.2
        gi_wp2
        have hM : MarksAt (w.heap.size + 1) [D3, D2, D1] (w58.setCell ⟨w.heap.size, 0, none⟩ (.bool true)) := by
          refine ⟨by simp; omega, fun D hD => ?_⟩
          simp at hD
          rcases hD with rfl | rfl | rfl
          · exact ⟨by omega, (Below.heap_setCell _ _ _ _ (by simp; omega)).trans m3⟩
          · exact ⟨by omega, (Below.heap_setCell _ _ _ _ (by simp; omega)).trans m2⟩
          · exact ⟨by omega, (Below.heap_setCell _ _ _ _ (by simp; omega)).trans m1⟩
        have hc := World.cell?_setCell_same w58 ⟨w.heap.size, 0, none⟩ (.bool true) q1
        clear m1 m2 m3 q q1 q2
        refine leaves_marks [D3, D2, D1] _ hM (fun w' hw => ?_)
        have hcv := (hw.cell (p := ⟨w.heap.size, 0, none⟩) (by simp)).trans hc
        refine ⟨.bool true, ?_, rfl, (B.setCell (p := ⟨w.heap.size, 0, none⟩) (Nat.le_refl _) _).trans (hw.mono (by omega))⟩
        have hres : Tryd.f10.results = #[.cell 0 4] := by kernel_rfl
        simp only [results, hres]
        go_simp

end Go.Proofs.YtejlbjbmpdddkaaDoor
