/- The laws of checks and of pins: they answer true, given what the program's functions answer. -/
import Derived.Test.YtjnbjegopddhgaaDoorAtO

namespace Go.Proofs.YtjnbjegopddhgaaDoor
open Go.RowKit Go.Sort

theorem pinned_len {F R : Int} {l : List Int} {bl : Bool} (h : l.length ≤ 64) : (pinnedL F R l bl).length ≤ 1000000 := by
  have h1 := List.length_filter_le (fun n : Nat => decide (0 ≤ pinV F R l n)) (idx (sdP (sdN bl)) l)
  have h2 := idx_len (sdP (sdN bl)) l
  unfold pinnedL
  omega
theorem pinned_64 {F R : Int} {l : List Int} {bl : Bool} (h : l.length ≤ 64) : ∀ i ∈ pinnedL F R l bl, i < 64 := fun i hi => by
  have := (idx_lt (List.mem_filter.1 hi).1).1
  omega
theorem lin_len {F R : Int} {l : List Int} {n : Nat} (h : l.length ≤ 64) : (linL F R l n).length ≤ 1000000 := by
  unfold linL
  refine Nat.le_trans (List.length_filter_le _ _) ?_
  rw [List.length_range]
  omega
theorem lin_64 {F R : Int} {l : List Int} {n : Nat} (h : l.length ≤ 64) : ∀ i ∈ linL F R l n, i < 64 := fun i hi => by
  have := List.mem_range.1 (List.mem_filter.1 hi).1
  omega

set_option maxRecDepth 100000 in
set_option maxHeartbeats 4000000 in
theorem law_achk {T : World → Prop} (HC0 : AtkC T) (F R : Int) (l : List Int) (A : Option Addr) (c : Nat) (bl : Bool) (w : World) (hA : RdP w w.heap.size A l c) (hT : T w) :
    Calls Tryd.prog 5 #[.agg #[.int .i64 F, .int .i64 R, .slice A l.length c], .bool bl] w fun e w' => e = .returned (.bool true) ∧ Below w.heap.size w w' := by
  have HC := Lib.hid HC0
  clear HC0
  have B : Below w.heap.size w (w.alloc (.cells #[.int .i64 F, .int .i64 R, .slice A l.length c] 26)) := box1 _ _
  replace hA := rB5 B hA
  replace hT := HC.out.below _ _ hT B
  have q0 : (w.alloc (.cells #[.int .i64 F, .int .i64 R, .slice A l.length c] 26)).cell? ⟨w.heap.size, 0, none⟩ = some (.int .i64 F) := by simp [go_sem]
  have q1 : (w.alloc (.cells #[.int .i64 F, .int .i64 R, .slice A l.length c] 26)).cell? ⟨w.heap.size, 1, none⟩ = some (.int .i64 R) := by simp [go_sem]
  have q2 : (w.alloc (.cells #[.int .i64 F, .int .i64 R, .slice A l.length c] 26)).cell? ⟨w.heap.size, 2, none⟩ = some (.slice A l.length c) := by simp [go_sem]
  by_cases hs : l.length ≤ 64
  · have HS := Lib.hid hs
    clear hs
    by_cases hb : vbd F R l ∧ orA l = true
    · have HB := Lib.hid hb
      clear hb
      by_cases hk : 0 ≤ kingV l bl
      · have HKG := Lib.hid hk
        have HN : ¬ kingV l bl < 0 := by omega
        clear hk
        have HR1 := Lib.hid (fun (w : World) hA hT => HC.out.king F R l A c bl w HB.out.1 HB.out.2 hA hT HKG.out)
        have HR2 := Lib.hid (fun (w : World) hA hT => HC.out.chk F R l A c bl w HB.out.1 HB.out.2 hA hT HKG.out)
        have HR3 := Lib.hid (fun (w : World) hA => rKing_any F R l A c bl w HS.out hA)
        have HR4 := Lib.hid (fun (w : World) hA => ratkL_any F R l A c (kingV l bl) (!bl) w HB.out.1 HB.out.2 (kingV_at HB.out.1 HKG.out) hA)
        have H64 : Hid (∀ i ∈ atkL F R l (kingV l bl) (!bl), i < 64) := Lib.hid (atk_64 HB.out.1)
        have HLN : Hid ((atkL F R l (kingV l bl) (!bl)).length ≤ 1000000) := Lib.hid (Nat.le_trans (atkL_len HS.out) (by decide))
        generalize atkL F R l (kingV l bl) (!bl) = z at *
        clear HKG
        generalize kingV l bl = kv at *
        go_enter Tryd.func5, Tryd.ntmps5
        go_wp2_with fail
        refine (small5_yes F R l A c HS.out _).mono ?_
        rintro e w1 ⟨rfl, b1⟩
        replace q0 := cB5 b1 q0
        replace q1 := cB5 b1 q1
        replace q2 := cB5 b1 q2
        replace hA := rB5 b1 hA
        replace hT := HC.out.below _ _ hT b1
        replace B := chain B b1
        clear b1
        go_wp2_with fail
        refine (HR1.out _ hA hT).mono ?_
        rintro e w2 ⟨rfl, b2⟩
        replace q0 := cB5 b2 q0
        replace q1 := cB5 b2 q1
        replace q2 := cB5 b2 q2
        replace hA := rB5 b2 hA
        replace hT := HC.out.below _ _ hT b2
        replace B := chain B b2
        clear b2
        go_wp2_with fail
        refine (HR2.out _ hA hT).mono ?_
        rintro e w3 ⟨rfl, b3⟩
        replace q0 := cB5 b3 q0
        replace q1 := cB5 b3 q1
        replace q2 := cB5 b3 q2
        replace hA := rB5 b3 hA
        replace hT := HC.out.below _ _ hT b3
        replace B := chain B b3
        clear b3
        go_wp2_with fail
        refine (rOrth_good F R l A c HB.out.1 HB.out.2 _ hA).mono ?_
        rintro e w4 ⟨rfl, b4⟩
        replace q0 := cB5 b4 q0
        replace q1 := cB5 b4 q1
        replace q2 := cB5 b4 q2
        replace hA := rB5 b4 hA
        replace hT := HC.out.below _ _ hT b4
        replace B := chain B b4
        clear b4
        go_wp2_with fail
        refine (HR3.out _ hA).mono ?_
        rintro e w5 ⟨rfl, b5⟩
        replace q0 := cB5 b5 q0
        replace q1 := cB5 b5 q1
        replace q2 := cB5 b5 q2
        replace hA := rB5 b5 hA
        replace hT := HC.out.below _ _ hT b5
        replace B := chain B b5
        clear b5
        go_wp2_with fail
        refine (HR4.out _ hA).mono ?_
        rintro e w6 ⟨v, rfl, hown, b6⟩
        obtain ⟨Ar, cr, rfl, hsr⟩ := SrcI.own hown
        replace q0 := cB5 b6 q0
        replace q1 := cB5 b6 q1
        replace q2 := cB5 b6 q2
        replace hA := rB5 b6 hA
        replace hT := HC.out.below _ _ hT b6
        replace B := chain B b6
        clear b6
        go_wp2_with fail
        refine (refOfO _ _ _ _ _ _ hown rfl HLN.out H64.out).mono ?_
        rintro e wx ⟨rfl, rfl⟩
        clear hown hsr
        go_wp2_with fail
        refine (known5_any HC.out _ hT).mono ?_
        rintro e w7 ⟨rfl, b7⟩
        replace q0 := cB5 b7 q0
        replace q1 := cB5 b7 q1
        replace q2 := cB5 b7 q2
        replace hA := rB5 b7 hA
        replace hT := HC.out.below _ _ hT b7
        replace B := chain B b7
        clear b7
        go_wp2
        go_ret
        exact ⟨rfl, B⟩
      · have HKG : Hid (kingV l bl < 0) := Lib.hid (by omega)
        have HN : kingV l bl < 0 := HKG.out
        clear hk
        have HR1 := Lib.hid (fun (w : World) hA hT => HC.out.kingN F R l A c bl w HB.out.1 HB.out.2 hA hT HKG.out)
        have HR2 := Lib.hid (fun (w : World) hA hT => HC.out.chkN F R l A c bl w HB.out.1 HB.out.2 hA hT HKG.out)
        have HR3 := Lib.hid (fun (w : World) hA => rKing_any F R l A c bl w HS.out hA)
        clear HKG
        generalize kingV l bl = kv at *
        go_enter Tryd.func5, Tryd.ntmps5
        go_wp2_with fail
        refine (small5_yes F R l A c HS.out _).mono ?_
        rintro e w1 ⟨rfl, b1⟩
        replace q0 := cB5 b1 q0
        replace q1 := cB5 b1 q1
        replace q2 := cB5 b1 q2
        replace hA := rB5 b1 hA
        replace hT := HC.out.below _ _ hT b1
        replace B := chain B b1
        clear b1
        go_wp2_with fail
        refine (HR1.out _ hA hT).mono ?_
        rintro e w2 ⟨rfl, b2⟩
        replace q0 := cB5 b2 q0
        replace q1 := cB5 b2 q1
        replace q2 := cB5 b2 q2
        replace hA := rB5 b2 hA
        replace hT := HC.out.below _ _ hT b2
        replace B := chain B b2
        clear b2
        go_wp2_with fail
        refine (HR2.out _ hA hT).mono ?_
        rintro e w3 ⟨rfl, b3⟩
        replace q0 := cB5 b3 q0
        replace q1 := cB5 b3 q1
        replace q2 := cB5 b3 q2
        replace hA := rB5 b3 hA
        replace hT := HC.out.below _ _ hT b3
        replace B := chain B b3
        clear b3
        go_wp2_with fail
        refine (rOrth_good F R l A c HB.out.1 HB.out.2 _ hA).mono ?_
        rintro e w4 ⟨rfl, b4⟩
        replace q0 := cB5 b4 q0
        replace q1 := cB5 b4 q1
        replace q2 := cB5 b4 q2
        replace hA := rB5 b4 hA
        replace hT := HC.out.below _ _ hT b4
        replace B := chain B b4
        clear b4
        go_wp2_with fail
        refine (HR3.out _ hA).mono ?_
        rintro e w5 ⟨rfl, b5⟩
        replace q0 := cB5 b5 q0
        replace q1 := cB5 b5 q1
        replace q2 := cB5 b5 q2
        replace hA := rB5 b5 hA
        replace hT := HC.out.below _ _ hT b5
        replace B := chain B b5
        clear b5
        go_wp2_with fail
        refine (known5_any HC.out _ hT).mono ?_
        rintro e w6 ⟨rfl, b6⟩
        replace q0 := cB5 b6 q0
        replace q1 := cB5 b6 q1
        replace q2 := cB5 b6 q2
        replace hA := rB5 b6 hA
        replace hT := HC.out.below _ _ hT b6
        replace B := chain B b6
        clear b6
        go_wp2
        go_ret
        exact ⟨rfl, B⟩
    · have HB := Lib.hid hb
      clear hb
      go_enter Tryd.func5, Tryd.ntmps5
      go_wp2_with fail
      refine (small5_yes F R l A c HS.out _).mono ?_
      rintro e w1 ⟨rfl, b1⟩
      replace q0 := cB5 b1 q0
      replace q1 := cB5 b1 q1
      replace q2 := cB5 b1 q2
      replace hA := rB5 b1 hA
      replace hT := HC.out.below _ _ hT b1
      replace B := chain B b1
      clear b1
      go_wp2_with fail
      refine (HC.out.kingE F R l A c bl _ HS.out hA hT HB.out).mono ?_
      rintro e w2 ⟨rfl, b2⟩
      replace q0 := cB5 b2 q0
      replace q1 := cB5 b2 q1
      replace q2 := cB5 b2 q2
      replace hA := rB5 b2 hA
      replace hT := HC.out.below _ _ hT b2
      replace B := chain B b2
      clear b2
      go_wp2_with fail
      refine (HC.out.chkE F R l A c bl _ HS.out hA hT HB.out).mono ?_
      rintro e w3 ⟨rfl, b3⟩
      replace q0 := cB5 b3 q0
      replace q1 := cB5 b3 q1
      replace q2 := cB5 b3 q2
      replace hA := rB5 b3 hA
      replace hT := HC.out.below _ _ hT b3
      replace B := chain B b3
      clear b3
      go_wp2_with fail
      refine (rOrth_bad F R l A c HB.out _ HS.out hA).mono ?_
      rintro e w4 ⟨rfl, b4⟩
      replace q0 := cB5 b4 q0
      replace q1 := cB5 b4 q1
      replace q2 := cB5 b4 q2
      replace hA := rB5 b4 hA
      replace hT := HC.out.below _ _ hT b4
      replace B := chain B b4
      clear b4
      go_wp2_with fail
      refine (known5_any HC.out _ hT).mono ?_
      rintro e w5 ⟨rfl, b5⟩
      replace q0 := cB5 b5 q0
      replace q1 := cB5 b5 q1
      replace q2 := cB5 b5 q2
      replace hA := rB5 b5 hA
      replace hT := HC.out.below _ _ hT b5
      replace B := chain B b5
      clear b5
      go_wp2
      go_ret
      exact ⟨rfl, B⟩
  · go_enter Tryd.func5, Tryd.ntmps5
    go_wp2_with fail
    refine (small5_no F R l A c (by omega) _).mono ?_
    rintro e w1 ⟨rfl, b1⟩
    replace q0 := cB5 b1 q0
    replace q1 := cB5 b1 q1
    replace q2 := cB5 b1 q2
    replace hA := rB5 b1 hA
    replace hT := HC.out.below _ _ hT b1
    replace B := chain B b1
    clear b1
    go_wp2_with fail
    refine (known5_any HC.out _ hT).mono ?_
    rintro e w2 ⟨rfl, b2⟩
    replace q0 := cB5 b2 q0
    replace q1 := cB5 b2 q1
    replace q2 := cB5 b2 q2
    replace hA := rB5 b2 hA
    replace hT := HC.out.below _ _ hT b2
    replace B := chain B b2
    clear b2
    go_wp2
    go_ret
    exact ⟨rfl, B⟩

set_option maxRecDepth 100000 in
set_option maxHeartbeats 4000000 in
theorem law_apin {T : World → Prop} (HC0 : AtkC T) (F R : Int) (l : List Int) (A : Option Addr) (c : Nat) (bl : Bool) (t : Int) (w : World) (hA : RdP w w.heap.size A l c) (hT : T w) :
    Calls Tryd.prog 6 #[.agg #[.int .i64 F, .int .i64 R, .slice A l.length c], .bool bl, .int .i64 t] w fun e w' => e = .returned (.bool true) ∧ Below w.heap.size w w' := by
  have HC := Lib.hid HC0
  clear HC0
  have B : Below w.heap.size w (w.alloc (.cells #[.int .i64 F, .int .i64 R, .slice A l.length c] 26)) := box1 _ _
  replace hA := rB5 B hA
  replace hT := HC.out.below _ _ hT B
  have q0 : (w.alloc (.cells #[.int .i64 F, .int .i64 R, .slice A l.length c] 26)).cell? ⟨w.heap.size, 0, none⟩ = some (.int .i64 F) := by simp [go_sem]
  have q1 : (w.alloc (.cells #[.int .i64 F, .int .i64 R, .slice A l.length c] 26)).cell? ⟨w.heap.size, 1, none⟩ = some (.int .i64 R) := by simp [go_sem]
  have q2 : (w.alloc (.cells #[.int .i64 F, .int .i64 R, .slice A l.length c] 26)).cell? ⟨w.heap.size, 2, none⟩ = some (.slice A l.length c) := by simp [go_sem]
  by_cases hs : l.length ≤ 64
  · have HS := Lib.hid hs
    clear hs
    by_cases hb : vbd F R l ∧ orA l = true
    · have HB := Lib.hid hb
      clear hb
      by_cases ht : vat F R t
      · obtain ⟨n, rfl⟩ : ∃ n : Nat, t = (n : Int) := ⟨t.toNat, by have := ht.2.1; omega⟩
        have HV := Lib.hid ht
        have hn : n < l.length := by have := HB.out.1.2.1; have := ht.2.2; omega
        have HNL := Lib.hid hn
        clear ht
        obtain ⟨ad, rfl, hbl, hc⟩ := hA.at_ hn
        obtain ⟨p, hp⟩ : ∃ p, l[n]?.getD 0 = p := ⟨_, rfl⟩
        rw [hp] at hc
        have HPP := Lib.hid hp
        clear hp
        by_cases hp0 : p = 0
        · have HP0 := Lib.hid hp0
          clear hp0
          by_cases hk : 0 ≤ kingV l bl
          · have HKG := Lib.hid hk
            have HN : ¬ kingV l bl < 0 := by omega
            clear hk
            have HR1 := Lib.hid (fun (w : World) hA hT => HC.out.pin F R l (some ad) c bl w HB.out.1 HB.out.2 hA hT HKG.out)
            have HR3 := Lib.hid (fun (w : World) hA => rKing_any F R l (some ad) c bl w HS.out hA)
            have HR4 := Lib.hid (fun (w : World) hA => rPinned_any F R l (some ad) c bl w HB.out.1 HB.out.2 HKG.out hA)
            have H64 : Hid (∀ i ∈ pinnedL F R l bl, i < 64) := Lib.hid (pinned_64 HS.out)
            have HLN : Hid ((pinnedL F R l bl).length ≤ 1000000) := Lib.hid (pinned_len HS.out)
            generalize pinnedL F R l bl = z at *
            clear HKG
            have HRL := Lib.hid (fun (w : World) hA hT => HC.out.linN F R l (some ad) c n w HS.out hA hT HB.out.1 HB.out.2 HNL.out (fun h => by rw [HPP.out] at h; exact absurd HP0.out h.1))
            have e0 : (p == 0) = true := by rw [HP0.out]; rfl
            generalize kingV l bl = kv at *
            go_enter Tryd.func6, Tryd.ntmps6
            go_wp2_with fail
            refine (small5_yes F R l (some ad) c HS.out _).mono ?_
            rintro e w1 ⟨rfl, b1⟩
            replace q0 := cB5 b1 q0
            replace q1 := cB5 b1 q1
            replace q2 := cB5 b1 q2
            replace hc := cB5 b1 hc
            replace hA := rB5 b1 hA
            replace hT := HC.out.below _ _ hT b1
            replace B := chain B b1
            clear b1
            go_wp2_with fail
            refine (HR1.out _ hA hT).mono ?_
            rintro e w2 ⟨rfl, b2⟩
            replace q0 := cB5 b2 q0
            replace q1 := cB5 b2 q1
            replace q2 := cB5 b2 q2
            replace hc := cB5 b2 hc
            replace hA := rB5 b2 hA
            replace hT := HC.out.below _ _ hT b2
            replace B := chain B b2
            clear b2
            go_wp2_with fail
            refine (HRL.out _ hA hT).mono ?_
            rintro e w3 ⟨rfl, b3⟩
            replace q0 := cB5 b3 q0
            replace q1 := cB5 b3 q1
            replace q2 := cB5 b3 q2
            replace hc := cB5 b3 hc
            replace hA := rB5 b3 hA
            replace hT := HC.out.below _ _ hT b3
            replace B := chain B b3
            clear b3
            go_wp2_with fail
            refine (rOrth_good F R l (some ad) c HB.out.1 HB.out.2 _ hA).mono ?_
            rintro e w4 ⟨rfl, b4⟩
            replace q0 := cB5 b4 q0
            replace q1 := cB5 b4 q1
            replace q2 := cB5 b4 q2
            replace hc := cB5 b4 hc
            replace hA := rB5 b4 hA
            replace hT := HC.out.below _ _ hT b4
            replace B := chain B b4
            clear b4
            go_wp2_with fail
            refine (HR3.out _ hA).mono ?_
            rintro e w5 ⟨rfl, b5⟩
            replace q0 := cB5 b5 q0
            replace q1 := cB5 b5 q1
            replace q2 := cB5 b5 q2
            replace hc := cB5 b5 hc
            replace hA := rB5 b5 hA
            replace hT := HC.out.below _ _ hT b5
            replace B := chain B b5
            clear b5
            go_wp2_with fail
            refine (HR4.out _ hA).mono ?_
            rintro e w6 ⟨v, rfl, hown, b6⟩
            obtain ⟨Ar, cr, rfl, hsr⟩ := SrcI.own hown
            replace q0 := cB5 b6 q0
            replace q1 := cB5 b6 q1
            replace q2 := cB5 b6 q2
            replace hc := cB5 b6 hc
            replace hA := rB5 b6 hA
            replace hT := HC.out.below _ _ hT b6
            replace B := chain B b6
            clear b6
            go_wp2_with fail
            refine (refOfO _ _ _ _ _ _ hown rfl HLN.out H64.out).mono ?_
            rintro e wx ⟨rfl, rfl⟩
            clear hown hsr
            go_wp2_with fail
            refine (refValid_yes F R (n : Int) HV.out _).mono ?_
            rintro e w7 ⟨rfl, b7⟩
            replace q0 := cB5 b7 q0
            replace q1 := cB5 b7 q1
            replace q2 := cB5 b7 q2
            replace hc := cB5 b7 hc
            replace hA := rB5 b7 hA
            replace hT := HC.out.below _ _ hT b7
            replace B := chain B b7
            clear b7
            go_wp2_with fail
            refine (known5_any HC.out _ hT).mono ?_
            rintro e w8 ⟨rfl, b8⟩
            replace q0 := cB5 b8 q0
            replace q1 := cB5 b8 q1
            replace q2 := cB5 b8 q2
            replace hc := cB5 b8 hc
            replace hA := rB5 b8 hA
            replace hT := HC.out.below _ _ hT b8
            replace B := chain B b8
            clear b8
            go_wp2
            go_ret
            exact ⟨rfl, B⟩
          · have HKG : Hid (kingV l bl < 0) := Lib.hid (by omega)
            have HN : kingV l bl < 0 := HKG.out
            clear hk
            have HR1 := Lib.hid (fun (w : World) hA hT => HC.out.pinN F R l (some ad) c bl w HB.out.1 HB.out.2 hA hT HKG.out)
            have HR3 := Lib.hid (fun (w : World) hA => rKing_any F R l (some ad) c bl w HS.out hA)
            clear HKG
            have HRL := Lib.hid (fun (w : World) hA hT => HC.out.linN F R l (some ad) c n w HS.out hA hT HB.out.1 HB.out.2 HNL.out (fun h => by rw [HPP.out] at h; exact absurd HP0.out h.1))
            have e0 : (p == 0) = true := by rw [HP0.out]; rfl
            generalize kingV l bl = kv at *
            go_enter Tryd.func6, Tryd.ntmps6
            go_wp2_with fail
            refine (small5_yes F R l (some ad) c HS.out _).mono ?_
            rintro e w1 ⟨rfl, b1⟩
            replace q0 := cB5 b1 q0
            replace q1 := cB5 b1 q1
            replace q2 := cB5 b1 q2
            replace hc := cB5 b1 hc
            replace hA := rB5 b1 hA
            replace hT := HC.out.below _ _ hT b1
            replace B := chain B b1
            clear b1
            go_wp2_with fail
            refine (HR1.out _ hA hT).mono ?_
            rintro e w2 ⟨rfl, b2⟩
            replace q0 := cB5 b2 q0
            replace q1 := cB5 b2 q1
            replace q2 := cB5 b2 q2
            replace hc := cB5 b2 hc
            replace hA := rB5 b2 hA
            replace hT := HC.out.below _ _ hT b2
            replace B := chain B b2
            clear b2
            go_wp2_with fail
            refine (HRL.out _ hA hT).mono ?_
            rintro e w3 ⟨rfl, b3⟩
            replace q0 := cB5 b3 q0
            replace q1 := cB5 b3 q1
            replace q2 := cB5 b3 q2
            replace hc := cB5 b3 hc
            replace hA := rB5 b3 hA
            replace hT := HC.out.below _ _ hT b3
            replace B := chain B b3
            clear b3
            go_wp2_with fail
            refine (rOrth_good F R l (some ad) c HB.out.1 HB.out.2 _ hA).mono ?_
            rintro e w4 ⟨rfl, b4⟩
            replace q0 := cB5 b4 q0
            replace q1 := cB5 b4 q1
            replace q2 := cB5 b4 q2
            replace hc := cB5 b4 hc
            replace hA := rB5 b4 hA
            replace hT := HC.out.below _ _ hT b4
            replace B := chain B b4
            clear b4
            go_wp2_with fail
            refine (HR3.out _ hA).mono ?_
            rintro e w5 ⟨rfl, b5⟩
            replace q0 := cB5 b5 q0
            replace q1 := cB5 b5 q1
            replace q2 := cB5 b5 q2
            replace hc := cB5 b5 hc
            replace hA := rB5 b5 hA
            replace hT := HC.out.below _ _ hT b5
            replace B := chain B b5
            clear b5
            go_wp2_with fail
            refine (refValid_yes F R (n : Int) HV.out _).mono ?_
            rintro e w6 ⟨rfl, b6⟩
            replace q0 := cB5 b6 q0
            replace q1 := cB5 b6 q1
            replace q2 := cB5 b6 q2
            replace hc := cB5 b6 hc
            replace hA := rB5 b6 hA
            replace hT := HC.out.below _ _ hT b6
            replace B := chain B b6
            clear b6
            go_wp2_with fail
            refine (known5_any HC.out _ hT).mono ?_
            rintro e w7 ⟨rfl, b7⟩
            replace q0 := cB5 b7 q0
            replace q1 := cB5 b7 q1
            replace q2 := cB5 b7 q2
            replace hc := cB5 b7 hc
            replace hA := rB5 b7 hA
            replace hT := HC.out.below _ _ hT b7
            replace B := chain B b7
            clear b7
            go_wp2
            go_ret
            exact ⟨rfl, B⟩
        · have HP0 := Lib.hid hp0
          clear hp0
          by_cases hkq : 0 ≤ kingV l (decide (p < 0))
          · have HKQ := Lib.hid hkq
            clear hkq
            by_cases hpv : 0 ≤ pinV F R l n
            · have HPV := Lib.hid hpv
              clear hpv
              by_cases hk : 0 ≤ kingV l bl
              · have HKG := Lib.hid hk
                have HN : ¬ kingV l bl < 0 := by omega
                clear hk
                have HR1 := Lib.hid (fun (w : World) hA hT => HC.out.pin F R l (some ad) c bl w HB.out.1 HB.out.2 hA hT HKG.out)
                have HR3 := Lib.hid (fun (w : World) hA => rKing_any F R l (some ad) c bl w HS.out hA)
                have HR4 := Lib.hid (fun (w : World) hA => rPinned_any F R l (some ad) c bl w HB.out.1 HB.out.2 HKG.out hA)
                have H64 : Hid (∀ i ∈ pinnedL F R l bl, i < 64) := Lib.hid (pinned_64 HS.out)
                have HLN : Hid ((pinnedL F R l bl).length ≤ 1000000) := Lib.hid (pinned_len HS.out)
                generalize pinnedL F R l bl = z at *
                clear HKG
                have HRL := Lib.hid (fun (w : World) hA hT => HC.out.lin F R l (some ad) c n w HB.out.1 HB.out.2 hA hT HNL.out (by rw [HPP.out]; exact HP0.out) (by rw [HPP.out]; exact HKQ.out) HPV.out)
                have HRG := Lib.hid (fun (w : World) hA => rLine_any F R l (some ad) c n w HB.out.1 HB.out.2 HNL.out (by rw [HPP.out]; exact HP0.out) (by rw [HPP.out]; exact HKQ.out) HPV.out hA)
                have H64y : Hid (∀ i ∈ linL F R l n, i < 64) := Lib.hid (lin_64 HS.out)
                have HLNy : Hid ((linL F R l n).length ≤ 1000000) := Lib.hid (lin_len HS.out)
                generalize linL F R l n = y at *
                have HRQ := Lib.hid (fun (w : World) hA => rKing_any F R l (some ad) c (decide (p < 0)) w HS.out hA)
                have HRP := Lib.hid (fun (w : World) hA => rPin_any F R l (some ad) c n w HB.out.1 HB.out.2 HNL.out (by rw [HPP.out]; exact HP0.out) (by rw [HPP.out]; exact HKQ.out) hA)
                have e0 : (p == 0) = false := by simp [HP0.out]
                have e2 : ¬ pinV F R l n < 0 := by have := HPV.out; omega
                clear HPV
                generalize pinV F R l n = pv at *
                have e1 : ¬ kingV l (decide (p < 0)) < 0 := by have := HKQ.out; omega
                clear HKQ
                generalize kingV l (decide (p < 0)) = kq at *
                generalize kingV l bl = kv at *
                go_enter Tryd.func6, Tryd.ntmps6
                go_wp2_with fail
                refine (small5_yes F R l (some ad) c HS.out _).mono ?_
                rintro e w1 ⟨rfl, b1⟩
                replace q0 := cB5 b1 q0
                replace q1 := cB5 b1 q1
                replace q2 := cB5 b1 q2
                replace hc := cB5 b1 hc
                replace hA := rB5 b1 hA
                replace hT := HC.out.below _ _ hT b1
                replace B := chain B b1
                clear b1
                go_wp2_with fail
                refine (HR1.out _ hA hT).mono ?_
                rintro e w2 ⟨rfl, b2⟩
                replace q0 := cB5 b2 q0
                replace q1 := cB5 b2 q1
                replace q2 := cB5 b2 q2
                replace hc := cB5 b2 hc
                replace hA := rB5 b2 hA
                replace hT := HC.out.below _ _ hT b2
                replace B := chain B b2
                clear b2
                go_wp2_with fail
                refine (HRL.out _ hA hT).mono ?_
                rintro e w3 ⟨rfl, b3⟩
                replace q0 := cB5 b3 q0
                replace q1 := cB5 b3 q1
                replace q2 := cB5 b3 q2
                replace hc := cB5 b3 hc
                replace hA := rB5 b3 hA
                replace hT := HC.out.below _ _ hT b3
                replace B := chain B b3
                clear b3
                go_wp2_with fail
                refine (rOrth_good F R l (some ad) c HB.out.1 HB.out.2 _ hA).mono ?_
                rintro e w4 ⟨rfl, b4⟩
                replace q0 := cB5 b4 q0
                replace q1 := cB5 b4 q1
                replace q2 := cB5 b4 q2
                replace hc := cB5 b4 hc
                replace hA := rB5 b4 hA
                replace hT := HC.out.below _ _ hT b4
                replace B := chain B b4
                clear b4
                go_wp2_with fail
                refine (HR3.out _ hA).mono ?_
                rintro e w5 ⟨rfl, b5⟩
                replace q0 := cB5 b5 q0
                replace q1 := cB5 b5 q1
                replace q2 := cB5 b5 q2
                replace hc := cB5 b5 hc
                replace hA := rB5 b5 hA
                replace hT := HC.out.below _ _ hT b5
                replace B := chain B b5
                clear b5
                go_wp2_with fail
                refine (HR4.out _ hA).mono ?_
                rintro e w6 ⟨v, rfl, hown, b6⟩
                obtain ⟨Ar, cr, rfl, hsr⟩ := SrcI.own hown
                replace q0 := cB5 b6 q0
                replace q1 := cB5 b6 q1
                replace q2 := cB5 b6 q2
                replace hc := cB5 b6 hc
                replace hA := rB5 b6 hA
                replace hT := HC.out.below _ _ hT b6
                replace B := chain B b6
                clear b6
                go_wp2_with fail
                refine (refOfO _ _ _ _ _ _ hown rfl HLN.out H64.out).mono ?_
                rintro e wx ⟨rfl, rfl⟩
                clear hown hsr
                go_wp2_with fail
                refine (refValid_yes F R (n : Int) HV.out _).mono ?_
                rintro e w7 ⟨rfl, b7⟩
                replace q0 := cB5 b7 q0
                replace q1 := cB5 b7 q1
                replace q2 := cB5 b7 q2
                replace hc := cB5 b7 hc
                replace hA := rB5 b7 hA
                replace hT := HC.out.below _ _ hT b7
                replace B := chain B b7
                clear b7
                go_wp2_with fail
                refine (HRQ.out _ hA).mono ?_
                rintro e w8 ⟨rfl, b8⟩
                replace q0 := cB5 b8 q0
                replace q1 := cB5 b8 q1
                replace q2 := cB5 b8 q2
                replace hc := cB5 b8 hc
                replace hA := rB5 b8 hA
                replace hT := HC.out.below _ _ hT b8
                replace B := chain B b8
                clear b8
                go_wp2_with fail
                refine (HRP.out _ hA).mono ?_
                rintro e w9 ⟨rfl, b9⟩
                replace q0 := cB5 b9 q0
                replace q1 := cB5 b9 q1
                replace q2 := cB5 b9 q2
                replace hc := cB5 b9 hc
                replace hA := rB5 b9 hA
                replace hT := HC.out.below _ _ hT b9
                replace B := chain B b9
                clear b9
                go_wp2_with fail
                refine (HRG.out _ hA).mono ?_
                rintro e w10 ⟨v, rfl, hown, b10⟩
                obtain ⟨Ar, cr, rfl, hsr⟩ := SrcI.own hown
                replace q0 := cB5 b10 q0
                replace q1 := cB5 b10 q1
                replace q2 := cB5 b10 q2
                replace hc := cB5 b10 hc
                replace hA := rB5 b10 hA
                replace hT := HC.out.below _ _ hT b10
                replace B := chain B b10
                clear b10
                go_wp2_with fail
                refine (refOfO _ _ _ _ _ _ hown rfl HLNy.out H64y.out).mono ?_
                rintro e wx ⟨rfl, rfl⟩
                clear hown hsr
                go_wp2_with fail
                refine (known5_any HC.out _ hT).mono ?_
                rintro e w11 ⟨rfl, b11⟩
                replace q0 := cB5 b11 q0
                replace q1 := cB5 b11 q1
                replace q2 := cB5 b11 q2
                replace hc := cB5 b11 hc
                replace hA := rB5 b11 hA
                replace hT := HC.out.below _ _ hT b11
                replace B := chain B b11
                clear b11
                go_wp2
                go_ret
                exact ⟨rfl, B⟩
              · have HKG : Hid (kingV l bl < 0) := Lib.hid (by omega)
                have HN : kingV l bl < 0 := HKG.out
                clear hk
                have HR1 := Lib.hid (fun (w : World) hA hT => HC.out.pinN F R l (some ad) c bl w HB.out.1 HB.out.2 hA hT HKG.out)
                have HR3 := Lib.hid (fun (w : World) hA => rKing_any F R l (some ad) c bl w HS.out hA)
                clear HKG
                have HRL := Lib.hid (fun (w : World) hA hT => HC.out.lin F R l (some ad) c n w HB.out.1 HB.out.2 hA hT HNL.out (by rw [HPP.out]; exact HP0.out) (by rw [HPP.out]; exact HKQ.out) HPV.out)
                have HRG := Lib.hid (fun (w : World) hA => rLine_any F R l (some ad) c n w HB.out.1 HB.out.2 HNL.out (by rw [HPP.out]; exact HP0.out) (by rw [HPP.out]; exact HKQ.out) HPV.out hA)
                have H64y : Hid (∀ i ∈ linL F R l n, i < 64) := Lib.hid (lin_64 HS.out)
                have HLNy : Hid ((linL F R l n).length ≤ 1000000) := Lib.hid (lin_len HS.out)
                generalize linL F R l n = y at *
                have HRQ := Lib.hid (fun (w : World) hA => rKing_any F R l (some ad) c (decide (p < 0)) w HS.out hA)
                have HRP := Lib.hid (fun (w : World) hA => rPin_any F R l (some ad) c n w HB.out.1 HB.out.2 HNL.out (by rw [HPP.out]; exact HP0.out) (by rw [HPP.out]; exact HKQ.out) hA)
                have e0 : (p == 0) = false := by simp [HP0.out]
                have e2 : ¬ pinV F R l n < 0 := by have := HPV.out; omega
                clear HPV
                generalize pinV F R l n = pv at *
                have e1 : ¬ kingV l (decide (p < 0)) < 0 := by have := HKQ.out; omega
                clear HKQ
                generalize kingV l (decide (p < 0)) = kq at *
                generalize kingV l bl = kv at *
                go_enter Tryd.func6, Tryd.ntmps6
                go_wp2_with fail
                refine (small5_yes F R l (some ad) c HS.out _).mono ?_
                rintro e w1 ⟨rfl, b1⟩
                replace q0 := cB5 b1 q0
                replace q1 := cB5 b1 q1
                replace q2 := cB5 b1 q2
                replace hc := cB5 b1 hc
                replace hA := rB5 b1 hA
                replace hT := HC.out.below _ _ hT b1
                replace B := chain B b1
                clear b1
                go_wp2_with fail
                refine (HR1.out _ hA hT).mono ?_
                rintro e w2 ⟨rfl, b2⟩
                replace q0 := cB5 b2 q0
                replace q1 := cB5 b2 q1
                replace q2 := cB5 b2 q2
                replace hc := cB5 b2 hc
                replace hA := rB5 b2 hA
                replace hT := HC.out.below _ _ hT b2
                replace B := chain B b2
                clear b2
                go_wp2_with fail
                refine (HRL.out _ hA hT).mono ?_
                rintro e w3 ⟨rfl, b3⟩
                replace q0 := cB5 b3 q0
                replace q1 := cB5 b3 q1
                replace q2 := cB5 b3 q2
                replace hc := cB5 b3 hc
                replace hA := rB5 b3 hA
                replace hT := HC.out.below _ _ hT b3
                replace B := chain B b3
                clear b3
                go_wp2_with fail
                refine (rOrth_good F R l (some ad) c HB.out.1 HB.out.2 _ hA).mono ?_
                rintro e w4 ⟨rfl, b4⟩
                replace q0 := cB5 b4 q0
                replace q1 := cB5 b4 q1
                replace q2 := cB5 b4 q2
                replace hc := cB5 b4 hc
                replace hA := rB5 b4 hA
                replace hT := HC.out.below _ _ hT b4
                replace B := chain B b4
                clear b4
                go_wp2_with fail
                refine (HR3.out _ hA).mono ?_
                rintro e w5 ⟨rfl, b5⟩
                replace q0 := cB5 b5 q0
                replace q1 := cB5 b5 q1
                replace q2 := cB5 b5 q2
                replace hc := cB5 b5 hc
                replace hA := rB5 b5 hA
                replace hT := HC.out.below _ _ hT b5
                replace B := chain B b5
                clear b5
                go_wp2_with fail
                refine (refValid_yes F R (n : Int) HV.out _).mono ?_
                rintro e w6 ⟨rfl, b6⟩
                replace q0 := cB5 b6 q0
                replace q1 := cB5 b6 q1
                replace q2 := cB5 b6 q2
                replace hc := cB5 b6 hc
                replace hA := rB5 b6 hA
                replace hT := HC.out.below _ _ hT b6
                replace B := chain B b6
                clear b6
                go_wp2_with fail
                refine (HRQ.out _ hA).mono ?_
                rintro e w7 ⟨rfl, b7⟩
                replace q0 := cB5 b7 q0
                replace q1 := cB5 b7 q1
                replace q2 := cB5 b7 q2
                replace hc := cB5 b7 hc
                replace hA := rB5 b7 hA
                replace hT := HC.out.below _ _ hT b7
                replace B := chain B b7
                clear b7
                go_wp2_with fail
                refine (HRP.out _ hA).mono ?_
                rintro e w8 ⟨rfl, b8⟩
                replace q0 := cB5 b8 q0
                replace q1 := cB5 b8 q1
                replace q2 := cB5 b8 q2
                replace hc := cB5 b8 hc
                replace hA := rB5 b8 hA
                replace hT := HC.out.below _ _ hT b8
                replace B := chain B b8
                clear b8
                go_wp2_with fail
                refine (HRG.out _ hA).mono ?_
                rintro e w9 ⟨v, rfl, hown, b9⟩
                obtain ⟨Ar, cr, rfl, hsr⟩ := SrcI.own hown
                replace q0 := cB5 b9 q0
                replace q1 := cB5 b9 q1
                replace q2 := cB5 b9 q2
                replace hc := cB5 b9 hc
                replace hA := rB5 b9 hA
                replace hT := HC.out.below _ _ hT b9
                replace B := chain B b9
                clear b9
                go_wp2_with fail
                refine (refOfO _ _ _ _ _ _ hown rfl HLNy.out H64y.out).mono ?_
                rintro e wx ⟨rfl, rfl⟩
                clear hown hsr
                go_wp2_with fail
                refine (known5_any HC.out _ hT).mono ?_
                rintro e w10 ⟨rfl, b10⟩
                replace q0 := cB5 b10 q0
                replace q1 := cB5 b10 q1
                replace q2 := cB5 b10 q2
                replace hc := cB5 b10 hc
                replace hA := rB5 b10 hA
                replace hT := HC.out.below _ _ hT b10
                replace B := chain B b10
                clear b10
                go_wp2
                go_ret
                exact ⟨rfl, B⟩
            · have HPV := Lib.hid hpv
              clear hpv
              by_cases hk : 0 ≤ kingV l bl
              · have HKG := Lib.hid hk
                have HN : ¬ kingV l bl < 0 := by omega
                clear hk
                have HR1 := Lib.hid (fun (w : World) hA hT => HC.out.pin F R l (some ad) c bl w HB.out.1 HB.out.2 hA hT HKG.out)
                have HR3 := Lib.hid (fun (w : World) hA => rKing_any F R l (some ad) c bl w HS.out hA)
                have HR4 := Lib.hid (fun (w : World) hA => rPinned_any F R l (some ad) c bl w HB.out.1 HB.out.2 HKG.out hA)
                have H64 : Hid (∀ i ∈ pinnedL F R l bl, i < 64) := Lib.hid (pinned_64 HS.out)
                have HLN : Hid ((pinnedL F R l bl).length ≤ 1000000) := Lib.hid (pinned_len HS.out)
                generalize pinnedL F R l bl = z at *
                clear HKG
                have HRL := Lib.hid (fun (w : World) hA hT => HC.out.linN F R l (some ad) c n w HS.out hA hT HB.out.1 HB.out.2 HNL.out (fun h => by rw [HPP.out] at h; exact absurd h.2.2 (by have := HPV.out; omega)))
                have HRQ := Lib.hid (fun (w : World) hA => rKing_any F R l (some ad) c (decide (p < 0)) w HS.out hA)
                have HRP := Lib.hid (fun (w : World) hA => rPin_any F R l (some ad) c n w HB.out.1 HB.out.2 HNL.out (by rw [HPP.out]; exact HP0.out) (by rw [HPP.out]; exact HKQ.out) hA)
                have e0 : (p == 0) = false := by simp [HP0.out]
                have e2 : pinV F R l n < 0 := by have := HPV.out; omega
                clear HPV
                generalize pinV F R l n = pv at *
                have e1 : ¬ kingV l (decide (p < 0)) < 0 := by have := HKQ.out; omega
                clear HKQ
                generalize kingV l (decide (p < 0)) = kq at *
                generalize kingV l bl = kv at *
                go_enter Tryd.func6, Tryd.ntmps6
                go_wp2_with fail
                refine (small5_yes F R l (some ad) c HS.out _).mono ?_
                rintro e w1 ⟨rfl, b1⟩
                replace q0 := cB5 b1 q0
                replace q1 := cB5 b1 q1
                replace q2 := cB5 b1 q2
                replace hc := cB5 b1 hc
                replace hA := rB5 b1 hA
                replace hT := HC.out.below _ _ hT b1
                replace B := chain B b1
                clear b1
                go_wp2_with fail
                refine (HR1.out _ hA hT).mono ?_
                rintro e w2 ⟨rfl, b2⟩
                replace q0 := cB5 b2 q0
                replace q1 := cB5 b2 q1
                replace q2 := cB5 b2 q2
                replace hc := cB5 b2 hc
                replace hA := rB5 b2 hA
                replace hT := HC.out.below _ _ hT b2
                replace B := chain B b2
                clear b2
                go_wp2_with fail
                refine (HRL.out _ hA hT).mono ?_
                rintro e w3 ⟨rfl, b3⟩
                replace q0 := cB5 b3 q0
                replace q1 := cB5 b3 q1
                replace q2 := cB5 b3 q2
                replace hc := cB5 b3 hc
                replace hA := rB5 b3 hA
                replace hT := HC.out.below _ _ hT b3
                replace B := chain B b3
                clear b3
                go_wp2_with fail
                refine (rOrth_good F R l (some ad) c HB.out.1 HB.out.2 _ hA).mono ?_
                rintro e w4 ⟨rfl, b4⟩
                replace q0 := cB5 b4 q0
                replace q1 := cB5 b4 q1
                replace q2 := cB5 b4 q2
                replace hc := cB5 b4 hc
                replace hA := rB5 b4 hA
                replace hT := HC.out.below _ _ hT b4
                replace B := chain B b4
                clear b4
                go_wp2_with fail
                refine (HR3.out _ hA).mono ?_
                rintro e w5 ⟨rfl, b5⟩
                replace q0 := cB5 b5 q0
                replace q1 := cB5 b5 q1
                replace q2 := cB5 b5 q2
                replace hc := cB5 b5 hc
                replace hA := rB5 b5 hA
                replace hT := HC.out.below _ _ hT b5
                replace B := chain B b5
                clear b5
                go_wp2_with fail
                refine (HR4.out _ hA).mono ?_
                rintro e w6 ⟨v, rfl, hown, b6⟩
                obtain ⟨Ar, cr, rfl, hsr⟩ := SrcI.own hown
                replace q0 := cB5 b6 q0
                replace q1 := cB5 b6 q1
                replace q2 := cB5 b6 q2
                replace hc := cB5 b6 hc
                replace hA := rB5 b6 hA
                replace hT := HC.out.below _ _ hT b6
                replace B := chain B b6
                clear b6
                go_wp2_with fail
                refine (refOfO _ _ _ _ _ _ hown rfl HLN.out H64.out).mono ?_
                rintro e wx ⟨rfl, rfl⟩
                clear hown hsr
                go_wp2_with fail
                refine (refValid_yes F R (n : Int) HV.out _).mono ?_
                rintro e w7 ⟨rfl, b7⟩
                replace q0 := cB5 b7 q0
                replace q1 := cB5 b7 q1
                replace q2 := cB5 b7 q2
                replace hc := cB5 b7 hc
                replace hA := rB5 b7 hA
                replace hT := HC.out.below _ _ hT b7
                replace B := chain B b7
                clear b7
                go_wp2_with fail
                refine (HRQ.out _ hA).mono ?_
                rintro e w8 ⟨rfl, b8⟩
                replace q0 := cB5 b8 q0
                replace q1 := cB5 b8 q1
                replace q2 := cB5 b8 q2
                replace hc := cB5 b8 hc
                replace hA := rB5 b8 hA
                replace hT := HC.out.below _ _ hT b8
                replace B := chain B b8
                clear b8
                go_wp2_with fail
                refine (HRP.out _ hA).mono ?_
                rintro e w9 ⟨rfl, b9⟩
                replace q0 := cB5 b9 q0
                replace q1 := cB5 b9 q1
                replace q2 := cB5 b9 q2
                replace hc := cB5 b9 hc
                replace hA := rB5 b9 hA
                replace hT := HC.out.below _ _ hT b9
                replace B := chain B b9
                clear b9
                go_wp2_with fail
                refine (known5_any HC.out _ hT).mono ?_
                rintro e w10 ⟨rfl, b10⟩
                replace q0 := cB5 b10 q0
                replace q1 := cB5 b10 q1
                replace q2 := cB5 b10 q2
                replace hc := cB5 b10 hc
                replace hA := rB5 b10 hA
                replace hT := HC.out.below _ _ hT b10
                replace B := chain B b10
                clear b10
                go_wp2
                go_ret
                exact ⟨rfl, B⟩
              · have HKG : Hid (kingV l bl < 0) := Lib.hid (by omega)
                have HN : kingV l bl < 0 := HKG.out
                clear hk
                have HR1 := Lib.hid (fun (w : World) hA hT => HC.out.pinN F R l (some ad) c bl w HB.out.1 HB.out.2 hA hT HKG.out)
                have HR3 := Lib.hid (fun (w : World) hA => rKing_any F R l (some ad) c bl w HS.out hA)
                clear HKG
                have HRL := Lib.hid (fun (w : World) hA hT => HC.out.linN F R l (some ad) c n w HS.out hA hT HB.out.1 HB.out.2 HNL.out (fun h => by rw [HPP.out] at h; exact absurd h.2.2 (by have := HPV.out; omega)))
                have HRQ := Lib.hid (fun (w : World) hA => rKing_any F R l (some ad) c (decide (p < 0)) w HS.out hA)
                have HRP := Lib.hid (fun (w : World) hA => rPin_any F R l (some ad) c n w HB.out.1 HB.out.2 HNL.out (by rw [HPP.out]; exact HP0.out) (by rw [HPP.out]; exact HKQ.out) hA)
                have e0 : (p == 0) = false := by simp [HP0.out]
                have e2 : pinV F R l n < 0 := by have := HPV.out; omega
                clear HPV
                generalize pinV F R l n = pv at *
                have e1 : ¬ kingV l (decide (p < 0)) < 0 := by have := HKQ.out; omega
                clear HKQ
                generalize kingV l (decide (p < 0)) = kq at *
                generalize kingV l bl = kv at *
                go_enter Tryd.func6, Tryd.ntmps6
                go_wp2_with fail
                refine (small5_yes F R l (some ad) c HS.out _).mono ?_
                rintro e w1 ⟨rfl, b1⟩
                replace q0 := cB5 b1 q0
                replace q1 := cB5 b1 q1
                replace q2 := cB5 b1 q2
                replace hc := cB5 b1 hc
                replace hA := rB5 b1 hA
                replace hT := HC.out.below _ _ hT b1
                replace B := chain B b1
                clear b1
                go_wp2_with fail
                refine (HR1.out _ hA hT).mono ?_
                rintro e w2 ⟨rfl, b2⟩
                replace q0 := cB5 b2 q0
                replace q1 := cB5 b2 q1
                replace q2 := cB5 b2 q2
                replace hc := cB5 b2 hc
                replace hA := rB5 b2 hA
                replace hT := HC.out.below _ _ hT b2
                replace B := chain B b2
                clear b2
                go_wp2_with fail
                refine (HRL.out _ hA hT).mono ?_
                rintro e w3 ⟨rfl, b3⟩
                replace q0 := cB5 b3 q0
                replace q1 := cB5 b3 q1
                replace q2 := cB5 b3 q2
                replace hc := cB5 b3 hc
                replace hA := rB5 b3 hA
                replace hT := HC.out.below _ _ hT b3
                replace B := chain B b3
                clear b3
                go_wp2_with fail
                refine (rOrth_good F R l (some ad) c HB.out.1 HB.out.2 _ hA).mono ?_
                rintro e w4 ⟨rfl, b4⟩
                replace q0 := cB5 b4 q0
                replace q1 := cB5 b4 q1
                replace q2 := cB5 b4 q2
                replace hc := cB5 b4 hc
                replace hA := rB5 b4 hA
                replace hT := HC.out.below _ _ hT b4
                replace B := chain B b4
                clear b4
                go_wp2_with fail
                refine (HR3.out _ hA).mono ?_
                rintro e w5 ⟨rfl, b5⟩
                replace q0 := cB5 b5 q0
                replace q1 := cB5 b5 q1
                replace q2 := cB5 b5 q2
                replace hc := cB5 b5 hc
                replace hA := rB5 b5 hA
                replace hT := HC.out.below _ _ hT b5
                replace B := chain B b5
                clear b5
                go_wp2_with fail
                refine (refValid_yes F R (n : Int) HV.out _).mono ?_
                rintro e w6 ⟨rfl, b6⟩
                replace q0 := cB5 b6 q0
                replace q1 := cB5 b6 q1
                replace q2 := cB5 b6 q2
                replace hc := cB5 b6 hc
                replace hA := rB5 b6 hA
                replace hT := HC.out.below _ _ hT b6
                replace B := chain B b6
                clear b6
                go_wp2_with fail
                refine (HRQ.out _ hA).mono ?_
                rintro e w7 ⟨rfl, b7⟩
                replace q0 := cB5 b7 q0
                replace q1 := cB5 b7 q1
                replace q2 := cB5 b7 q2
                replace hc := cB5 b7 hc
                replace hA := rB5 b7 hA
                replace hT := HC.out.below _ _ hT b7
                replace B := chain B b7
                clear b7
                go_wp2_with fail
                refine (HRP.out _ hA).mono ?_
                rintro e w8 ⟨rfl, b8⟩
                replace q0 := cB5 b8 q0
                replace q1 := cB5 b8 q1
                replace q2 := cB5 b8 q2
                replace hc := cB5 b8 hc
                replace hA := rB5 b8 hA
                replace hT := HC.out.below _ _ hT b8
                replace B := chain B b8
                clear b8
                go_wp2_with fail
                refine (known5_any HC.out _ hT).mono ?_
                rintro e w9 ⟨rfl, b9⟩
                replace q0 := cB5 b9 q0
                replace q1 := cB5 b9 q1
                replace q2 := cB5 b9 q2
                replace hc := cB5 b9 hc
                replace hA := rB5 b9 hA
                replace hT := HC.out.below _ _ hT b9
                replace B := chain B b9
                clear b9
                go_wp2
                go_ret
                exact ⟨rfl, B⟩
          · have HKQ := Lib.hid hkq
            clear hkq
            by_cases hk : 0 ≤ kingV l bl
            · have HKG := Lib.hid hk
              have HN : ¬ kingV l bl < 0 := by omega
              clear hk
              have HR1 := Lib.hid (fun (w : World) hA hT => HC.out.pin F R l (some ad) c bl w HB.out.1 HB.out.2 hA hT HKG.out)
              have HR3 := Lib.hid (fun (w : World) hA => rKing_any F R l (some ad) c bl w HS.out hA)
              have HR4 := Lib.hid (fun (w : World) hA => rPinned_any F R l (some ad) c bl w HB.out.1 HB.out.2 HKG.out hA)
              have H64 : Hid (∀ i ∈ pinnedL F R l bl, i < 64) := Lib.hid (pinned_64 HS.out)
              have HLN : Hid ((pinnedL F R l bl).length ≤ 1000000) := Lib.hid (pinned_len HS.out)
              generalize pinnedL F R l bl = z at *
              clear HKG
              have HRL := Lib.hid (fun (w : World) hA hT => HC.out.linN F R l (some ad) c n w HS.out hA hT HB.out.1 HB.out.2 HNL.out (fun h => by rw [HPP.out] at h; exact absurd h.2.1 (by have := HKQ.out; omega)))
              have HRQ := Lib.hid (fun (w : World) hA => rKing_any F R l (some ad) c (decide (p < 0)) w HS.out hA)
              have e0 : (p == 0) = false := by simp [HP0.out]
              have e1 : kingV l (decide (p < 0)) < 0 := by have := HKQ.out; omega
              clear HKQ
              generalize kingV l (decide (p < 0)) = kq at *
              generalize kingV l bl = kv at *
              go_enter Tryd.func6, Tryd.ntmps6
              go_wp2_with fail
              refine (small5_yes F R l (some ad) c HS.out _).mono ?_
              rintro e w1 ⟨rfl, b1⟩
              replace q0 := cB5 b1 q0
              replace q1 := cB5 b1 q1
              replace q2 := cB5 b1 q2
              replace hc := cB5 b1 hc
              replace hA := rB5 b1 hA
              replace hT := HC.out.below _ _ hT b1
              replace B := chain B b1
              clear b1
              go_wp2_with fail
              refine (HR1.out _ hA hT).mono ?_
              rintro e w2 ⟨rfl, b2⟩
              replace q0 := cB5 b2 q0
              replace q1 := cB5 b2 q1
              replace q2 := cB5 b2 q2
              replace hc := cB5 b2 hc
              replace hA := rB5 b2 hA
              replace hT := HC.out.below _ _ hT b2
              replace B := chain B b2
              clear b2
              go_wp2_with fail
              refine (HRL.out _ hA hT).mono ?_
              rintro e w3 ⟨rfl, b3⟩
              replace q0 := cB5 b3 q0
              replace q1 := cB5 b3 q1
              replace q2 := cB5 b3 q2
              replace hc := cB5 b3 hc
              replace hA := rB5 b3 hA
              replace hT := HC.out.below _ _ hT b3
              replace B := chain B b3
              clear b3
              go_wp2_with fail
              refine (rOrth_good F R l (some ad) c HB.out.1 HB.out.2 _ hA).mono ?_
              rintro e w4 ⟨rfl, b4⟩
              replace q0 := cB5 b4 q0
              replace q1 := cB5 b4 q1
              replace q2 := cB5 b4 q2
              replace hc := cB5 b4 hc
              replace hA := rB5 b4 hA
              replace hT := HC.out.below _ _ hT b4
              replace B := chain B b4
              clear b4
              go_wp2_with fail
              refine (HR3.out _ hA).mono ?_
              rintro e w5 ⟨rfl, b5⟩
              replace q0 := cB5 b5 q0
              replace q1 := cB5 b5 q1
              replace q2 := cB5 b5 q2
              replace hc := cB5 b5 hc
              replace hA := rB5 b5 hA
              replace hT := HC.out.below _ _ hT b5
              replace B := chain B b5
              clear b5
              go_wp2_with fail
              refine (HR4.out _ hA).mono ?_
              rintro e w6 ⟨v, rfl, hown, b6⟩
              obtain ⟨Ar, cr, rfl, hsr⟩ := SrcI.own hown
              replace q0 := cB5 b6 q0
              replace q1 := cB5 b6 q1
              replace q2 := cB5 b6 q2
              replace hc := cB5 b6 hc
              replace hA := rB5 b6 hA
              replace hT := HC.out.below _ _ hT b6
              replace B := chain B b6
              clear b6
              go_wp2_with fail
              refine (refOfO _ _ _ _ _ _ hown rfl HLN.out H64.out).mono ?_
              rintro e wx ⟨rfl, rfl⟩
              clear hown hsr
              go_wp2_with fail
              refine (refValid_yes F R (n : Int) HV.out _).mono ?_
              rintro e w7 ⟨rfl, b7⟩
              replace q0 := cB5 b7 q0
              replace q1 := cB5 b7 q1
              replace q2 := cB5 b7 q2
              replace hc := cB5 b7 hc
              replace hA := rB5 b7 hA
              replace hT := HC.out.below _ _ hT b7
              replace B := chain B b7
              clear b7
              go_wp2_with fail
              refine (HRQ.out _ hA).mono ?_
              rintro e w8 ⟨rfl, b8⟩
              replace q0 := cB5 b8 q0
              replace q1 := cB5 b8 q1
              replace q2 := cB5 b8 q2
              replace hc := cB5 b8 hc
              replace hA := rB5 b8 hA
              replace hT := HC.out.below _ _ hT b8
              replace B := chain B b8
              clear b8
              go_wp2_with fail
              refine (known5_any HC.out _ hT).mono ?_
              rintro e w9 ⟨rfl, b9⟩
              replace q0 := cB5 b9 q0
              replace q1 := cB5 b9 q1
              replace q2 := cB5 b9 q2
              replace hc := cB5 b9 hc
              replace hA := rB5 b9 hA
              replace hT := HC.out.below _ _ hT b9
              replace B := chain B b9
              clear b9
              go_wp2
              go_ret
              exact ⟨rfl, B⟩
            · have HKG : Hid (kingV l bl < 0) := Lib.hid (by omega)
              have HN : kingV l bl < 0 := HKG.out
              clear hk
              have HR1 := Lib.hid (fun (w : World) hA hT => HC.out.pinN F R l (some ad) c bl w HB.out.1 HB.out.2 hA hT HKG.out)
              have HR3 := Lib.hid (fun (w : World) hA => rKing_any F R l (some ad) c bl w HS.out hA)
              clear HKG
              have HRL := Lib.hid (fun (w : World) hA hT => HC.out.linN F R l (some ad) c n w HS.out hA hT HB.out.1 HB.out.2 HNL.out (fun h => by rw [HPP.out] at h; exact absurd h.2.1 (by have := HKQ.out; omega)))
              have HRQ := Lib.hid (fun (w : World) hA => rKing_any F R l (some ad) c (decide (p < 0)) w HS.out hA)
              have e0 : (p == 0) = false := by simp [HP0.out]
              have e1 : kingV l (decide (p < 0)) < 0 := by have := HKQ.out; omega
              clear HKQ
              generalize kingV l (decide (p < 0)) = kq at *
              generalize kingV l bl = kv at *
              go_enter Tryd.func6, Tryd.ntmps6
              go_wp2_with fail
              refine (small5_yes F R l (some ad) c HS.out _).mono ?_
              rintro e w1 ⟨rfl, b1⟩
              replace q0 := cB5 b1 q0
              replace q1 := cB5 b1 q1
              replace q2 := cB5 b1 q2
              replace hc := cB5 b1 hc
              replace hA := rB5 b1 hA
              replace hT := HC.out.below _ _ hT b1
              replace B := chain B b1
              clear b1
              go_wp2_with fail
              refine (HR1.out _ hA hT).mono ?_
              rintro e w2 ⟨rfl, b2⟩
              replace q0 := cB5 b2 q0
              replace q1 := cB5 b2 q1
              replace q2 := cB5 b2 q2
              replace hc := cB5 b2 hc
              replace hA := rB5 b2 hA
              replace hT := HC.out.below _ _ hT b2
              replace B := chain B b2
              clear b2
              go_wp2_with fail
              refine (HRL.out _ hA hT).mono ?_
              rintro e w3 ⟨rfl, b3⟩
              replace q0 := cB5 b3 q0
              replace q1 := cB5 b3 q1
              replace q2 := cB5 b3 q2
              replace hc := cB5 b3 hc
              replace hA := rB5 b3 hA
              replace hT := HC.out.below _ _ hT b3
              replace B := chain B b3
              clear b3
              go_wp2_with fail
              refine (rOrth_good F R l (some ad) c HB.out.1 HB.out.2 _ hA).mono ?_
              rintro e w4 ⟨rfl, b4⟩
              replace q0 := cB5 b4 q0
              replace q1 := cB5 b4 q1
              replace q2 := cB5 b4 q2
              replace hc := cB5 b4 hc
              replace hA := rB5 b4 hA
              replace hT := HC.out.below _ _ hT b4
              replace B := chain B b4
              clear b4
              go_wp2_with fail
              refine (HR3.out _ hA).mono ?_
              rintro e w5 ⟨rfl, b5⟩
              replace q0 := cB5 b5 q0
              replace q1 := cB5 b5 q1
              replace q2 := cB5 b5 q2
              replace hc := cB5 b5 hc
              replace hA := rB5 b5 hA
              replace hT := HC.out.below _ _ hT b5
              replace B := chain B b5
              clear b5
              go_wp2_with fail
              refine (refValid_yes F R (n : Int) HV.out _).mono ?_
              rintro e w6 ⟨rfl, b6⟩
              replace q0 := cB5 b6 q0
              replace q1 := cB5 b6 q1
              replace q2 := cB5 b6 q2
              replace hc := cB5 b6 hc
              replace hA := rB5 b6 hA
              replace hT := HC.out.below _ _ hT b6
              replace B := chain B b6
              clear b6
              go_wp2_with fail
              refine (HRQ.out _ hA).mono ?_
              rintro e w7 ⟨rfl, b7⟩
              replace q0 := cB5 b7 q0
              replace q1 := cB5 b7 q1
              replace q2 := cB5 b7 q2
              replace hc := cB5 b7 hc
              replace hA := rB5 b7 hA
              replace hT := HC.out.below _ _ hT b7
              replace B := chain B b7
              clear b7
              go_wp2_with fail
              refine (known5_any HC.out _ hT).mono ?_
              rintro e w8 ⟨rfl, b8⟩
              replace q0 := cB5 b8 q0
              replace q1 := cB5 b8 q1
              replace q2 := cB5 b8 q2
              replace hc := cB5 b8 hc
              replace hA := rB5 b8 hA
              replace hT := HC.out.below _ _ hT b8
              replace B := chain B b8
              clear b8
              go_wp2
              go_ret
              exact ⟨rfl, B⟩
      · have HV := Lib.hid ht
        clear ht
        by_cases hk : 0 ≤ kingV l bl
        · have HKG := Lib.hid hk
          have HN : ¬ kingV l bl < 0 := by omega
          clear hk
          have HR1 := Lib.hid (fun (w : World) hA hT => HC.out.pin F R l A c bl w HB.out.1 HB.out.2 hA hT HKG.out)
          have HR3 := Lib.hid (fun (w : World) hA => rKing_any F R l A c bl w HS.out hA)
          have HR4 := Lib.hid (fun (w : World) hA => rPinned_any F R l A c bl w HB.out.1 HB.out.2 HKG.out hA)
          have H64 : Hid (∀ i ∈ pinnedL F R l bl, i < 64) := Lib.hid (pinned_64 HS.out)
          have HLN : Hid ((pinnedL F R l bl).length ≤ 1000000) := Lib.hid (pinned_len HS.out)
          generalize pinnedL F R l bl = z at *
          clear HKG
          have HRL := Lib.hid (fun (w : World) hA hT => HC.out.linE F R l A c t w HS.out hA hT (fun h => HV.out h.2.2))
          generalize kingV l bl = kv at *
          go_enter Tryd.func6, Tryd.ntmps6
          go_wp2_with fail
          refine (small5_yes F R l A c HS.out _).mono ?_
          rintro e w1 ⟨rfl, b1⟩
          replace q0 := cB5 b1 q0
          replace q1 := cB5 b1 q1
          replace q2 := cB5 b1 q2
          replace hA := rB5 b1 hA
          replace hT := HC.out.below _ _ hT b1
          replace B := chain B b1
          clear b1
          go_wp2_with fail
          refine (HR1.out _ hA hT).mono ?_
          rintro e w2 ⟨rfl, b2⟩
          replace q0 := cB5 b2 q0
          replace q1 := cB5 b2 q1
          replace q2 := cB5 b2 q2
          replace hA := rB5 b2 hA
          replace hT := HC.out.below _ _ hT b2
          replace B := chain B b2
          clear b2
          go_wp2_with fail
          refine (HRL.out _ hA hT).mono ?_
          rintro e w3 ⟨rfl, b3⟩
          replace q0 := cB5 b3 q0
          replace q1 := cB5 b3 q1
          replace q2 := cB5 b3 q2
          replace hA := rB5 b3 hA
          replace hT := HC.out.below _ _ hT b3
          replace B := chain B b3
          clear b3
          go_wp2_with fail
          refine (rOrth_good F R l A c HB.out.1 HB.out.2 _ hA).mono ?_
          rintro e w4 ⟨rfl, b4⟩
          replace q0 := cB5 b4 q0
          replace q1 := cB5 b4 q1
          replace q2 := cB5 b4 q2
          replace hA := rB5 b4 hA
          replace hT := HC.out.below _ _ hT b4
          replace B := chain B b4
          clear b4
          go_wp2_with fail
          refine (HR3.out _ hA).mono ?_
          rintro e w5 ⟨rfl, b5⟩
          replace q0 := cB5 b5 q0
          replace q1 := cB5 b5 q1
          replace q2 := cB5 b5 q2
          replace hA := rB5 b5 hA
          replace hT := HC.out.below _ _ hT b5
          replace B := chain B b5
          clear b5
          go_wp2_with fail
          refine (HR4.out _ hA).mono ?_
          rintro e w6 ⟨v, rfl, hown, b6⟩
          obtain ⟨Ar, cr, rfl, hsr⟩ := SrcI.own hown
          replace q0 := cB5 b6 q0
          replace q1 := cB5 b6 q1
          replace q2 := cB5 b6 q2
          replace hA := rB5 b6 hA
          replace hT := HC.out.below _ _ hT b6
          replace B := chain B b6
          clear b6
          go_wp2_with fail
          refine (refOfO _ _ _ _ _ _ hown rfl HLN.out H64.out).mono ?_
          rintro e wx ⟨rfl, rfl⟩
          clear hown hsr
          go_wp2_with fail
          refine (refValid_no F R t HV.out _).mono ?_
          rintro e w7 ⟨rfl, b7⟩
          replace q0 := cB5 b7 q0
          replace q1 := cB5 b7 q1
          replace q2 := cB5 b7 q2
          replace hA := rB5 b7 hA
          replace hT := HC.out.below _ _ hT b7
          replace B := chain B b7
          clear b7
          go_wp2_with fail
          refine (known5_any HC.out _ hT).mono ?_
          rintro e w8 ⟨rfl, b8⟩
          replace q0 := cB5 b8 q0
          replace q1 := cB5 b8 q1
          replace q2 := cB5 b8 q2
          replace hA := rB5 b8 hA
          replace hT := HC.out.below _ _ hT b8
          replace B := chain B b8
          clear b8
          go_wp2
          go_ret
          exact ⟨rfl, B⟩
        · have HKG : Hid (kingV l bl < 0) := Lib.hid (by omega)
          have HN : kingV l bl < 0 := HKG.out
          clear hk
          have HR1 := Lib.hid (fun (w : World) hA hT => HC.out.pinN F R l A c bl w HB.out.1 HB.out.2 hA hT HKG.out)
          have HR3 := Lib.hid (fun (w : World) hA => rKing_any F R l A c bl w HS.out hA)
          clear HKG
          have HRL := Lib.hid (fun (w : World) hA hT => HC.out.linE F R l A c t w HS.out hA hT (fun h => HV.out h.2.2))
          generalize kingV l bl = kv at *
          go_enter Tryd.func6, Tryd.ntmps6
          go_wp2_with fail
          refine (small5_yes F R l A c HS.out _).mono ?_
          rintro e w1 ⟨rfl, b1⟩
          replace q0 := cB5 b1 q0
          replace q1 := cB5 b1 q1
          replace q2 := cB5 b1 q2
          replace hA := rB5 b1 hA
          replace hT := HC.out.below _ _ hT b1
          replace B := chain B b1
          clear b1
          go_wp2_with fail
          refine (HR1.out _ hA hT).mono ?_
          rintro e w2 ⟨rfl, b2⟩
          replace q0 := cB5 b2 q0
          replace q1 := cB5 b2 q1
          replace q2 := cB5 b2 q2
          replace hA := rB5 b2 hA
          replace hT := HC.out.below _ _ hT b2
          replace B := chain B b2
          clear b2
          go_wp2_with fail
          refine (HRL.out _ hA hT).mono ?_
          rintro e w3 ⟨rfl, b3⟩
          replace q0 := cB5 b3 q0
          replace q1 := cB5 b3 q1
          replace q2 := cB5 b3 q2
          replace hA := rB5 b3 hA
          replace hT := HC.out.below _ _ hT b3
          replace B := chain B b3
          clear b3
          go_wp2_with fail
          refine (rOrth_good F R l A c HB.out.1 HB.out.2 _ hA).mono ?_
          rintro e w4 ⟨rfl, b4⟩
          replace q0 := cB5 b4 q0
          replace q1 := cB5 b4 q1
          replace q2 := cB5 b4 q2
          replace hA := rB5 b4 hA
          replace hT := HC.out.below _ _ hT b4
          replace B := chain B b4
          clear b4
          go_wp2_with fail
          refine (HR3.out _ hA).mono ?_
          rintro e w5 ⟨rfl, b5⟩
          replace q0 := cB5 b5 q0
          replace q1 := cB5 b5 q1
          replace q2 := cB5 b5 q2
          replace hA := rB5 b5 hA
          replace hT := HC.out.below _ _ hT b5
          replace B := chain B b5
          clear b5
          go_wp2_with fail
          refine (refValid_no F R t HV.out _).mono ?_
          rintro e w6 ⟨rfl, b6⟩
          replace q0 := cB5 b6 q0
          replace q1 := cB5 b6 q1
          replace q2 := cB5 b6 q2
          replace hA := rB5 b6 hA
          replace hT := HC.out.below _ _ hT b6
          replace B := chain B b6
          clear b6
          go_wp2_with fail
          refine (known5_any HC.out _ hT).mono ?_
          rintro e w7 ⟨rfl, b7⟩
          replace q0 := cB5 b7 q0
          replace q1 := cB5 b7 q1
          replace q2 := cB5 b7 q2
          replace hA := rB5 b7 hA
          replace hT := HC.out.below _ _ hT b7
          replace B := chain B b7
          clear b7
          go_wp2
          go_ret
          exact ⟨rfl, B⟩
    · have HB := Lib.hid hb
      clear hb
      go_enter Tryd.func6, Tryd.ntmps6
      go_wp2_with fail
      refine (small5_yes F R l A c HS.out _).mono ?_
      rintro e w1 ⟨rfl, b1⟩
      replace q0 := cB5 b1 q0
      replace q1 := cB5 b1 q1
      replace q2 := cB5 b1 q2
      replace hA := rB5 b1 hA
      replace hT := HC.out.below _ _ hT b1
      replace B := chain B b1
      clear b1
      go_wp2_with fail
      refine (HC.out.pinE F R l A c bl _ HS.out hA hT HB.out).mono ?_
      rintro e w2 ⟨rfl, b2⟩
      replace q0 := cB5 b2 q0
      replace q1 := cB5 b2 q1
      replace q2 := cB5 b2 q2
      replace hA := rB5 b2 hA
      replace hT := HC.out.below _ _ hT b2
      replace B := chain B b2
      clear b2
      go_wp2_with fail
      refine (HC.out.linE F R l A c t _ HS.out hA hT (fun h => HB.out ⟨h.1, h.2.1⟩)).mono ?_
      rintro e w3 ⟨rfl, b3⟩
      replace q0 := cB5 b3 q0
      replace q1 := cB5 b3 q1
      replace q2 := cB5 b3 q2
      replace hA := rB5 b3 hA
      replace hT := HC.out.below _ _ hT b3
      replace B := chain B b3
      clear b3
      go_wp2_with fail
      refine (rOrth_bad F R l A c HB.out _ HS.out hA).mono ?_
      rintro e w4 ⟨rfl, b4⟩
      replace q0 := cB5 b4 q0
      replace q1 := cB5 b4 q1
      replace q2 := cB5 b4 q2
      replace hA := rB5 b4 hA
      replace hT := HC.out.below _ _ hT b4
      replace B := chain B b4
      clear b4
      go_wp2_with fail
      refine (known5_any HC.out _ hT).mono ?_
      rintro e w5 ⟨rfl, b5⟩
      replace q0 := cB5 b5 q0
      replace q1 := cB5 b5 q1
      replace q2 := cB5 b5 q2
      replace hA := rB5 b5 hA
      replace hT := HC.out.below _ _ hT b5
      replace B := chain B b5
      clear b5
      go_wp2
      go_ret
      exact ⟨rfl, B⟩
  · go_enter Tryd.func6, Tryd.ntmps6
    go_wp2_with fail
    refine (small5_no F R l A c (by omega) _).mono ?_
    rintro e w1 ⟨rfl, b1⟩
    replace q0 := cB5 b1 q0
    replace q1 := cB5 b1 q1
    replace q2 := cB5 b1 q2
    replace hA := rB5 b1 hA
    replace hT := HC.out.below _ _ hT b1
    replace B := chain B b1
    clear b1
    go_wp2_with fail
    refine (known5_any HC.out _ hT).mono ?_
    rintro e w2 ⟨rfl, b2⟩
    replace q0 := cB5 b2 q0
    replace q1 := cB5 b2 q1
    replace q2 := cB5 b2 q2
    replace hA := rB5 b2 hA
    replace hT := HC.out.below _ _ hT b2
    replace B := chain B b2
    clear b2
    go_wp2
    go_ret
    exact ⟨rfl, B⟩

end Go.Proofs.YtjnbjegopddhgaaDoor
