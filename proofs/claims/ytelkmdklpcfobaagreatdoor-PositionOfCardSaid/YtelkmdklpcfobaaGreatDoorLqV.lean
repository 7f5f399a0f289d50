/- Positions: known of the law's package, given that the program reads as it should. -/
import Derived.Test.YtelkmdklpcfobaaGreatDoorPpK
import Derived.Test.YtelkmdklpcfobaaGreatDoorBpF
import Derived.Test.YtelkmdklpcfobaaGreatDoorPoG

namespace Go.Proofs.YtelkmdklpcfobaaGreatDoor
open Go.RowKit Go.Sort

theorem kp_good (HPA : PParse) (t : ByteArray) (ht : t ∈ goodT) : ∃ (F R : Int) (l : List Int) (bl : Bool) (ca : Nat) (ps ha fu : Int), okPo ⟨F, R, l, bl, ca, ps, ha, fu⟩ = true ∧ bsL (posT ⟨F, R, l, bl, ca, ps, ha, fu⟩) = t ∧ ca < 256 ∧ l.length ≤ 64 ∧
    ∀ w : World, T6 w → Calls Tryz.prog 27 #[.string t] w fun e w' => ∃ A c, e = .returned (.tuple #[.agg #[.int .i64 F, .int .i64 R, .slice A l.length c, .bool bl, .int .u8 (ca : Int), .int .i64 ps, .int .i64 ha, .int .i64 fu], .int .i64 0]) ∧ l.length ≤ c ∧ RdP w' w'.heap.size A l c ∧ Below w.heap.size w w' := by
  obtain ⟨⟨F, R, l, bl, ca, ps, ha, fu⟩, hp, h1, h2, h3, h4, h5⟩ := good_of (List.all_eq_true.1 goodT_all t ht)
  refine ⟨F, R, l, bl, ca, ps, ha, fu, h1, h2, h3, h4, fun w hT => (HPA t h5 w hT).mono fun e w' h => ?_⟩
  rw [hp] at h
  obtain ⟨v, rfl, ho, hb⟩ := h
  obtain ⟨A, c, rfl, hc, hr⟩ := RdP.own ho
  exact ⟨A, c, rfl, hc, hr, hb⟩
theorem kp_bad (HPA : PParse) (t : ByteArray) (ht : t ∈ badT6) (w : World) (hT : T6 w) : Calls Tryz.prog 27 #[.string t] w fun e w' => e = .returned (.tuple #[.agg #[.int .i64 0, .int .i64 0, .slice none 0 0, .bool false, .int .u8 0, .int .i64 0, .int .i64 0, .int .i64 0], .int .i64 6]) ∧ Below w.heap.size w w' := by
  have h := List.all_eq_true.1 badT6_all t ht
  rw [Bool.and_eq_true] at h
  refine (HPA t (of_decide_eq_true h.2) w hT).mono fun e w' hp => ?_
  rw [of_decide_eq_true h.1] at hp
  exact hp
theorem kp_start (HPA : PParse) : ∃ (F R : Int) (l : List Int) (bl : Bool) (ca : Nat) (ps ha fu : Int), okPo ⟨F, R, l, bl, ca, ps, ha, fu⟩ = true ∧ bsL (posT ⟨F, R, l, bl, ca, ps, ha, fu⟩) = startB ∧
    ∀ w : World, T6 w → Calls Tryz.prog 29 #[] w fun e w' => ∃ A c, e = .returned (.agg #[.int .i64 F, .int .i64 R, .slice A l.length c, .bool bl, .int .u8 (ca : Int), .int .i64 ps, .int .i64 ha, .int .i64 fu]) ∧ l.length ≤ c ∧ RdP w' w'.heap.size A l c ∧ Below w.heap.size w w' := by
  obtain ⟨⟨F, R, l, bl, ca, ps, ha, fu⟩, hp, h1, h2, h3, h4, h5⟩ := good_of startB_ok
  refine ⟨F, R, l, bl, ca, ps, ha, fu, h1, h2, fun w hT => (pStart_any HPA _ hp w hT).mono fun e w' h => ?_⟩
  obtain ⟨v, rfl, ho, hb⟩ := h
  obtain ⟨A, c, rfl, hc, hr⟩ := RdP.own ho
  exact ⟨A, c, rfl, hc, hr, hb⟩
theorem kp_text (F R : Int) (l : List Int) (A : Option Addr) (c : Nat) (bl : Bool) (ca : Nat) (ps ha fu : Int) (hok : okPo ⟨F, R, l, bl, ca, ps, ha, fu⟩ = true) (s : ByteArray) (hs : bsL (posT ⟨F, R, l, bl, ca, ps, ha, fu⟩) = s) (hcap : l.length ≤ c) (w : World) (hT : T6 w) (hA : RdP w w.heap.size A l c) :
    Calls Tryz.prog 25 #[.agg #[.int .i64 F, .int .i64 R, .slice A l.length c, .bool bl, .int .u8 (ca : Int), .int .i64 ps, .int .i64 ha, .int .i64 fu]] w fun e w' => e = .returned (.tuple #[.string s, .int .i64 0]) ∧ Below w.heap.size w w' := by
  rw [← hs]
  exact pText_yes F R l A c bl ca ps ha fu hok hcap w hT hA
theorem kp_valid (F R : Int) (l : List Int) (A : Option Addr) (c : Nat) (bl : Bool) (ca : Nat) (ps ha fu : Int) (hok : okPo ⟨F, R, l, bl, ca, ps, ha, fu⟩ = true) (hca : ca < 256) (hlen : l.length ≤ 64) (hcap : l.length ≤ c) (w : World) (hT : T6 w) (hA : RdP w w.heap.size A l c) :
    Calls Tryz.prog 11 #[.agg #[.int .i64 F, .int .i64 R, .slice A l.length c, .bool bl, .int .u8 (ca : Int), .int .i64 ps, .int .i64 ha, .int .i64 fu]] w fun e w' => e = .returned (.bool true) ∧ Below w.heap.size w w' := by
  have h := pValid_any F R l A c bl ca ps ha fu hca (by omega) hcap w hT.t5 hT.rts hA
  rwa [hok] at h

set_option maxRecDepth 100000 in
set_option maxHeartbeats 4000000 in
theorem known6_any (HPA : PParse) (w : World) (hT : T6 w) : Calls Tryz.prog 10 #[] w fun e w' => e = .returned (.bool true) ∧ Below w.heap.size w w' := by
  have hRS : RdSt (w.alloc (.cells #[.string ⟨#[51, 120, 51, 32, 107, 50, 47, 51, 47, 50, 75, 32, 119, 32, 45, 32, 45, 32, 48, 32, 49]⟩, .string ⟨#[51, 120, 51, 32, 107, 82, 49, 47, 51, 47, 50, 75, 32, 98, 32, 45, 32, 45, 32, 48, 32, 49]⟩, .string ⟨#[51, 120, 51, 32, 107, 50, 47, 51, 47, 49, 80, 75, 32, 119, 32, 45, 32, 45, 32, 48, 32, 49]⟩, .string ⟨#[51, 120, 54, 32, 107, 50, 47, 51, 47, 80, 50, 47, 51, 47, 51, 47, 50, 75, 32, 98, 32, 45, 32, 97, 51, 32, 48, 32, 49]⟩, .string ⟨#[56, 120, 56, 32, 52, 107, 51, 47, 56, 47, 56, 47, 56, 47, 56, 47, 56, 47, 56, 47, 52, 75, 50, 82, 32, 119, 32, 75, 32, 45, 32, 48, 32, 49]⟩] 9)) w.heap.size goodT := fun j x hx => by
    match j, hx with
    | 0, hx => simp [goodT] at hx; subst hx; simp
    | 1, hx => simp [goodT] at hx; subst hx; simp
    | 2, hx => simp [goodT] at hx; subst hx; simp
    | 3, hx => simp [goodT] at hx; subst hx; simp
    | 4, hx => simp [goodT] at hx; subst hx; simp
    | j + 5, hx => simp [goodT] at hx
  have B9 : Below w.heap.size w (w.alloc (.cells #[.string ⟨#[51, 120, 51, 32, 107, 50, 47, 51, 47, 50, 75, 32, 119, 32, 45, 32, 45, 32, 48, 32, 49]⟩, .string ⟨#[51, 120, 51, 32, 107, 82, 49, 47, 51, 47, 50, 75, 32, 98, 32, 45, 32, 45, 32, 48, 32, 49]⟩, .string ⟨#[51, 120, 51, 32, 107, 50, 47, 51, 47, 49, 80, 75, 32, 119, 32, 45, 32, 45, 32, 48, 32, 49]⟩, .string ⟨#[51, 120, 54, 32, 107, 50, 47, 51, 47, 80, 50, 47, 51, 47, 51, 47, 50, 75, 32, 98, 32, 45, 32, 97, 51, 32, 48, 32, 49]⟩, .string ⟨#[56, 120, 56, 32, 52, 107, 51, 47, 56, 47, 56, 47, 56, 47, 56, 47, 56, 47, 56, 47, 52, 75, 50, 82, 32, 119, 32, 75, 32, 45, 32, 48, 32, 49]⟩] 9)) := box1 w _
  have s9 : w.heap.size < (w.alloc (.cells #[.string ⟨#[51, 120, 51, 32, 107, 50, 47, 51, 47, 50, 75, 32, 119, 32, 45, 32, 45, 32, 48, 32, 49]⟩, .string ⟨#[51, 120, 51, 32, 107, 82, 49, 47, 51, 47, 50, 75, 32, 98, 32, 45, 32, 45, 32, 48, 32, 49]⟩, .string ⟨#[51, 120, 51, 32, 107, 50, 47, 51, 47, 49, 80, 75, 32, 119, 32, 45, 32, 45, 32, 48, 32, 49]⟩, .string ⟨#[51, 120, 54, 32, 107, 50, 47, 51, 47, 80, 50, 47, 51, 47, 51, 47, 50, 75, 32, 98, 32, 45, 32, 97, 51, 32, 48, 32, 49]⟩, .string ⟨#[56, 120, 56, 32, 52, 107, 51, 47, 56, 47, 56, 47, 56, 47, 56, 47, 56, 47, 56, 47, 52, 75, 50, 82, 32, 119, 32, 75, 32, 45, 32, 48, 32, 49]⟩] 9)).heap.size := by simp
  have HRS := Lib.hid hRS
  clear hRS
  have hlit : goodT.length = 5 := rfl
  have hlit2 : badT6.length = 7 := rfl
  go_enter Tryz.func10, Tryz.ntmps10
  go_wp2_with fail
  generalize (w.alloc (.cells #[.string ⟨#[51, 120, 51, 32, 107, 50, 47, 51, 47, 50, 75, 32, 119, 32, 45, 32, 45, 32, 48, 32, 49]⟩, .string ⟨#[51, 120, 51, 32, 107, 82, 49, 47, 51, 47, 50, 75, 32, 98, 32, 45, 32, 45, 32, 48, 32, 49]⟩, .string ⟨#[51, 120, 51, 32, 107, 50, 47, 51, 47, 49, 80, 75, 32, 119, 32, 45, 32, 45, 32, 48, 32, 49]⟩, .string ⟨#[51, 120, 54, 32, 107, 50, 47, 51, 47, 80, 50, 47, 51, 47, 51, 47, 50, 75, 32, 98, 32, 45, 32, 97, 51, 32, 48, 32, 49]⟩, .string ⟨#[56, 120, 56, 32, 52, 107, 51, 47, 56, 47, 56, 47, 56, 47, 56, 47, 56, 47, 56, 47, 52, 75, 50, 82, 32, 119, 32, 75, 32, 45, 32, 48, 32, 49]⟩] 9)) = W9 at *
  go_loopw [2, 3, 4, 5, 6, 15] (fun _ _ _ _ _ i wr => ∃ k : Nat, k ≤ 5 ∧ i = .int .i64 k ∧ Below W9.heap.size W9 wr) (fun _ _ _ _ _ i _ => 5 - (intOf i).toNat)
  case atStart => exact ⟨0, by omega, rfl, Below.refl _ _⟩
  case round =>
    obtain ⟨k, hk, rfl, hB⟩ := hrel
    by_cases hlt : k < 5
    · have hr := HRS.out.below hB s9
      have hc := hr.at_ (k := k) hlt
      have hm : goodT[k]?.getD ByteArray.empty ∈ goodT := by rw [List.getElem?_eq_getElem (show k < goodT.length from hlt)]; exact List.getElem_mem _
      generalize goodT[k]?.getD ByteArray.empty = t at *
      obtain ⟨F, R, l, bl, ca, ps, ha, fu, hok, hbs, hca, hle, HP⟩ := kp_good HPA t hm
      have HP := Lib.hid HP
      have HT := Lib.hid (fun (A : Option Addr) (c : Nat) => kp_text F R l A c bl ca ps ha fu hok t hbs)
      have HV := Lib.hid (fun (A : Option Addr) (c : Nat) => kp_valid F R l A c bl ca ps ha fu hok hca hle)
      clear hm hr hok hbs hca hle
      go_wp2_with fail
      refine (HP.out _ ((hT.below B9).below hB)).mono ?_
      rintro e w10 ⟨A, c, rfl, hcap, hA, b10⟩
      have y := box8 w10 F R (.slice A l.length c) bl ca ps ha fu
      have hA1 := rdBo (box1 w10 (.cells #[.int .i64 F, .int .i64 R, .slice A l.length c, .bool bl, .int .u8 (ca : Int), .int .i64 ps, .int .i64 ha, .int .i64 fu] 26)) hA
      have hB1 := chain (chain hB b10) (box1 w10 (.cells #[.int .i64 F, .int .i64 R, .slice A l.length c, .bool bl, .int .u8 (ca : Int), .int .i64 ps, .int .i64 ha, .int .i64 fu] 26))
      clear hB b10 hA hc
      go_wp2_with fail
      refine (HT.out A c hcap _ ((hT.below B9).below hB1) hA1).mono ?_
      rintro e w11 ⟨rfl, b11⟩
      obtain ⟨⟨y0, y1, y2, y3, y4, y5, y6, y7⟩, yf⟩ := y.below b11 y.lt
      have hA2 := rdBo b11 hA1
      have hB2 := chain hB1 b11
      clear y hB1 b11 hA1
      go_wp2_with fail
      refine (HV.out A c hcap _ ((hT.below B9).below hB2) hA2).mono ?_
      rintro e w12 ⟨rfl, b12⟩
      have hB3 := Lib.hid (chain hB2 b12)
      clear hB2 b12 hA2 y0 y1 y2 y3 y4 y5 y6 y7 yf
      go_wp2
      go_roundw
      case rel => exact ⟨k + 1, by omega, by go_num, hB3.out⟩
      case measure => simp [intOf]; omega
    · have hk5 : k = 5 := by omega
      subst hk5
      have B10 := chain B9 hB
      clear HRS hB B9 s9
      have hRS2 : RdSt (wr.alloc (.cells #[.string ⟨#[51, 120, 51, 32, 107, 82, 49, 47, 51, 47, 50, 75, 32, 119, 32, 45, 32, 45, 32, 48, 32, 49]⟩, .string ⟨#[51, 120, 51, 32, 107, 80, 49, 47, 51, 47, 50, 75, 32, 98, 32, 45, 32, 45, 32, 48, 32, 49]⟩, .string ⟨#[51, 120, 54, 32, 107, 50, 47, 51, 47, 51, 47, 80, 50, 47, 51, 47, 50, 75, 32, 98, 32, 45, 32, 97, 50, 32, 48, 32, 49]⟩, .string ⟨#[51, 120, 54, 32, 107, 50, 47, 51, 47, 51, 47, 80, 50, 47, 51, 47, 50, 75, 32, 98, 32, 45, 32, 97, 51, 32, 48, 32, 49]⟩, .string ⟨#[51, 120, 54, 32, 107, 50, 47, 51, 47, 80, 50, 47, 51, 47, 51, 47, 50, 75, 32, 98, 32, 45, 32, 97, 51, 32, 49, 32, 49]⟩, .string ⟨#[51, 120, 54, 32, 107, 50, 47, 51, 47, 80, 50, 47, 51, 47, 51, 47, 50, 75, 32, 119, 32, 45, 32, 97, 51, 32, 48, 32, 49]⟩, .string ⟨#[56, 120, 56, 32, 52, 107, 51, 47, 56, 47, 56, 47, 56, 47, 56, 47, 56, 47, 56, 47, 52, 75, 50, 82, 32, 119, 32, 81, 32, 45, 32, 48, 32, 49]⟩] 9)) wr.heap.size badT6 := fun j x hx => by
        match j, hx with
        | 0, hx => simp [badT6] at hx; subst hx; simp
        | 1, hx => simp [badT6] at hx; subst hx; simp
        | 2, hx => simp [badT6] at hx; subst hx; simp
        | 3, hx => simp [badT6] at hx; subst hx; simp
        | 4, hx => simp [badT6] at hx; subst hx; simp
        | 5, hx => simp [badT6] at hx; subst hx; simp
        | 6, hx => simp [badT6] at hx; subst hx; simp
        | j + 7, hx => simp [badT6] at hx
      have B11 : Below w.heap.size w (wr.alloc (.cells #[.string ⟨#[51, 120, 51, 32, 107, 82, 49, 47, 51, 47, 50, 75, 32, 119, 32, 45, 32, 45, 32, 48, 32, 49]⟩, .string ⟨#[51, 120, 51, 32, 107, 80, 49, 47, 51, 47, 50, 75, 32, 98, 32, 45, 32, 45, 32, 48, 32, 49]⟩, .string ⟨#[51, 120, 54, 32, 107, 50, 47, 51, 47, 51, 47, 80, 50, 47, 51, 47, 50, 75, 32, 98, 32, 45, 32, 97, 50, 32, 48, 32, 49]⟩, .string ⟨#[51, 120, 54, 32, 107, 50, 47, 51, 47, 51, 47, 80, 50, 47, 51, 47, 50, 75, 32, 98, 32, 45, 32, 97, 51, 32, 48, 32, 49]⟩, .string ⟨#[51, 120, 54, 32, 107, 50, 47, 51, 47, 80, 50, 47, 51, 47, 51, 47, 50, 75, 32, 98, 32, 45, 32, 97, 51, 32, 49, 32, 49]⟩, .string ⟨#[51, 120, 54, 32, 107, 50, 47, 51, 47, 80, 50, 47, 51, 47, 51, 47, 50, 75, 32, 119, 32, 45, 32, 97, 51, 32, 48, 32, 49]⟩, .string ⟨#[56, 120, 56, 32, 52, 107, 51, 47, 56, 47, 56, 47, 56, 47, 56, 47, 56, 47, 56, 47, 52, 75, 50, 82, 32, 119, 32, 81, 32, 45, 32, 48, 32, 49]⟩] 9)) := chain B10 (box1 wr _)
      have s11 : wr.heap.size < (wr.alloc (.cells #[.string ⟨#[51, 120, 51, 32, 107, 82, 49, 47, 51, 47, 50, 75, 32, 119, 32, 45, 32, 45, 32, 48, 32, 49]⟩, .string ⟨#[51, 120, 51, 32, 107, 80, 49, 47, 51, 47, 50, 75, 32, 98, 32, 45, 32, 45, 32, 48, 32, 49]⟩, .string ⟨#[51, 120, 54, 32, 107, 50, 47, 51, 47, 51, 47, 80, 50, 47, 51, 47, 50, 75, 32, 98, 32, 45, 32, 97, 50, 32, 48, 32, 49]⟩, .string ⟨#[51, 120, 54, 32, 107, 50, 47, 51, 47, 51, 47, 80, 50, 47, 51, 47, 50, 75, 32, 98, 32, 45, 32, 97, 51, 32, 48, 32, 49]⟩, .string ⟨#[51, 120, 54, 32, 107, 50, 47, 51, 47, 80, 50, 47, 51, 47, 51, 47, 50, 75, 32, 98, 32, 45, 32, 97, 51, 32, 49, 32, 49]⟩, .string ⟨#[51, 120, 54, 32, 107, 50, 47, 51, 47, 80, 50, 47, 51, 47, 51, 47, 50, 75, 32, 119, 32, 45, 32, 97, 51, 32, 48, 32, 49]⟩, .string ⟨#[56, 120, 56, 32, 52, 107, 51, 47, 56, 47, 56, 47, 56, 47, 56, 47, 56, 47, 56, 47, 52, 75, 50, 82, 32, 119, 32, 81, 32, 45, 32, 48, 32, 49]⟩] 9)).heap.size := by simp
      have HRS2 := Lib.hid hRS2
      clear hRS2 B10
      go_wp2_with fail
      generalize (wr.alloc (.cells #[.string ⟨#[51, 120, 51, 32, 107, 82, 49, 47, 51, 47, 50, 75, 32, 119, 32, 45, 32, 45, 32, 48, 32, 49]⟩, .string ⟨#[51, 120, 51, 32, 107, 80, 49, 47, 51, 47, 50, 75, 32, 98, 32, 45, 32, 45, 32, 48, 32, 49]⟩, .string ⟨#[51, 120, 54, 32, 107, 50, 47, 51, 47, 51, 47, 80, 50, 47, 51, 47, 50, 75, 32, 98, 32, 45, 32, 97, 50, 32, 48, 32, 49]⟩, .string ⟨#[51, 120, 54, 32, 107, 50, 47, 51, 47, 51, 47, 80, 50, 47, 51, 47, 50, 75, 32, 98, 32, 45, 32, 97, 51, 32, 48, 32, 49]⟩, .string ⟨#[51, 120, 54, 32, 107, 50, 47, 51, 47, 80, 50, 47, 51, 47, 51, 47, 50, 75, 32, 98, 32, 45, 32, 97, 51, 32, 49, 32, 49]⟩, .string ⟨#[51, 120, 54, 32, 107, 50, 47, 51, 47, 80, 50, 47, 51, 47, 51, 47, 50, 75, 32, 119, 32, 45, 32, 97, 51, 32, 48, 32, 49]⟩, .string ⟨#[56, 120, 56, 32, 52, 107, 51, 47, 56, 47, 56, 47, 56, 47, 56, 47, 56, 47, 56, 47, 52, 75, 50, 82, 32, 119, 32, 81, 32, 45, 32, 48, 32, 49]⟩] 9)) = W11 at *
      go_loopw [8, 9, 10, 48] (fun _ _ _ i wr => ∃ k : Nat, k ≤ 7 ∧ i = .int .i64 k ∧ Below W11.heap.size W11 wr) (fun _ _ _ i _ => 7 - (intOf i).toNat)
      case atStart => exact ⟨0, by omega, rfl, Below.refl _ _⟩
      case round =>
        obtain ⟨k, hk, rfl, hB⟩ := hrel
        by_cases hlt : k < 7
        · have hr := HRS2.out.below hB s11
          have hc := hr.at_ (k := k) hlt
          have hm : badT6[k]?.getD ByteArray.empty ∈ badT6 := by rw [List.getElem?_eq_getElem (show k < badT6.length from hlt)]; exact List.getElem_mem _
          generalize badT6[k]?.getD ByteArray.empty = t at *
          have HM := Lib.hid hm
          clear hm hr
          go_wp2_with fail
          refine (kp_bad HPA t HM.out _ ((hT.below B11).below hB)).mono ?_
          rintro e w10 ⟨rfl, b10⟩
          have hB2 := Lib.hid ((chain hB b10).alloc (chain hB b10).size (.cells #[.int .i64 0, .int .i64 0, .slice none 0 0, .bool false, .int .u8 0, .int .i64 0, .int .i64 0, .int .i64 0] 26))
          clear hB b10
          go_wp2
          go_roundw
          case rel => exact ⟨k + 1, by omega, by go_num, hB2.out⟩
          case measure => simp [intOf]; omega
        · have hk5 : k = 7 := by omega
          subst hk5
          have B12 := chain B11 hB
          obtain ⟨F, R, l, bl, ca, ps, ha, fu, hok, hbs, HP⟩ := kp_start HPA
          have HP := Lib.hid HP
          have HT := Lib.hid (fun (A : Option Addr) (c : Nat) => kp_text F R l A c bl ca ps ha fu hok startB hbs)
          clear HRS2 hB B11 s11 hok hbs
          go_wp2_with fail
          refine (HP.out _ (hT.below B12)).mono ?_
          rintro e w13 ⟨A, c, rfl, hcap, hA, b13⟩
          have B13 := chain B12 b13
          clear B12 b13
          go_wp2_with fail
          refine (HT.out A c hcap _ (hT.below B13) hA).mono ?_
          rintro e w14 ⟨rfl, b14⟩
          have B14 := Lib.hid (chain B13 b14)
          clear B13 b14 hA
          unfold startB
          go_wp2
          go_ret
          exact ⟨by rfl, B14.out⟩

end Go.Proofs.YtelkmdklpcfobaaGreatDoor

/- The law of valid positions: it answers true, and changes nothing that lay before; given that the program reads as it should. -/
namespace Go.Proofs.YtelkmdklpcfobaaGreatDoor
open Go.RowKit Go.Sort

set_option maxRecDepth 100000 in
set_option maxHeartbeats 2000000 in
theorem law_pvalid (HPA : PParse) (F R : Int) (l : List Int) (A : Option Addr) (c : Nat) (bl : Bool) (ca : Nat) (ps ha fu : Int) (w : World) (hca : ca < 256) (hcap : l.length ≤ c) (hA : RdP w w.heap.size A l c) (hT : T6 w) :
    Calls Tryz.prog 3 #[.agg #[.int .i64 F, .int .i64 R, .slice A l.length c, .bool bl, .int .u8 (ca : Int), .int .i64 ps, .int .i64 ha, .int .i64 fu]] w fun e w' => e = .returned (.bool true) ∧ Below w.heap.size w w' := by
  have hB := box1 w (.cells #[.int .i64 F, .int .i64 R, .slice A l.length c, .bool bl, .int .u8 (ca : Int), .int .i64 ps, .int .i64 ha, .int .i64 fu] 26)
  have hx := box8 w F R (.slice A l.length c) bl ca ps ha fu
  replace hA := rdBo hB hA
  replace hT := hT.below hB
  have HK := Lib.hid (fun w hT => known6_any HPA w hT)
  have HS := Lib.hid (small6_any F R l A c bl ca ps ha fu (w.alloc (.cells #[.int .i64 F, .int .i64 R, .slice A l.length c, .bool bl, .int .u8 (ca : Int), .int .i64 ps, .int .i64 ha, .int .i64 fu] 26)))
  obtain ⟨⟨x0, x1, x2, x3, x4, x5, x6, x7⟩, xf⟩ := id hx
  by_cases hs : l.length ≤ 70
  · have HP := Lib.hid (fun w (hT : T6 w) hA => pValid_any F R l A c bl ca ps ha fu hca (by omega) hcap w hT.t5 hT.rts hA)
    have HR := Lib.hid (fun w hA => rValid_any F R l A c bl ca ps ha fu hca (by omega) w hA)
    generalize okPo ⟨F, R, l, bl, ca, ps, ha, fu⟩ = t at *
    go_enter Tryz.func3, Tryz.ntmps3
    go_wp2_with fail
    refine HS.out.mono ?_
    rintro e w1 ⟨rfl, hb1⟩
    rw [decide_eq_true hs]
    have hB1 := chain hB hb1
    have hA1 := rdBo hb1 hA
    have hT1 := hT.below hb1
    have hx1 := hx.below hb1 hx.lt
    clear x0 x1 x2 x3 x4 x5 x6 x7 xf hb1 hx hT hA
    obtain ⟨⟨x0, x1, x2, x3, x4, x5, x6, x7⟩, xf⟩ := id hx1
    have G1 := Lib.hid (fun (n : Nat) (os : Array Obj) => HP.out (Go.Sort.grow (redrawn w1 n) os) (hT1.below (below_regrown w1 n os)) (rdBo (below_regrown w1 n os) hA1))
    have G2 := Lib.hid (fun (n : Nat) (os : Array Obj) => HR.out (Go.Sort.grow (redrawn w1 n) os) (rdBo (below_regrown w1 n os) hA1))
    have G3 := Lib.hid (fun (n : Nat) (os : Array Obj) => HK.out (Go.Sort.grow (redrawn w1 n) os) (hT1.below (below_regrown w1 n os)))
    have s0 := cell_regrown x0
    have s1 := cell_regrown x1
    have s2 := cell_regrown x2
    have s3 := cell_regrown x3
    have s4 := cell_regrown x4
    have s5 := cell_regrown x5
    have s6 := cell_regrown x6
    have s7 := cell_regrown x7
    clear hx1 hT1 hA1 hB HP HR HK
    cases t <;>
    · go_wp2_with fail
      refine wp_region_quiet_below (by kernel_rfl) (by kernel_rfl) ?_
      repeat (go_big_quiet_step ((first | (go_at_call 11; exact Calls.regrown_of (G1.out _ _)) | (go_at_call 12; exact Calls.regrown_of (G2.out _ _)) | (go_at_call 10; exact Calls.regrown_of (G3.out _ _)))))
      refine wpQuiet_nil ?_
      intro _ hw'
      obtain ⟨⟨dq, osq⟩, hw''⟩ := hw'
      subst hw''
      have hB4 := Lib.hid (chain hB1 (below_regrown w1 dq osq))
      clear hB1 G1 G2 G3 s0 s1 s2 s3 s4 s5 s6 s7 x0 x1 x2 x3 x4 x5 x6 x7
      go_wp2
      go_ret
      exact ⟨by rfl, hB4.out⟩
  · go_enter Tryz.func3, Tryz.ntmps3
    go_wp2_with fail
    refine HS.out.mono ?_
    rintro e w1 ⟨rfl, hb1⟩
    rw [decide_eq_false hs]
    have hB1 := chain hB hb1
    have hT1 := hT.below hb1
    clear x0 x1 x2 x3 x4 x5 x6 x7 xf hb1 hx hT hA hB
    go_wp2_with fail
    refine (HK.out _ hT1).mono ?_
    rintro e w4 ⟨rfl, hb4⟩
    have hB4 := Lib.hid (chain hB1 hb4)
    clear hb4 hB1 hT1
    go_wp2
    go_ret
    exact ⟨by rfl, hB4.out⟩

end Go.Proofs.YtelkmdklpcfobaaGreatDoor
