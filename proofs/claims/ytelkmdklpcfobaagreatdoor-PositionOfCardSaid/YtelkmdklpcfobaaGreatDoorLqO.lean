/- The law of positions of boards: it answers true, and changes nothing that lay before; given that the program reads as it should. -/
import Derived.Test.YtelkmdklpcfobaaGreatDoorLqV
import Derived.Test.YtelkmdklpcfobaaGreatDoorLqC
import Derived.Test.YtelkmdklpcfobaaGreatDoorLqE
import Derived.Test.YtelkmdklpcfobaaGreatDoorPoG
namespace Go.Proofs.YtelkmdklpcfobaaGreatDoor
open Go.RowKit Go.Sort

theorem eqZ_all (w : World) : Calls Tryz.prog 20 #[.agg #[.int .i64 0, .int .i64 0, .slice none 0 0, .bool false, .int .u8 0, .int .i64 0, .int .i64 0, .int .i64 0], .agg #[.int .i64 0, .int .i64 0, .slice none 0 0, .bool false, .int .u8 0, .int .i64 0, .int .i64 0, .int .i64 0]] w fun e w' => e = .returned (.bool true) ∧ Below w.heap.size w w' := by
  have h := rEqualP_any 0 0 [] none 0 false 0 0 0 0 0 0 [] none 0 false 0 0 0 0 w (by simp) (rd_nil _ _) (rd_nil _ _)
  rw [poEq_self] at h
  exact h

set_option maxRecDepth 100000 in
set_option maxHeartbeats 8000000 in
theorem law_pof (HPA : PParse) (F R : Int) (l : List Int) (A : Option Addr) (c : Nat) (bl : Bool) (ca : Nat) (ps ha fu : Int) (F2 R2 : Int) (l2 : List Int) (A2 : Option Addr) (c2 : Nat) (bk : Bool) (w : World) (hcap2 : l2.length ≤ c2) (hA : RdP w w.heap.size A l c) (hA2 : RdP w w.heap.size A2 l2 c2) (hT : T6 w) :
    Calls Tryz.prog 4 #[.agg #[.int .i64 F, .int .i64 R, .slice A l.length c, .bool bl, .int .u8 (ca : Int), .int .i64 ps, .int .i64 ha, .int .i64 fu], .agg #[.int .i64 F2, .int .i64 R2, .slice A2 l2.length c2], .bool bk] w fun e w' => e = .returned (.bool true) ∧ Below w.heap.size w w' := by
  have zA := Lib.hid (fun hl : 0 < l.length => RdP.lt hA hl)
  have zA2 := Lib.hid (fun hl : 0 < l2.length => RdP.lt hA2 hl)
  have hT0 := Lib.hid hT
  have hB := box1 w (.cells #[.int .i64 F, .int .i64 R, .slice A l.length c, .bool bl, .int .u8 (ca : Int), .int .i64 ps, .int .i64 ha, .int .i64 fu] 26)
  have hx := box8 w F R (.slice A l.length c) bl ca ps ha fu
  replace hA := rdBo hB hA
  replace hA2 := rdBo hB hA2
  replace hT := hT.below hB
  have bx := box1 (w.alloc (.cells #[.int .i64 F, .int .i64 R, .slice A l.length c, .bool bl, .int .u8 (ca : Int), .int .i64 ps, .int .i64 ha, .int .i64 fu] 26)) (.cells #[.int .i64 F2, .int .i64 R2, .slice A2 l2.length c2] 30)
  have hz := box3 (w.alloc (.cells #[.int .i64 F, .int .i64 R, .slice A l.length c, .bool bl, .int .u8 (ca : Int), .int .i64 ps, .int .i64 ha, .int .i64 fu] 26)) F2 R2 (.slice A2 l2.length c2)
  simp only [World.size_alloc] at hz
  replace hx := hx.below bx hx.lt
  replace hA := rdBo bx hA
  replace hA2 := rdBo bx hA2
  replace hT := hT.below bx
  replace hB := chain hB bx
  clear bx
  have HK := Lib.hid (fun w hT => known6_any HPA w hT)
  by_cases hs : l.length ≤ 70
  · by_cases hs2 : l2.length ≤ 70
    · have h100 := Lib.hid (show l.length ≤ 100000 by omega)
      have h200 := Lib.hid (show l2.length ≤ 100000 by omega)
      have h70 : decide ((70 : Int) < (l2.length : Int)) = false := by simp; omega
      go_enter Tryz.func4, Tryz.ntmps4
      obtain ⟨⟨hx_0, hx_1, hx_2, hx_3, hx_4, hx_5, hx_6, hx_7⟩, hx_f⟩ := id hx
      obtain ⟨⟨hz_0, hz_1, hz_2⟩, hz_f⟩ := id hz
      go_wp2_with fail
      refine (small6_any F R l A c bl ca ps ha fu _).mono ?_
      rintro e w1 ⟨rfl, b1⟩
      clear hx_0 hx_1 hx_2 hx_3 hx_4 hx_5 hx_6 hx_7 hx_f hz_0 hz_1 hz_2 hz_f
      rw [decide_eq_true hs]
      replace hx := hx.below b1 hx.lt
      replace hz := hz.below b1 hz.lt
      replace hA := rdBo b1 hA
      replace hA2 := rdBo b1 hA2
      replace hT := hT.below b1
      replace hB := chain hB b1
      clear b1
      obtain ⟨⟨hx_0, hx_1, hx_2, hx_3, hx_4, hx_5, hx_6, hx_7⟩, hx_f⟩ := id hx
      obtain ⟨⟨hz_0, hz_1, hz_2⟩, hz_f⟩ := id hz
      go_upto_region 3 with fail
      clear hx_0 hx_1 hx_2 hx_3 hx_4 hx_5 hx_6 hx_7 hx_f hz_0 hz_1 hz_2 hz_f
      have hS : (w1.cell? ⟨w.heap.size, 0, none⟩ = some (.int .i64 F) ∧ w1.cell? ⟨w.heap.size, 1, none⟩ = some (.int .i64 R) ∧ w1.cell? ⟨w.heap.size, 2, none⟩ = some (.slice A l.length c) ∧ w1.cell? ⟨w.heap.size, 3, none⟩ = some (.bool bl) ∧ w1.cell? ⟨w.heap.size, 4, none⟩ = some (.int .u8 (ca : Int)) ∧ w1.cell? ⟨w.heap.size, 5, none⟩ = some (.int .i64 ps) ∧ w1.cell? ⟨w.heap.size, 6, none⟩ = some (.int .i64 ha) ∧ w1.cell? ⟨w.heap.size, 7, none⟩ = some (.int .i64 fu)) ∧ (w1.cell? ⟨(w.heap.size + 1), 0, none⟩ = some (.int .i64 F2) ∧ w1.cell? ⟨(w.heap.size + 1), 1, none⟩ = some (.int .i64 R2) ∧ w1.cell? ⟨(w.heap.size + 1), 2, none⟩ = some (.slice A2 l2.length c2)) ∧ S11 w1 w1 A l c A2 l2 c2 := ⟨hx.1, hz.1, hA, hA2, hT, Below.refl _ _⟩
      obtain ⟨t1, ht1⟩ : ∃ t, okPo ⟨F2, R2, l2, bk, 0, -1, 0, 1⟩ = t := ⟨_, rfl⟩
      go_cut [7, 8] (fun s7 s8 wx => ∃ (bo bg : Nat) (AO : Option Addr) (cO : Nat) (AG : Option Addr) (cG : Nat), s7 = .pointer (some ⟨bo, 0, none⟩) ∧ s8 = .pointer (some ⟨bg, 0, none⟩) ∧ Bx8 wx bo F R (.slice AO l.length cO) bl ca ps ha fu ∧ Bx3 wx bg F2 R2 (.slice AG l2.length cG) ∧ wx.ownsRow w1.heap.size 41 1 (.slice AO l.length cO) l.length (vpcs l) ∧ wx.ownsRow w1.heap.size 41 1 (.slice AG l2.length cG) l2.length (vpcs l2) ∧ Below w1.heap.size w1 wx)
      case first =>
        have CP := Lib.hid (fun W hA => rCopyP_any F R l A c bl ca ps ha fu W h100.out hA)
        have CQ := Lib.hid (fun W hA => rCopy_any F2 R2 l2 A2 c2 W h200.out hA)
        go_region_held3 (fun w' => (w'.cell? ⟨w.heap.size, 0, none⟩ = some (.int .i64 F) ∧ w'.cell? ⟨w.heap.size, 1, none⟩ = some (.int .i64 R) ∧ w'.cell? ⟨w.heap.size, 2, none⟩ = some (.slice A l.length c) ∧ w'.cell? ⟨w.heap.size, 3, none⟩ = some (.bool bl) ∧ w'.cell? ⟨w.heap.size, 4, none⟩ = some (.int .u8 (ca : Int)) ∧ w'.cell? ⟨w.heap.size, 5, none⟩ = some (.int .i64 ps) ∧ w'.cell? ⟨w.heap.size, 6, none⟩ = some (.int .i64 ha) ∧ w'.cell? ⟨w.heap.size, 7, none⟩ = some (.int .i64 fu)) ∧ (w'.cell? ⟨(w.heap.size + 1), 0, none⟩ = some (.int .i64 F2) ∧ w'.cell? ⟨(w.heap.size + 1), 1, none⟩ = some (.int .i64 R2) ∧ w'.cell? ⟨(w.heap.size + 1), 2, none⟩ = some (.slice A2 l2.length c2)) ∧ S11 w1 w' A l c A2 l2 c2)
          (first | (simp only [S11.mark8]; refine keep12s8 hS ?_ ?_ _ _ _ _ _ _ _ _; (repeat (with_reducible refine Below.setCell (p := ⟨_, _, none⟩) ?_ ?_ _)); (first | (with_reducible exact hw2) | (with_reducible exact hw1) | (with_reducible exact chain hw2 (box1 _ _)) | (with_reducible exact chain hw1 (box1 _ _))); all_goals first | exact Nat.le_refl _ | (have e1 := hw1.size; have e2 := hw2.size; have e3 := hc1.size; have e4 := hc2.size; simp at e1 e2 e3 e4 ⊢ <;> omega)) | (simp only [S11.mark3]; refine keep12s3 hS ?_ ?_ _ _ _; (repeat (with_reducible refine Below.setCell (p := ⟨_, _, none⟩) ?_ ?_ _)); (first | (with_reducible exact hw2) | (with_reducible exact hw1) | (with_reducible exact chain hw2 (box1 _ _)) | (with_reducible exact chain hw1 (box1 _ _))); all_goals first | exact Nat.le_refl _ | (have e1 := hw1.size; have e2 := hw2.size; have e3 := hc1.size; have e4 := hc2.size; simp at e1 e2 e3 e4 ⊢ <;> omega)) | (with_reducible assumption) | (with_reducible exact keep12 (by assumption) (by assumption)) | (with_reducible exact keep12 (by assumption) ((Below.refl _ _).drew)) | (with_reducible exact keep12 (by assumption) (box1 _ _)) | (with_reducible exact keep12 hS hw2) | (with_reducible exact keep12 hS hw1) | (with_reducible exact keep12 (keep12 hS hw2) (box1 _ _)) | (with_reducible exact keep12 (keep12 hS hw1) (box1 _ _)) | (with_reducible exact keep12 (keep12 (keep12 hS hw2) (box1 _ _)) (box1 _ _)) | (with_reducible exact keep12 (keep12 (keep12 hS hw1) (box1 _ _)) (box1 _ _)))
          (first
            | (go_at_call 13; refine (CP.out _ (S11.rd (by assumption))).mono ?_; rintro e u1 ⟨v1, rfl, ho1, hc1⟩; obtain ⟨A1, c1, rfl, hr1, ho1⟩ := own_parts ho1; have kb1 := own_block ho1; have hw1 : Below w1.heap.size w1 u1 := (by first | exact chain (S11.bel (by assumption)) hc1 | exact chain hw2 hc1 | exact chain hw2.drew hc1 | exact chain (Below.refl _ _).drew hc1 | exact after1 hc1 | exact chain (box1 _ _).drew hc1 | exact chain (chain hw2 (box1 _ _)) hc1 | exact chain (chain hw2 (box1 _ _)).drew hc1 | exact chain (chain (box1 _ _) (box1 _ _)) hc1 | exact chain (chain (box1 _ _) (box1 _ _)).drew hc1); (try (have hk1 : Below u2.heap.size u2 u1 := (by first | exact hc1 | exact chain (Below.refl _ _).drew hc1 | exact after1 hc1 | exact chain (box1 _ _).drew hc1 | exact chain (chain (box1 _ _) (box1 _ _)) hc1 | exact chain (chain (box1 _ _) (box1 _ _)).drew hc1))); (try (have yo1 := yo2.below hk1 yo2.lt)); (try (have yg1 := yg2.below hk1 yg2.lt)); (try (have ho2' := own_below ho2 hk1)); (try (first | (have yo1 := zb8d hc1) | (have yo1 := zb8 hc1))); (try (first | (have yg1 := zb3d hc1) | (have yg1 := zb3 hc1))); (try (first | (have q := zABd hc1; obtain ⟨yo1, yg1⟩ := q) | (have q := zAB hc1; obtain ⟨yo1, yg1⟩ := q) | (have q := zBAd hc1; obtain ⟨yg1, yo1⟩ := q) | (have q := zBA hc1; obtain ⟨yg1, yo1⟩ := q))); (try (have q := yo1.below (box1 u1 (.cells #[.int .i64 0, .int .i64 0, .slice none 0 0] 30)) yo1.lt; obtain ⟨⟨f0, f1, f2, f3, f4, f5, f6, f7⟩, ff⟩ := q)); (try (have q := yg1.below (box1 u1 (.cells #[.int .i64 0, .int .i64 0, .slice none 0 0, .bool false, .int .u8 0, .int .i64 0, .int .i64 0, .int .i64 0] 26)) yg1.lt; obtain ⟨⟨g0, g1, g2⟩, gf⟩ := q)); (try (have q := yg1.below (box1 u1 (.cells #[.int .i64 F, .int .i64 R, .slice A1 l.length c1, .bool bl, .int .u8 (ca : Int), .int .i64 ps, .int .i64 ha, .int .i64 fu] 26)) yg1.lt; obtain ⟨⟨i0, i1, i2⟩, iF⟩ := q)); (try (first | (have q := b3_set8 yg1 (Nat.ne_of_gt yo2.lt) (.int .i64 F) (.int .i64 R) (.slice A1 l.length c1) (.bool bl) (.int .u8 (ca : Int)) (.int .i64 ps) (.int .i64 ha) (.int .i64 fu); obtain ⟨⟨j0, j1, j2⟩, jf⟩ := q) | (have q := b3_set8 yg1 (Nat.ne_of_lt yg2.lt) (.int .i64 F) (.int .i64 R) (.slice A1 l.length c1) (.bool bl) (.int .u8 (ca : Int)) (.int .i64 ps) (.int .i64 ha) (.int .i64 fu); obtain ⟨⟨j0, j1, j2⟩, jf⟩ := q) | (have q := b3_set8 yg1 (Nat.succ_ne_self _) (.int .i64 F) (.int .i64 R) (.slice A1 l.length c1) (.bool bl) (.int .u8 (ca : Int)) (.int .i64 ps) (.int .i64 ha) (.int .i64 fu); obtain ⟨⟨j0, j1, j2⟩, jf⟩ := q) | (have q := b3_set8 yg1 (Nat.succ_ne_self _).symm (.int .i64 F) (.int .i64 R) (.slice A1 l.length c1) (.bool bl) (.int .u8 (ca : Int)) (.int .i64 ps) (.int .i64 ha) (.int .i64 fu); obtain ⟨⟨j0, j1, j2⟩, jf⟩ := q))); (try (have q := b3_set8 (box3 u1 0 0 (.slice none 0 0)) (Nat.ne_of_gt yo1.lt) (.int .i64 F) (.int .i64 R) (.slice A1 l.length c1) (.bool bl) (.int .u8 (ca : Int)) (.int .i64 ps) (.int .i64 ha) (.int .i64 fu); obtain ⟨⟨m0, m1, m2⟩, mf⟩ := q)); (try (have q := id yo1; obtain ⟨⟨e0, e1, e2, e3, e4, e5, e6, e7⟩, ef⟩ := q)); (try (have q := id yg1; obtain ⟨⟨d0, d1, d2⟩, df⟩ := q)))
            | (go_at_call 14; refine (CQ.out _ (S11.rd2 (by assumption))).mono ?_; rintro e u2 ⟨v2, rfl, ho2, hc2⟩; obtain ⟨A3, c3, rfl, hr2, ho2⟩ := own_parts ho2; have kb2 := own_block ho2; have hw2 : Below w1.heap.size w1 u2 := (by first | exact chain (S11.bel (by assumption)) hc2 | exact chain hw1 hc2 | exact chain hw1.drew hc2 | exact chain (Below.refl _ _).drew hc2 | exact after1 hc2 | exact chain (box1 _ _).drew hc2 | exact chain (chain hw1 (box1 _ _)) hc2 | exact chain (chain hw1 (box1 _ _)).drew hc2 | exact chain (chain (box1 _ _) (box1 _ _)) hc2 | exact chain (chain (box1 _ _) (box1 _ _)).drew hc2); (try (have hk2 : Below u1.heap.size u1 u2 := (by first | exact hc2 | exact chain (Below.refl _ _).drew hc2 | exact after1 hc2 | exact chain (box1 _ _).drew hc2 | exact chain (chain (box1 _ _) (box1 _ _)) hc2 | exact chain (chain (box1 _ _) (box1 _ _)).drew hc2))); (try (have yo2 := yo1.below hk2 yo1.lt)); (try (have yg2 := yg1.below hk2 yg1.lt)); (try (have ho1' := own_below ho1 hk2)); (try (first | (have yo2 := zb8d hc2) | (have yo2 := zb8 hc2))); (try (first | (have yg2 := zb3d hc2) | (have yg2 := zb3 hc2))); (try (first | (have q := zABd hc2; obtain ⟨yo2, yg2⟩ := q) | (have q := zAB hc2; obtain ⟨yo2, yg2⟩ := q) | (have q := zBAd hc2; obtain ⟨yg2, yo2⟩ := q) | (have q := zBA hc2; obtain ⟨yg2, yo2⟩ := q))); (try (have q := yo2.below (box1 u2 (.cells #[.int .i64 0, .int .i64 0, .slice none 0 0] 30)) yo2.lt; obtain ⟨⟨f0, f1, f2, f3, f4, f5, f6, f7⟩, ff⟩ := q)); (try (have q := yg2.below (box1 u2 (.cells #[.int .i64 0, .int .i64 0, .slice none 0 0, .bool false, .int .u8 0, .int .i64 0, .int .i64 0, .int .i64 0] 26)) yg2.lt; obtain ⟨⟨g0, g1, g2⟩, gf⟩ := q)); (try (have q := yg2.below (box1 u2 (.cells #[.int .i64 F, .int .i64 R, .slice A1 l.length c1, .bool bl, .int .u8 (ca : Int), .int .i64 ps, .int .i64 ha, .int .i64 fu] 26)) yg2.lt; obtain ⟨⟨i0, i1, i2⟩, iF⟩ := q)); (try (first | (have q := b3_set8 yg2 (Nat.ne_of_gt yo1.lt) (.int .i64 F) (.int .i64 R) (.slice A1 l.length c1) (.bool bl) (.int .u8 (ca : Int)) (.int .i64 ps) (.int .i64 ha) (.int .i64 fu); obtain ⟨⟨j0, j1, j2⟩, jf⟩ := q) | (have q := b3_set8 yg2 (Nat.ne_of_lt yg1.lt) (.int .i64 F) (.int .i64 R) (.slice A1 l.length c1) (.bool bl) (.int .u8 (ca : Int)) (.int .i64 ps) (.int .i64 ha) (.int .i64 fu); obtain ⟨⟨j0, j1, j2⟩, jf⟩ := q) | (have q := b3_set8 yg2 (Nat.succ_ne_self _) (.int .i64 F) (.int .i64 R) (.slice A1 l.length c1) (.bool bl) (.int .u8 (ca : Int)) (.int .i64 ps) (.int .i64 ha) (.int .i64 fu); obtain ⟨⟨j0, j1, j2⟩, jf⟩ := q) | (have q := b3_set8 yg2 (Nat.succ_ne_self _).symm (.int .i64 F) (.int .i64 R) (.slice A1 l.length c1) (.bool bl) (.int .u8 (ca : Int)) (.int .i64 ps) (.int .i64 ha) (.int .i64 fu); obtain ⟨⟨j0, j1, j2⟩, jf⟩ := q))); (try (have q := b3_set8 (box3 u2 0 0 (.slice none 0 0)) (Nat.ne_of_gt yo2.lt) (.int .i64 F) (.int .i64 R) (.slice A1 l.length c1) (.bool bl) (.int .u8 (ca : Int)) (.int .i64 ps) (.int .i64 ha) (.int .i64 fu); obtain ⟨⟨m0, m1, m2⟩, mf⟩ := q)); (try (have q := id yo2; obtain ⟨⟨e0, e1, e2, e3, e4, e5, e6, e7⟩, ef⟩ := q)); (try (have q := id yg2; obtain ⟨⟨d0, d1, d2⟩, df⟩ := q))))
        all_goals
          go_wp2_with fail
          (conv => arg 2; simp [Act.put])
          go_meet
          case rel =>
            refine ⟨_, _, A1, c1, A3, c3, rfl, rfl, ?_, ?_, ?_, ?_, S11.bel (by assumption)⟩
            · first
                | ((first | (have hh := yo2) | (have hh := yo1)); (first | (have hg := yg2) | (have hg := yg1)); (refine bx_set3 ?_ ?_ _ _ _); (first | (with_reducible exact st8 yo2 _ _ _ _ _ _ _ _) | (with_reducible exact st8 yo1 _ _ _ _ _ _ _ _)))
                | ((first | (have hh := yo2) | (have hh := yo1)); (refine bx_set3 ?_ ?_ _ _ _); (first | (with_reducible exact st8 (Bx8.below yo2 (box1 _ _) yo2.lt) _ _ _ _ _ _ _ _) | (with_reducible exact st8 (Bx8.below yo1 (box1 _ _) yo1.lt) _ _ _ _ _ _ _ _)))
                | ((first | (have hg := yg2) | (have hg := yg1)); (refine bx_set3 ?_ ?_ _ _ _); (exact box8 _ _ _ _ _ _ _ _ _))
                | (with_reducible refine Bx8.below (box8 u2 _ _ _ _ _ _ _ _) (box1 _ _) ?_)
                | (with_reducible refine Bx8.below (box8 u1 _ _ _ _ _ _ _ _) (box1 _ _) ?_)
                | (have q := box8 (u2.alloc (.cells #[.int .i64 F2, .int .i64 R2, .slice A3 l2.length c3] 30)) F R (.slice A1 l.length c1) bl ca ps ha fu; simp only [World.size_alloc] at q; with_reducible exact q)
                | (have q := box8 (u1.alloc (.cells #[.int .i64 F2, .int .i64 R2, .slice A3 l2.length c3] 30)) F R (.slice A1 l.length c1) bl ca ps ha fu; simp only [World.size_alloc] at q; with_reducible exact q)
              all_goals (have e1 := hw1.size; have e2 := hw2.size; have e3 := hc1.size; have e4 := hc2.size; (try simp at e3); (try simp at e4); (try (have l1 := yo2.lt)); (try (have l2 := yg2.lt)); (try (have l3 := yo1.lt)); (try (have l4 := yg1.lt)); (first | omega | (simp; done) | (simp; omega)))
            · first
                | ((first | (have hh := yo2) | (have hh := yo1)); (first | (have hg := yg2) | (have hg := yg1)); (first | (with_reducible refine st3 (b3_set8 yg2 ?_ _ _ _ _ _ _ _ _) _ _ _) | (with_reducible refine st3 (b3_set8 yg1 ?_ _ _ _ _ _ _ _ _) _ _ _)))
                | ((first | (have hh := yo2) | (have hh := yo1)); (first | (with_reducible refine st3 (b3_set8 (box3 u2 0 0 (.slice none 0 0)) ?_ _ _ _ _ _ _ _ _) _ _ _) | (with_reducible refine st3 (b3_set8 (box3 u1 0 0 (.slice none 0 0)) ?_ _ _ _ _ _ _ _ _) _ _ _)))
                | ((first | (have hg := yg2) | (have hg := yg1)); (first | (with_reducible exact st3 (Bx3.below yg2 (box1 _ _) yg2.lt) _ _ _) | (with_reducible exact st3 (Bx3.below yg1 (box1 _ _) yg1.lt) _ _ _)))
                | (with_reducible refine Bx3.below (box3 u2 _ _ _) (box1 _ _) ?_)
                | (with_reducible refine Bx3.below (box3 u1 _ _ _) (box1 _ _) ?_)
                | (have q := box3 (u2.alloc (.cells #[.int .i64 F, .int .i64 R, .slice A1 l.length c1, .bool bl, .int .u8 (ca : Int), .int .i64 ps, .int .i64 ha, .int .i64 fu] 26)) F2 R2 (.slice A3 l2.length c3); simp only [World.size_alloc] at q; with_reducible exact q)
                | (have q := box3 (u1.alloc (.cells #[.int .i64 F, .int .i64 R, .slice A1 l.length c1, .bool bl, .int .u8 (ca : Int), .int .i64 ps, .int .i64 ha, .int .i64 fu] 26)) F2 R2 (.slice A3 l2.length c3); simp only [World.size_alloc] at q; with_reducible exact q)
              all_goals (have e1 := hw1.size; have e2 := hw2.size; have e3 := hc1.size; have e4 := hc2.size; (try simp at e3); (try simp at e4); (try (have l1 := yo2.lt)); (try (have l2 := yg2.lt)); (try (have l3 := yo1.lt)); (try (have l4 := yg1.lt)); (first | omega | (simp; done) | (simp; omega)))
            · (repeat (with_reducible refine own_set ?_ ?_))
              first | (with_reducible refine World.ownsRow.mono ho1' ?_) | (with_reducible refine World.ownsRow.mono ho1 ?_) | (refine World.ownsRow.mono (own_all ho1') ?_) | (refine World.ownsRow.mono (own_all ho1) ?_) | (refine World.ownsRow.mono (own_all (own_all ho1')) ?_) | (refine World.ownsRow.mono (own_all (own_all ho1)) ?_)
              all_goals first | (intro ad had; have k1 := (kb1 ad had).1; have k2 := (kb1 ad had).2; (try simp at k1); have e1 := hw1.size; have e2 := hw2.size; have e3 := hc1.size; have e4 := hc2.size; (try simp at e3); (try simp at e4); (try (have l1 := yo2.lt)); (try (have l2 := yg2.lt)); (try (have l3 := yo1.lt)); (try (have l4 := yg1.lt)); (first | omega | (simp; done) | (simp; omega))) | (have e1 := hw1.size; have e2 := hw2.size; have e3 := hc1.size; have e4 := hc2.size; (try simp at e3); (try simp at e4); (try (have l1 := yo2.lt)); (try (have l2 := yg2.lt)); (try (have l3 := yo1.lt)); (try (have l4 := yg1.lt)); (first | omega | (simp; done) | (simp; omega)))
            · (repeat (with_reducible refine own_set ?_ ?_))
              first | (with_reducible refine World.ownsRow.mono ho2' ?_) | (with_reducible refine World.ownsRow.mono ho2 ?_) | (refine World.ownsRow.mono (own_all ho2') ?_) | (refine World.ownsRow.mono (own_all ho2) ?_) | (refine World.ownsRow.mono (own_all (own_all ho2')) ?_) | (refine World.ownsRow.mono (own_all (own_all ho2)) ?_)
              all_goals first | (intro ad had; have k1 := (kb2 ad had).1; have k2 := (kb2 ad had).2; (try simp at k1); have e1 := hw1.size; have e2 := hw2.size; have e3 := hc1.size; have e4 := hc2.size; (try simp at e3); (try simp at e4); (try (have l1 := yo2.lt)); (try (have l2 := yg2.lt)); (try (have l3 := yo1.lt)); (try (have l4 := yg1.lt)); (first | omega | (simp; done) | (simp; omega))) | (have e1 := hw1.size; have e2 := hw2.size; have e3 := hc1.size; have e4 := hc2.size; (try simp at e3); (try simp at e4); (try (have l1 := yo2.lt)); (try (have l2 := yg2.lt)); (try (have l3 := yo1.lt)); (try (have l4 := yg1.lt)); (first | omega | (simp; done) | (simp; omega)))
      case rest =>
        obtain ⟨bo, bg, AO, cO, AG, cG, rfl, rfl, hn, hg, hoO, hoG, hb0⟩ := hcut
        obtain ⟨W3, rfl⟩ : ∃ W3, W3 = wc := ⟨_, rfl⟩
        clear hS
        replace hx := hx.below hb0 hx.lt
        replace hz := hz.below hb0 hz.lt
        replace hA := rdBo hb0 hA
        replace hA2 := rdBo hb0 hA2
        replace hT := hT.below hb0
        replace hB := chain hB hb0
        clear hb0
        have hrO := own_rd hoO
        have hrG := own_rd hoG
        have kO := Lib.hid (fun ad had => (own_block hoO ad had).2)
        have kG := Lib.hid (fun ad had => (own_block hoG ad had).2)
        have sn := Lib.hid hn.lt
        have sg := Lib.hid hg.lt
        have sx := Lib.hid hx.lt
        have sz := Lib.hid hz.lt
        have sB := Lib.hid hB.size
        clear hoO hoG
        obtain ⟨⟨hx_0, hx_1, hx_2, hx_3, hx_4, hx_5, hx_6, hx_7⟩, hx_f⟩ := id hx
        go_wp2_with fail
        refine (pBoard_any F R l A c bl ca ps ha fu _ h100.out hA).mono ?_
        rintro e w4 ⟨vC, rfl, hoC, b4⟩
        clear hx_0 hx_1 hx_2 hx_3 hx_4 hx_5 hx_6 hx_7 hx_f
        obtain ⟨AC, cC, rfl, hrC, hoC⟩ := own_parts hoC
        have hkC := own_block hoC
        have zC := Lib.hid b4.size
        replace hx := hx.below b4 hx.lt
        replace hz := hz.below b4 hz.lt
        replace hn := hn.below b4 hn.lt
        replace hg := hg.below b4 hg.lt
        replace hA := rdBo b4 hA
        replace hA2 := rdBo b4 hA2
        replace hrO := rdBo b4 hrO
        replace hrG := rdBo b4 hrG
        replace hT := hT.below b4
        replace hB := chain hB b4
        clear b4
        have hc := box3 w4 F R (.slice AC l.length cC)
        have bx := box1 w4 (.cells #[.int .i64 F, .int .i64 R, .slice AC l.length cC] 30)
        replace hx := hx.below bx hx.lt
        replace hz := hz.below bx hz.lt
        replace hn := hn.below bx hn.lt
        replace hg := hg.below bx hg.lt
        replace hA := rdBo bx hA
        replace hA2 := rdBo bx hA2
        replace hrO := rdBo bx hrO
        replace hrG := rdBo bx hrG
        replace hrC := rdBo bx hrC
        replace hoC := own_below hoC bx
        replace hT := hT.below bx
        replace hB := chain hB bx
        clear bx
        have s45 : Hid (w4.heap.size < (w4.alloc (.cells #[.int .i64 F, .int .i64 R, .slice AC l.length cC] 30)).heap.size) := Lib.hid (by simp)
        have shc := Lib.hid hc.lt
        obtain ⟨⟨hx_0, hx_1, hx_2, hx_3, hx_4, hx_5, hx_6, hx_7⟩, hx_f⟩ := id hx
        obtain ⟨⟨hz_0, hz_1, hz_2⟩, hz_f⟩ := id hz
        obtain ⟨⟨hc_0, hc_1, hc_2⟩, hc_f⟩ := id hc
        go_wp2_with fail
        clear hx_0 hx_1 hx_2 hx_3 hx_4 hx_5 hx_6 hx_7 hx_f hz_0 hz_1 hz_2 hz_f hc_0 hc_1 hc_2 hc_f
        generalize hwd : w4.alloc (.cells #[.int .i64 F, .int .i64 R, .slice AC l.length cC] 30) = wd at *
        clear hwd
        cases t1 with
        | false =>
          refine (pOf_any F2 R2 l2 A2 c2 bk _ h200.out hcap2 hT hA2).mono ?_
          rw [ht1]
          rintro e w5 ⟨rfl, b5⟩
          have s5 := Lib.hid b5.size
          replace hx := hx.below b5 hx.lt
          replace hz := hz.below b5 hz.lt
          replace hn := hn.below b5 hn.lt
          replace hg := hg.below b5 hg.lt
          replace hc := hc.below b5 hc.lt
          replace hA := rdBo b5 hA
          replace hA2 := rdBo b5 hA2
          replace hrO := rdBo b5 hrO
          replace hrG := rdBo b5 hrG
          replace hrC := rdBo b5 hrC
          replace hoC := own_below hoC b5
          replace hT := hT.below b5
          replace hB := chain hB b5
          clear b5
          have hq : Bx8 (w5.alloc (.cells #[.int .i64 0, .int .i64 0, .slice none 0 0, .bool false, .int .u8 0, .int .i64 0, .int .i64 0, .int .i64 0] 26)) w5.heap.size 0 0 (.slice none 0 0) false 0 0 0 0 := box8 w5 0 0 (.slice none 0 0) false 0 0 0 0
          have bx := box1 w5 (.cells #[.int .i64 0, .int .i64 0, .slice none 0 0, .bool false, .int .u8 0, .int .i64 0, .int .i64 0, .int .i64 0] 26)
          replace hx := hx.below bx hx.lt
          replace hz := hz.below bx hz.lt
          replace hn := hn.below bx hn.lt
          replace hg := hg.below bx hg.lt
          replace hc := hc.below bx hc.lt
          replace hA := rdBo bx hA
          replace hA2 := rdBo bx hA2
          replace hrO := rdBo bx hrO
          replace hrG := rdBo bx hrG
          replace hrC := rdBo bx hrC
          replace hoC := own_below hoC bx
          replace hT := hT.below bx
          replace hB := chain hB bx
          clear bx
          go_upto_region 6 with fail
          generalize hwe : w5.alloc (.cells #[.int .i64 0, .int .i64 0, .slice none 0 0, .bool false, .int .u8 0, .int .i64 0, .int .i64 0, .int .i64 0] 26) = we at *
          clear hwe
          have G0 := Lib.hid (fun (n : Nat) (os : Array Obj) => rOf_any F R l A c bl ca ps ha fu (Go.Sort.grow (redrawn we n) os))
          have G1 := Lib.hid (fun (n : Nat) (os : Array Obj) => same_yes F R l AC A cC c (Go.Sort.grow (redrawn we n) os) h100.out (rdBo (below_regrown we n os) hrC) (rdBo (below_regrown we n os) hA))
          obtain ⟨⟨hx_0, hx_1, hx_2, hx_3, hx_4, hx_5, hx_6, hx_7⟩, hx_f⟩ := id hx
          obtain ⟨⟨hc_0, hc_1, hc_2⟩, hc_f⟩ := id hc
          have shx0 := cell_regrown hx_0
          have shx1 := cell_regrown hx_1
          have shx2 := cell_regrown hx_2
          have shx3 := cell_regrown hx_3
          have shx4 := cell_regrown hx_4
          have shx5 := cell_regrown hx_5
          have shx6 := cell_regrown hx_6
          have shx7 := cell_regrown hx_7
          have shc0 := cell_regrown hc_0
          have shc1 := cell_regrown hc_1
          have shc2 := cell_regrown hc_2
          refine wp_region_quiet_below (by kernel_rfl) (by kernel_rfl) ?_
          repeat (go_big_quiet_step ((first | (go_at_call 18; exact Calls.regrown_of (G0.out _ _)) | (go_at_call 17; exact Calls.regrown_of (G1.out _ _)))))
          refine wpQuiet_nil ?_
          intro _ hw'
          obtain ⟨⟨dq, osq⟩, hw''⟩ := hw'
          subst hw''
          clear hx_0 hx_1 hx_2 hx_3 hx_4 hx_5 hx_6 hx_7 hx_f hc_0 hc_1 hc_2 hc_f
          clear G0 G1 shx0 shx1 shx2 shx3 shx4 shx5 shx6 shx7 shc0 shc1 shc2
          have bq := below_regrown we dq osq
          replace hx := hx.below bq hx.lt
          replace hz := hz.below bq hz.lt
          replace hn := hn.below bq hn.lt
          replace hg := hg.below bq hg.lt
          replace hc := hc.below bq hc.lt
          replace hq := hq.below bq hq.lt
          replace hA := rdBo bq hA
          replace hA2 := rdBo bq hA2
          replace hrO := rdBo bq hrO
          replace hrG := rdBo bq hrG
          replace hrC := rdBo bq hrC
          replace hoC := own_below hoC bq
          replace hT := hT.below bq
          replace hB := chain hB bq
          clear bq
          generalize Go.Sort.grow (redrawn we dq) osq = wv at *
          obtain ⟨⟨hz_0, hz_1, hz_2⟩, hz_f⟩ := id hz
          obtain ⟨⟨hc_0, hc_1, hc_2⟩, hc_f⟩ := id hc
          go_wp2_with fail
          refine (rBegin_any F2 R2 l2 A2 c2 bk _ h200.out hA2).mono ?_
          rintro e w6 ⟨vW, rfl, hoW, b6⟩
          clear hz_0 hz_1 hz_2 hz_f hc_0 hc_1 hc_2 hc_f
          obtain ⟨AW, cW, rfl, hrW, hoW⟩ := own_parts hoW
          have hkW := own_block hoW
          have zW := Lib.hid b6.size
          replace hx := hx.below b6 hx.lt
          replace hz := hz.below b6 hz.lt
          replace hn := hn.below b6 hn.lt
          replace hg := hg.below b6 hg.lt
          replace hc := hc.below b6 hc.lt
          replace hq := hq.below b6 hq.lt
          replace hA := rdBo b6 hA
          replace hA2 := rdBo b6 hA2
          replace hrO := rdBo b6 hrO
          replace hrG := rdBo b6 hrG
          replace hrC := rdBo b6 hrC
          replace hoC := own_below hoC b6
          replace hT := hT.below b6
          replace hB := chain hB b6
          clear b6
          have hw : Bx8 (w6.alloc (.cells #[.int .i64 F2, .int .i64 R2, .slice AW l2.length cW, .bool bk, .int .u8 0, .int .i64 (-1), .int .i64 0, .int .i64 1] 26)) w6.heap.size F2 R2 (.slice AW l2.length cW) bk 0 (-1) 0 1 := box8 w6 F2 R2 (.slice AW l2.length cW) bk 0 (-1) 0 1
          have bx := box1 w6 (.cells #[.int .i64 F2, .int .i64 R2, .slice AW l2.length cW, .bool bk, .int .u8 0, .int .i64 (-1), .int .i64 0, .int .i64 1] 26)
          replace hx := hx.below bx hx.lt
          replace hz := hz.below bx hz.lt
          replace hn := hn.below bx hn.lt
          replace hg := hg.below bx hg.lt
          replace hc := hc.below bx hc.lt
          replace hq := hq.below bx hq.lt
          replace hA := rdBo bx hA
          replace hA2 := rdBo bx hA2
          replace hrO := rdBo bx hrO
          replace hrG := rdBo bx hrG
          replace hrC := rdBo bx hrC
          replace hrW := rdBo bx hrW
          replace hoC := own_below hoC bx
          replace hoW := own_below hoW bx
          replace hT := hT.below bx
          replace hB := chain hB bx
          clear bx
          have HVW := Lib.hid (fun W hA => rValid_any F2 R2 l2 AW cW bk 0 (-1) 0 1 (by omega) h200.out W hA)
          rw [ht1] at HVW
          obtain ⟨⟨hw_0, hw_1, hw_2, hw_3, hw_4, hw_5, hw_6, hw_7⟩, hw_f⟩ := id hw
          go_wp2_with fail
          refine (HVW.out _ hrW).mono ?_
          rintro e w7 ⟨rfl, b7⟩
          clear hw_0 hw_1 hw_2 hw_3 hw_4 hw_5 hw_6 hw_7 hw_f
          replace hx := hx.below b7 hx.lt
          replace hz := hz.below b7 hz.lt
          replace hn := hn.below b7 hn.lt
          replace hg := hg.below b7 hg.lt
          replace hc := hc.below b7 hc.lt
          replace hq := hq.below b7 hq.lt
          replace hw := hw.below b7 hw.lt
          replace hA := rdBo b7 hA
          replace hA2 := rdBo b7 hA2
          replace hrO := rdBo b7 hrO
          replace hrG := rdBo b7 hrG
          replace hrC := rdBo b7 hrC
          replace hrW := rdBo b7 hrW
          replace hoC := own_below hoC b7
          replace hoW := own_below hoW b7
          replace hT := hT.below b7
          replace hB := chain hB b7
          clear b7
          obtain ⟨⟨hw_0, hw_1, hw_2, hw_3, hw_4, hw_5, hw_6, hw_7⟩, hw_f⟩ := id hw
          obtain ⟨⟨hq_0, hq_1, hq_2, hq_3, hq_4, hq_5, hq_6, hq_7⟩, hq_f⟩ := id hq
          go_wp2_with fail
          refine (eqZ_all _).mono ?_
          rintro e w8 ⟨rfl, b8⟩
          clear hw_0 hw_1 hw_2 hw_3 hw_4 hw_5 hw_6 hw_7 hw_f hq_0 hq_1 hq_2 hq_3 hq_4 hq_5 hq_6 hq_7 hq_f
          replace hx := hx.below b8 hx.lt
          replace hz := hz.below b8 hz.lt
          replace hn := hn.below b8 hn.lt
          replace hg := hg.below b8 hg.lt
          replace hc := hc.below b8 hc.lt
          replace hq := hq.below b8 hq.lt
          replace hw := hw.below b8 hw.lt
          replace hA := rdBo b8 hA
          replace hA2 := rdBo b8 hA2
          replace hrO := rdBo b8 hrO
          replace hrG := rdBo b8 hrG
          replace hrC := rdBo b8 hrC
          replace hrW := rdBo b8 hrW
          replace hoC := own_below hoC b8
          replace hoW := own_below hoW b8
          replace hT := hT.below b8
          replace hB := chain hB b8
          clear b8
          obtain ⟨⟨hc_0, hc_1, hc_2⟩, hc_f⟩ := id hc
          go_wp2_with fail
          clear hc_0 hc_1 hc_2 hc_f
          have hI := Inc.start hoC (fun ad had => (hkC ad had).2)
          have z3 := zC.out
          have z5 := s5.out
          have z45 := s45.out
          have zx := sx.out
          have zz := sz.out
          have zB := sB.out
          go_loopw [13, 66] (fun _ i wr => ∃ k : Nat, k ≤ l.length ∧ i = .int .i64 k ∧ Inc w8 W3.heap.size w4.heap.size 41 AC cC l.length wr) (fun _ i _ => l.length - (intOf i).toNat)
          case atStart => exact ⟨0, by omega, rfl, hI⟩
          case round =>
            obtain ⟨k, hk, rfl, hJ⟩ := hrel
            have hy2 := hJ.box3 hc (Or.inr (Nat.le_refl _))
            by_cases hlt : k < l.length
            · obtain ⟨g, hgg, ⟨xk, hxk⟩, hf, hst⟩ := hJ.at_ hlt
              subst hgg
              obtain ⟨⟨y0, y1, y2⟩, yf⟩ := id hy2
              go_wp2
              go_roundw
              case rel => exact ⟨k + 1, by omega, by go_num, hst _⟩
              case measure => simp [intOf]; omega
            · have hkl : k = l.length := by omega
              subst hkl
              obtain ⟨wa, rfl⟩ : ∃ wa, wa = wr := ⟨_, rfl⟩
              replace hx := hJ.box hx (Or.inl (by omega))
              replace hz := hJ.box3 hz (Or.inl (by omega))
              replace hn := hJ.box hn (Or.inl sn.out)
              replace hg := hJ.box3 hg (Or.inl sg.out)
              replace hq := hJ.box hq (Or.inr (by omega))
              replace hA := hJ.rd hA (fun hl ad had => Or.inl (by have := zA.out hl ad had; omega))
              replace hA2 := hJ.rd hA2 (fun hl ad had => Or.inl (by have := zA2.out hl ad had; omega))
              replace hrO := hJ.rd hrO (fun _ ad had => Or.inl (kO.out ad had))
              replace hrG := hJ.rd hrG (fun _ ad had => Or.inl (kG.out ad had))
              replace hB := hJ.below hB (by omega)
              clear hI hJ hoC hoW hrC hrW hkC hkW hc hw hT hy2
              obtain ⟨⟨hq_0, hq_1, hq_2, hq_3, hq_4, hq_5, hq_6, hq_7⟩, hq_f⟩ := id hq
              go_wp2_with fail
              clear hq_0 hq_1 hq_2 hq_3 hq_4 hq_5 hq_6 hq_7 hq_f
              go_loopw [14, 80] (fun _ i wr => i = .int .i64 0 ∧ wr = wa) (fun _ i _ => 0)
              case atStart => exact ⟨rfl, by first | rfl | trivial⟩
              case round =>
                obtain ⟨rfl, rfl⟩ := hrel
                clear hq
                have hT := hT0.out.below hB
                have HEO := Lib.hid (fun W h1 h2 => rEqualP_any F R l AO cO bl ca ps ha fu F R l A c bl ca ps ha fu W h100.out h1 h2)
                simp only [poEq_self] at HEO
                have HSG := Lib.hid (fun W h1 h2 => same_yes F2 R2 l2 AG A2 cG c2 W h200.out h1 h2)
                obtain ⟨⟨hx_0, hx_1, hx_2, hx_3, hx_4, hx_5, hx_6, hx_7⟩, hx_f⟩ := id hx
                obtain ⟨⟨hn_0, hn_1, hn_2, hn_3, hn_4, hn_5, hn_6, hn_7⟩, hn_f⟩ := id hn
                go_wp2_with fail
                refine (HEO.out _ hrO hA).mono ?_
                rintro e w20 ⟨rfl, b20⟩
                clear hx_0 hx_1 hx_2 hx_3 hx_4 hx_5 hx_6 hx_7 hx_f hn_0 hn_1 hn_2 hn_3 hn_4 hn_5 hn_6 hn_7 hn_f
                replace hx := hx.below b20 hx.lt
                replace hz := hz.below b20 hz.lt
                replace hn := hn.below b20 hn.lt
                replace hg := hg.below b20 hg.lt
                replace hA := rdBo b20 hA
                replace hA2 := rdBo b20 hA2
                replace hrO := rdBo b20 hrO
                replace hrG := rdBo b20 hrG
                replace hT := hT.below b20
                replace hB := chain hB b20
                clear b20
                obtain ⟨⟨hz_0, hz_1, hz_2⟩, hz_f⟩ := id hz
                obtain ⟨⟨hg_0, hg_1, hg_2⟩, hg_f⟩ := id hg
                go_wp2_with fail
                refine (HSG.out _ hrG hA2).mono ?_
                rintro e w21 ⟨rfl, b21⟩
                clear hz_0 hz_1 hz_2 hz_f hg_0 hg_1 hg_2 hg_f
                replace hx := hx.below b21 hx.lt
                replace hz := hz.below b21 hz.lt
                replace hn := hn.below b21 hn.lt
                replace hg := hg.below b21 hg.lt
                replace hA := rdBo b21 hA
                replace hA2 := rdBo b21 hA2
                replace hrO := rdBo b21 hrO
                replace hrG := rdBo b21 hrG
                replace hT := hT.below b21
                replace hB := chain hB b21
                clear b21
                go_wp2_with fail
                refine (HK.out _ hT).mono ?_
                rintro e w22 ⟨rfl, b22⟩
                replace hx := hx.below b22 hx.lt
                replace hz := hz.below b22 hz.lt
                replace hn := hn.below b22 hn.lt
                replace hg := hg.below b22 hg.lt
                replace hA := rdBo b22 hA
                replace hA2 := rdBo b22 hA2
                replace hrO := rdBo b22 hrO
                replace hrG := rdBo b22 hrG
                replace hT := hT.below b22
                replace hB := chain hB b22
                clear b22
                go_wp2
                go_ret
                exact ⟨by rfl, hB⟩
        | true =>
          refine (pOf_any F2 R2 l2 A2 c2 bk _ h200.out hcap2 hT hA2).mono ?_
          rw [ht1]
          rintro e w5 ⟨vQ, rfl, hoQ, b5⟩
          obtain ⟨AQ, cQ, rfl, hrQ, hoQ⟩ := own_parts hoQ
          have hkQ := own_block hoQ
          have s5 := Lib.hid b5.size
          replace hx := hx.below b5 hx.lt
          replace hz := hz.below b5 hz.lt
          replace hn := hn.below b5 hn.lt
          replace hg := hg.below b5 hg.lt
          replace hc := hc.below b5 hc.lt
          replace hA := rdBo b5 hA
          replace hA2 := rdBo b5 hA2
          replace hrO := rdBo b5 hrO
          replace hrG := rdBo b5 hrG
          replace hrC := rdBo b5 hrC
          replace hoC := own_below hoC b5
          replace hT := hT.below b5
          replace hB := chain hB b5
          clear b5
          have hq : Bx8 (w5.alloc (.cells #[.int .i64 F2, .int .i64 R2, .slice AQ l2.length cQ, .bool bk, .int .u8 0, .int .i64 (-1), .int .i64 0, .int .i64 1] 26)) w5.heap.size F2 R2 (.slice AQ l2.length cQ) bk 0 (-1) 0 1 := box8 w5 F2 R2 (.slice AQ l2.length cQ) bk 0 (-1) 0 1
          have bx := box1 w5 (.cells #[.int .i64 F2, .int .i64 R2, .slice AQ l2.length cQ, .bool bk, .int .u8 0, .int .i64 (-1), .int .i64 0, .int .i64 1] 26)
          replace hx := hx.below bx hx.lt
          replace hz := hz.below bx hz.lt
          replace hn := hn.below bx hn.lt
          replace hg := hg.below bx hg.lt
          replace hc := hc.below bx hc.lt
          replace hA := rdBo bx hA
          replace hA2 := rdBo bx hA2
          replace hrO := rdBo bx hrO
          replace hrG := rdBo bx hrG
          replace hrC := rdBo bx hrC
          replace hrQ := rdBo bx hrQ
          replace hoC := own_below hoC bx
          replace hoQ := own_below hoQ bx
          replace hT := hT.below bx
          replace hB := chain hB bx
          clear bx
          go_upto_region 6 with fail
          generalize hwe : w5.alloc (.cells #[.int .i64 F2, .int .i64 R2, .slice AQ l2.length cQ, .bool bk, .int .u8 0, .int .i64 (-1), .int .i64 0, .int .i64 1] 26) = we at *
          clear hwe
          have G0 := Lib.hid (fun (n : Nat) (os : Array Obj) => rOf_any F R l A c bl ca ps ha fu (Go.Sort.grow (redrawn we n) os))
          have G1 := Lib.hid (fun (n : Nat) (os : Array Obj) => same_yes F R l AC A cC c (Go.Sort.grow (redrawn we n) os) h100.out (rdBo (below_regrown we n os) hrC) (rdBo (below_regrown we n os) hA))
          obtain ⟨⟨hx_0, hx_1, hx_2, hx_3, hx_4, hx_5, hx_6, hx_7⟩, hx_f⟩ := id hx
          obtain ⟨⟨hc_0, hc_1, hc_2⟩, hc_f⟩ := id hc
          have shx0 := cell_regrown hx_0
          have shx1 := cell_regrown hx_1
          have shx2 := cell_regrown hx_2
          have shx3 := cell_regrown hx_3
          have shx4 := cell_regrown hx_4
          have shx5 := cell_regrown hx_5
          have shx6 := cell_regrown hx_6
          have shx7 := cell_regrown hx_7
          have shc0 := cell_regrown hc_0
          have shc1 := cell_regrown hc_1
          have shc2 := cell_regrown hc_2
          refine wp_region_quiet_below (by kernel_rfl) (by kernel_rfl) ?_
          repeat (go_big_quiet_step ((first | (go_at_call 18; exact Calls.regrown_of (G0.out _ _)) | (go_at_call 17; exact Calls.regrown_of (G1.out _ _)))))
          refine wpQuiet_nil ?_
          intro _ hw'
          obtain ⟨⟨dq, osq⟩, hw''⟩ := hw'
          subst hw''
          clear hx_0 hx_1 hx_2 hx_3 hx_4 hx_5 hx_6 hx_7 hx_f hc_0 hc_1 hc_2 hc_f
          clear G0 G1 shx0 shx1 shx2 shx3 shx4 shx5 shx6 shx7 shc0 shc1 shc2
          have bq := below_regrown we dq osq
          replace hx := hx.below bq hx.lt
          replace hz := hz.below bq hz.lt
          replace hn := hn.below bq hn.lt
          replace hg := hg.below bq hg.lt
          replace hc := hc.below bq hc.lt
          replace hq := hq.below bq hq.lt
          replace hA := rdBo bq hA
          replace hA2 := rdBo bq hA2
          replace hrO := rdBo bq hrO
          replace hrG := rdBo bq hrG
          replace hrC := rdBo bq hrC
          replace hrQ := rdBo bq hrQ
          replace hoC := own_below hoC bq
          replace hoQ := own_below hoQ bq
          replace hT := hT.below bq
          replace hB := chain hB bq
          clear bq
          generalize Go.Sort.grow (redrawn we dq) osq = wv at *
          obtain ⟨⟨hz_0, hz_1, hz_2⟩, hz_f⟩ := id hz
          obtain ⟨⟨hc_0, hc_1, hc_2⟩, hc_f⟩ := id hc
          go_wp2_with fail
          refine (rBegin_any F2 R2 l2 A2 c2 bk _ h200.out hA2).mono ?_
          rintro e w6 ⟨vW, rfl, hoW, b6⟩
          clear hz_0 hz_1 hz_2 hz_f hc_0 hc_1 hc_2 hc_f
          obtain ⟨AW, cW, rfl, hrW, hoW⟩ := own_parts hoW
          have hkW := own_block hoW
          have zW := Lib.hid b6.size
          replace hx := hx.below b6 hx.lt
          replace hz := hz.below b6 hz.lt
          replace hn := hn.below b6 hn.lt
          replace hg := hg.below b6 hg.lt
          replace hc := hc.below b6 hc.lt
          replace hq := hq.below b6 hq.lt
          replace hA := rdBo b6 hA
          replace hA2 := rdBo b6 hA2
          replace hrO := rdBo b6 hrO
          replace hrG := rdBo b6 hrG
          replace hrC := rdBo b6 hrC
          replace hrQ := rdBo b6 hrQ
          replace hoC := own_below hoC b6
          replace hoQ := own_below hoQ b6
          replace hT := hT.below b6
          replace hB := chain hB b6
          clear b6
          have hw : Bx8 (w6.alloc (.cells #[.int .i64 F2, .int .i64 R2, .slice AW l2.length cW, .bool bk, .int .u8 0, .int .i64 (-1), .int .i64 0, .int .i64 1] 26)) w6.heap.size F2 R2 (.slice AW l2.length cW) bk 0 (-1) 0 1 := box8 w6 F2 R2 (.slice AW l2.length cW) bk 0 (-1) 0 1
          have bx := box1 w6 (.cells #[.int .i64 F2, .int .i64 R2, .slice AW l2.length cW, .bool bk, .int .u8 0, .int .i64 (-1), .int .i64 0, .int .i64 1] 26)
          replace hx := hx.below bx hx.lt
          replace hz := hz.below bx hz.lt
          replace hn := hn.below bx hn.lt
          replace hg := hg.below bx hg.lt
          replace hc := hc.below bx hc.lt
          replace hq := hq.below bx hq.lt
          replace hA := rdBo bx hA
          replace hA2 := rdBo bx hA2
          replace hrO := rdBo bx hrO
          replace hrG := rdBo bx hrG
          replace hrC := rdBo bx hrC
          replace hrQ := rdBo bx hrQ
          replace hrW := rdBo bx hrW
          replace hoC := own_below hoC bx
          replace hoQ := own_below hoQ bx
          replace hoW := own_below hoW bx
          replace hT := hT.below bx
          replace hB := chain hB bx
          clear bx
          have HVW := Lib.hid (fun W hA => rValid_any F2 R2 l2 AW cW bk 0 (-1) 0 1 (by omega) h200.out W hA)
          rw [ht1] at HVW
          obtain ⟨⟨hw_0, hw_1, hw_2, hw_3, hw_4, hw_5, hw_6, hw_7⟩, hw_f⟩ := id hw
          go_wp2_with fail
          refine (HVW.out _ hrW).mono ?_
          rintro e w7 ⟨rfl, b7⟩
          clear hw_0 hw_1 hw_2 hw_3 hw_4 hw_5 hw_6 hw_7 hw_f
          replace hx := hx.below b7 hx.lt
          replace hz := hz.below b7 hz.lt
          replace hn := hn.below b7 hn.lt
          replace hg := hg.below b7 hg.lt
          replace hc := hc.below b7 hc.lt
          replace hq := hq.below b7 hq.lt
          replace hw := hw.below b7 hw.lt
          replace hA := rdBo b7 hA
          replace hA2 := rdBo b7 hA2
          replace hrO := rdBo b7 hrO
          replace hrG := rdBo b7 hrG
          replace hrC := rdBo b7 hrC
          replace hrQ := rdBo b7 hrQ
          replace hrW := rdBo b7 hrW
          replace hoC := own_below hoC b7
          replace hoQ := own_below hoQ b7
          replace hoW := own_below hoW b7
          replace hT := hT.below b7
          replace hB := chain hB b7
          clear b7
          have HE := Lib.hid (fun W h1 h2 => rEqualP_any F2 R2 l2 AQ cQ bk 0 (-1) 0 1 F2 R2 l2 AW cW bk 0 (-1) 0 1 W h200.out h1 h2)
          simp only [poEq_self] at HE
          obtain ⟨⟨hw_0, hw_1, hw_2, hw_3, hw_4, hw_5, hw_6, hw_7⟩, hw_f⟩ := id hw
          obtain ⟨⟨hq_0, hq_1, hq_2, hq_3, hq_4, hq_5, hq_6, hq_7⟩, hq_f⟩ := id hq
          go_wp2_with fail
          refine (HE.out _ hrQ hrW).mono ?_
          rintro e w8 ⟨rfl, b8⟩
          clear hw_0 hw_1 hw_2 hw_3 hw_4 hw_5 hw_6 hw_7 hw_f hq_0 hq_1 hq_2 hq_3 hq_4 hq_5 hq_6 hq_7 hq_f
          replace hx := hx.below b8 hx.lt
          replace hz := hz.below b8 hz.lt
          replace hn := hn.below b8 hn.lt
          replace hg := hg.below b8 hg.lt
          replace hc := hc.below b8 hc.lt
          replace hq := hq.below b8 hq.lt
          replace hw := hw.below b8 hw.lt
          replace hA := rdBo b8 hA
          replace hA2 := rdBo b8 hA2
          replace hrO := rdBo b8 hrO
          replace hrG := rdBo b8 hrG
          replace hrC := rdBo b8 hrC
          replace hrQ := rdBo b8 hrQ
          replace hrW := rdBo b8 hrW
          replace hoC := own_below hoC b8
          replace hoQ := own_below hoQ b8
          replace hoW := own_below hoW b8
          replace hT := hT.below b8
          replace hB := chain hB b8
          clear b8
          obtain ⟨⟨hc_0, hc_1, hc_2⟩, hc_f⟩ := id hc
          go_wp2_with fail
          clear hc_0 hc_1 hc_2 hc_f
          have hI := Inc.start hoC (fun ad had => (hkC ad had).2)
          have z3 := zC.out
          have z5 := s5.out
          have z45 := s45.out
          have zx := sx.out
          have zz := sz.out
          have zB := sB.out
          go_loopw [13, 66] (fun _ i wr => ∃ k : Nat, k ≤ l.length ∧ i = .int .i64 k ∧ Inc w8 W3.heap.size w4.heap.size 41 AC cC l.length wr) (fun _ i _ => l.length - (intOf i).toNat)
          case atStart => exact ⟨0, by omega, rfl, hI⟩
          case round =>
            obtain ⟨k, hk, rfl, hJ⟩ := hrel
            have hy2 := hJ.box3 hc (Or.inr (Nat.le_refl _))
            by_cases hlt : k < l.length
            · obtain ⟨g, hgg, ⟨xk, hxk⟩, hf, hst⟩ := hJ.at_ hlt
              subst hgg
              obtain ⟨⟨y0, y1, y2⟩, yf⟩ := id hy2
              go_wp2
              go_roundw
              case rel => exact ⟨k + 1, by omega, by go_num, hst _⟩
              case measure => simp [intOf]; omega
            · have hkl : k = l.length := by omega
              subst hkl
              obtain ⟨wa, rfl⟩ : ∃ wa, wa = wr := ⟨_, rfl⟩
              replace hx := hJ.box hx (Or.inl (by omega))
              replace hz := hJ.box3 hz (Or.inl (by omega))
              replace hn := hJ.box hn (Or.inl sn.out)
              replace hg := hJ.box3 hg (Or.inl sg.out)
              replace hq := hJ.box hq (Or.inr (by omega))
              replace hA := hJ.rd hA (fun hl ad had => Or.inl (by have := zA.out hl ad had; omega))
              replace hA2 := hJ.rd hA2 (fun hl ad had => Or.inl (by have := zA2.out hl ad had; omega))
              replace hrO := hJ.rd hrO (fun _ ad had => Or.inl (kO.out ad had))
              replace hrG := hJ.rd hrG (fun _ ad had => Or.inl (kG.out ad had))
              replace hoQ := hJ.own hoQ (fun ad had => Or.inr (by have := (hkQ ad had).1; omega))
              replace hB := hJ.below hB (by omega)
              clear hI hJ hoC hoW hrC hrW hkC hkW hc hw hT hy2
              obtain ⟨⟨hq_0, hq_1, hq_2, hq_3, hq_4, hq_5, hq_6, hq_7⟩, hq_f⟩ := id hq
              go_wp2_with fail
              clear hq_0 hq_1 hq_2 hq_3 hq_4 hq_5 hq_6 hq_7 hq_f
              have hI2 := Inc.start hoQ (fun ad had => (hkQ ad had).2)
              go_loopw [14, 80] (fun _ i wr => ∃ k : Nat, k ≤ l2.length ∧ i = .int .i64 k ∧ Inc wa wd.heap.size w5.heap.size 41 AQ cQ l2.length wr) (fun _ i _ => l2.length - (intOf i).toNat)
              case atStart => exact ⟨0, by omega, rfl, hI2⟩
              case round =>
                obtain ⟨k, hk, rfl, hJ⟩ := hrel
                have hy2 := hJ.box hq (Or.inr (Nat.le_refl _))
                by_cases hlt : k < l2.length
                · obtain ⟨g, hgg, ⟨xk, hxk⟩, hf, hst⟩ := hJ.at_ hlt
                  subst hgg
                  obtain ⟨⟨y0, y1, y2, y3, y4, y5, y6, y7⟩, yf⟩ := id hy2
                  go_wp2
                  go_roundw
                  case rel => exact ⟨k + 1, by omega, by go_num, hst _⟩
                  case measure => simp [intOf]; omega
                · have hkl : k = l2.length := by omega
                  subst hkl
                  obtain ⟨wb, rfl⟩ : ∃ wb, wb = wr := ⟨_, rfl⟩
                  replace hx := hJ.box hx (Or.inl (by omega))
                  replace hz := hJ.box3 hz (Or.inl (by omega))
                  replace hn := hJ.box hn (Or.inl (by have := sn.out; omega))
                  replace hg := hJ.box3 hg (Or.inl (by have := sg.out; omega))
                  replace hA := hJ.rd hA (fun hl ad had => Or.inl (by have := zA.out hl ad had; omega))
                  replace hA2 := hJ.rd hA2 (fun hl ad had => Or.inl (by have := zA2.out hl ad had; omega))
                  replace hrO := hJ.rd hrO (fun _ ad had => Or.inl (by have := kO.out ad had; omega))
                  replace hrG := hJ.rd hrG (fun _ ad had => Or.inl (by have := kG.out ad had; omega))
                  replace hB := hJ.below hB (by omega)
                  clear hI2 hJ hoQ hkQ hq hy2
                  have hT := hT0.out.below hB
                  have HEO := Lib.hid (fun W h1 h2 => rEqualP_any F R l AO cO bl ca ps ha fu F R l A c bl ca ps ha fu W h100.out h1 h2)
                  simp only [poEq_self] at HEO
                  have HSG := Lib.hid (fun W h1 h2 => same_yes F2 R2 l2 AG A2 cG c2 W h200.out h1 h2)
                  obtain ⟨⟨hx_0, hx_1, hx_2, hx_3, hx_4, hx_5, hx_6, hx_7⟩, hx_f⟩ := id hx
                  obtain ⟨⟨hn_0, hn_1, hn_2, hn_3, hn_4, hn_5, hn_6, hn_7⟩, hn_f⟩ := id hn
                  go_wp2_with fail
                  refine (HEO.out _ hrO hA).mono ?_
                  rintro e w20 ⟨rfl, b20⟩
                  clear hx_0 hx_1 hx_2 hx_3 hx_4 hx_5 hx_6 hx_7 hx_f hn_0 hn_1 hn_2 hn_3 hn_4 hn_5 hn_6 hn_7 hn_f
                  replace hx := hx.below b20 hx.lt
                  replace hz := hz.below b20 hz.lt
                  replace hn := hn.below b20 hn.lt
                  replace hg := hg.below b20 hg.lt
                  replace hA := rdBo b20 hA
                  replace hA2 := rdBo b20 hA2
                  replace hrO := rdBo b20 hrO
                  replace hrG := rdBo b20 hrG
                  replace hT := hT.below b20
                  replace hB := chain hB b20
                  clear b20
                  obtain ⟨⟨hz_0, hz_1, hz_2⟩, hz_f⟩ := id hz
                  obtain ⟨⟨hg_0, hg_1, hg_2⟩, hg_f⟩ := id hg
                  go_wp2_with fail
                  refine (HSG.out _ hrG hA2).mono ?_
                  rintro e w21 ⟨rfl, b21⟩
                  clear hz_0 hz_1 hz_2 hz_f hg_0 hg_1 hg_2 hg_f
                  replace hx := hx.below b21 hx.lt
                  replace hz := hz.below b21 hz.lt
                  replace hn := hn.below b21 hn.lt
                  replace hg := hg.below b21 hg.lt
                  replace hA := rdBo b21 hA
                  replace hA2 := rdBo b21 hA2
                  replace hrO := rdBo b21 hrO
                  replace hrG := rdBo b21 hrG
                  replace hT := hT.below b21
                  replace hB := chain hB b21
                  clear b21
                  go_wp2_with fail
                  refine (HK.out _ hT).mono ?_
                  rintro e w22 ⟨rfl, b22⟩
                  replace hx := hx.below b22 hx.lt
                  replace hz := hz.below b22 hz.lt
                  replace hn := hn.below b22 hn.lt
                  replace hg := hg.below b22 hg.lt
                  replace hA := rdBo b22 hA
                  replace hA2 := rdBo b22 hA2
                  replace hrO := rdBo b22 hrO
                  replace hrG := rdBo b22 hrG
                  replace hT := hT.below b22
                  replace hB := chain hB b22
                  clear b22
                  go_wp2
                  go_ret
                  exact ⟨by rfl, hB⟩
    · have h70 : decide ((70 : Int) < (l2.length : Int)) = true := by simp; omega
      go_enter Tryz.func4, Tryz.ntmps4
      obtain ⟨⟨hx_0, hx_1, hx_2, hx_3, hx_4, hx_5, hx_6, hx_7⟩, hx_f⟩ := id hx
      obtain ⟨⟨hz_0, hz_1, hz_2⟩, hz_f⟩ := id hz
      go_wp2_with fail
      refine (small6_any F R l A c bl ca ps ha fu _).mono ?_
      rintro e w1 ⟨rfl, b1⟩
      clear hx_0 hx_1 hx_2 hx_3 hx_4 hx_5 hx_6 hx_7 hx_f hz_0 hz_1 hz_2 hz_f
      rw [decide_eq_true hs]
      replace hx := hx.below b1 hx.lt
      replace hz := hz.below b1 hz.lt
      replace hA := rdBo b1 hA
      replace hA2 := rdBo b1 hA2
      replace hT := hT.below b1
      replace hB := chain hB b1
      clear b1
      obtain ⟨⟨hz_0, hz_1, hz_2⟩, hz_f⟩ := id hz
      go_wp2_with fail
      refine (HK.out _ hT).mono ?_
      rintro e w2 ⟨rfl, b2⟩
      clear hz_0 hz_1 hz_2 hz_f
      replace hx := hx.below b2 hx.lt
      replace hz := hz.below b2 hz.lt
      replace hA := rdBo b2 hA
      replace hA2 := rdBo b2 hA2
      replace hT := hT.below b2
      replace hB := chain hB b2
      clear b2
      go_wp2
      go_ret
      exact ⟨by rfl, hB⟩
  · go_enter Tryz.func4, Tryz.ntmps4
    obtain ⟨⟨hx_0, hx_1, hx_2, hx_3, hx_4, hx_5, hx_6, hx_7⟩, hx_f⟩ := id hx
    obtain ⟨⟨hz_0, hz_1, hz_2⟩, hz_f⟩ := id hz
    go_wp2_with fail
    refine (small6_any F R l A c bl ca ps ha fu _).mono ?_
    rintro e w1 ⟨rfl, b1⟩
    clear hx_0 hx_1 hx_2 hx_3 hx_4 hx_5 hx_6 hx_7 hx_f hz_0 hz_1 hz_2 hz_f
    rw [decide_eq_false hs]
    replace hx := hx.below b1 hx.lt
    replace hz := hz.below b1 hz.lt
    replace hA := rdBo b1 hA
    replace hA2 := rdBo b1 hA2
    replace hT := hT.below b1
    replace hB := chain hB b1
    clear b1
    obtain ⟨⟨hz_0, hz_1, hz_2⟩, hz_f⟩ := id hz
    go_wp2_with fail
    refine (HK.out _ hT).mono ?_
    rintro e w2 ⟨rfl, b2⟩
    clear hz_0 hz_1 hz_2 hz_f
    replace hx := hx.below b2 hx.lt
    replace hz := hz.below b2 hz.lt
    replace hA := rdBo b2 hA
    replace hA2 := rdBo b2 hA2
    replace hT := hT.below b2
    replace hB := chain hB b2
    clear b2
    go_wp2
    go_ret
    exact ⟨by rfl, hB⟩

end Go.Proofs.YtelkmdklpcfobaaGreatDoor
