/- The law of rays: it answers true, and changes nothing that lay before. -/
import Derived.Sort.CutIn
import Derived.Test.YtejlbjbmpdddkaaDoorRkE
namespace Go.Proofs.YtejlbjbmpdddkaaDoor
open Go.RowKit Go.Shelf Go.Sort Go.BigFrame
attribute [local go_sem] Oper.semAt_some

/-- a slice that reads as these numbers, in a block between two bounds. -/
def RdX (w : World) (lo hi : Nat) (A : Option Addr) (l : List Nat) : Prop := 0 < l.length → ∃ ad, A = some ad ∧ lo ≤ ad.block ∧ ad.block < hi ∧ ∀ k (hk : k < l.length), w.cell? (ad.add k) = some (.int .i64 ((l[k] : Nat) : Int))
theorem RdX.but {W W' : World} {lo hi S : Nat} {A : Option Addr} {l : List Nat} (h : RdX W lo hi A l) (hb : ButS S W W') (hS : S < lo ∨ hi ≤ S) : RdX W' lo hi A l := fun hl => by
  obtain ⟨ad, e, h1, h2, hc⟩ := h hl
  exact ⟨ad, e, h1, h2, fun k hk => hb.cell (hc k hk) (by rw [blk_add]; omega)⟩
theorem RdX.below {W W' : World} {lo hi : Nat} {A : Option Addr} {l : List Nat} (h : RdX W lo hi A l) (hb : Below W.heap.size W W') : RdX W' lo hi A l := fun hl => by
  obtain ⟨ad, e, h1, h2, hc⟩ := h hl
  exact ⟨ad, e, h1, h2, fun k hk => cB hb (hc k hk)⟩
theorem RdX.at_ {W : World} {lo hi : Nat} {A : Option Addr} {l : List Nat} (h : RdX W lo hi A l) {k : Nat} (hk : k < l.length) : ∃ ad, A = some ad ∧ lo ≤ ad.block ∧ ad.block < hi ∧ W.cell? (ad.add k) = some (.int .i64 ((l[k] : Nat) : Int)) := by
  obtain ⟨ad, e, h1, h2, hc⟩ := h (by omega)
  exact ⟨ad, e, h1, h2, hc k hk⟩
theorem RdX.own {w : World} {B e : Nat} {v : Value} {l : List Nat} (h : w.ownsRow B e 1 v l.length (vnats l)) : ∃ A c, v = .slice A l.length c ∧ RdX w B w.heap.size A l := by
  obtain ⟨A, c, rfl, _, hA⟩ := RdI.own' h
  refine ⟨A, c, rfl, fun hl => ?_⟩
  obtain ⟨ad, rfl, hlt, hc⟩ := hA (by simpa using hl)
  refine ⟨ad, rfl, (World.ownsRow.lt h ad.block rfl).1, hlt, fun k hk => hc k _ ?_⟩
  rw [List.getElem?_map, List.getElem?_eq_getElem hk]
  rfl
def CutY (w : World) (F R m : Int) (L : List Nat) (wx : World) : Prop := ∃ A c, Bx wx (w.heap.size + 1 + 1 + 1) (.slice A L.length c) ∧ RdX wx (w.heap.size + 4) wx.heap.size A L ∧ (wx.cell? ⟨w.heap.size, 0, none⟩ = some (.int .i64 F) ∧ wx.cell? ⟨w.heap.size, 1, none⟩ = some (.int .i64 R)) ∧ Bx wx (w.heap.size + 1) (.int .i64 m) ∧ Bx wx (w.heap.size + 1 + 1) (.bool false) ∧ Below w.heap.size w wx ∧ w.heap.size + 4 ≤ wx.heap.size
def RayRet (L : List Nat) (w : World) (e : Ending) (w' : World) : Prop := ∃ A c, e = .returned (.slice A L.length c) ∧ RdX w' w.heap.size w'.heap.size A L ∧ Below w.heap.size w w'
/-- the squares of a ray, whatever the numbers, by the program and by the document. -/
theorem rays_list (F R a f r : Int) : ∃ L, RayIs F R a f r L ∧ L.length ≤ 8 ∧ ((-8 ≤ f ∧ f ≤ 8 ∧ -8 ≤ r ∧ r ≤ 8) → ∀ w, Calls Tryd.prog 8 #[.agg #[.int .i64 F, .int .i64 R], .int .i64 a, .int .i64 f, .int .i64 r] w (RayRet L w)) ∧ (¬ (-8 ≤ f ∧ f ≤ 8 ∧ -8 ≤ r ∧ r ≤ 8) → L = []) := by
  have none : (¬ vat F R a ∨ (vat F R a ∧ f = 0 ∧ r = 0)) → ∀ w, Calls Tryd.prog 8 #[.agg #[.int .i64 F, .int .i64 R], .int .i64 a, .int .i64 f, .int .i64 r] w (RayRet [] w) := fun h w =>
    (refRay_none F R a f r h w).mono fun e w' ⟨he, hb⟩ => ⟨none, 0, he, fun h => absurd h (by simp), hb⟩
  by_cases ha : vat F R a
  · by_cases h0 : f = 0 ∧ r = 0
    · exact ⟨[], .inr (.inl ⟨ha, h0.1, h0.2, rfl⟩), by simp, fun _ => none (.inr ⟨ha, h0⟩), fun _ => rfl⟩
    · refine ⟨_, .inl ⟨ha, h0, rfl⟩, rayL_len _ _ _ _ _ _, fun ⟨f0, f1, r0, r1⟩ w => ?_, fun hn => ?_⟩
      · refine (refRay_any F R a f r ha h0 f0 f1 r0 r1 w).mono ?_
        rintro e w' ⟨v, rfl, hown, hb⟩
        obtain ⟨A, c, rfl, hA⟩ := RdX.own hown
        exact ⟨A, c, rfl, hA, hb⟩
      · have hp : rayP F R (a % F) (a / F) f r 0 = false := by
          rw [← Bool.not_eq_true, rayP_iff]
          obtain ⟨p0, p1, p2, p3⟩ := place_bd ha.1 ha.2.1 ha.2.2
          have f2 := ha.1.2.1
          have r2 := ha.1.2.2.2
          rintro ⟨h1, h2, h3, h4⟩
          simp at h1 h2 h3 h4
          apply hn
          omega
        rw [rayL_stop (k := 0) (by omega) (fun j hj => by omega) hp]
        rfl
  · exact ⟨[], .inr (.inr ⟨ha, rfl⟩), by simp, fun _ => none (.inl ha), fun _ => rfl⟩

set_option maxRecDepth 100000 in
set_option maxHeartbeats 8000000 in
theorem rays_in (F R a f r m : Int) (hf : -9223372036854775808 ≤ f ∧ f ≤ 9223372036854775807) (hr : -9223372036854775808 ≤ r ∧ r ≤ 9223372036854775807) (w : World) (hT : Tb w) :
    CallsIn Fence.wide 6 Tryd.prog 3 #[.agg #[.int .i64 F, .int .i64 R], .int .i64 a, .int .i64 f, .int .i64 r, .int .i64 m] w fun e w' => e = .returned (.bool true) ∧ Below w.heap.size w w' := by
  obtain ⟨L, hRI, hL8, hIn, hOut⟩ := rays_list F R a f r
  have HIN := Lib.hid hIn
  have HOUT := Lib.hid hOut
  have HRI := Lib.hid hRI
  clear hIn hOut hRI
  have hnil : ∀ (p q r s : Value) (W : World), (binOp BinOp.eql 27 (.func (.func 26) #[] #[p, q, r, s]) Value.nilFunc).run Tryd.prog W = .ok (.bool false) W := fun _ _ _ _ _ => by kernel_rfl
  refine callsIn_of_wp_marks Tryd.func3 rfl trivial ?_ rfl
  simp only [Tryd.ntmps3, List.size_toArray, List.length_cons, List.length_nil, Nat.reduceAdd, Nat.reduceSub, Array.replicate_succ, Array.replicate_zero, List.push_toArray, List.append_toArray, List.nil_append, List.cons_append]
  gi_upto_region 2 with fail
  obtain ⟨V0, hV⟩ : ∃ V, (((w.alloc (.cells #[.int .i64 F, .int .i64 R] 23)).alloc (.cells #[.int .i64 m] 3)).alloc (.cells #[.bool false] 4)).alloc (.cells #[.slice none 0 0] 24) = V := ⟨_, rfl⟩
  have B : Below w.heap.size w V0 := by rw [← hV]; go_grown
  have c0 : V0.cell? ⟨w.heap.size, 0, none⟩ = some (.int .i64 F) := by rw [← hV]; exact alive _ (alive _ (alive _ (by simp [go_sem])))
  have c1 : V0.cell? ⟨w.heap.size, 1, none⟩ = some (.int .i64 R) := by rw [← hV]; exact alive _ (alive _ (alive _ (by simp [go_sem])))
  have qm : Bx V0 (w.heap.size + 1) (.int .i64 m) := by rw [← hV]; exact ⟨alive _ (alive _ (by simp [go_sem])), by simp [go_sem]⟩
  have q : Bx V0 (w.heap.size + 1 + 1) (.bool false) := by rw [← hV]; exact ⟨alive _ (by simp [go_sem]), by simp [go_sem]⟩
  have wt : Bx V0 (w.heap.size + 1 + 1 + 1) (.slice none 0 0) := by rw [← hV]; exact ⟨by simp [go_sem], by simp [go_sem]⟩
  have hs0 : V0.heap.size = w.heap.size + 4 := by rw [← hV]; simp
  rw [hV]
  clear hV
  obtain ⟨ib, hib⟩ : ∃ ib, decide (-8 ≤ f ∧ f ≤ 8 ∧ -8 ≤ r ∧ r ≤ 8) = ib := ⟨_, rfl⟩
  have HIB := Lib.hid hib
  clear hib
  gi_cut [29] from 16 (fun s29 wx => s29 = .bool ib ∧ wx = V0)
  case first =>
    gi_wp2_with fail
    all_goals
      gi_meet
      refine ⟨?_, rfl⟩
      rw [← HIB.out]
      congr 1
      first | (rw [decide_eq_decide]; omega) | (symm; simp; omega) | (simp; omega)
  case rest =>
   obtain ⟨rfl, rfl⟩ := hcut
   gi_upto_if 29 with fail
   gi_cut [11] from 30 (fun s11 wx => s11 = .pointer (some ⟨w.heap.size + 1 + 1 + 1, 0, none⟩) ∧ CutY w F R m L wx)
   case first =>
     by_cases hin : -8 ≤ f ∧ f ≤ 8 ∧ -8 ≤ r ∧ r ≤ 8
     · have HC := Lib.hid (HIN.out hin)
       obtain rfl : ib = true := by rw [← HIB.out]; simp [hin]
       obtain ⟨g1, g2, g3, g4⟩ := hin
       gi_wp2_with fail
       refine ⟨trivial, callsIn_wide.2 ((HC.out _).mono ?_)⟩
       rintro e w1 ⟨A, c, rfl, hA, hb⟩
       replace c0 := cB hb c0
       replace c1 := cB hb c1
       replace qm := qm.below hb
       replace q := q.below hb
       replace wt := wt.below hb
       replace B := chain B hb
       have z1 := hb.size
       have wt1 := wt.1
       have wt2 := wt.2
       clear hb
       gi_wp2_with fail
       gi_meet
       have hbu := ButS.set (S := w.heap.size + 1 + 1 + 1) w1 0 (.slice A L.length c)
       exact ⟨rfl, A, c, ⟨World.cell?_setCell_same w1 ⟨_, 0, none⟩ _ wt1, (World.frozen?_setCell ..).trans wt2⟩, by rw [hs0] at hA; simpa using hA.but hbu (.inl (by omega)), ⟨hbu.cell c0 (by simp; omega), hbu.cell c1 (by simp; omega)⟩, qm.but hbu (by omega), q.but hbu (by omega), B.trans (hbu.below (by omega) (by omega)), by have := hbu.size; omega⟩
     · have HL0 := HOUT.out hin
       obtain rfl : ib = false := by rw [← HIB.out]; simp; omega
       subst HL0
       gi_wp2_with fail
       gi_meet
       exact ⟨rfl, none, 0, wt, fun h => absurd h (by simp), ⟨c0, c1⟩, qm, q, B, by omega⟩
   case rest =>
     obtain ⟨rfl, A, c, wt, hA, ⟨c0, c1⟩, qm, q, B, hs0⟩ := hcut
     clear HIB HIN HOUT
     gi_wp2_with fail
     refine ⟨trivial, callsIn_wide.2 ((pRay_any F R a f r _).mono ?_)⟩
     rintro e wx ⟨rfl, rfl⟩
     have rr := R5.new wc F R a f r
     have hb := ray_below wc F R a f r
     obtain ⟨V1, hV⟩ : ∃ V, ((((wc.alloc (.cells #[.int .i64 F, .int .i64 R] 23)).alloc (.cells #[.int .i64 a] 3)).alloc (.cells #[.int .i64 f] 3)).alloc (.cells #[.int .i64 r] 3)) = V := ⟨_, rfl⟩
     rw [hV] at rr hb ⊢
     have g1 : wc.heap.size + 4 ≤ V1.heap.size := rr.1
     replace wt := wt.below hb
     replace hA := hA.below hb
     replace qm := qm.below hb
     replace q := q.below hb
     replace B := chain B hb
     clear hV hb c0 c1
     gi_wp2_with fail
     obtain ⟨X0, hX⟩ : ∃ X, V1.alloc (.cells #[.int .i64 0] 3) = X := ⟨_, rfl⟩
     have hb : Below V1.heap.size V1 X0 := by rw [← hX]; exact box1 _ _
     have tn : Bx X0 V1.heap.size (.int .i64 0) := by rw [← hX]; exact ⟨by simp [go_sem], by simp [go_sem]⟩
     have hsX0 : V1.heap.size + 1 ≤ X0.heap.size := by rw [← hX]; simp
     rw [hX]
     clear hX
     replace wt := wt.below hb
     replace hA := hA.below hb
     replace qm := qm.below hb
     replace q := q.below hb
     replace rr := rr.below hb
     replace B := chain B hb
     clear hb
     refine wpIn_loop_rounds 3 ?_
     rw [roundsIn_succ]
     have tn1 := tn.1
     gi_wp2_with fail
     clear tn1
     obtain ⟨X1, hX⟩ : ∃ X, X0.alloc (.cells #[.int .i64 0] 3) = X := ⟨_, rfl⟩
     have hb : Below X0.heap.size X0 X1 := by rw [← hX]; exact box1 _ _
     have kb : Bx X1 X0.heap.size (.int .i64 0) := by rw [← hX]; exact ⟨by simp [go_sem], by simp [go_sem]⟩
     have hsX1 : X0.heap.size + 1 ≤ X1.heap.size := by rw [← hX]; simp
     rw [hX]
     clear hX
     replace wt := wt.below hb
     replace hA := hA.below hb
     replace qm := qm.below hb
     replace q := q.below hb
     replace rr := rr.below hb
     replace tn := tn.below hb
     replace B := chain B hb
     clear hb
     apply range_rayX HRI.out hf.1 hf.2 hr.1 hr.2 (by omega) rfl wc.heap.size X0.heap.size (.inr (by omega)) rr.1 rfl rr.2.1 rr.2.2.1 rr.2.2.2.1 rr.2.2.2.2.1 rr.2.2.2.2.2
       (fun pre => .int .i64 (pre.length : Int)) (fun pre => pre = [] ∨ (pre.length : Int) < m) (fun id pre => id = 2 ∧ m ≤ (pre.length : Int) ∧ 1 ≤ pre.length ∧ pre.length ≤ L.length ∧ (pre.length = 1 ∨ (pre.length : Int) - 1 < m)) kb.1 kb.2 (.inl rfl)
     case hassign =>
       intro l x W K hK
       gi_wp2
       exact hK
     case hbody =>
       intro l pre x W hS hSf hB hp hlen
       obtain ⟨ad, rfl, hlo, hhi, hc⟩ := (hA.but hB (.inr (by omega))).at_ hlen
       have q1 := (q.but hB (by omega)).1
       have q2 := (q.but hB (by omega)).2
       have wt1 := (wt.but hB (by omega)).1
       have tn1 := (tn.but hB (by omega)).1
       have qm1 := (qm.but hB (by omega)).1
       have tn2 : (W.setCell ⟨X0.heap.size, 0, none⟩ (.int .i64 ((pre.length : Int) + 1))).cell? ⟨V1.heap.size, 0, none⟩ = some (.int .i64 0) := (World.cell?_setCell_far _ _ _ _ (by simp; omega)).trans tn1
       have qm2 : (W.setCell ⟨X0.heap.size, 0, none⟩ (.int .i64 ((pre.length : Int) + 1))).cell? ⟨w.heap.size + 1, 0, none⟩ = some (.int .i64 m) := (World.cell?_setCell_far _ _ _ _ (by simp; omega)).trans qm1
       have hge : ¬ ((L.length : Int) ≤ (pre.length : Int)) := by omega
       have hnext : vl (pre ++ [x]) <+: L → x.1 = L[pre.length] := fun h => next_ray h hlen
       obtain ⟨y, hy⟩ : ∃ y, y = L[pre.length] := ⟨_, rfl⟩
       rw [← hy] at hc hnext
       have HY := Lib.hid hy
       have HNX := Lib.hid hnext
       have HP := Lib.hid hp
       have hpl : (((pre ++ [x]).length : Nat) : Int) = (pre.length : Int) + 1 := by simp
       have HPL := Lib.hid hpl
       have hps : (pre ++ [x]).length = pre.length + 1 := by simp
       have HPS := Lib.hid hps
       clear hy hnext hp hpl hps
       by_cases hm : x.1 = y
       · have hne : ((x.1 : Int) != (y : Int)) = false := by simp [hm]
         clear hm
         by_cases hmany : m ≤ (pre.length : Int) + 1
         · gi_wp2
           refine ⟨⟨by show _ = some (Value.int .i64 (((pre ++ [x]).length : Nat) : Int)); rw [HPL.out]; exact World.cell?_setCell_same W ⟨_, 0, none⟩ _ hS, (World.frozen?_setCell ..).trans hSf⟩, ButS.set _ _ _, rfl, by rw [HPL.out]; exact hmany, by rw [HPS.out]; omega, by rw [HPS.out]; omega, ?_⟩
           rw [HPL.out, HPS.out]
           rcases HP.out with h | h
           · subst h; exact .inl rfl
           · right; omega
         · gi_wp2
           refine ⟨⟨by show _ = some (Value.int .i64 (((pre ++ [x]).length : Nat) : Int)); rw [HPL.out]; exact World.cell?_setCell_same W ⟨_, 0, none⟩ _ hS, (World.frozen?_setCell ..).trans hSf⟩, ButS.set _ _ _, .inr ?_⟩
           rw [HPL.out]
           omega
       · have hne : ((x.1 : Int) != (y : Int)) = true := by simp; omega
         have hno : ¬ vl (pre ++ [x]) <+: L := fun h => hm (HNX.out h)
         clear hm
         gi_wp2
         exact ⟨KeepsOthers.setCell _ _ _, hno⟩
     case hdone =>
       intro D1 ys W hD hys hS hSf hW hp hK
       have hlen := congrArg List.length hys
       rw [vl_len] at hlen
       have hp2 : L.length = 0 ∨ (L.length : Int) < m := by
         rcases hp with h | h
         · subst h; left; simpa using hlen.symm
         · right; omega
       rw [show ((ys.length : Nat) : Int) = (L.length : Int) by rw [hlen]] at hS
       clear hp hys hlen
       have hz1 := hW.size
       replace wt := wt.but hW (by omega)
       replace hA := hA.but hW (.inr (by omega))
       replace qm := qm.but hW (by omega)
       replace q := q.but hW (by omega)
       replace rr := rr.but hW (.inr (by omega))
       replace tn := tn.but hW (by omega)
       replace B := B.trans (hW.below (by omega) (by omega))
       have k1 : Bx W X0.heap.size _ := ⟨hS, hSf⟩
       have m1 : Mk W D1 := hK
       clear hS hSf hK kb hW
       have wt1 := wt.1
       have qm1 := qm.1
       have tn1 := tn.1
       have k11 := k1.1
       have hll : ((L.length : Int) != (L.length : Int)) = false := by simp
       by_cases h1m : 1 < m
       · have hmn : ¬ (m < (L.length : Int)) := by omega
         gi_wp2_with fail
         clear wt1 qm1 tn1 k11 k1 tn qm
         obtain ⟨Y0, hY⟩ : ∃ Y, W.alloc (.cells #[.int .i64 1] 3) = Y := ⟨_, rfl⟩
         have hb : Below W.heap.size W Y0 := by rw [← hY]; exact box1 _ _
         have tn : Bx Y0 W.heap.size (.int .i64 1) := by rw [← hY]; exact ⟨by simp [go_sem], by simp [go_sem]⟩
         have hsY0 : W.heap.size + 1 ≤ Y0.heap.size := by rw [← hY]; simp
         have lm1 := m1.lt
         rw [hY]
         clear hY
         replace wt := wt.below hb
         replace hA := hA.below hb
         replace q := q.below hb
         replace rr := rr.below hb
         replace m1 := m1.below hb
         replace B := chain B hb
         clear hb
         rw [roundsIn_succ]
         have tn1 := tn.1
         gi_wp2_with fail
         clear tn1
         obtain ⟨Y1, hY⟩ : ∃ Y, Y0.alloc (.cells #[.int .i64 0] 3) = Y := ⟨_, rfl⟩
         have hb : Below Y0.heap.size Y0 Y1 := by rw [← hY]; exact box1 _ _
         have kb : Bx Y1 Y0.heap.size (.int .i64 0) := by rw [← hY]; exact ⟨by simp [go_sem], by simp [go_sem]⟩
         have hsY1 : Y0.heap.size + 1 ≤ Y1.heap.size := by rw [← hY]; simp
         rw [hY]
         clear hY
         replace wt := wt.below hb
         replace hA := hA.below hb
         replace q := q.below hb
         replace rr := rr.below hb
         replace tn := tn.below hb
         replace m1 := m1.below hb
         replace B := chain B hb
         clear hb
         apply range_rayX HRI.out hf.1 hf.2 hr.1 hr.2 (by omega) rfl wc.heap.size Y0.heap.size (.inr (by omega)) rr.1 rfl rr.2.1 rr.2.2.1 rr.2.2.2.1 rr.2.2.2.2.1 rr.2.2.2.2.2
           (fun pre => .int .i64 (pre.length : Int)) (fun _ => True) (fun _ _ => False) kb.1 kb.2 trivial
         case hassign =>
           intro l x W2 K hK
           gi_wp2
           exact hK
         case hstop => rintro D id pre W2 _ _ _ _ _ h _; exact h.elim
         case hbody =>
           intro l pre x W2 hS hSf hB _ hlen
           obtain ⟨ad, rfl, hlo, hhi, hc⟩ := (hA.but hB (.inr (by omega))).at_ hlen
           have q1 := (q.but hB (by omega)).1
           have q2 := (q.but hB (by omega)).2
           have wt1 := (wt.but hB (by omega)).1
           have tn1 := (tn.but hB (by omega)).1
           have tn2 : (W2.setCell ⟨Y0.heap.size, 0, none⟩ (.int .i64 ((pre.length : Int) + 1))).cell? ⟨W.heap.size, 0, none⟩ = some (.int .i64 1) := (World.cell?_setCell_far _ _ _ _ (by simp; omega)).trans tn1
           have hge : ¬ ((L.length : Int) ≤ (pre.length : Int)) := by omega
           have hnext : vl (pre ++ [x]) <+: L → x.1 = L[pre.length] := fun h => next_ray h hlen
           obtain ⟨y, hy⟩ : ∃ y, y = L[pre.length] := ⟨_, rfl⟩
           rw [← hy] at hc hnext
           have HY := Lib.hid hy
           have HNX := Lib.hid hnext
           have HPL := Lib.hid (show (((pre ++ [x]).length : Nat) : Int) = (pre.length : Int) + 1 by simp)
           clear hy hnext
           by_cases hm : x.1 = y
           · have hne : ((x.1 : Int) != (y : Int)) = false := by simp [hm]
             clear hm
             gi_wp2
             exact ⟨⟨by show _ = some (Value.int .i64 (((pre ++ [x]).length : Nat) : Int)); rw [HPL.out]; exact World.cell?_setCell_same W2 ⟨_, 0, none⟩ _ hS, (World.frozen?_setCell ..).trans hSf⟩, ButS.set _ _ _, trivial⟩
           · have hne : ((x.1 : Int) != (y : Int)) = true := by simp; omega
             have hno : ¬ vl (pre ++ [x]) <+: L := fun h => hm (HNX.out h)
             clear hm
             gi_wp2
             exact ⟨KeepsOthers.setCell _ _ _, hno⟩
         case hdone =>
           intro D2 ys W2 hD2 hys hS hSf hW _ hK
           have hlen := congrArg List.length hys
           rw [vl_len] at hlen
           rw [show ((ys.length : Nat) : Int) = (L.length : Int) by rw [hlen]] at hS
           clear hys hlen
           have hz2 := hW.size
           replace wt := wt.but hW (by omega)
           replace q := q.but hW (by omega)
           replace tn := tn.but hW (by omega)
           have lm1' := m1.lt
           replace m1 := m1.but hW (by omega)
           replace B := B.trans (hW.below (by omega) (by omega))
           have k1 : Bx W2 Y0.heap.size _ := ⟨hS, hSf⟩
           have m2 : Mk W2 D2 := hK
           clear hS hSf hK kb hW rr hA
           have wt1 := wt.1
           have tn1 := tn.1
           have k11 := k1.1
           have hll2 : ((L.length : Int) != (L.length : Int)) = false := by simp
           gi_wp2_with fail
           clear wt1 tn1 k11 k1 tn wt hll2
           obtain ⟨Z0, hZ⟩ : ∃ Z, W2.alloc (.cells #[.int .i64 2] 3) = Z := ⟨_, rfl⟩
           have hb : Below W2.heap.size W2 Z0 := by rw [← hZ]; exact box1 _ _
           have tn : Bx Z0 W2.heap.size (.int .i64 2) := by rw [← hZ]; exact ⟨by simp [go_sem], by simp [go_sem]⟩
           rw [hZ]
           clear hZ
           have lm2 := m2.lt
           replace q := q.below hb
           replace m1 := m1.below hb
           replace m2 := m2.below hb
           replace B := chain B hb
           clear hb
           rw [roundsIn_succ]
           have tn1 := tn.1
           gi_wp2_with fail
           clear tn1 tn
           refine ⟨trivial, callsIn_wide.2 ((known_any _ (hT.below B)).mono ?_)⟩
           rintro e w9 ⟨rfl, hb⟩
           replace q := q.below hb
           replace m1 := m1.below hb
           replace m2 := m2.below hb
           replace B := chain B hb
           clear hb
           have l1 := m1.lt
           have l2 := m2.lt
           have ql := q.lt
           have q1 := q.1
           have q2 := q.2
           gi_wp2
           have hM : MarksAt (w.heap.size + 1 + 1 + 1) [D2, D1] (w9.setCell ⟨w.heap.size + 1 + 1, 0, none⟩ (.bool true)) := by
             refine ⟨by simp; omega, fun D hD => ?_⟩
             simp at hD
             rcases hD with rfl | rfl
             · exact ⟨by omega, (Below.heap_setCell _ _ _ _ (by simp; omega)).trans m2⟩
             · exact ⟨by omega, (Below.heap_setCell _ _ _ _ (by simp; omega)).trans m1⟩
           have hc := World.cell?_setCell_same w9 ⟨w.heap.size + 1 + 1, 0, none⟩ (.bool true) q1
           clear m1 m2 q q1 q2
           refine leaves_marks [D2, D1] _ hM (fun w' hw => ?_)
           have hcv := (hw.cell (p := ⟨w.heap.size + 1 + 1, 0, none⟩) (by simp)).trans hc
           refine ⟨.bool true, ?_, rfl, (B.setCell (p := ⟨w.heap.size + 1 + 1, 0, none⟩) (by simp; omega) _).trans (hw.mono (by omega))⟩
           have hres : Tryd.f3.results = #[.cell 10 4] := by kernel_rfl
           simp only [results, hres]
           go_simp
       · have hmn : ¬ (1 < (L.length : Int)) := by omega
         gi_wp2_with fail
         clear wt1 qm1 tn1 k11 k1 tn qm
         obtain ⟨Y0, hY⟩ : ∃ Y, W.alloc (.cells #[.int .i64 1] 3) = Y := ⟨_, rfl⟩
         have hb : Below W.heap.size W Y0 := by rw [← hY]; exact box1 _ _
         have tn : Bx Y0 W.heap.size (.int .i64 1) := by rw [← hY]; exact ⟨by simp [go_sem], by simp [go_sem]⟩
         have hsY0 : W.heap.size + 1 ≤ Y0.heap.size := by rw [← hY]; simp
         have lm1 := m1.lt
         rw [hY]
         clear hY
         replace wt := wt.below hb
         replace hA := hA.below hb
         replace q := q.below hb
         replace rr := rr.below hb
         replace m1 := m1.below hb
         replace B := chain B hb
         clear hb
         rw [roundsIn_succ]
         have tn1 := tn.1
         gi_wp2_with fail
         clear tn1
         obtain ⟨Y1, hY⟩ : ∃ Y, Y0.alloc (.cells #[.int .i64 0] 3) = Y := ⟨_, rfl⟩
         have hb : Below Y0.heap.size Y0 Y1 := by rw [← hY]; exact box1 _ _
         have kb : Bx Y1 Y0.heap.size (.int .i64 0) := by rw [← hY]; exact ⟨by simp [go_sem], by simp [go_sem]⟩
         have hsY1 : Y0.heap.size + 1 ≤ Y1.heap.size := by rw [← hY]; simp
         rw [hY]
         clear hY
         replace wt := wt.below hb
         replace hA := hA.below hb
         replace q := q.below hb
         replace rr := rr.below hb
         replace tn := tn.below hb
         replace m1 := m1.below hb
         replace B := chain B hb
         clear hb
         apply range_rayX HRI.out hf.1 hf.2 hr.1 hr.2 (by omega) rfl wc.heap.size Y0.heap.size (.inr (by omega)) rr.1 rfl rr.2.1 rr.2.2.1 rr.2.2.2.1 rr.2.2.2.2.1 rr.2.2.2.2.2
           (fun pre => .int .i64 (pre.length : Int)) (fun _ => True) (fun _ _ => False) kb.1 kb.2 trivial
         case hassign =>
           intro l x W2 K hK
           gi_wp2
           exact hK
         case hstop => rintro D id pre W2 _ _ _ _ _ h _; exact h.elim
         case hbody =>
           intro l pre x W2 _ _ _ _ hlen
           exfalso
           omega
         case hdone =>
           intro D2 ys W2 hD2 hys hS hSf hW _ hK
           have hlen := congrArg List.length hys
           rw [vl_len] at hlen
           rw [show ((ys.length : Nat) : Int) = (L.length : Int) by rw [hlen]] at hS
           clear hys hlen
           have hz2 := hW.size
           replace wt := wt.but hW (by omega)
           replace q := q.but hW (by omega)
           replace tn := tn.but hW (by omega)
           have lm1' := m1.lt
           replace m1 := m1.but hW (by omega)
           replace B := B.trans (hW.below (by omega) (by omega))
           have k1 : Bx W2 Y0.heap.size _ := ⟨hS, hSf⟩
           have m2 : Mk W2 D2 := hK
           clear hS hSf hK kb hW rr hA
           have wt1 := wt.1
           have tn1 := tn.1
           have k11 := k1.1
           have hll2 : ((L.length : Int) != (L.length : Int)) = false := by simp
           gi_wp2_with fail
           clear wt1 tn1 k11 k1 tn wt hll2
           obtain ⟨Z0, hZ⟩ : ∃ Z, W2.alloc (.cells #[.int .i64 2] 3) = Z := ⟨_, rfl⟩
           have hb : Below W2.heap.size W2 Z0 := by rw [← hZ]; exact box1 _ _
           have tn : Bx Z0 W2.heap.size (.int .i64 2) := by rw [← hZ]; exact ⟨by simp [go_sem], by simp [go_sem]⟩
           rw [hZ]
           clear hZ
           have lm2 := m2.lt
           replace q := q.below hb
           replace m1 := m1.below hb
           replace m2 := m2.below hb
           replace B := chain B hb
           clear hb
           rw [roundsIn_succ]
           have tn1 := tn.1
           gi_wp2_with fail
           clear tn1 tn
           refine ⟨trivial, callsIn_wide.2 ((known_any _ (hT.below B)).mono ?_)⟩
           rintro e w9 ⟨rfl, hb⟩
           replace q := q.below hb
           replace m1 := m1.below hb
           replace m2 := m2.below hb
           replace B := chain B hb
           clear hb
           have l1 := m1.lt
           have l2 := m2.lt
           have ql := q.lt
           have q1 := q.1
           have q2 := q.2
           gi_wp2
           have hM : MarksAt (w.heap.size + 1 + 1 + 1) [D2, D1] (w9.setCell ⟨w.heap.size + 1 + 1, 0, none⟩ (.bool true)) := by
             refine ⟨by simp; omega, fun D hD => ?_⟩
             simp at hD
             rcases hD with rfl | rfl
             · exact ⟨by omega, (Below.heap_setCell _ _ _ _ (by simp; omega)).trans m2⟩
             · exact ⟨by omega, (Below.heap_setCell _ _ _ _ (by simp; omega)).trans m1⟩
           have hc := World.cell?_setCell_same w9 ⟨w.heap.size + 1 + 1, 0, none⟩ (.bool true) q1
           clear m1 m2 q q1 q2
           refine leaves_marks [D2, D1] _ hM (fun w' hw => ?_)
           have hcv := (hw.cell (p := ⟨w.heap.size + 1 + 1, 0, none⟩) (by simp)).trans hc
           refine ⟨.bool true, ?_, rfl, (B.setCell (p := ⟨w.heap.size + 1 + 1, 0, none⟩) (by simp; omega) _).trans (hw.mono (by omega))⟩
           have hres : Tryd.f3.results = #[.cell 10 4] := by kernel_rfl
           simp only [results, hres]
           go_simp
     case hstop =>
       rintro D1 id pre W hD hpre hS hSf hW ⟨rfl, hm1, hm2, hm3, hm4⟩ hK
       clear hpre
       have hz1 := hW.size
       replace wt := wt.but hW (by omega)
       replace hA := hA.but hW (.inr (by omega))
       replace qm := qm.but hW (by omega)
       replace q := q.but hW (by omega)
       replace rr := rr.but hW (.inr (by omega))
       replace tn := tn.but hW (by omega)
       replace B := B.trans (hW.below (by omega) (by omega))
       have k1 : Bx W X0.heap.size _ := ⟨hS, hSf⟩
       have m1 : Mk W D1 := hK
       clear hS hSf hK kb hW
       have wt1 := wt.1
       have qm1 := qm.1
       have tn1 := tn.1
       have k11 := k1.1
       by_cases h1m : 1 < m
       · have hpm : (pre.length : Int) = m := by omega
         rw [hpm] at k11
         have hll : (m != m) = false := by simp
         by_cases hmn : m < (L.length : Int)
         · skip
           gi_wp2_with fail
           clear wt1 qm1 tn1 k11 k1 tn qm
           obtain ⟨Y0, hY⟩ : ∃ Y, W.alloc (.cells #[.int .i64 1] 3) = Y := ⟨_, rfl⟩
           have hb : Below W.heap.size W Y0 := by rw [← hY]; exact box1 _ _
           have tn : Bx Y0 W.heap.size (.int .i64 1) := by rw [← hY]; exact ⟨by simp [go_sem], by simp [go_sem]⟩
           have hsY0 : W.heap.size + 1 ≤ Y0.heap.size := by rw [← hY]; simp
           have lm1 := m1.lt
           rw [hY]
           clear hY
           replace wt := wt.below hb
           replace hA := hA.below hb
           replace q := q.below hb
           replace rr := rr.below hb
           replace m1 := m1.below hb
           replace B := chain B hb
           clear hb
           rw [roundsIn_succ]
           have tn1 := tn.1
           gi_wp2_with fail
           clear tn1
           obtain ⟨Y1, hY⟩ : ∃ Y, Y0.alloc (.cells #[.int .i64 0] 3) = Y := ⟨_, rfl⟩
           have hb : Below Y0.heap.size Y0 Y1 := by rw [← hY]; exact box1 _ _
           have kb : Bx Y1 Y0.heap.size (.int .i64 0) := by rw [← hY]; exact ⟨by simp [go_sem], by simp [go_sem]⟩
           have hsY1 : Y0.heap.size + 1 ≤ Y1.heap.size := by rw [← hY]; simp
           rw [hY]
           clear hY
           replace wt := wt.below hb
           replace hA := hA.below hb
           replace q := q.below hb
           replace rr := rr.below hb
           replace tn := tn.below hb
           replace m1 := m1.below hb
           replace B := chain B hb
           clear hb
           apply range_rayX HRI.out hf.1 hf.2 hr.1 hr.2 (by omega) rfl wc.heap.size Y0.heap.size (.inr (by omega)) rr.1 rfl rr.2.1 rr.2.2.1 rr.2.2.2.1 rr.2.2.2.2.1 rr.2.2.2.2.2
             (fun pre => .int .i64 (pre.length : Int)) (fun _ => True) (fun _ _ => False) kb.1 kb.2 trivial
           case hassign =>
             intro l x W2 K hK
             gi_wp2
             exact hK
           case hstop => rintro D id pre W2 _ _ _ _ _ h _; exact h.elim
           case hbody =>
             intro l pre x W2 hS hSf hB _ hlen
             obtain ⟨ad, rfl, hlo, hhi, hc⟩ := (hA.but hB (.inr (by omega))).at_ hlen
             have q1 := (q.but hB (by omega)).1
             have q2 := (q.but hB (by omega)).2
             have wt1 := (wt.but hB (by omega)).1
             have tn1 := (tn.but hB (by omega)).1
             have tn2 : (W2.setCell ⟨Y0.heap.size, 0, none⟩ (.int .i64 ((pre.length : Int) + 1))).cell? ⟨W.heap.size, 0, none⟩ = some (.int .i64 1) := (World.cell?_setCell_far _ _ _ _ (by simp; omega)).trans tn1
             have hge : ¬ ((L.length : Int) ≤ (pre.length : Int)) := by omega
             have hnext : vl (pre ++ [x]) <+: L → x.1 = L[pre.length] := fun h => next_ray h hlen
             obtain ⟨y, hy⟩ : ∃ y, y = L[pre.length] := ⟨_, rfl⟩
             rw [← hy] at hc hnext
             have HY := Lib.hid hy
             have HNX := Lib.hid hnext
             have HPL := Lib.hid (show (((pre ++ [x]).length : Nat) : Int) = (pre.length : Int) + 1 by simp)
             clear hy hnext
             by_cases hm : x.1 = y
             · have hne : ((x.1 : Int) != (y : Int)) = false := by simp [hm]
               clear hm
               gi_wp2
               exact ⟨⟨by show _ = some (Value.int .i64 (((pre ++ [x]).length : Nat) : Int)); rw [HPL.out]; exact World.cell?_setCell_same W2 ⟨_, 0, none⟩ _ hS, (World.frozen?_setCell ..).trans hSf⟩, ButS.set _ _ _, trivial⟩
             · have hne : ((x.1 : Int) != (y : Int)) = true := by simp; omega
               have hno : ¬ vl (pre ++ [x]) <+: L := fun h => hm (HNX.out h)
               clear hm
               gi_wp2
               exact ⟨KeepsOthers.setCell _ _ _, hno⟩
           case hdone =>
             intro D2 ys W2 hD2 hys hS hSf hW _ hK
             have hlen := congrArg List.length hys
             rw [vl_len] at hlen
             rw [show ((ys.length : Nat) : Int) = (L.length : Int) by rw [hlen]] at hS
             clear hys hlen
             have hz2 := hW.size
             replace wt := wt.but hW (by omega)
             replace q := q.but hW (by omega)
             replace tn := tn.but hW (by omega)
             have lm1' := m1.lt
             replace m1 := m1.but hW (by omega)
             replace B := B.trans (hW.below (by omega) (by omega))
             have k1 : Bx W2 Y0.heap.size _ := ⟨hS, hSf⟩
             have m2 : Mk W2 D2 := hK
             clear hS hSf hK kb hW rr hA
             have wt1 := wt.1
             have tn1 := tn.1
             have k11 := k1.1
             have hll2 : ((L.length : Int) != (L.length : Int)) = false := by simp
             gi_wp2_with fail
             clear wt1 tn1 k11 k1 tn wt hll2
             obtain ⟨Z0, hZ⟩ : ∃ Z, W2.alloc (.cells #[.int .i64 2] 3) = Z := ⟨_, rfl⟩
             have hb : Below W2.heap.size W2 Z0 := by rw [← hZ]; exact box1 _ _
             have tn : Bx Z0 W2.heap.size (.int .i64 2) := by rw [← hZ]; exact ⟨by simp [go_sem], by simp [go_sem]⟩
             rw [hZ]
             clear hZ
             have lm2 := m2.lt
             replace q := q.below hb
             replace m1 := m1.below hb
             replace m2 := m2.below hb
             replace B := chain B hb
             clear hb
             rw [roundsIn_succ]
             have tn1 := tn.1
             gi_wp2_with fail
             clear tn1 tn
             refine ⟨trivial, callsIn_wide.2 ((known_any _ (hT.below B)).mono ?_)⟩
             rintro e w9 ⟨rfl, hb⟩
             replace q := q.below hb
             replace m1 := m1.below hb
             replace m2 := m2.below hb
             replace B := chain B hb
             clear hb
             have l1 := m1.lt
             have l2 := m2.lt
             have ql := q.lt
             have q1 := q.1
             have q2 := q.2
             gi_wp2
             have hM : MarksAt (w.heap.size + 1 + 1 + 1) [D2, D1] (w9.setCell ⟨w.heap.size + 1 + 1, 0, none⟩ (.bool true)) := by
               refine ⟨by simp; omega, fun D hD => ?_⟩
               simp at hD
               rcases hD with rfl | rfl
               · exact ⟨by omega, (Below.heap_setCell _ _ _ _ (by simp; omega)).trans m2⟩
               · exact ⟨by omega, (Below.heap_setCell _ _ _ _ (by simp; omega)).trans m1⟩
             have hc := World.cell?_setCell_same w9 ⟨w.heap.size + 1 + 1, 0, none⟩ (.bool true) q1
             clear m1 m2 q q1 q2
             refine leaves_marks [D2, D1] _ hM (fun w' hw => ?_)
             have hcv := (hw.cell (p := ⟨w.heap.size + 1 + 1, 0, none⟩) (by simp)).trans hc
             refine ⟨.bool true, ?_, rfl, (B.setCell (p := ⟨w.heap.size + 1 + 1, 0, none⟩) (by simp; omega) _).trans (hw.mono (by omega))⟩
             have hres : Tryd.f3.results = #[.cell 10 4] := by kernel_rfl
             simp only [results, hres]
             go_simp
         · have hml : (m != (L.length : Int)) = false := by rw [show m = (L.length : Int) from by omega]; simp
           gi_wp2_with fail
           clear wt1 qm1 tn1 k11 k1 tn qm
           obtain ⟨Y0, hY⟩ : ∃ Y, W.alloc (.cells #[.int .i64 1] 3) = Y := ⟨_, rfl⟩
           have hb : Below W.heap.size W Y0 := by rw [← hY]; exact box1 _ _
           have tn : Bx Y0 W.heap.size (.int .i64 1) := by rw [← hY]; exact ⟨by simp [go_sem], by simp [go_sem]⟩
           have hsY0 : W.heap.size + 1 ≤ Y0.heap.size := by rw [← hY]; simp
           have lm1 := m1.lt
           rw [hY]
           clear hY
           replace wt := wt.below hb
           replace hA := hA.below hb
           replace q := q.below hb
           replace rr := rr.below hb
           replace m1 := m1.below hb
           replace B := chain B hb
           clear hb
           rw [roundsIn_succ]
           have tn1 := tn.1
           gi_wp2_with fail
           clear tn1
           obtain ⟨Y1, hY⟩ : ∃ Y, Y0.alloc (.cells #[.int .i64 0] 3) = Y := ⟨_, rfl⟩
           have hb : Below Y0.heap.size Y0 Y1 := by rw [← hY]; exact box1 _ _
           have kb : Bx Y1 Y0.heap.size (.int .i64 0) := by rw [← hY]; exact ⟨by simp [go_sem], by simp [go_sem]⟩
           have hsY1 : Y0.heap.size + 1 ≤ Y1.heap.size := by rw [← hY]; simp
           rw [hY]
           clear hY
           replace wt := wt.below hb
           replace hA := hA.below hb
           replace q := q.below hb
           replace rr := rr.below hb
           replace tn := tn.below hb
           replace m1 := m1.below hb
           replace B := chain B hb
           clear hb
           apply range_rayX HRI.out hf.1 hf.2 hr.1 hr.2 (by omega) rfl wc.heap.size Y0.heap.size (.inr (by omega)) rr.1 rfl rr.2.1 rr.2.2.1 rr.2.2.2.1 rr.2.2.2.2.1 rr.2.2.2.2.2
             (fun pre => .int .i64 (pre.length : Int)) (fun _ => True) (fun _ _ => False) kb.1 kb.2 trivial
           case hassign =>
             intro l x W2 K hK
             gi_wp2
             exact hK
           case hstop => rintro D id pre W2 _ _ _ _ _ h _; exact h.elim
           case hbody =>
             intro l pre x W2 hS hSf hB _ hlen
             obtain ⟨ad, rfl, hlo, hhi, hc⟩ := (hA.but hB (.inr (by omega))).at_ hlen
             have q1 := (q.but hB (by omega)).1
             have q2 := (q.but hB (by omega)).2
             have wt1 := (wt.but hB (by omega)).1
             have tn1 := (tn.but hB (by omega)).1
             have tn2 : (W2.setCell ⟨Y0.heap.size, 0, none⟩ (.int .i64 ((pre.length : Int) + 1))).cell? ⟨W.heap.size, 0, none⟩ = some (.int .i64 1) := (World.cell?_setCell_far _ _ _ _ (by simp; omega)).trans tn1
             have hge : ¬ ((L.length : Int) ≤ (pre.length : Int)) := by omega
             have hnext : vl (pre ++ [x]) <+: L → x.1 = L[pre.length] := fun h => next_ray h hlen
             obtain ⟨y, hy⟩ : ∃ y, y = L[pre.length] := ⟨_, rfl⟩
             rw [← hy] at hc hnext
             have HY := Lib.hid hy
             have HNX := Lib.hid hnext
             have HPL := Lib.hid (show (((pre ++ [x]).length : Nat) : Int) = (pre.length : Int) + 1 by simp)
             clear hy hnext
             by_cases hm : x.1 = y
             · have hne : ((x.1 : Int) != (y : Int)) = false := by simp [hm]
               clear hm
               gi_wp2
               exact ⟨⟨by show _ = some (Value.int .i64 (((pre ++ [x]).length : Nat) : Int)); rw [HPL.out]; exact World.cell?_setCell_same W2 ⟨_, 0, none⟩ _ hS, (World.frozen?_setCell ..).trans hSf⟩, ButS.set _ _ _, trivial⟩
             · have hne : ((x.1 : Int) != (y : Int)) = true := by simp; omega
               have hno : ¬ vl (pre ++ [x]) <+: L := fun h => hm (HNX.out h)
               clear hm
               gi_wp2
               exact ⟨KeepsOthers.setCell _ _ _, hno⟩
           case hdone =>
             intro D2 ys W2 hD2 hys hS hSf hW _ hK
             have hlen := congrArg List.length hys
             rw [vl_len] at hlen
             rw [show ((ys.length : Nat) : Int) = (L.length : Int) by rw [hlen]] at hS
             clear hys hlen
             have hz2 := hW.size
             replace wt := wt.but hW (by omega)
             replace q := q.but hW (by omega)
             replace tn := tn.but hW (by omega)
             have lm1' := m1.lt
             replace m1 := m1.but hW (by omega)
             replace B := B.trans (hW.below (by omega) (by omega))
             have k1 : Bx W2 Y0.heap.size _ := ⟨hS, hSf⟩
             have m2 : Mk W2 D2 := hK
             clear hS hSf hK kb hW rr hA
             have wt1 := wt.1
             have tn1 := tn.1
             have k11 := k1.1
             have hll2 : ((L.length : Int) != (L.length : Int)) = false := by simp
             gi_wp2_with fail
             clear wt1 tn1 k11 k1 tn wt hll2
             obtain ⟨Z0, hZ⟩ : ∃ Z, W2.alloc (.cells #[.int .i64 2] 3) = Z := ⟨_, rfl⟩
             have hb : Below W2.heap.size W2 Z0 := by rw [← hZ]; exact box1 _ _
             have tn : Bx Z0 W2.heap.size (.int .i64 2) := by rw [← hZ]; exact ⟨by simp [go_sem], by simp [go_sem]⟩
             rw [hZ]
             clear hZ
             have lm2 := m2.lt
             replace q := q.below hb
             replace m1 := m1.below hb
             replace m2 := m2.below hb
             replace B := chain B hb
             clear hb
             rw [roundsIn_succ]
             have tn1 := tn.1
             gi_wp2_with fail
             clear tn1 tn
             refine ⟨trivial, callsIn_wide.2 ((known_any _ (hT.below B)).mono ?_)⟩
             rintro e w9 ⟨rfl, hb⟩
             replace q := q.below hb
             replace m1 := m1.below hb
             replace m2 := m2.below hb
             replace B := chain B hb
             clear hb
             have l1 := m1.lt
             have l2 := m2.lt
             have ql := q.lt
             have q1 := q.1
             have q2 := q.2
             gi_wp2
             have hM : MarksAt (w.heap.size + 1 + 1 + 1) [D2, D1] (w9.setCell ⟨w.heap.size + 1 + 1, 0, none⟩ (.bool true)) := by
               refine ⟨by simp; omega, fun D hD => ?_⟩
               simp at hD
               rcases hD with rfl | rfl
               · exact ⟨by omega, (Below.heap_setCell _ _ _ _ (by simp; omega)).trans m2⟩
               · exact ⟨by omega, (Below.heap_setCell _ _ _ _ (by simp; omega)).trans m1⟩
             have hc := World.cell?_setCell_same w9 ⟨w.heap.size + 1 + 1, 0, none⟩ (.bool true) q1
             clear m1 m2 q q1 q2
             refine leaves_marks [D2, D1] _ hM (fun w' hw => ?_)
             have hcv := (hw.cell (p := ⟨w.heap.size + 1 + 1, 0, none⟩) (by simp)).trans hc
             refine ⟨.bool true, ?_, rfl, (B.setCell (p := ⟨w.heap.size + 1 + 1, 0, none⟩) (by simp; omega) _).trans (hw.mono (by omega))⟩
             have hres : Tryd.f3.results = #[.cell 10 4] := by kernel_rfl
             simp only [results, hres]
             go_simp
       · have hpm : (pre.length : Int) = 1 := by omega
         rw [hpm] at k11
         by_cases hmn : 1 < (L.length : Int)
         · skip
           gi_wp2_with fail
           clear wt1 qm1 tn1 k11 k1 tn qm
           obtain ⟨Y0, hY⟩ : ∃ Y, W.alloc (.cells #[.int .i64 1] 3) = Y := ⟨_, rfl⟩
           have hb : Below W.heap.size W Y0 := by rw [← hY]; exact box1 _ _
           have tn : Bx Y0 W.heap.size (.int .i64 1) := by rw [← hY]; exact ⟨by simp [go_sem], by simp [go_sem]⟩
           have hsY0 : W.heap.size + 1 ≤ Y0.heap.size := by rw [← hY]; simp
           have lm1 := m1.lt
           rw [hY]
           clear hY
           replace wt := wt.below hb
           replace hA := hA.below hb
           replace q := q.below hb
           replace rr := rr.below hb
           replace m1 := m1.below hb
           replace B := chain B hb
           clear hb
           rw [roundsIn_succ]
           have tn1 := tn.1
           gi_wp2_with fail
           clear tn1
           obtain ⟨Y1, hY⟩ : ∃ Y, Y0.alloc (.cells #[.int .i64 0] 3) = Y := ⟨_, rfl⟩
           have hb : Below Y0.heap.size Y0 Y1 := by rw [← hY]; exact box1 _ _
           have kb : Bx Y1 Y0.heap.size (.int .i64 0) := by rw [← hY]; exact ⟨by simp [go_sem], by simp [go_sem]⟩
           have hsY1 : Y0.heap.size + 1 ≤ Y1.heap.size := by rw [← hY]; simp
           rw [hY]
           clear hY
           replace wt := wt.below hb
           replace hA := hA.below hb
           replace q := q.below hb
           replace rr := rr.below hb
           replace tn := tn.below hb
           replace m1 := m1.below hb
           replace B := chain B hb
           clear hb
           apply range_rayX HRI.out hf.1 hf.2 hr.1 hr.2 (by omega) rfl wc.heap.size Y0.heap.size (.inr (by omega)) rr.1 rfl rr.2.1 rr.2.2.1 rr.2.2.2.1 rr.2.2.2.2.1 rr.2.2.2.2.2
             (fun pre => .int .i64 (pre.length : Int)) (fun _ => True) (fun _ _ => False) kb.1 kb.2 trivial
           case hassign =>
             intro l x W2 K hK
             gi_wp2
             exact hK
           case hstop => rintro D id pre W2 _ _ _ _ _ h _; exact h.elim
           case hbody =>
             intro l pre x W2 hS hSf hB _ hlen
             obtain ⟨ad, rfl, hlo, hhi, hc⟩ := (hA.but hB (.inr (by omega))).at_ hlen
             have q1 := (q.but hB (by omega)).1
             have q2 := (q.but hB (by omega)).2
             have wt1 := (wt.but hB (by omega)).1
             have tn1 := (tn.but hB (by omega)).1
             have tn2 : (W2.setCell ⟨Y0.heap.size, 0, none⟩ (.int .i64 ((pre.length : Int) + 1))).cell? ⟨W.heap.size, 0, none⟩ = some (.int .i64 1) := (World.cell?_setCell_far _ _ _ _ (by simp; omega)).trans tn1
             have hge : ¬ ((L.length : Int) ≤ (pre.length : Int)) := by omega
             have hnext : vl (pre ++ [x]) <+: L → x.1 = L[pre.length] := fun h => next_ray h hlen
             obtain ⟨y, hy⟩ : ∃ y, y = L[pre.length] := ⟨_, rfl⟩
             rw [← hy] at hc hnext
             have HY := Lib.hid hy
             have HNX := Lib.hid hnext
             have HPL := Lib.hid (show (((pre ++ [x]).length : Nat) : Int) = (pre.length : Int) + 1 by simp)
             clear hy hnext
             by_cases hm : x.1 = y
             · have hne : ((x.1 : Int) != (y : Int)) = false := by simp [hm]
               clear hm
               gi_wp2
               exact ⟨⟨by show _ = some (Value.int .i64 (((pre ++ [x]).length : Nat) : Int)); rw [HPL.out]; exact World.cell?_setCell_same W2 ⟨_, 0, none⟩ _ hS, (World.frozen?_setCell ..).trans hSf⟩, ButS.set _ _ _, trivial⟩
             · have hne : ((x.1 : Int) != (y : Int)) = true := by simp; omega
               have hno : ¬ vl (pre ++ [x]) <+: L := fun h => hm (HNX.out h)
               clear hm
               gi_wp2
               exact ⟨KeepsOthers.setCell _ _ _, hno⟩
           case hdone =>
             intro D2 ys W2 hD2 hys hS hSf hW _ hK
             have hlen := congrArg List.length hys
             rw [vl_len] at hlen
             rw [show ((ys.length : Nat) : Int) = (L.length : Int) by rw [hlen]] at hS
             clear hys hlen
             have hz2 := hW.size
             replace wt := wt.but hW (by omega)
             replace q := q.but hW (by omega)
             replace tn := tn.but hW (by omega)
             have lm1' := m1.lt
             replace m1 := m1.but hW (by omega)
             replace B := B.trans (hW.below (by omega) (by omega))
             have k1 : Bx W2 Y0.heap.size _ := ⟨hS, hSf⟩
             have m2 : Mk W2 D2 := hK
             clear hS hSf hK kb hW rr hA
             have wt1 := wt.1
             have tn1 := tn.1
             have k11 := k1.1
             have hll2 : ((L.length : Int) != (L.length : Int)) = false := by simp
             gi_wp2_with fail
             clear wt1 tn1 k11 k1 tn wt hll2
             obtain ⟨Z0, hZ⟩ : ∃ Z, W2.alloc (.cells #[.int .i64 2] 3) = Z := ⟨_, rfl⟩
             have hb : Below W2.heap.size W2 Z0 := by rw [← hZ]; exact box1 _ _
             have tn : Bx Z0 W2.heap.size (.int .i64 2) := by rw [← hZ]; exact ⟨by simp [go_sem], by simp [go_sem]⟩
             rw [hZ]
             clear hZ
             have lm2 := m2.lt
             replace q := q.below hb
             replace m1 := m1.below hb
             replace m2 := m2.below hb
             replace B := chain B hb
             clear hb
             rw [roundsIn_succ]
             have tn1 := tn.1
             gi_wp2_with fail
             clear tn1 tn
             refine ⟨trivial, callsIn_wide.2 ((known_any _ (hT.below B)).mono ?_)⟩
             rintro e w9 ⟨rfl, hb⟩
             replace q := q.below hb
             replace m1 := m1.below hb
             replace m2 := m2.below hb
             replace B := chain B hb
             clear hb
             have l1 := m1.lt
             have l2 := m2.lt
             have ql := q.lt
             have q1 := q.1
             have q2 := q.2
             gi_wp2
             have hM : MarksAt (w.heap.size + 1 + 1 + 1) [D2, D1] (w9.setCell ⟨w.heap.size + 1 + 1, 0, none⟩ (.bool true)) := by
               refine ⟨by simp; omega, fun D hD => ?_⟩
               simp at hD
               rcases hD with rfl | rfl
               · exact ⟨by omega, (Below.heap_setCell _ _ _ _ (by simp; omega)).trans m2⟩
               · exact ⟨by omega, (Below.heap_setCell _ _ _ _ (by simp; omega)).trans m1⟩
             have hc := World.cell?_setCell_same w9 ⟨w.heap.size + 1 + 1, 0, none⟩ (.bool true) q1
             clear m1 m2 q q1 q2
             refine leaves_marks [D2, D1] _ hM (fun w' hw => ?_)
             have hcv := (hw.cell (p := ⟨w.heap.size + 1 + 1, 0, none⟩) (by simp)).trans hc
             refine ⟨.bool true, ?_, rfl, (B.setCell (p := ⟨w.heap.size + 1 + 1, 0, none⟩) (by simp; omega) _).trans (hw.mono (by omega))⟩
             have hres : Tryd.f3.results = #[.cell 10 4] := by kernel_rfl
             simp only [results, hres]
             go_simp
         · have hml : ((1 : Int) != (L.length : Int)) = false := by rw [show (L.length : Int) = 1 from by omega]; rfl
           gi_wp2_with fail
           clear wt1 qm1 tn1 k11 k1 tn qm
           obtain ⟨Y0, hY⟩ : ∃ Y, W.alloc (.cells #[.int .i64 1] 3) = Y := ⟨_, rfl⟩
           have hb : Below W.heap.size W Y0 := by rw [← hY]; exact box1 _ _
           have tn : Bx Y0 W.heap.size (.int .i64 1) := by rw [← hY]; exact ⟨by simp [go_sem], by simp [go_sem]⟩
           have hsY0 : W.heap.size + 1 ≤ Y0.heap.size := by rw [← hY]; simp
           have lm1 := m1.lt
           rw [hY]
           clear hY
           replace wt := wt.below hb
           replace hA := hA.below hb
           replace q := q.below hb
           replace rr := rr.below hb
           replace m1 := m1.below hb
           replace B := chain B hb
           clear hb
           rw [roundsIn_succ]
           have tn1 := tn.1
           gi_wp2_with fail
           clear tn1
           obtain ⟨Y1, hY⟩ : ∃ Y, Y0.alloc (.cells #[.int .i64 0] 3) = Y := ⟨_, rfl⟩
           have hb : Below Y0.heap.size Y0 Y1 := by rw [← hY]; exact box1 _ _
           have kb : Bx Y1 Y0.heap.size (.int .i64 0) := by rw [← hY]; exact ⟨by simp [go_sem], by simp [go_sem]⟩
           have hsY1 : Y0.heap.size + 1 ≤ Y1.heap.size := by rw [← hY]; simp
           rw [hY]
           clear hY
           replace wt := wt.below hb
           replace hA := hA.below hb
           replace q := q.below hb
           replace rr := rr.below hb
           replace tn := tn.below hb
           replace m1 := m1.below hb
           replace B := chain B hb
           clear hb
           apply range_rayX HRI.out hf.1 hf.2 hr.1 hr.2 (by omega) rfl wc.heap.size Y0.heap.size (.inr (by omega)) rr.1 rfl rr.2.1 rr.2.2.1 rr.2.2.2.1 rr.2.2.2.2.1 rr.2.2.2.2.2
             (fun pre => .int .i64 (pre.length : Int)) (fun _ => True) (fun _ _ => False) kb.1 kb.2 trivial
           case hassign =>
             intro l x W2 K hK
             gi_wp2
             exact hK
           case hstop => rintro D id pre W2 _ _ _ _ _ h _; exact h.elim
           case hbody =>
             intro l pre x W2 hS hSf hB _ hlen
             obtain ⟨ad, rfl, hlo, hhi, hc⟩ := (hA.but hB (.inr (by omega))).at_ hlen
             have q1 := (q.but hB (by omega)).1
             have q2 := (q.but hB (by omega)).2
             have wt1 := (wt.but hB (by omega)).1
             have tn1 := (tn.but hB (by omega)).1
             have tn2 : (W2.setCell ⟨Y0.heap.size, 0, none⟩ (.int .i64 ((pre.length : Int) + 1))).cell? ⟨W.heap.size, 0, none⟩ = some (.int .i64 1) := (World.cell?_setCell_far _ _ _ _ (by simp; omega)).trans tn1
             have hge : ¬ ((L.length : Int) ≤ (pre.length : Int)) := by omega
             have hnext : vl (pre ++ [x]) <+: L → x.1 = L[pre.length] := fun h => next_ray h hlen
             obtain ⟨y, hy⟩ : ∃ y, y = L[pre.length] := ⟨_, rfl⟩
             rw [← hy] at hc hnext
             have HY := Lib.hid hy
             have HNX := Lib.hid hnext
             have HPL := Lib.hid (show (((pre ++ [x]).length : Nat) : Int) = (pre.length : Int) + 1 by simp)
             clear hy hnext
             by_cases hm : x.1 = y
             · have hne : ((x.1 : Int) != (y : Int)) = false := by simp [hm]
               clear hm
               gi_wp2
               exact ⟨⟨by show _ = some (Value.int .i64 (((pre ++ [x]).length : Nat) : Int)); rw [HPL.out]; exact World.cell?_setCell_same W2 ⟨_, 0, none⟩ _ hS, (World.frozen?_setCell ..).trans hSf⟩, ButS.set _ _ _, trivial⟩
             · have hne : ((x.1 : Int) != (y : Int)) = true := by simp; omega
               have hno : ¬ vl (pre ++ [x]) <+: L := fun h => hm (HNX.out h)
               clear hm
               gi_wp2
               exact ⟨KeepsOthers.setCell _ _ _, hno⟩
           case hdone =>
             intro D2 ys W2 hD2 hys hS hSf hW _ hK
             have hlen := congrArg List.length hys
             rw [vl_len] at hlen
             rw [show ((ys.length : Nat) : Int) = (L.length : Int) by rw [hlen]] at hS
             clear hys hlen
             have hz2 := hW.size
             replace wt := wt.but hW (by omega)
             replace q := q.but hW (by omega)
             replace tn := tn.but hW (by omega)
             have lm1' := m1.lt
             replace m1 := m1.but hW (by omega)
             replace B := B.trans (hW.below (by omega) (by omega))
             have k1 : Bx W2 Y0.heap.size _ := ⟨hS, hSf⟩
             have m2 : Mk W2 D2 := hK
             clear hS hSf hK kb hW rr hA
             have wt1 := wt.1
             have tn1 := tn.1
             have k11 := k1.1
             have hll2 : ((L.length : Int) != (L.length : Int)) = false := by simp
             gi_wp2_with fail
             clear wt1 tn1 k11 k1 tn wt hll2
             obtain ⟨Z0, hZ⟩ : ∃ Z, W2.alloc (.cells #[.int .i64 2] 3) = Z := ⟨_, rfl⟩
             have hb : Below W2.heap.size W2 Z0 := by rw [← hZ]; exact box1 _ _
             have tn : Bx Z0 W2.heap.size (.int .i64 2) := by rw [← hZ]; exact ⟨by simp [go_sem], by simp [go_sem]⟩
             rw [hZ]
             clear hZ
             have lm2 := m2.lt
             replace q := q.below hb
             replace m1 := m1.below hb
             replace m2 := m2.below hb
             replace B := chain B hb
             clear hb
             rw [roundsIn_succ]
             have tn1 := tn.1
             gi_wp2_with fail
             clear tn1 tn
             refine ⟨trivial, callsIn_wide.2 ((known_any _ (hT.below B)).mono ?_)⟩
             rintro e w9 ⟨rfl, hb⟩
             replace q := q.below hb
             replace m1 := m1.below hb
             replace m2 := m2.below hb
             replace B := chain B hb
             clear hb
             have l1 := m1.lt
             have l2 := m2.lt
             have ql := q.lt
             have q1 := q.1
             have q2 := q.2
             gi_wp2
             have hM : MarksAt (w.heap.size + 1 + 1 + 1) [D2, D1] (w9.setCell ⟨w.heap.size + 1 + 1, 0, none⟩ (.bool true)) := by
               refine ⟨by simp; omega, fun D hD => ?_⟩
               simp at hD
               rcases hD with rfl | rfl
               · exact ⟨by omega, (Below.heap_setCell _ _ _ _ (by simp; omega)).trans m2⟩
               · exact ⟨by omega, (Below.heap_setCell _ _ _ _ (by simp; omega)).trans m1⟩
             have hc := World.cell?_setCell_same w9 ⟨w.heap.size + 1 + 1, 0, none⟩ (.bool true) q1
             clear m1 m2 q q1 q2
             refine leaves_marks [D2, D1] _ hM (fun w' hw => ?_)
             have hcv := (hw.cell (p := ⟨w.heap.size + 1 + 1, 0, none⟩) (by simp)).trans hc
             refine ⟨.bool true, ?_, rfl, (B.setCell (p := ⟨w.heap.size + 1 + 1, 0, none⟩) (by simp; omega) _).trans (hw.mono (by omega))⟩
             have hres : Tryd.f3.results = #[.cell 10 4] := by kernel_rfl
             simp only [results, hres]
             go_simp
theorem law_rrays (F R a f r m : Int) (hf : -9223372036854775808 ≤ f ∧ f ≤ 9223372036854775807) (hr : -9223372036854775808 ≤ r ∧ r ≤ 9223372036854775807) (w : World) (hT : Tb w) :
    Calls Tryd.prog 3 #[.agg #[.int .i64 F, .int .i64 R], .int .i64 a, .int .i64 f, .int .i64 r, .int .i64 m] w fun e w' => e = .returned (.bool true) ∧ Below w.heap.size w w' :=
  callsIn_wide.1 (rays_in F R a f r m hf hr w hT)

end Go.Proofs.YtejlbjbmpdddkaaDoor
