/- Lines and leaps: the reach of a piece, by the document's own function. -/
import Derived.Test.YtjnbjegopddhgaaDoorRyE
import Derived.Deep.LoopGhost
import Derived.Lib.QuietBelow
import Derived.Sort.AtCall
import Derived.Test.YtjnbjegopddhgaaDoorAtB

namespace Go.Proofs.YtjnbjegopddhgaaDoor
open Go.RowKit

/-- the squares of a board that a Bool function picks, in order. -/
def pickTo (P : Nat → Bool) (k : Nat) : List Nat := (List.range k).filter P
theorem pickTo_yes (P : Nat → Bool) (k : Nat) (h : P k = true) : pickTo P (k + 1) = pickTo P k ++ [k] := by
  unfold pickTo; rw [List.range_succ, List.filter_append]; simp [h]
theorem pickTo_no (P : Nat → Bool) (k : Nat) (h : P k = false) : pickTo P (k + 1) = pickTo P k := by
  unfold pickTo; rw [List.range_succ, List.filter_append]; simp [h]
theorem pickTo_le (P : Nat → Bool) (k : Nat) : (pickTo P k).length ≤ k := by
  unfold pickTo
  have := List.length_filter_le P (List.range k)
  simpa using this
def reachL (F R k a : Int) (X : Nat) : List Nat := pickTo (fun b => reachB F R k a (b : Int) X) (F * R).toNat

end Go.Proofs.YtjnbjegopddhgaaDoor

/- Lines and leaps: the squares that a pawn attacks, by the document's own function. -/
namespace Go.Proofs.YtjnbjegopddhgaaDoor
open Go.RowKit

theorem new_cell (w : World) (v : Value) (t : TypeId) : (w.alloc (.cells #[v] t)).cell? ⟨w.heap.size, 0, none⟩ = some v := by simp [go_sem]
theorem own_drewN {w : World} {base : Nat} {e : TypeId} {size : Nat} {v : Value} {n : Nat} {xs : List Value} (h : w.ownsRow base e size v n xs) (k : Nat) : (w.drewN k).ownsRow base e size v n xs := h
theorem below_dr {B : Nat} {a w : World} (h : Below B a w) (n : Nat) : Below B a (w.drewN n) := ⟨h.os, h.tape, h.output, h.size, h.block⟩
def pawnB (F a : Int) (bl : Bool) (b : Int) : Bool := (b / F - a / F == fwd bl) && ((b % F - a % F == 1) || (a % F - b % F == 1))
def pawnL (F R a : Int) (bl : Bool) : List Nat := pickTo (fun b => pawnB F a bl (b : Int)) (F * R).toNat

set_option maxRecDepth 100000 in
set_option maxHeartbeats 16000000 in
theorem rPawn_any (F R a : Int) (bl : Bool) (ha : vat F R a) (w : World) :
    Calls Tryd.prog 63 #[.agg #[.int .i64 F, .int .i64 R], .bool bl, .int .i64 a] w fun e w' => ∃ v, e = .returned v ∧ w'.ownsRow w.heap.size 3 1 v (pawnL F R a bl).length (vnats (pawnL F R a bl)) ∧ Below w.heap.size w w' := by
  obtain ⟨i0, hi, hz0, hz1, hz2⟩ := info_parts ints3
  obtain ⟨m0, m1⟩ := vsz_mul ha.1
  obtain ⟨p0, p1, p2, p3⟩ := place_bd ha.1 ha.2.1 ha.2.2
  have f2 := ha.1.2.1
  have r2 := ha.1.2.2.2
  have HA := Lib.hid (refPlace_ex F R a ha)
  have hv := Lib.hid ha.1
  obtain ⟨P, hP⟩ : ∃ P : Nat → Bool, (fun b : Nat => pawnB F a bl (b : Int)) = P := ⟨_, rfl⟩
  have HP := Lib.hid hP
  unfold pawnL
  rw [hP]
  clear hP ha
  go_enter Tryd.func63, Tryd.ntmps63
  go_wp2
  go_loopg [7, 8] 64 (fun gn v i wr => ∃ b : Nat, gn = 64 - b ∧ (b : Int) ≤ F * R ∧ i = .int .i64 b ∧ wr.ownsRow (w.heap.size + 1) 3 1 v (pickTo P b).length (vnats (pickTo P b)) ∧ Below (w.heap.size + 1) (w.alloc (.cells #[.int .i64 F, .int .i64 R] 23)) wr)
  case atStart => exact ⟨0, by omega, by omega, rfl, World.ownsRow_nil _ _ _ _, Below.refl _ _⟩
  case round =>
    obtain ⟨b, hgk, hb, rfl, hown, hB⟩ := hrel
    have s1 := hB.size
    simp at s1
    have hc0 := hB.cell (p := ⟨w.heap.size, 0, none⟩) (by simp)
    have hc1 := hB.cell (p := ⟨w.heap.size, 1, none⟩) (by simp)
    simp [go_sem] at hc0 hc1
    by_cases hlt : (b : Int) < F * R
    · have hat : vat F R (b : Int) := ⟨hv.out, by omega, hlt⟩
      obtain ⟨q0, q1, q2, q3⟩ := place_bd hat.1 hat.2.1 hat.2.2
      have HBP := Lib.hid (refPlace_ex F R b hat)
      have e : pawnB F a bl (b : Int) = P b := congrFun HP.out b
      unfold pawnB at e
      obtain ⟨x, hx⟩ : ∃ x, a % F = x := ⟨_, rfl⟩
      obtain ⟨y, hy⟩ : ∃ y, a / F = y := ⟨_, rfl⟩
      obtain ⟨u, hu⟩ : ∃ u, (b : Int) % F = u := ⟨_, rfl⟩
      obtain ⟨v, hv2⟩ : ∃ v, (b : Int) / F = v := ⟨_, rfl⟩
      rw [hx, hy, hu, hv2] at e
      have ca := HA.out
      have cb := HBP.out
      rw [hx, hy] at ca
      rw [hu, hv2] at cb
      have CA := Lib.hid ca
      have CB := Lib.hid cb
      rw [hx] at p0 p1
      rw [hy] at p2 p3
      rw [hu] at q0 q1
      rw [hv2] at q2 q3
      have HE := Lib.hid e
      have hle := pickTo_le P b
      clear ca cb hx hy hu hv2 e hat HA HBP
      go_upto_region 5 with fail
      go_cut [9, 10] (fun s7 s8 wx => ∃ g h : Nat, s7 = .pointer (some ⟨g, 0, none⟩) ∧ s8 = .pointer (some ⟨h, 0, none⟩) ∧ wx.cell? ⟨g, 0, none⟩ = some (.int .i64 x) ∧ wx.cell? ⟨g, 1, none⟩ = some (.int .i64 y) ∧ wx.cell? ⟨h, 0, none⟩ = some (.int .i64 u) ∧ wx.cell? ⟨h, 1, none⟩ = some (.int .i64 v) ∧ Below wr.heap.size wr wx)
      case first =>
        go_region_held3 (fun w' => w'.cell? ⟨w.heap.size, 0, none⟩ = some (.int .i64 F) ∧ w'.cell? ⟨w.heap.size, 1, none⟩ = some (.int .i64 R)) (((try dsimp only); refine ⟨?_, ?_⟩ <;> ((try simp only [World.cell?_drew]); (repeat (first | assumption | (rw [World.cell?_alloc_new]; rfl) | (exact (by assumption : _ ∧ _).1) | (exact (by assumption : _ ∧ _).2) | (refine alive _ ?_))))))
         (first
          | (go_at_call_of 76 (Value.int .i64 a); refine (CA.out _).mono ?_; rintro e w1 ⟨rfl, rfl⟩)
          | (go_at_call_of 76 (Value.int .i64 (b : Int)); refine (CB.out _).mono ?_; rintro e w2 ⟨rfl, rfl⟩))
        all_goals
          go_wp2_with fail
          go_meet
          refine ⟨_, _, rfl, rfl, ?_, ?_, ?_, ?_, ?_⟩
          · simp [go_sem]
          · simp [go_sem]
          · simp [go_sem]
          · simp [go_sem]
          · go_grown
      case rest =>
        obtain ⟨g, h, rfl, rfl, g0, g1, h0, h1, hBc⟩ := hcut
        have hown2 := own_below hown hBc
        have hB2 := hB.trans (hBc.mono s1)
        clear hown hB hc0 hc1
        have hsz := hBc.size
        have hlt' : (b : Int) < F * R := hlt
        have hw1 : IntKind.i64.wrap (v - y) = v - y := IntWalk.i64_in _ (by omega)
        have hw2 : IntKind.i64.wrap (u - x) = u - x := IntWalk.i64_in _ (by omega)
        have hw3 : IntKind.i64.wrap (x - u) = x - u := IntWalk.i64_in _ (by omega)
        clear CA CB hBc
        by_cases z1 : v - y = fwd bl
        · have t1 : (v - y == fwd bl) = true := by simp [z1]
          by_cases z2 : u - x = 1
          · have t2 : (u - x == 1) = true := by simp [z2]
            have hbit : P b = true := by rw [← HE.out]; simp [t1, t2]
            have HS := Lib.hid (pickTo_yes P b hbit)
            have HL : Hid ((pickTo P (b + 1)).length = (pickTo P b).length + 1) := Lib.hid (by rw [HS.out]; simp)
            clear hbit HE z1 z2
            generalize pickTo P b = q at *
            go_wp2
            go_quiet ((go_at_call 80; exact Calls.quiet_of_same ((forward_any bl _).mono fun _ _ h => ⟨h.1, h.2.symm⟩)))
            clear hw1 hw2 hw3
            go_wp2_with (at_builtin; (refine wpList_append_own _ rfl _ _ 36 rfl (w.heap.size + 1) 3 i0 (.int .i64 0) 1 8 Tryd.underlying36 hi hz0 hz1 hz2 rfl (by decide) _ _ _ rfl ((own_drewN hown2 _).alloc _) ⟨wc.heap.size, 0, none⟩ 1 1 [.int .i64 (b : Int)] rfl rfl ?c1 ?c2 ?c3 ?c4 ?c5 ?_))
            case c1 =>
              intro j u hj
              match j, hj with
              | 0, hj => simp at hj; subst hj; simp [Addr.add]; exact new_cell (wc.drewN _) _ _
            case c2 => intro u hu; simp at hu; subst hu; rfl
            case c3 => unfold maxLen; omega
            case c4 => omega
            case c5 => simp; omega
            intro v' w3 hown' hgrow _
            go_wp2
            go_roundg (64 - (b + 1))
            case measure => omega
            case rel =>
              refine ⟨b + 1, rfl, by omega, by go_num, ?_, ?_⟩
              · rw [HL.out, HS.out, vnats_snoc]; exact hown'
              · exact ((below_dr hB2 _).alloc (by simp; omega) _).grown hgrow (by simp; omega) (fun r e => (World.ownsRow.lt (own_drewN hown2 0) r e).1)
          · have t2 : (u - x == 1) = false := beq_eq_false_iff_ne.2 z2
            by_cases z3 : x - u = 1
            · have t3 : (x - u == 1) = true := by simp [z3]
              have hbit : P b = true := by rw [← HE.out]; simp [t1, t3]
              have HS := Lib.hid (pickTo_yes P b hbit)
              have HL : Hid ((pickTo P (b + 1)).length = (pickTo P b).length + 1) := Lib.hid (by rw [HS.out]; simp)
              clear hbit HE z1 z2 z3
              generalize pickTo P b = q at *
              go_wp2
              go_quiet ((go_at_call 80; exact Calls.quiet_of_same ((forward_any bl _).mono fun _ _ h => ⟨h.1, h.2.symm⟩)))
              clear hw1 hw2 hw3
              go_wp2_with (at_builtin; (refine wpList_append_own _ rfl _ _ 36 rfl (w.heap.size + 1) 3 i0 (.int .i64 0) 1 8 Tryd.underlying36 hi hz0 hz1 hz2 rfl (by decide) _ _ _ rfl ((own_drewN hown2 _).alloc _) ⟨wc.heap.size, 0, none⟩ 1 1 [.int .i64 (b : Int)] rfl rfl ?c1 ?c2 ?c3 ?c4 ?c5 ?_))
              case c1 =>
                intro j u hj
                match j, hj with
                | 0, hj => simp at hj; subst hj; simp [Addr.add]; exact new_cell (wc.drewN _) _ _
              case c2 => intro u hu; simp at hu; subst hu; rfl
              case c3 => unfold maxLen; omega
              case c4 => omega
              case c5 => simp; omega
              intro v' w3 hown' hgrow _
              go_wp2
              go_roundg (64 - (b + 1))
              case measure => omega
              case rel =>
                refine ⟨b + 1, rfl, by omega, by go_num, ?_, ?_⟩
                · rw [HL.out, HS.out, vnats_snoc]; exact hown'
                · exact ((below_dr hB2 _).alloc (by simp; omega) _).grown hgrow (by simp; omega) (fun r e => (World.ownsRow.lt (own_drewN hown2 0) r e).1)
            · have t3 : (x - u == 1) = false := beq_eq_false_iff_ne.2 z3
              have hbit : P b = false := by rw [← HE.out]; simp [t2, t3]
              have HS := Lib.hid (pickTo_no P b hbit)
              clear hbit HE z1 z2 z3
              go_wp2
              go_quiet ((go_at_call 80; exact Calls.quiet_of_same ((forward_any bl _).mono fun _ _ h => ⟨h.1, h.2.symm⟩)))
              clear hw1 hw2 hw3
              go_wp2
              go_roundg (64 - (b + 1))
              case measure => omega
              case rel => exact ⟨b + 1, rfl, by omega, by go_num, by rw [HS.out]; exact own_drewN hown2 _, below_dr hB2 _⟩
        · have t1 : (v - y == fwd bl) = false := beq_eq_false_iff_ne.2 z1
          have hbit : P b = false := by rw [← HE.out]; simp [t1]
          have HS := Lib.hid (pickTo_no P b hbit)
          clear hbit HE z1
          go_wp2
          go_quiet ((go_at_call 80; exact Calls.quiet_of_same ((forward_any bl _).mono fun _ _ h => ⟨h.1, h.2.symm⟩)))
          clear hw1 hw2 hw3
          go_wp2
          go_roundg (64 - (b + 1))
          case measure => omega
          case rel => exact ⟨b + 1, rfl, by omega, by go_num, by rw [HS.out]; exact own_drewN hown2 _, below_dr hB2 _⟩
    · have hbe : b = (F * R).toNat := by omega
      have HE : Hid (pickTo P (F * R).toNat = pickTo P b) := Lib.hid (by rw [hbe])
      clear hbe
      go_wp2
      go_ret
      exact ⟨_, rfl, by rw [HE.out]; exact World.ownsRow.mono hown (by omega), (box1 _ _).trans (hB.mono (by omega))⟩

end Go.Proofs.YtjnbjegopddhgaaDoor

/- Attacks, by the document's own functions: whether the piece on a square attacks another one. -/
namespace Go.Proofs.YtjnbjegopddhgaaDoor
open Go.RowKit Go.Sort

def kdP (p : Int) : Int := if p < 0 then -p else p
theorem rKind_or (p : Int) (h : orthB p = true) (w : World) : Calls Tryd.prog 62 #[.int .i8 p] w fun e w' => e = .returned (.int .i8 (kdP p)) ∧ w = w' := by
  unfold orthB at h
  simp at h
  unfold kdP
  by_cases hn : p < 0
  · rw [if_pos hn]
    have := rKind_neg (-p).toNat (by omega) (by omega) w
    rwa [show (-(((-p).toNat : Nat) : Int)) = p by omega, show (((-p).toNat : Nat) : Int) = -p by omega] at this
  · rw [if_neg hn]
    have := rKind_pos p.toNat (by omega) w
    rwa [show ((p.toNat : Nat) : Int) = p by omega] at this
theorem kdP_or {p : Int} (h : orthB p = true) : kdP p = 1 ∨ kdP p = 2 ∨ kdP p = 3 ∨ kdP p = 4 ∨ kdP p = 5 ∨ kdP p = 6 := by
  unfold orthB at h
  simp at h
  unfold kdP
  split <;> omega
theorem rhasN (z : List Nat) (n : Int) (A : Option Addr) (c : Nat) (w : World) (hlen : z.length ≤ 100000) (hA : RdI w w.heap.size A (z.map fun i : Nat => (i : Int))) :
    Calls Tryd.prog 51 #[.slice A z.length c, .int .i64 n] w fun e w' => e = .returned (.bool (hasL (z.map fun i : Nat => (i : Int)) n)) ∧ w = w' := by
  have := rhas_any (z.map fun i : Nat => (i : Int)) n A c w (by simpa using hlen) hA
  rwa [List.length_map] at this
/-- a piece p on square n attacks square t where the squares of X are occupied. -/
def attP (F R p : Int) (X : Nat) (n t : Int) : Bool := if kdP p = 1 then hasL ((pawnL F R n (decide (p < 0))).map fun i : Nat => (i : Int)) t else !(n == t) && reachB F R (kdP p) n t X

set_option maxRecDepth 100000 in
set_option maxHeartbeats 2000000 in
theorem ratt_any (F R : Int) (l : List Int) (A : Option Addr) (c : Nat) (n : Nat) (t : Int) (X : Nat) (hX : X < 18446744073709551616) (w : World) (hv : vsz F R) (hl : (l.length : Int) = F * R) (hn : n < l.length) (ho : orthB (l[n]?.getD 0) = true) (ht : vat F R t) (hA : RdP w w.heap.size A l c) :
    Calls Tryd.prog 41 #[.agg #[.int .i64 F, .int .i64 R, .slice A l.length c], .int .i64 n, .int .i64 t, .int .u64 X] w fun e w' => e = .returned (.bool (attP F R (l[n]?.getD 0) X n t)) ∧ Below w.heap.size w w' := by
  have hnv : vat F R (n : Int) := ⟨hv, by omega, by omega⟩
  have hlen : l.length ≤ 64 := by have := (vsz_mul hv).2; omega
  obtain ⟨ad, rfl, hb, hc⟩ := hA.at_ hn
  have hAb := hA
  clear hA
  obtain ⟨p, hp⟩ : ∃ p, l[n]?.getD 0 = p := ⟨_, rfl⟩
  rw [hp] at ho hc ⊢
  have HK := Lib.hid (rKind_or p ho)
  have hk := kdP_or ho
  have hc2 := alive (.cells #[.int .i64 F, .int .i64 R, .slice (some ad) l.length c] 26) hc
  unfold attP
  clear hp hc ho hAb
  by_cases h1 : kdP p = 1
  · rw [if_pos h1]
    rw [h1] at HK
    clear h1 hk
    have HP := Lib.hid (rPawn_any F R n (decide (p < 0)) hnv)
    have HLN : Hid ((pawnL F R n (decide (p < 0))).length ≤ 100000) := Lib.hid (by unfold pawnL; have := pickTo_le (fun b => pawnB F n (decide (p < 0)) (b : Int)) (F * R).toNat; have := (vsz_mul hv).2; omega)
    generalize pawnL F R n (decide (p < 0)) = z at *
    go_enter Tryd.func41, Tryd.ntmps41
    go_wp2_with fail
    refine (HK.out _).mono ?_
    rintro e wx ⟨rfl, rfl⟩
    go_wp2_with fail
    refine (HP.out _).mono ?_
    rintro e w1 ⟨v, rfl, hown, hb1⟩
    obtain ⟨A2, c2, rfl, _, hA2⟩ := RdI.own' hown
    go_wp2_with fail
    refine (rhasN z t A2 c2 _ HLN.out hA2).mono ?_
    rintro e wy ⟨rfl, rfl⟩
    go_wp2
    go_ret
    exact ⟨rfl, after1 hb1⟩
  · rw [if_neg h1]
    have h1b : (kdP p == 1) = false := beq_eq_false_iff_ne.2 h1
    have hk2 : kdP p = 2 ∨ kdP p = 3 ∨ kdP p = 4 ∨ kdP p = 5 ∨ kdP p = 6 := by omega
    have HR := Lib.hid (reaches_any F R (kdP p) n t hk2 hnv ht X hX)
    clear h1 hk hk2
    generalize kdP p = k at *
    generalize reachB F R k n t X = r at *
    obtain ⟨V, hV⟩ : ∃ V, w.alloc (.cells #[.int .i64 F, .int .i64 R, .slice (some ad) l.length c] 26) = V := ⟨_, rfl⟩
    have c0 : V.cell? ⟨w.heap.size, 0, none⟩ = some (.int .i64 F) := by rw [← hV]; simp [go_sem]
    have c1 : V.cell? ⟨w.heap.size, 1, none⟩ = some (.int .i64 R) := by rw [← hV]; simp [go_sem]
    have hB : Below w.heap.size w V := by rw [← hV]; exact box1 _ _
    have HV := Lib.hid hV
    clear hV
    have q0 := cell_regrown c0
    have q1 := cell_regrown c1
    have cK : ∀ d os, Calls Tryd.prog 62 #[.int .i8 p] (grow (redrawn V d) os) fun e w'' => e = .returned (.int .i8 k) ∧ ∃ q : Regrown, w'' = grow (redrawn V q.d) q.os := fun d os => Calls.regrown_of ((HK.out _).mono fun _ _ h => ⟨h.1, by rw [← h.2]; exact Below.refl _ _⟩)
    have cR : ∀ d os, Calls Tryd.prog 64 #[.agg #[.int .i64 F, .int .i64 R], .int .i8 k, .int .i64 n, .int .i64 t, .int .u64 X] (grow (redrawn V d) os) fun e w'' => e = .returned (.bool r) ∧ ∃ q : Regrown, w'' = grow (redrawn V q.d) q.os := fun d os => Calls.regrown_of (HR.out _)
    by_cases hnt : (n : Int) = t
    · have e1 : ((n : Int) == t) = true := by simp [hnt]
      have e2 : ((n : Int) != t) = false := by simp [hnt]
      rw [e1]
      clear hnt
      go_enter Tryd.func41, Tryd.ntmps41
      go_wp2_with fail
      refine (HK.out _).mono ?_
      rintro e wx ⟨rfl, rfl⟩
      rw [HV.out]
      go_wp2_with fail
      refine wp_region_quiet_below (by kernel_rfl) (by kernel_rfl) ?_
      repeat (go_big_quiet_step (fail))
      refine wpQuiet_nil ?_
      intro _ hw'
      obtain ⟨⟨dq, osq⟩, hw''⟩ := hw'
      subst hw''
      go_wp2
      go_ret
      exact ⟨rfl, chain hB (below_regrown _ dq osq)⟩
    · have e1 : ((n : Int) == t) = false := by simp [hnt]
      have e2 : ((n : Int) != t) = true := by simp [hnt]
      rw [e1]
      clear hnt
      go_enter Tryd.func41, Tryd.ntmps41
      go_wp2_with fail
      refine (HK.out _).mono ?_
      rintro e wx ⟨rfl, rfl⟩
      rw [HV.out]
      go_wp2_with fail
      refine wp_region_quiet_below (by kernel_rfl) (by kernel_rfl) ?_
      repeat (go_big_quiet_step (first | (go_at_call 62; exact cK _ _) | (go_at_call 64; exact cR _ _)))
      refine wpQuiet_nil ?_
      intro _ hw'
      obtain ⟨⟨dq, osq⟩, hw''⟩ := hw'
      subst hw''
      go_wp2
      go_ret
      exact ⟨by simp, chain hB (below_regrown _ dq osq)⟩

end Go.Proofs.YtjnbjegopddhgaaDoor

/- Attacks, by the document's own functions: the squares of the pieces of a side that attack a square. -/
namespace Go.Proofs.YtjnbjegopddhgaaDoor
open Go.RowKit Go.Sort

def atkP (F R : Int) (l : List Int) (X : Nat) (t : Int) (n : Nat) : Bool := attP F R (l[n]?.getD 0) X n t
/-- the squares of the attackers, in order. -/
def atkL (F R : Int) (l : List Int) (t : Int) (bl : Bool) : List Nat := (idx (sdP (sdN bl)) l).filter (atkP F R l (ofL (occL l)) t)
theorem idx_mem {P : Int → Bool} {l : List Int} {n : Nat} : n ∈ idx P l ↔ n < l.length ∧ P (l[n]?.getD 0) = true := by
  unfold idx idxTo
  rw [List.mem_filter]
  simp
theorem side_or {l : List Int} {n : Nat} {bl : Bool} (ho : orA l = true) (h : n ∈ idx (sdP (sdN bl)) l) : n < l.length ∧ orthB (l[n]?.getD 0) = true := by
  obtain ⟨h1, h2⟩ := idx_mem.1 h
  refine ⟨h1, ?_⟩
  unfold orA at ho
  have h3 := List.all_eq_true.1 ho (l[n]) (List.getElem_mem h1)
  rw [List.getElem?_eq_getElem h1] at h2 ⊢
  simp only [Option.getD_some] at h2 ⊢
  unfold orB at h3
  unfold sdP sgnP at h2
  by_cases h0 : l[n] = 0
  · rw [h0] at h2
    cases bl <;> simp [sdN] at h2
  · simpa [h0] using h3
theorem take_filter_yes {P : Nat → Bool} {z : List Nat} {k : Nat} (hk : k < z.length) (h : P z[k] = true) : (z.take (k + 1)).filter P = (z.take k).filter P ++ [z[k]] := by
  rw [List.take_succ_eq_append_getElem hk, List.filter_append]
  simp [h]
theorem take_filter_no {P : Nat → Bool} {z : List Nat} {k : Nat} (hk : k < z.length) (h : P z[k] = false) : (z.take (k + 1)).filter P = (z.take k).filter P := by
  rw [List.take_succ_eq_append_getElem hk, List.filter_append]
  simp [h]
theorem filter_len {P : Nat → Bool} {z : List Nat} (k : Nat) : ((z.take k).filter P).length ≤ k := by
  have h1 := List.length_filter_le P (z.take k)
  rw [List.length_take] at h1
  omega

theorem SrcI.at_ {w : World} {A : Option Addr} {l : List Nat} {c : Nat} (h : SrcI w A l c) {k : Nat} (hk : k < l.length) : ∃ ad, A = some ad ∧ ad.block < w.heap.size ∧ w.cell? (ad.add k) = some (.int .i64 ((l[k] : Nat) : Int)) := by
  cases A with
  | none => have := (h.1 rfl).1; omega
  | some ad =>
    obtain ⟨h1, h2⟩ := h.2 ad rfl
    refine ⟨ad, rfl, h1, h2 k _ ?_⟩
    unfold vnats
    rw [List.getElem?_map, List.getElem?_eq_getElem hk]
    rfl

set_option maxRecDepth 100000 in
set_option maxHeartbeats 4000000 in
theorem ratkL_any (F R : Int) (l : List Int) (A : Option Addr) (c : Nat) (t : Int) (bl : Bool) (w : World) (hb : vbd F R l) (ho : orA l = true) (ht : vat F R t) (hA : RdP w w.heap.size A l c) :
    Calls Tryd.prog 14 #[.agg #[.int .i64 F, .int .i64 R, .slice A l.length c], .int .i64 t, .bool bl] w fun e w' => ∃ v, e = .returned v ∧ w'.ownsRow w.heap.size 3 1 v (atkL F R l t bl).length (vnats (atkL F R l t bl)) ∧ Below w.heap.size w w' := by
  obtain ⟨i0, hi, hz0, hz1, hz2⟩ := info_parts ints3
  obtain ⟨hv, hl, hp⟩ := hb
  have hlen : l.length ≤ 64 := by have := (vsz_mul hv).2; omega
  have H1 := Lib.hid (fun w hA => rSideL_any F R l A c (sdN bl) w (by omega) hp hA)
  have H2 := Lib.hid (fun w hA => rOcc_any F R l A c w hlen hp hA)
  have HX : Hid (ofL (occL l) < 18446744073709551616) := Lib.hid (by
    have := ofL_lt (l := occL l) (n := 64) (fun i hi => by
      unfold occL at hi
      rcases List.mem_append.1 hi with h | h <;> have := idx_lt h <;> omega)
    simpa using this)
  have HATT := Lib.hid (fun n X (hX : X < 18446744073709551616) w (hn : n ∈ idx (sdP (sdN bl)) l) hA => ratt_any F R l A c n t X hX w hv hl (side_or ho hn).1 (side_or ho hn).2 ht hA)
  have hzl : (idx (sdP (sdN bl)) l).length ≤ 64 := Nat.le_trans (idx_len _ _) hlen
  unfold atkL
  have HRS := Lib.hid (rside_any bl)
  generalize sdN bl = s at *
  clear hp hl ht ho
  generalize ofL (occL l) = X at *
  obtain ⟨P, hP⟩ : ∃ P, atkP F R l X t = P := ⟨_, rfl⟩
  have HPP := Lib.hid hP
  rw [hP]
  clear hP
  go_enter Tryd.func14, Tryd.ntmps14
  go_wp2_with fail
  obtain ⟨V, hV⟩ : ∃ V, w.alloc (.cells #[.int .i64 F, .int .i64 R, .slice A l.length c] 26) = V := ⟨_, rfl⟩
  have h0 : V.cell? ⟨w.heap.size, 0, none⟩ = some (.int .i64 F) ∧ V.cell? ⟨w.heap.size, 1, none⟩ = some (.int .i64 R) ∧ V.cell? ⟨w.heap.size, 2, none⟩ = some (.slice A l.length c) ∧ St w A l c V := by
    rw [← hV]
    exact ⟨by simp [go_sem], by simp [go_sem], by simp [go_sem], hA.below (box1 _ _), box1 _ _, by simp⟩
  rw [hV]
  clear hV hA
  go_region_held3 (fun w' => w'.cell? ⟨w.heap.size, 0, none⟩ = some (.int .i64 F) ∧ w'.cell? ⟨w.heap.size, 1, none⟩ = some (.int .i64 R) ∧ w'.cell? ⟨w.heap.size, 2, none⟩ = some (.slice A l.length c) ∧ St w A l c w')
    (first | assumption | exact keepS2 (by assumption) (by assumption) | exact keepS (by assumption) (by assumption) | exact keepS (by assumption) ((Below.refl _ _).drew))
    (first
      | (go_at_call 39; refine (HRS.out _).mono ?_; rintro e wx ⟨rfl, rfl⟩)
      | (go_at_call 38; refine (H1.out _ (rdS (by assumption))).mono ?_; rintro e w1 ⟨v1, rfl, hown1, hb1⟩; obtain ⟨A1, d1, rfl, hs1⟩ := SrcI.own hown1)
      | (go_at_call 40; refine (H2.out _ (rdS (by assumption))).mono ?_; rintro e w2 ⟨rfl, hb2⟩; have hs2 := hs1.below hb2))
  have hH := (by assumption : w2.cell? ⟨w.heap.size, 0, none⟩ = some (.int .i64 F) ∧ w2.cell? ⟨w.heap.size, 1, none⟩ = some (.int .i64 R) ∧ w2.cell? ⟨w.heap.size, 2, none⟩ = some (.slice A l.length c) ∧ St w A l c w2)
  obtain ⟨c0, c1, c2, hR, hB, hsz⟩ := hH
  obtain ⟨z, hz⟩ : ∃ z, idx (sdP s) l = z := ⟨_, rfl⟩
  rw [hz] at hs2 HATT hzl ⊢
  have HZ := Lib.hid hz
  clear hz h0 hb1 hs1 hown1 hb2
  go_wp2
  go_loopw [7, 10] (fun v i wr => ∃ k : Nat, k ≤ z.length ∧ i = .int .i64 k ∧ wr.ownsRow w2.heap.size 3 1 v ((z.take k).filter P).length (vnats ((z.take k).filter P)) ∧ Below w2.heap.size w2 wr) (fun _ i _ => z.length - (intOf i).toNat)
  case atStart => exact ⟨0, by omega, rfl, World.ownsRow_nil _ _ _ _, Below.refl _ _⟩
  case round =>
    obtain ⟨k, hk, rfl, hown, hBr⟩ := hrel
    have s2 := hBr.size
    by_cases hlt : k < z.length
    · obtain ⟨ad, rfl, hbl, hc⟩ := hs2.at_ hlt
      have d0 := cBo hBr c0
      have d1 := cBo hBr c1
      have d2 := cBo hBr c2
      have dc := cBo hBr hc
      have hmem : z[k] ∈ z := List.getElem_mem hlt
      have hfy := fun h => take_filter_yes (P := P) hlt h
      have hfn := fun h => take_filter_no (P := P) hlt h
      have hfl := filter_len (P := P) (z := z) k
      obtain ⟨y, hy⟩ : ∃ y, z[k] = y := ⟨_, rfl⟩
      rw [hy] at dc hmem hfy hfn
      have HFY := Lib.hid hfy
      have HFN := Lib.hid hfn
      have hPy : attP F R (l[y]?.getD 0) X y t = P y := by rw [← HPP.out]; rfl
      have hq := HATT.out y X HX.out
      rw [hPy] at hq
      have HQ := Lib.hid hq
      have HRD := Lib.hid hR
      clear hy hc hfy hfn hPy hq
      have q0 := cell_regrown d0
      have q1 := cell_regrown d1
      have q2 := cell_regrown d2
      have qc := cell_regrown dc
      have cA : ∀ d os, Calls Tryd.prog 41 #[.agg #[.int .i64 F, .int .i64 R, .slice A l.length c], .int .i64 y, .int .i64 t, .int .u64 X] (grow (redrawn wr d) os) fun e w'' => e = .returned (.bool (P y)) ∧ ∃ q : Regrown, w'' = grow (redrawn wr q.d) q.os := fun d os => Calls.regrown_of (HQ.out _ hmem (((HRD.out.below (hBr.mono (by omega))).below ((below_regrown wr d os).mono (by omega))).grow (by have := (below_regrown wr d os).size; omega)))
      clear d0 d1 d2 dc hmem
      cases hb : P y
      · have HFK := Lib.hid (HFN.out hb)
        rw [hb] at cA
        clear hb
        generalize (z.take k).filter P = g at *
        go_wp2
        refine wp_region_quiet_below (by kernel_rfl) (by kernel_rfl) ?_
        repeat (go_big_quiet_step ((go_at_call 41; exact cA _ _)))
        refine wpQuiet_nil ?_
        intro _ hw'
        obtain ⟨⟨dq, osq⟩, hw''⟩ := hw'
        subst hw''
        have hRg := below_regrown wr dq osq
        have hown2 := own_below hown hRg
        have hB2 := hBr.trans (hRg.mono s2)
        clear hown hBr hRg
        go_wp2
        go_roundw
        case rel => exact ⟨k + 1, by omega, by go_num, by rw [HFK.out]; exact hown2, hB2⟩
        case measure => simp [intOf]; omega
      · have HFK := Lib.hid (HFY.out hb)
        have HFL : Hid (((z.take (k + 1)).filter P).length = ((z.take k).filter P).length + 1) := Lib.hid (by rw [HFK.out]; simp)
        rw [hb] at cA
        clear hb
        generalize (z.take k).filter P = g at *
        go_wp2
        refine wp_region_quiet_below (by kernel_rfl) (by kernel_rfl) ?_
        repeat (go_big_quiet_step ((go_at_call 41; exact cA _ _)))
        refine wpQuiet_nil ?_
        intro _ hw'
        obtain ⟨⟨dq, osq⟩, hw''⟩ := hw'
        subst hw''
        have hRg := below_regrown wr dq osq
        have hown2 := own_below hown hRg
        have hB2 := hBr.trans (hRg.mono s2)
        have hsz2 := hRg.size
        have ec := qc dq osq
        clear hown hBr hRg q0 q1 q2 qc cA
        generalize grow (redrawn wr dq) osq = wc at *
        go_wp2_with (at_builtin; (refine wpList_append_own _ rfl _ _ 36 rfl w2.heap.size 3 i0 (.int .i64 0) 1 8 Tryd.underlying36 hi hz0 hz1 hz2 rfl (by decide) _ _ _ rfl (hown2.alloc _) ⟨wc.heap.size, 0, none⟩ 1 1 [.int .i64 (y : Int)] rfl rfl ?c1 ?c2 ?c3 ?c4 ?c5 ?_))
        case c1 =>
          intro j u hj
          match j, hj with
          | 0, hj => simp at hj; subst hj; simp [Addr.add]
        case c2 => intro u hu; simp at hu; subst hu; rfl
        case c3 => unfold maxLen; omega
        case c4 => omega
        case c5 => simp; omega
        intro v' w3 hown' hgrow _
        go_wp2
        go_roundw
        case rel =>
          refine ⟨k + 1, by omega, by go_num, ?_, ?_⟩
          · rw [HFL.out, HFK.out, vnats_snoc]; exact hown'
          · exact (hB2.alloc (by omega) _).grown hgrow (by simp; omega) (fun r e => (World.ownsRow.lt hown2 r e).1)
        case measure => simp [intOf]; omega
    · have hkl : k = z.length := by omega
      have HE : Hid (z.filter P = (z.take k).filter P) := Lib.hid (by rw [hkl, List.take_length])
      subst hkl
      go_wp2
      go_ret
      exact ⟨_, rfl, by rw [HZ.out, HE.out]; exact World.ownsRow.mono hown (by omega), chain hB hBr⟩

end Go.Proofs.YtjnbjegopddhgaaDoor
