/- Lines and leaps: the squares that a pawn attacks, by the document's own function. -/
import Derived.Test.YtejlbjbmpdddkaaDoorRyF
import Derived.Deep.LoopGhost
namespace Go.Proofs.YtejlbjbmpdddkaaDoor
open Go.RowKit

theorem new_cell (w : World) (v : Value) (t : TypeId) : (w.alloc (.cells #[v] t)).cell? ⟨w.heap.size, 0, none⟩ = some v := by simp [go_sem]
theorem own_drewN {w : World} {base : Nat} {e : TypeId} {size : Nat} {v : Value} {n : Nat} {xs : List Value} (h : w.ownsRow base e size v n xs) (k : Nat) : (w.drewN k).ownsRow base e size v n xs := h
theorem below_dr {B : Nat} {a w : World} (h : Below B a w) (n : Nat) : Below B a (w.drewN n) := ⟨h.os, h.tape, h.output, h.size, h.block⟩
def pawnB (F a : Int) (bl : Bool) (b : Int) : Bool := (b / F - a / F == fwd bl) && ((b % F - a % F == 1) || (a % F - b % F == 1))
def pawnL (F R a : Int) (bl : Bool) : List Nat := pickTo (fun b => pawnB F a bl (b : Int)) (F * R).toNat

set_option maxRecDepth 100000 in
set_option maxHeartbeats 16000000 in
theorem rPawn_any (F R a : Int) (bl : Bool) (ha : vat F R a) (w : World) :
    Calls Tryd.prog 22 #[.agg #[.int .i64 F, .int .i64 R], .bool bl, .int .i64 a] w fun e w' => ∃ v, e = .returned v ∧ w'.ownsRow w.heap.size 3 1 v (pawnL F R a bl).length (vnats (pawnL F R a bl)) ∧ Below w.heap.size w w' := by
  obtain ⟨i0, hi, hz0, hz1, hz2⟩ := info_parts ints3
  obtain ⟨m0, m1⟩ := vsz_mul ha.1
  obtain ⟨p0, p1, p2, p3⟩ := place_bd ha.1 ha.2.1 ha.2.2
  have f2 := ha.1.2.1
  have r2 := ha.1.2.2.2
  have HA := Lib.hid (refPlace_ex F R a ha)
  have hv := Lib.hid ha.1
  obtain ⟨P, hP⟩ : ∃ P : Nat → Bool, (fun b : Nat => pawnB F a bl (b : Int)) = P := ⟨_, rfl⟩
  have HP := Lib.hid hP
  unfold pawnL
  rw [hP]
  clear hP ha
  go_enter Tryd.func22, Tryd.ntmps22
  go_wp2
  go_loopg [7, 8] 64 (fun gn v i wr => ∃ b : Nat, gn = 64 - b ∧ (b : Int) ≤ F * R ∧ i = .int .i64 b ∧ wr.ownsRow (w.heap.size + 1) 3 1 v (pickTo P b).length (vnats (pickTo P b)) ∧ Below (w.heap.size + 1) (w.alloc (.cells #[.int .i64 F, .int .i64 R] 23)) wr)
  case atStart => exact ⟨0, by omega, by omega, rfl, World.ownsRow_nil _ _ _ _, Below.refl _ _⟩
  case round =>
    obtain ⟨b, hgk, hb, rfl, hown, hB⟩ := hrel
    have s1 := hB.size
    simp at s1
    have hc0 := hB.cell (p := ⟨w.heap.size, 0, none⟩) (by simp)
    have hc1 := hB.cell (p := ⟨w.heap.size, 1, none⟩) (by simp)
    simp [go_sem] at hc0 hc1
    by_cases hlt : (b : Int) < F * R
    · have hat : vat F R (b : Int) := ⟨hv.out, by omega, hlt⟩
      obtain ⟨q0, q1, q2, q3⟩ := place_bd hat.1 hat.2.1 hat.2.2
      have HBP := Lib.hid (refPlace_ex F R b hat)
      have e : pawnB F a bl (b : Int) = P b := congrFun HP.out b
      unfold pawnB at e
      obtain ⟨x, hx⟩ : ∃ x, a % F = x := ⟨_, rfl⟩
      obtain ⟨y, hy⟩ : ∃ y, a / F = y := ⟨_, rfl⟩
      obtain ⟨u, hu⟩ : ∃ u, (b : Int) % F = u := ⟨_, rfl⟩
      obtain ⟨v, hv2⟩ : ∃ v, (b : Int) / F = v := ⟨_, rfl⟩
      rw [hx, hy, hu, hv2] at e
      have ca := HA.out
      have cb := HBP.out
      rw [hx, hy] at ca
      rw [hu, hv2] at cb
      have CA := Lib.hid ca
      have CB := Lib.hid cb
      rw [hx] at p0 p1
      rw [hy] at p2 p3
      rw [hu] at q0 q1
      rw [hv2] at q2 q3
      have HE := Lib.hid e
      have hle := pickTo_le P b
      clear ca cb hx hy hu hv2 e hat HA HBP
      go_upto_region 5 with fail
      go_cut [9, 10] (fun s7 s8 wx => ∃ g h : Nat, s7 = .pointer (some ⟨g, 0, none⟩) ∧ s8 = .pointer (some ⟨h, 0, none⟩) ∧ wx.cell? ⟨g, 0, none⟩ = some (.int .i64 x) ∧ wx.cell? ⟨g, 1, none⟩ = some (.int .i64 y) ∧ wx.cell? ⟨h, 0, none⟩ = some (.int .i64 u) ∧ wx.cell? ⟨h, 1, none⟩ = some (.int .i64 v) ∧ Below wr.heap.size wr wx)
      case first =>
        go_region_held3 (fun w' => w'.cell? ⟨w.heap.size, 0, none⟩ = some (.int .i64 F) ∧ w'.cell? ⟨w.heap.size, 1, none⟩ = some (.int .i64 R)) (((try dsimp only); refine ⟨?_, ?_⟩ <;> ((try simp only [World.cell?_drew]); (repeat (first | assumption | (rw [World.cell?_alloc_new]; rfl) | (exact (by assumption : _ ∧ _).1) | (exact (by assumption : _ ∧ _).2) | (refine alive _ ?_))))))
         (first
          | (go_at_call_of 24 (Value.int .i64 a); refine (CA.out _).mono ?_; rintro e w1 ⟨rfl, rfl⟩)
          | (go_at_call_of 24 (Value.int .i64 (b : Int)); refine (CB.out _).mono ?_; rintro e w2 ⟨rfl, rfl⟩))
        all_goals
          go_wp2_with fail
          go_meet
          refine ⟨_, _, rfl, rfl, ?_, ?_, ?_, ?_, ?_⟩
          · simp [go_sem]
          · simp [go_sem]
          · simp [go_sem]
          · simp [go_sem]
          · go_grown
      case rest =>
        obtain ⟨g, h, rfl, rfl, g0, g1, h0, h1, hBc⟩ := hcut
        have hown2 := own_below hown hBc
        have hB2 := hB.trans (hBc.mono s1)
        clear hown hB hc0 hc1
        have hsz := hBc.size
        have hlt' : (b : Int) < F * R := hlt
        have hw1 : IntKind.i64.wrap (v - y) = v - y := IntWalk.i64_in _ (by omega)
        have hw2 : IntKind.i64.wrap (u - x) = u - x := IntWalk.i64_in _ (by omega)
        have hw3 : IntKind.i64.wrap (x - u) = x - u := IntWalk.i64_in _ (by omega)
        clear CA CB hBc
        by_cases z1 : v - y = fwd bl
        · have t1 : (v - y == fwd bl) = true := by simp [z1]
          by_cases z2 : u - x = 1
          · have t2 : (u - x == 1) = true := by simp [z2]
            have hbit : P b = true := by rw [← HE.out]; simp [t1, t2]
            have HS := Lib.hid (pickTo_yes P b hbit)
            have HL : Hid ((pickTo P (b + 1)).length = (pickTo P b).length + 1) := Lib.hid (by rw [HS.out]; simp)
            clear hbit HE z1 z2
            generalize pickTo P b = q at *
            go_wp2
            go_quiet ((go_at_call 46; exact Calls.quiet_of_same ((forward_any bl _).mono fun _ _ h => ⟨h.1, h.2.symm⟩)))
            clear hw1 hw2 hw3
            go_wp2_with (at_builtin; (refine wpList_append_own _ rfl _ _ 24 rfl (w.heap.size + 1) 3 i0 (.int .i64 0) 1 8 Tryd.underlying24 hi hz0 hz1 hz2 rfl (by decide) _ _ _ rfl ((own_drewN hown2 _).alloc _) ⟨wc.heap.size, 0, none⟩ 1 1 [.int .i64 (b : Int)] rfl rfl ?c1 ?c2 ?c3 ?c4 ?c5 ?_))
            case c1 =>
              intro j u hj
              match j, hj with
              | 0, hj => simp at hj; subst hj; simp [Addr.add]; exact new_cell (wc.drewN _) _ _
            case c2 => intro u hu; simp at hu; subst hu; rfl
            case c3 => unfold maxLen; omega
            case c4 => omega
            case c5 => simp; omega
            intro v' w3 hown' hgrow _
            go_wp2
            go_roundg (64 - (b + 1))
            case measure => omega
            case rel =>
              refine ⟨b + 1, rfl, by omega, by go_num, ?_, ?_⟩
              · rw [HL.out, HS.out, vnats_snoc]; exact hown'
              · exact ((below_dr hB2 _).alloc (by simp; omega) _).grown hgrow (by simp; omega) (fun r e => (World.ownsRow.lt (own_drewN hown2 0) r e).1)
          · have t2 : (u - x == 1) = false := beq_eq_false_iff_ne.2 z2
            by_cases z3 : x - u = 1
            · have t3 : (x - u == 1) = true := by simp [z3]
              have hbit : P b = true := by rw [← HE.out]; simp [t1, t3]
              have HS := Lib.hid (pickTo_yes P b hbit)
              have HL : Hid ((pickTo P (b + 1)).length = (pickTo P b).length + 1) := Lib.hid (by rw [HS.out]; simp)
              clear hbit HE z1 z2 z3
              generalize pickTo P b = q at *
              go_wp2
              go_quiet ((go_at_call 46; exact Calls.quiet_of_same ((forward_any bl _).mono fun _ _ h => ⟨h.1, h.2.symm⟩)))
              clear hw1 hw2 hw3
              go_wp2_with (at_builtin; (refine wpList_append_own _ rfl _ _ 24 rfl (w.heap.size + 1) 3 i0 (.int .i64 0) 1 8 Tryd.underlying24 hi hz0 hz1 hz2 rfl (by decide) _ _ _ rfl ((own_drewN hown2 _).alloc _) ⟨wc.heap.size, 0, none⟩ 1 1 [.int .i64 (b : Int)] rfl rfl ?c1 ?c2 ?c3 ?c4 ?c5 ?_))
              case c1 =>
                intro j u hj
                match j, hj with
                | 0, hj => simp at hj; subst hj; simp [Addr.add]; exact new_cell (wc.drewN _) _ _
              case c2 => intro u hu; simp at hu; subst hu; rfl
              case c3 => unfold maxLen; omega
              case c4 => omega
              case c5 => simp; omega
              intro v' w3 hown' hgrow _
              go_wp2
              go_roundg (64 - (b + 1))
              case measure => omega
              case rel =>
                refine ⟨b + 1, rfl, by omega, by go_num, ?_, ?_⟩
                · rw [HL.out, HS.out, vnats_snoc]; exact hown'
                · exact ((below_dr hB2 _).alloc (by simp; omega) _).grown hgrow (by simp; omega) (fun r e => (World.ownsRow.lt (own_drewN hown2 0) r e).1)
            · have t3 : (x - u == 1) = false := beq_eq_false_iff_ne.2 z3
              have hbit : P b = false := by rw [← HE.out]; simp [t2, t3]
              have HS := Lib.hid (pickTo_no P b hbit)
              clear hbit HE z1 z2 z3
              go_wp2
              go_quiet ((go_at_call 46; exact Calls.quiet_of_same ((forward_any bl _).mono fun _ _ h => ⟨h.1, h.2.symm⟩)))
              clear hw1 hw2 hw3
              go_wp2
              go_roundg (64 - (b + 1))
              case measure => omega
              case rel => exact ⟨b + 1, rfl, by omega, by go_num, by rw [HS.out]; exact own_drewN hown2 _, below_dr hB2 _⟩
        · have t1 : (v - y == fwd bl) = false := beq_eq_false_iff_ne.2 z1
          have hbit : P b = false := by rw [← HE.out]; simp [t1]
          have HS := Lib.hid (pickTo_no P b hbit)
          clear hbit HE z1
          go_wp2
          go_quiet ((go_at_call 46; exact Calls.quiet_of_same ((forward_any bl _).mono fun _ _ h => ⟨h.1, h.2.symm⟩)))
          clear hw1 hw2 hw3
          go_wp2
          go_roundg (64 - (b + 1))
          case measure => omega
          case rel => exact ⟨b + 1, rfl, by omega, by go_num, by rw [HS.out]; exact own_drewN hown2 _, below_dr hB2 _⟩
    · have hbe : b = (F * R).toNat := by omega
      have HE : Hid (pickTo P (F * R).toNat = pickTo P b) := Lib.hid (by rw [hbe])
      clear hbe
      go_wp2
      go_ret
      exact ⟨_, rfl, by rw [HE.out]; exact World.ownsRow.mono hown (by omega), (box1 _ _).trans (hB.mono (by omega))⟩

end Go.Proofs.YtejlbjbmpdddkaaDoor
