/- Lines and leaps: whether two squares are on a line, and its direction, by the document's own function. -/
import Derived.Test.YtejlbjbmpdddkaaDoorRyB
namespace Go.Proofs.YtejlbjbmpdddkaaDoor
open Go.RowKit

def lineB (F a b : Int) : Bool := !(a == b) && ((b % F - a % F == 0) || (b / F - a / F == 0) || (b % F - a % F == b / F - a / F) || (b % F - a % F + (b / F - a / F) == 0))
/-- what asking for a line returns. -/
def lineV (F a b : Int) : Value := if lineB F a b = true then .tuple #[.int .i64 (sg (b % F - a % F)), .int .i64 (sg (b / F - a / F)), .bool true] else .tuple #[.int .i64 0, .int .i64 0, .bool false]

set_option maxRecDepth 100000 in
set_option maxHeartbeats 8000000 in
theorem line_any (F R a b : Int) (ha : vat F R a) (hb : vat F R b) (w : World) :
    Calls Tryd.prog 14 #[.agg #[.int .i64 F, .int .i64 R], .int .i64 a, .int .i64 b] w fun e w' => e = .returned (lineV F a b) ∧ Below w.heap.size w w' := by
  obtain ⟨p0, p1, p2, p3⟩ := place_bd ha.1 ha.2.1 ha.2.2
  obtain ⟨q0, q1, q2, q3⟩ := place_bd hb.1 hb.2.1 hb.2.2
  have f2 := ha.1.2.1
  have r2 := ha.1.2.2.2
  obtain ⟨V, hV⟩ : ∃ V, lineV F a b = V := ⟨_, rfl⟩
  rw [hV]
  have HV0 := Lib.hid hV
  clear hV
  go_enter Tryd.func14, Tryd.ntmps14
  go_upto_region 1 with fail
  go_cut [9, 10] (fun s7 s8 wx => ∃ g h : Nat, s7 = .pointer (some ⟨g, 0, none⟩) ∧ s8 = .pointer (some ⟨h, 0, none⟩) ∧ wx.cell? ⟨g, 0, none⟩ = some (.int .i64 (a % F)) ∧ wx.cell? ⟨g, 1, none⟩ = some (.int .i64 (a / F)) ∧ wx.cell? ⟨h, 0, none⟩ = some (.int .i64 (b % F)) ∧ wx.cell? ⟨h, 1, none⟩ = some (.int .i64 (b / F)) ∧ Below w.heap.size w wx)
  case first =>
    go_region_held3 (fun w' => w'.cell? ⟨w.heap.size, 0, none⟩ = some (.int .i64 F) ∧ w'.cell? ⟨w.heap.size, 1, none⟩ = some (.int .i64 R)) (((try dsimp only); refine ⟨?_, ?_⟩ <;> ((try simp only [World.cell?_drew]); (repeat (first | assumption | (rw [World.cell?_alloc_new]; rfl) | (exact (by assumption : _ ∧ _).1) | (exact (by assumption : _ ∧ _).2) | (refine alive _ ?_))))))
     (first
      | (go_at_call_of 24 (Value.int .i64 a); refine (refPlace_ex _ _ _ ha _).mono ?_; rintro e w1 ⟨rfl, rfl⟩)
      | (go_at_call_of 24 (Value.int .i64 b); refine (refPlace_ex _ _ _ hb _).mono ?_; rintro e w2 ⟨rfl, rfl⟩))
    all_goals
      go_wp2_with fail
      go_meet
      refine ⟨_, _, rfl, rfl, ?_, ?_, ?_, ?_, ?_⟩
      · simp [go_sem]
      · simp [go_sem]
      · simp [go_sem]
      · simp [go_sem]
      · go_grown
  case rest =>
    obtain ⟨g, h, rfl, rfl, g0, g1, h0, h1, hB⟩ := hcut
    have hV := HV0.out
    unfold lineV lineB at hV
    obtain ⟨x, hx⟩ : ∃ x, a % F = x := ⟨_, rfl⟩
    obtain ⟨y, hy⟩ : ∃ y, a / F = y := ⟨_, rfl⟩
    obtain ⟨u, hu⟩ : ∃ u, b % F = u := ⟨_, rfl⟩
    obtain ⟨v, hv⟩ : ∃ v, b / F = v := ⟨_, rfl⟩
    rw [hx] at g0 p0 p1
    rw [hy] at g1 p2 p3
    rw [hu] at h0 q0 q1
    rw [hv] at h1 q2 q3
    rw [hx, hy, hu, hv] at hV
    have HV := Lib.hid hV
    clear hx hy hu hv hV ha hb
    have hw1 : IntKind.i64.wrap (u - x) = u - x := IntWalk.i64_in _ (by omega)
    have hw2 : IntKind.i64.wrap (v - y) = v - y := IntWalk.i64_in _ (by omega)
    go_wp2
    go_quiet (fail)
    clear hw1 hw2
    have hB2 := drawn hB
    obtain ⟨d, hd⟩ : ∃ d, u - x = d := ⟨_, rfl⟩
    obtain ⟨q, hq⟩ : ∃ q, v - y = q := ⟨_, rfl⟩
    rw [hd, hq] at HV ⊢
    have d0 : -8 ≤ d ∧ d ≤ 8 := by omega
    have e0 : -8 ≤ q ∧ q ≤ 8 := by omega
    obtain ⟨d1, d2⟩ := d0
    obtain ⟨e1, e2⟩ := e0
    clear hd hq
    by_cases hab : a = b
    · have t1 : (a == b) = true := by simp [hab]
      have E : Hid (V = .tuple #[.int .i64 0, .int .i64 0, .bool false]) := Lib.hid (by rw [← HV.out, t1]; simp)
      clear hab
      go_wp2
      go_ret3
      exact ⟨by rw [E.out]; rfl, hB2 _⟩
    · have t1 : (a == b) = false := beq_eq_false_iff_ne.2 hab
      have E : Hid (((d == 0) || (q == 0) || (d == q) || (d + q == 0)) = true → V = .tuple #[.int .i64 (sg d), .int .i64 (sg q), .bool true]) := Lib.hid (fun h => by rw [← HV.out, t1, h]; simp)
      have E0 : Hid (((d == 0) || (q == 0) || (d == q) || (d + q == 0)) = false → V = .tuple #[.int .i64 0, .int .i64 0, .bool false]) := Lib.hid (fun h => by rw [← HV.out, t1, h]; simp)
      clear hab HV HV0
      by_cases z1 : d = 0
      · have n1 : (d != 0) = false := by simp [z1]
        have E2 := Lib.hid (E.out (by simp [z1]))
        clear E
        clear z1 E0
        go_wp2_with fail
        refine (sign_any _ _).mono ?_
        rintro e w1 ⟨rfl, rfl⟩
        go_wp2_with fail
        refine (sign_any _ _).mono ?_
        rintro e w2 ⟨rfl, rfl⟩
        go_wp2
        go_ret3
        exact ⟨by rw [E2.out]; rfl, hB2 _⟩
      · have n1 : (d != 0) = true := bne_iff_ne.2 z1
        by_cases z2 : q = 0
        · have n2 : (q != 0) = false := by simp [z2]
          have E2 := Lib.hid (E.out (by simp [z2]))
          clear E
          clear z1 z2 E0
          go_wp2_with fail
          refine (sign_any _ _).mono ?_
          rintro e w1 ⟨rfl, rfl⟩
          go_wp2_with fail
          refine (sign_any _ _).mono ?_
          rintro e w2 ⟨rfl, rfl⟩
          go_wp2
          go_ret3
          exact ⟨by rw [E2.out]; rfl, hB2 _⟩
        · have n2 : (q != 0) = true := bne_iff_ne.2 z2
          by_cases z3 : d = q
          · have n3 : (d != q) = false := by simp [z3]
            have E2 := Lib.hid (E.out (by simp [z3]))
            clear E
            clear z1 z2 z3 E0
            go_wp2_with fail
            refine (sign_any _ _).mono ?_
            rintro e w1 ⟨rfl, rfl⟩
            go_wp2_with fail
            refine (sign_any _ _).mono ?_
            rintro e w2 ⟨rfl, rfl⟩
            go_wp2
            go_ret3
            exact ⟨by rw [E2.out]; rfl, hB2 _⟩
          · have n3 : (d != q) = true := bne_iff_ne.2 z3
            by_cases z4 : d + q = 0
            · have n4 : (d + q != 0) = false := by simp [z4]
              have E2 := Lib.hid (E.out (by simp [z4]))
              clear E
              clear z1 z2 z3 z4 E0
              go_wp2_with fail
              refine (sign_any _ _).mono ?_
              rintro e w1 ⟨rfl, rfl⟩
              go_wp2_with fail
              refine (sign_any _ _).mono ?_
              rintro e w2 ⟨rfl, rfl⟩
              go_wp2
              go_ret3
              exact ⟨by rw [E2.out]; rfl, hB2 _⟩
            · have n4 : (d + q != 0) = true := bne_iff_ne.2 z4
              have E3 := Lib.hid (E0.out (by simp [z1, z2, z3, z4]))
              clear E E0 z1 z2 z3 z4
              go_wp2
              go_ret3
              exact ⟨by rw [E3.out]; rfl, hB2 _⟩

end Go.Proofs.YtejlbjbmpdddkaaDoor
