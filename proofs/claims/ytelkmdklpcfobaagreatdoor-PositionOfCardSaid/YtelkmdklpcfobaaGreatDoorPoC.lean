/- Positions, by the document: the board of a position, squares by their names, ranks of a side, kings and rooks at home, rights. -/
import Derived.Test.YtelkmdklpcfobaaGreatDoorPoA
import Derived.Test.YtelkmdklpcfobaaGreatDoorAtF

namespace Go.Proofs.YtelkmdklpcfobaaGreatDoor
open Go.RowKit Go.Sort

/-- the eight cells of a position in block b. -/
def Bx8 (W : World) (b : Nat) (F R : Int) (v : Value) (bl : Bool) (ca : Nat) (ps ha fu : Int) : Prop :=
  (W.cell? ⟨b, 0, none⟩ = some (.int .i64 F) ∧ W.cell? ⟨b, 1, none⟩ = some (.int .i64 R) ∧ W.cell? ⟨b, 2, none⟩ = some v ∧ W.cell? ⟨b, 3, none⟩ = some (.bool bl) ∧ W.cell? ⟨b, 4, none⟩ = some (.int .u8 (ca : Int)) ∧ W.cell? ⟨b, 5, none⟩ = some (.int .i64 ps) ∧ W.cell? ⟨b, 6, none⟩ = some (.int .i64 ha) ∧ W.cell? ⟨b, 7, none⟩ = some (.int .i64 fu)) ∧ ∀ o, W.frozen? ⟨b, o, none⟩ = false
theorem box8 (w : World) (F R : Int) (v : Value) (bl : Bool) (ca : Nat) (ps ha fu : Int) : Bx8 (w.alloc (.cells #[.int .i64 F, .int .i64 R, v, .bool bl, .int .u8 (ca : Int), .int .i64 ps, .int .i64 ha, .int .i64 fu] 26)) w.heap.size F R v bl ca ps ha fu := by
  refine ⟨⟨?_, ?_, ?_, ?_, ?_, ?_, ?_, ?_⟩, fun o => ?_⟩ <;> simp [go_sem]
theorem Bx8.below {W W' : World} {B b : Nat} {F R : Int} {v : Value} {bl : Bool} {ca : Nat} {ps ha fu : Int} (h : Bx8 W b F R v bl ca ps ha fu) (hb : Below B W W') (hB : b < B) : Bx8 W' b F R v bl ca ps ha fu := by
  have q : ∀ o, W'.cell? ⟨b, o, none⟩ = W.cell? ⟨b, o, none⟩ := fun o => hb.cell (p := ⟨b, o, none⟩) hB
  have f : ∀ o, W'.frozen? ⟨b, o, none⟩ = W.frozen? ⟨b, o, none⟩ := fun o => hb.frozen (p := ⟨b, o, none⟩) hB
  unfold Bx8
  simp only [q, f]
  exact h
theorem Bx8.lt {W : World} {b : Nat} {F R : Int} {v : Value} {bl : Bool} {ca : Nat} {ps ha fu : Int} (h : Bx8 W b F R v bl ca ps ha fu) : b < W.heap.size := World.block_lt_of_cell? W _ h.1.1
theorem Bx8.setv {W : World} {b : Nat} {F R : Int} {v : Value} {bl : Bool} {ca : Nat} {ps ha fu : Int} (h : Bx8 W b F R v bl ca ps ha fu) (u : Value) : Bx8 (W.setCell ⟨b, 2, none⟩ u) b F R u bl ca ps ha fu := by
  have q : ∀ o, o ≠ 2 → (W.setCell ⟨b, 2, none⟩ u).cell? ⟨b, o, none⟩ = W.cell? ⟨b, o, none⟩ := fun o ho => World.cell?_setCell_other _ _ _ _ (by simp)
  refine ⟨⟨?_, ?_, ?_, ?_, ?_, ?_, ?_, ?_⟩, fun o => (World.frozen?_setCell ..).trans (h.2 o)⟩
  · exact (q 0 (by decide)).trans h.1.1
  · exact (q 1 (by decide)).trans h.1.2.1
  · exact World.cell?_setCell_same _ _ _ h.1.2.2.1
  · exact (q 3 (by decide)).trans h.1.2.2.2.1
  · exact (q 4 (by decide)).trans h.1.2.2.2.2.1
  · exact (q 5 (by decide)).trans h.1.2.2.2.2.2.1
  · exact (q 6 (by decide)).trans h.1.2.2.2.2.2.2.1
  · exact (q 7 (by decide)).trans h.1.2.2.2.2.2.2.2

set_option maxRecDepth 100000 in
set_option maxHeartbeats 2000000 in
theorem rOf_any (F R : Int) (l : List Int) (A : Option Addr) (c : Nat) (bl : Bool) (ca : Nat) (ps ha fu : Int) (w : World) :
    Calls Tryz.prog 18 #[.agg #[.int .i64 F, .int .i64 R, .slice A l.length c, .bool bl, .int .u8 (ca : Int), .int .i64 ps, .int .i64 ha, .int .i64 fu]] w fun e w' => e = .returned (.agg #[.int .i64 F, .int .i64 R, .slice A l.length c]) ∧ Below w.heap.size w w' := by
  go_enter Tryz.func18, Tryz.ntmps18
  go_wp2
  refine bodyPost_ret (v := .agg #[.int .i64 F, .int .i64 R, .slice A l.length c]) ?_ rfl ⟨rfl, ?_⟩
  · simp [results, Tryz.results18, go_sem]
  · exact after1 (box1 _ _)

set_option maxRecDepth 100000 in
set_option maxHeartbeats 2000000 in
theorem rPiece1_any (b : Bool) (w : World) :
    Calls Tryz.prog 85 #[.int .i8 1, .bool b] w fun e w' => e = .returned (.int .i8 (pcS b)) ∧ Below w.heap.size w w' := by
  cases b
  all_goals
    go_enter Tryz.func85, Tryz.ntmps85
    go_wp2
    go_ret
    exact ⟨rfl, Below.refl _ _⟩

set_option maxRecDepth 100000 in
set_option maxHeartbeats 2000000 in
theorem rRank_any (F R : Int) (hv : vsz F R) (b : Bool) (k : Int) (h0 : 0 ≤ k) (h1 : k ≤ 4) (w : World) :
    Calls Tryz.prog 83 #[.agg #[.int .i64 F, .int .i64 R], .bool b, .int .i64 k] w fun e w' => e = .returned (.int .i64 (rkA R b k)) ∧ Below w.heap.size w w' := by
  obtain ⟨f1, f2, r1, r2⟩ := hv
  cases b
  all_goals
    go_enter Tryz.func83, Tryz.ntmps83
    go_wp2
    go_ret
    exact ⟨rfl, box1 _ _⟩

set_option maxRecDepth 100000 in
set_option maxHeartbeats 2000000 in
theorem rLast_any (F R : Int) (hv : vsz F R) (b : Bool) (w : World) :
    Calls Tryz.prog 46 #[.agg #[.int .i64 F, .int .i64 R], .bool b] w fun e w' => e = .returned (.int .i64 (lastR R b)) ∧ Below w.heap.size w w' := by
  obtain ⟨f1, f2, r1, r2⟩ := hv
  cases b
  all_goals
    go_enter Tryz.func46, Tryz.ntmps46
    go_wp2
    go_ret
    exact ⟨rfl, box1 _ _⟩

theorem vatN88 {n : Nat} (h : n < 64) : vat 8 8 (n : Int) := ⟨⟨by omega, by omega, by omega, by omega⟩, by omega, by omega⟩

set_option maxRecDepth 100000 in
set_option maxHeartbeats 2000000 in
theorem rAt_any (F R : Int) (l : List Int) (A : Option Addr) (c : Nat) (bl : Bool) (ca : Nat) (ps ha fu : Int) (s : ByteArray) (n : Nat) (hn : n < l.length) (hs : nameB 8 (n : Int) = s) (h8 : n < 64) (w : World) (hA : RdP w w.heap.size A l c) :
    Calls Tryz.prog 114 #[.agg #[.int .i64 F, .int .i64 R, .slice A l.length c, .bool bl, .int .u8 (ca : Int), .int .i64 ps, .int .i64 ha, .int .i64 fu], .string s] w fun e w' => e = .returned (.int .i8 (l[n]?.getD 0)) ∧ Below w.heap.size w w' := by
  have HP := Lib.hid (refParse_yes 8 8 (n : Int) s (vatN88 h8) hs)
  obtain ⟨ad, rfl, hb, hc⟩ := hA.at_ hn
  clear hs hA
  generalize l[n]?.getD 0 = p at *
  obtain ⟨V, hV⟩ : ∃ V, w.alloc (.cells #[.int .i64 F, .int .i64 R, .slice (some ad) l.length c, .bool bl, .int .u8 (ca : Int), .int .i64 ps, .int .i64 ha, .int .i64 fu] 26) = V := ⟨_, rfl⟩
  have hX := box8 w F R (.slice (some ad) l.length c) bl ca ps ha fu
  have hc2 := alive (.cells #[.int .i64 F, .int .i64 R, .slice (some ad) l.length c, .bool bl, .int .u8 (ca : Int), .int .i64 ps, .int .i64 ha, .int .i64 fu] 26) hc
  have hB := box1 w (.cells #[.int .i64 F, .int .i64 R, .slice (some ad) l.length c, .bool bl, .int .u8 (ca : Int), .int .i64 ps, .int .i64 ha, .int .i64 fu] 26)
  rw [hV] at hX hc2 hB
  have q2 := cell_regrown hX.1.2.2.1
  have qp := cell_regrown hc2
  have HV := Lib.hid hV
  clear hV hX hc hc2
  have cP : ∀ d os, Calls Tryz.prog 71 #[.agg #[.int .i64 8, .int .i64 8], .string s] (grow (redrawn V d) os) fun e w'' => e = .returned (.int .i64 (n : Int)) ∧ ∃ q : Regrown, w'' = grow (redrawn V q.d) q.os := fun d os => Calls.regrown_of (HP.out _)
  go_enter Tryz.func114, Tryz.ntmps114
  go_wp2_with fail
  rw [HV.out]
  refine wp_region_quiet_below (by kernel_rfl) (by kernel_rfl) ?_
  repeat (go_big_quiet_step (first | (go_at_call 71; exact cP _ _)))
  refine wpQuiet_nil ?_
  intro _ hw'
  obtain ⟨⟨dq, osq⟩, hw''⟩ := hw'
  subst hw''
  go_wp2
  go_ret
  exact ⟨rfl, chain hB (below_regrown _ dq osq)⟩

end Go.Proofs.YtelkmdklpcfobaaGreatDoor

/- Positions, by the document: kings and rooks at home, and the rights. -/
namespace Go.Proofs.YtelkmdklpcfobaaGreatDoor
open Go.RowKit Go.Sort

set_option maxRecDepth 100000 in
set_option maxHeartbeats 2000000 in
theorem rHm_in (l : List Int) (A : Option Addr) (c : Nat) (bl : Bool) (ca : Nat) (ps ha fu : Int) (bit : Nat) (hb : bit = 1 ∨ bit = 2 ∨ bit = 4 ∨ bit = 8) (hl : l.length = 64) (w : World) (hA : RdP w w.heap.size A l c) :
    Calls Tryz.prog 81 #[.agg #[.int .i64 8, .int .i64 8, .slice A l.length c, .bool bl, .int .u8 (ca : Int), .int .i64 ps, .int .i64 ha, .int .i64 fu], .int .u8 (bit : Int)] w fun e w' => e = .returned (.bool (poHm 8 8 l bit)) ∧ Below w.heap.size w w' := by
  have HA := Lib.hid (rdBo (box1 w (.cells #[.int .i64 8, .int .i64 8, .slice A l.length c, .bool bl, .int .u8 (ca : Int), .int .i64 ps, .int .i64 ha, .int .i64 fu] 26)) hA)
  have HX := Lib.hid (box8 w 8 8 (.slice A l.length c) bl ca ps ha fu)
  clear hA
  rcases hb with rfl | rfl | rfl | rfl
  · have E1 := Lib.hid (fun w hA => rAt_any 8 8 l A c bl ca ps ha fu ⟨#[101, 49]⟩ 4 (by omega) (by decide +kernel) (by omega) w hA)
    have E2 := Lib.hid (fun w hA => rAt_any 8 8 l A c bl ca ps ha fu ⟨#[104, 49]⟩ 7 (by omega) (by decide +kernel) (by omega) w hA)
    rw [show poHm 8 8 l 1 = (l[4]?.getD 0 == 6 && l[7]?.getD 0 == 4) from rfl]
    clear hl
    generalize l[4]?.getD 0 = x at *
    generalize l[7]?.getD 0 = y at *
    by_cases h : x = 6
    · have e1 : (x == 6) = true := beq_iff_eq.2 h
      rw [e1, Bool.true_and]
      clear h
      go_enter Tryz.func81, Tryz.ntmps81
      go_wp2_with fail
      refine (E1.out _ HA.out).mono ?_
      rintro e w1 ⟨rfl, hb1⟩
      obtain ⟨⟨z0, z1, z2, z3, z4, z5, z6, z7⟩, zf⟩ := HX.out.below hb1 (by simp)
      have HA1 := Lib.hid (rdBo hb1 HA.out)
      go_wp2_with fail
      refine (E2.out _ HA1.out).mono ?_
      rintro e w2 ⟨rfl, hb2⟩
      go_wp2
      go_ret
      exact ⟨rfl, after1 (chain hb1 hb2)⟩
    · have e1 : (x == 6) = false := beq_eq_false_iff_ne.2 h
      rw [e1, Bool.false_and]
      clear h
      go_enter Tryz.func81, Tryz.ntmps81
      go_wp2_with fail
      refine (E1.out _ HA.out).mono ?_
      rintro e w1 ⟨rfl, hb1⟩
      go_wp2
      go_ret
      exact ⟨rfl, after1 hb1⟩
  · have E1 := Lib.hid (fun w hA => rAt_any 8 8 l A c bl ca ps ha fu ⟨#[101, 49]⟩ 4 (by omega) (by decide +kernel) (by omega) w hA)
    have E2 := Lib.hid (fun w hA => rAt_any 8 8 l A c bl ca ps ha fu ⟨#[97, 49]⟩ 0 (by omega) (by decide +kernel) (by omega) w hA)
    rw [show poHm 8 8 l 2 = (l[4]?.getD 0 == 6 && l[0]?.getD 0 == 4) from rfl]
    clear hl
    generalize l[4]?.getD 0 = x at *
    generalize l[0]?.getD 0 = y at *
    by_cases h : x = 6
    · have e1 : (x == 6) = true := beq_iff_eq.2 h
      rw [e1, Bool.true_and]
      clear h
      go_enter Tryz.func81, Tryz.ntmps81
      go_wp2_with fail
      refine (E1.out _ HA.out).mono ?_
      rintro e w1 ⟨rfl, hb1⟩
      obtain ⟨⟨z0, z1, z2, z3, z4, z5, z6, z7⟩, zf⟩ := HX.out.below hb1 (by simp)
      have HA1 := Lib.hid (rdBo hb1 HA.out)
      go_wp2_with fail
      refine (E2.out _ HA1.out).mono ?_
      rintro e w2 ⟨rfl, hb2⟩
      go_wp2
      go_ret
      exact ⟨rfl, after1 (chain hb1 hb2)⟩
    · have e1 : (x == 6) = false := beq_eq_false_iff_ne.2 h
      rw [e1, Bool.false_and]
      clear h
      go_enter Tryz.func81, Tryz.ntmps81
      go_wp2_with fail
      refine (E1.out _ HA.out).mono ?_
      rintro e w1 ⟨rfl, hb1⟩
      go_wp2
      go_ret
      exact ⟨rfl, after1 hb1⟩
  · have E1 := Lib.hid (fun w hA => rAt_any 8 8 l A c bl ca ps ha fu ⟨#[101, 56]⟩ 60 (by omega) (by decide +kernel) (by omega) w hA)
    have E2 := Lib.hid (fun w hA => rAt_any 8 8 l A c bl ca ps ha fu ⟨#[104, 56]⟩ 63 (by omega) (by decide +kernel) (by omega) w hA)
    rw [show poHm 8 8 l 4 = (l[60]?.getD 0 == (-6) && l[63]?.getD 0 == (-4)) from rfl]
    clear hl
    generalize l[60]?.getD 0 = x at *
    generalize l[63]?.getD 0 = y at *
    by_cases h : x = (-6)
    · have e1 : (x == (-6)) = true := beq_iff_eq.2 h
      rw [e1, Bool.true_and]
      clear h
      go_enter Tryz.func81, Tryz.ntmps81
      go_wp2_with fail
      refine (E1.out _ HA.out).mono ?_
      rintro e w1 ⟨rfl, hb1⟩
      obtain ⟨⟨z0, z1, z2, z3, z4, z5, z6, z7⟩, zf⟩ := HX.out.below hb1 (by simp)
      have HA1 := Lib.hid (rdBo hb1 HA.out)
      go_wp2_with fail
      refine (E2.out _ HA1.out).mono ?_
      rintro e w2 ⟨rfl, hb2⟩
      go_wp2
      go_ret
      exact ⟨rfl, after1 (chain hb1 hb2)⟩
    · have e1 : (x == (-6)) = false := beq_eq_false_iff_ne.2 h
      rw [e1, Bool.false_and]
      clear h
      go_enter Tryz.func81, Tryz.ntmps81
      go_wp2_with fail
      refine (E1.out _ HA.out).mono ?_
      rintro e w1 ⟨rfl, hb1⟩
      go_wp2
      go_ret
      exact ⟨rfl, after1 hb1⟩
  · have E1 := Lib.hid (fun w hA => rAt_any 8 8 l A c bl ca ps ha fu ⟨#[101, 56]⟩ 60 (by omega) (by decide +kernel) (by omega) w hA)
    have E2 := Lib.hid (fun w hA => rAt_any 8 8 l A c bl ca ps ha fu ⟨#[97, 56]⟩ 56 (by omega) (by decide +kernel) (by omega) w hA)
    rw [show poHm 8 8 l 8 = (l[60]?.getD 0 == (-6) && l[56]?.getD 0 == (-4)) from rfl]
    clear hl
    generalize l[60]?.getD 0 = x at *
    generalize l[56]?.getD 0 = y at *
    by_cases h : x = (-6)
    · have e1 : (x == (-6)) = true := beq_iff_eq.2 h
      rw [e1, Bool.true_and]
      clear h
      go_enter Tryz.func81, Tryz.ntmps81
      go_wp2_with fail
      refine (E1.out _ HA.out).mono ?_
      rintro e w1 ⟨rfl, hb1⟩
      obtain ⟨⟨z0, z1, z2, z3, z4, z5, z6, z7⟩, zf⟩ := HX.out.below hb1 (by simp)
      have HA1 := Lib.hid (rdBo hb1 HA.out)
      go_wp2_with fail
      refine (E2.out _ HA1.out).mono ?_
      rintro e w2 ⟨rfl, hb2⟩
      go_wp2
      go_ret
      exact ⟨rfl, after1 (chain hb1 hb2)⟩
    · have e1 : (x == (-6)) = false := beq_eq_false_iff_ne.2 h
      rw [e1, Bool.false_and]
      clear h
      go_enter Tryz.func81, Tryz.ntmps81
      go_wp2_with fail
      refine (E1.out _ HA.out).mono ?_
      rintro e w1 ⟨rfl, hb1⟩
      go_wp2
      go_ret
      exact ⟨rfl, after1 hb1⟩

set_option maxRecDepth 100000 in
set_option maxHeartbeats 2000000 in
theorem rHm_any (F R : Int) (l : List Int) (A : Option Addr) (c : Nat) (bl : Bool) (ca : Nat) (ps ha fu : Int) (bit : Nat) (hb : bit = 1 ∨ bit = 2 ∨ bit = 4 ∨ bit = 8) (hl : F = 8 → R = 8 → l.length = 64) (w : World) (hA : RdP w w.heap.size A l c) :
    Calls Tryz.prog 81 #[.agg #[.int .i64 F, .int .i64 R, .slice A l.length c, .bool bl, .int .u8 (ca : Int), .int .i64 ps, .int .i64 ha, .int .i64 fu], .int .u8 (bit : Int)] w fun e w' => e = .returned (.bool (poHm F R l bit)) ∧ Below w.heap.size w w' := by
  by_cases hF : F = 8
  · by_cases hR : R = 8
    · subst hF hR
      exact rHm_in l A c bl ca ps ha fu bit hb (hl rfl rfl) w hA
    · subst hF
      have e1 : (R != 8) = true := bne_iff_ne.2 hR
      have e2 : poHm 8 R l bit = false := by unfold poHm; rw [beq_eq_false_iff_ne.2 hR]; rfl
      rw [e2]
      clear hR hl hb e2
      go_enter Tryz.func81, Tryz.ntmps81
      go_wp2
      go_ret
      exact ⟨rfl, box1 _ _⟩
  · have e1 : (F != 8) = true := bne_iff_ne.2 hF
    have e2 : poHm F R l bit = false := by unfold poHm; rw [beq_eq_false_iff_ne.2 hF]; rfl
    rw [e2]
    clear hF hl hb e2
    go_enter Tryz.func81, Tryz.ntmps81
    go_wp2
    go_ret
    exact ⟨rfl, box1 _ _⟩

def bitK (k : Nat) : Nat := [1, 2, 4, 8].getD k 0
theorem bitK_or {k : Nat} (h : k < 4) : bitK k = 1 ∨ bitK k = 2 ∨ bitK k = 4 ∨ bitK k = 8 := by
  have : ∀ k, k < 4 → bitK k = 1 ∨ bitK k = 2 ∨ bitK k = 4 ∨ bitK k = 8 := by decide
  exact this k h
def casK (F R : Int) (l : List Int) (ca k : Nat) : Bool := !poBit ca (bitK k) || poHm F R l (bitK k)
theorem poCas_k (F R : Int) (l : List Int) (ca : Nat) : poCas F R l ca = (decide (ca ≤ 15) && (casK F R l ca 0 && casK F R l ca 1 && casK F R l ca 2 && casK F R l ca 3)) := by
  unfold poCas casK
  simp [bitK, Bool.and_assoc]
theorem poCas_false {F R : Int} {l : List Int} {ca k : Nat} (hk : k < 4) (h : casK F R l ca k = false) : poCas F R l ca = false := by
  rw [poCas_k]
  match k, hk with
  | 0, _ => rw [h]; simp
  | 1, _ => rw [h]; simp
  | 2, _ => rw [h]; simp
  | 3, _ => rw [h]; simp
theorem poCas_true {F R : Int} {l : List Int} {ca : Nat} (h15 : ca ≤ 15) (h : ∀ k, k < 4 → casK F R l ca k = true) : poCas F R l ca = true := by
  rw [poCas_k, h 0 (by omega), h 1 (by omega), h 2 (by omega), h 3 (by omega)]
  simpa using h15

set_option maxRecDepth 100000 in
set_option maxHeartbeats 2000000 in
theorem rCas_any (F R : Int) (l : List Int) (A : Option Addr) (c : Nat) (bl : Bool) (ca : Nat) (ps ha fu : Int) (hca : ca < 256) (hl : F = 8 → R = 8 → l.length = 64) (w : World) (hA : RdP w w.heap.size A l c) :
    Calls Tryz.prog 47 #[.agg #[.int .i64 F, .int .i64 R, .slice A l.length c, .bool bl, .int .u8 (ca : Int), .int .i64 ps, .int .i64 ha, .int .i64 fu]] w fun e w' => e = .returned (.bool (poCas F R l ca)) ∧ Below w.heap.size w w' := by
  by_cases h15 : ca ≤ 15
  · have HA := Lib.hid (rdBo (box1 w (.cells #[.int .i64 F, .int .i64 R, .slice A l.length c, .bool bl, .int .u8 (ca : Int), .int .i64 ps, .int .i64 ha, .int .i64 fu] 26)) hA)
    have HX := Lib.hid (box8 w F R (.slice A l.length c) bl ca ps ha fu)
    have HH := Lib.hid (fun bit hb w hA => rHm_any F R l A c bl ca ps ha fu bit hb hl w hA)
    have HT := Lib.hid (fun h => poCas_true (F := F) (R := R) (l := l) h15 h)
    have HF := Lib.hid (fun k hk h => poCas_false (F := F) (R := R) (l := l) (ca := ca) (k := k) hk h)
    have h15' : ((ca : Int) > 15) = False := by simp; omega
    clear hA hl
    go_enter Tryz.func47, Tryz.ntmps47
    go_wp2
    have hk4 : ∀ k, k < 4 → ((w.alloc (.cells #[.int .i64 F, .int .i64 R, .slice A l.length c, .bool bl, .int .u8 (ca : Int), .int .i64 ps, .int .i64 ha, .int .i64 fu] 26)).alloc (.cells #[.int .u8 1, .int .u8 2, .int .u8 4, .int .u8 8] 5)).cell? ⟨w.heap.size + 1, k, none⟩ = some (.int .u8 (bitK k : Int)) := by
      intro k hk
      match k, hk with
      | 0, _ => simp [go_sem, bitK]
      | 1, _ => simp [go_sem, bitK]
      | 2, _ => simp [go_sem, bitK]
      | 3, _ => simp [go_sem, bitK]
    have hW : Below (w.alloc (.cells #[.int .i64 F, .int .i64 R, .slice A l.length c, .bool bl, .int .u8 (ca : Int), .int .i64 ps, .int .i64 ha, .int .i64 fu] 26)).heap.size (w.alloc (.cells #[.int .i64 F, .int .i64 R, .slice A l.length c, .bool bl, .int .u8 (ca : Int), .int .i64 ps, .int .i64 ha, .int .i64 fu] 26)) ((w.alloc (.cells #[.int .i64 F, .int .i64 R, .slice A l.length c, .bool bl, .int .u8 (ca : Int), .int .i64 ps, .int .i64 ha, .int .i64 fu] 26)).alloc (.cells #[.int .u8 1, .int .u8 2, .int .u8 4, .int .u8 8] 5)) := box1 _ _
    have hs : w.heap.size + 2 ≤ ((w.alloc (.cells #[.int .i64 F, .int .i64 R, .slice A l.length c, .bool bl, .int .u8 (ca : Int), .int .i64 ps, .int .i64 ha, .int .i64 fu] 26)).alloc (.cells #[.int .u8 1, .int .u8 2, .int .u8 4, .int .u8 8] 5)).heap.size := by simp
    have hX2 := HX.out.below hW (by simp)
    have HA2 := Lib.hid (rdBo hW HA.out)
    have hB0 := after1 hW
    generalize ((w.alloc (.cells #[.int .i64 F, .int .i64 R, .slice A l.length c, .bool bl, .int .u8 (ca : Int), .int .i64 ps, .int .i64 ha, .int .i64 fu] 26)).alloc (.cells #[.int .u8 1, .int .u8 2, .int .u8 4, .int .u8 8] 5)) = W at *
    clear HA HX hW
    go_loopw [4, 10] (fun _ i wr => ∃ k : Nat, k ≤ 4 ∧ i = .int .i64 k ∧ (∀ j, j < k → casK F R l ca j = true) ∧ Below W.heap.size W wr) (fun _ i _ => 4 - (intOf i).toNat)
    case atStart => exact ⟨0, by omega, rfl, fun j hj => absurd hj (by omega), Below.refl _ _⟩
    case round =>
      obtain ⟨k, hk, rfl, hgood, hB⟩ := hrel
      have s2 := hB.size
      obtain ⟨⟨z0, z1, z2, z3, z4, z5, z6, z7⟩, zf⟩ := hX2.below hB (by omega)
      by_cases hlt : k < 4
      · have hc := (hB.cell (p := ⟨w.heap.size + 1, k, none⟩) (show w.heap.size + 1 < W.heap.size by omega)).trans (hk4 k hlt)
        have hbo := bitK_or hlt
        have hnext : Hid (casK F R l ca k = true → ∀ j, j < k + 1 → casK F R l ca j = true) := Lib.hid fun h j hj => by
          rcases Nat.lt_or_ge j k with hj2 | hj2
          · exact hgood j hj2
          · have : j = k := by omega
            subst this; exact h
        have HK : Hid (casK F R l ca k = (!poBit ca (bitK k) || poHm F R l (bitK k))) := Lib.hid rfl
        clear hgood hk4 hX2
        have hFk := Lib.hid (fun h => HF.out k hlt h)
        generalize casK F R l ca k = ck at *
        generalize bitK k = b at *
        have hb0 : ¬ (b : Int) = 0 := by omega
        have hb1 : (0 : Int) < (b : Int) := by omega
        have hb2 : (b : Int) ≤ 8 := by omega
        have HB := Lib.hid hbo
        clear hbo
        have hq : ((ca : Int) / (b : Int) % 2 == 1) = poBit ca b := by
          unfold poBit
          rw [show (ca : Int) / (b : Int) % 2 = ((ca / b % 2 : Nat) : Int) by simp]
          by_cases h : ca / b % 2 = 1
          · simp [h]
          · rw [beq_eq_false_iff_ne.2 h, beq_eq_false_iff_ne.2 (by omega)]
        generalize poBit ca b = pb at *
        cases pb with
        | false =>
          go_wp2
          go_roundw
          case rel => exact ⟨k + 1, by omega, by go_num, hnext.out (by rw [HK.out]; rfl), hB⟩
          case measure => simp [intOf]; omega
        | true =>
          go_wp2_with fail
          refine (HH.out b HB.out _ (rdBo (hB.mono (Nat.le_refl _)) HA2.out)).mono ?_
          rintro e w2 ⟨rfl, hb2'⟩
          have HK2 : Hid (ck = poHm F R l b) := Lib.hid (by rw [HK.out]; rfl)
          generalize poHm F R l b = hm at *
          cases hm with
          | true =>
            go_wp2
            go_roundw
            case rel => exact ⟨k + 1, by omega, by go_num, hnext.out HK2.out, chain hB hb2'⟩
            case measure => simp [intOf]; omega
          | false =>
            go_wp2
            go_ret
            exact ⟨ret_bool (hFk.out HK2.out).symm, chain hB0 (chain hB hb2')⟩
      · have hkl : k = 4 := by omega
        subst hkl
        have he := Lib.hid (HT.out hgood)
        clear hgood hk4
        go_wp2
        go_ret
        exact ⟨ret_bool he.out.symm, chain hB0 hB⟩
  · have e2 : poCas F R l ca = false := by unfold poCas; rw [decide_eq_false h15]; rfl
    have h15' : 15 < (ca : Int) := by omega
    rw [e2]
    clear hl e2 h15
    go_enter Tryz.func47, Tryz.ntmps47
    go_wp2
    go_ret
    exact ⟨rfl, box1 _ _⟩

end Go.Proofs.YtelkmdklpcfobaaGreatDoor
