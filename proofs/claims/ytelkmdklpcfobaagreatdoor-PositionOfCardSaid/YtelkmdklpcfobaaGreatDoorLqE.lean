/- A law's loop that writes a copy's own cells: what stays beside them. -/
import Derived.Test.YtelkmdklpcfobaaGreatDoorPoD
import Derived.Laws.AppendOwnNone
import Derived.Test.YtelkmdklpcfobaaGreatDoorLqV

namespace Go.Proofs.YtelkmdklpcfobaaGreatDoor
open Go.RowKit

/-- W' is W but for the cells of an own row (A, n cells, in a block between B and hi). -/
def Inc (W : World) (B hi e : Nat) (A : Option Addr) (c n : Nat) (W' : World) : Prop :=
  (n = 0 ∧ W' = W) ∨ ∃ g, A = some ⟨g, 0, none⟩ ∧ B ≤ g ∧ g < hi ∧ But g W W' ∧ Row W' B e g c n
theorem Inc.start {W : World} {B hi e : Nat} {A : Option Addr} {l : List Int} {c : Nat} (h : W.ownsRow B e 1 (.slice A l.length c) l.length (vpcs l)) (hhi : ∀ ad, A = some ad → ad.block < hi) : Inc W B hi e A c l.length W := by
  by_cases hl : 0 < l.length
  · obtain ⟨g, rfl, h0, _, hr⟩ := Row.of h hl
    exact Or.inr ⟨g, rfl, h0, hhi _ rfl, But.refl _ _, hr⟩
  · exact Or.inl ⟨by omega, rfl⟩
theorem Inc.at_ {W W' : World} {B hi e : Nat} {A : Option Addr} {c n k : Nat} (h : Inc W B hi e A c n W') (hk : k < n) :
    ∃ g, A = some ⟨g, 0, none⟩ ∧ (∃ x, W'.cell? ⟨g, k, none⟩ = some (.int .i8 x)) ∧ W'.frozen? ⟨g, k, none⟩ = false ∧ ∀ x : Int, Inc W B hi e A c n (W'.setCell ⟨g, k, none⟩ (.int .i8 x)) := by
  rcases h with ⟨h0, _⟩ | ⟨g, rfl, h0, h1, hb, hr⟩
  · omega
  · obtain ⟨hx, hf⟩ := hr.at_ hk
    exact ⟨g, rfl, hx, hf, fun x => Or.inr ⟨g, rfl, h0, h1, hb.setCell k _, hr.stored k x⟩⟩
theorem Inc.cell {W W' : World} {B hi e : Nat} {A : Option Addr} {c n : Nat} (h : Inc W B hi e A c n W') {a : Addr} {v : Value} (hc : W.cell? a = some v) (hne : a.block < B ∨ hi ≤ a.block) : W'.cell? a = some v := by
  rcases h with ⟨_, rfl⟩ | ⟨g, _, h0, h1, hb, _⟩
  · exact hc
  · exact hb.cell hc (by omega)
theorem Inc.rd {W W' : World} {B hi e : Nat} {A : Option Addr} {c n : Nat} (h : Inc W B hi e A c n W') {A' : Option Addr} {l : List Int} {c' : Nat} (hA : RdP W W.heap.size A' l c') (hne : 0 < l.length → ∀ ad, A' = some ad → ad.block < B ∨ hi ≤ ad.block) : RdP W' W'.heap.size A' l c' := by
  rcases h with ⟨_, rfl⟩ | ⟨g, _, h0, h1, hb, _⟩
  · exact hA
  · exact ⟨hA.1, fun hl => (hb.rd hA (fun ad had => by have := hne hl ad had; omega)).2 hl⟩
theorem Inc.below {V W W' : World} {B hi e D : Nat} {A : Option Addr} {c n : Nat} (h : Inc W B hi e A c n W') (hb : Below D V W) (hD : D ≤ B) : Below D V W' := by
  rcases h with ⟨_, rfl⟩ | ⟨g, _, h0, h1, hbu, _⟩
  · exact hb
  · exact hbu.below hb (by omega)
theorem Inc.frozen {W W' : World} {B hi e : Nat} {A : Option Addr} {c n : Nat} (h : Inc W B hi e A c n W') {a : Addr} (hne : a.block < B ∨ hi ≤ a.block) (hf : W.frozen? a = false) : W'.frozen? a = false := by
  rcases h with ⟨_, rfl⟩ | ⟨g, _, h0, h1, hbu, _⟩
  · exact hf
  · rw [← hf]
    simp only [World.frozen?, hbu.block _ (show a.block ≠ g by omega)]
theorem Inc.box {W W' : World} {B hi e : Nat} {A : Option Addr} {c n : Nat} (h : Inc W B hi e A c n W') {b : Nat} {F R : Int} {v : Value} {bl : Bool} {ca : Nat} {ps ha fu : Int} (hx : Bx8 W b F R v bl ca ps ha fu) (hne : b < B ∨ hi ≤ b) : Bx8 W' b F R v bl ca ps ha fu := by
  obtain ⟨⟨x0, x1, x2, x3, x4, x5, x6, x7⟩, xf⟩ := hx
  exact ⟨⟨h.cell x0 hne, h.cell x1 hne, h.cell x2 hne, h.cell x3 hne, h.cell x4 hne, h.cell x5 hne, h.cell x6 hne, h.cell x7 hne⟩, fun o => h.frozen hne (xf o)⟩
/-- the pieces of a position that was given lie below, or there are none. -/
theorem rd_lt {W : World} {A : Option Addr} {l : List Int} {c : Nat} (hA : RdP W W.heap.size A l c) (hl : 0 < l.length) : ∀ ad, A = some ad → ad.block < W.heap.size := RdP.lt hA hl

end Go.Proofs.YtelkmdklpcfobaaGreatDoor

/- Positions, by the document: the copy of a position, and the position with a board and a side to move. -/
namespace Go.Proofs.YtelkmdklpcfobaaGreatDoor
open Go.RowKit Go.Sort

theorem Bx8.grown {W W' : World} {b : Nat} {F R : Int} {v : Value} {bl : Bool} {ca : Nat} {ps ha fu : Int} (h : Bx8 W b F R v bl ca ps ha fu) (hg : W.drew.grownBy W' none) (hb : b < W.heap.size) : Bx8 W' b F R v bl ca ps ha fu := by
  obtain ⟨q, f⟩ := bgrown hg rfl
  have q' : ∀ o, W'.cell? ⟨b, o, none⟩ = W.cell? ⟨b, o, none⟩ := fun o => q b o hb
  have f' : ∀ o, W'.frozen? ⟨b, o, none⟩ = W.frozen? ⟨b, o, none⟩ := fun o => f b o hb
  unfold Bx8
  simp only [q', f']
  exact h

set_option maxRecDepth 100000 in
set_option maxHeartbeats 2000000 in
theorem rCopyP_any (F R : Int) (l : List Int) (A : Option Addr) (c : Nat) (bl : Bool) (ca : Nat) (ps ha fu : Int) (w : World) (hlen : l.length ≤ 100000) (hA : RdP w w.heap.size A l c) :
    Calls Tryz.prog 13 #[.agg #[.int .i64 F, .int .i64 R, .slice A l.length c, .bool bl, .int .u8 (ca : Int), .int .i64 ps, .int .i64 ha, .int .i64 fu]] w (NewP w F R l bl ca ps ha fu) := by
  obtain ⟨i0, hi, hz0, hz1, hz2⟩ := info_parts infoPc
  have HX := Lib.hid ((box8 w F R (.slice A l.length c) bl ca ps ha fu).below (box1 (w.alloc (.cells #[.int .i64 F, .int .i64 R, .slice A l.length c, .bool bl, .int .u8 (ca : Int), .int .i64 ps, .int .i64 ha, .int .i64 fu] 26)) (.cells #[.int .i64 0, .int .i64 0, .slice none 0 0, .bool false, .int .u8 0, .int .i64 0, .int .i64 0, .int .i64 0] 26)) (by simp))
  have HZ := Lib.hid (show Bx8 ((w.alloc (.cells #[.int .i64 F, .int .i64 R, .slice A l.length c, .bool bl, .int .u8 (ca : Int), .int .i64 ps, .int .i64 ha, .int .i64 fu] 26)).alloc (.cells #[.int .i64 0, .int .i64 0, .slice none 0 0, .bool false, .int .u8 0, .int .i64 0, .int .i64 0, .int .i64 0] 26)) (w.alloc (.cells #[.int .i64 F, .int .i64 R, .slice A l.length c, .bool bl, .int .u8 (ca : Int), .int .i64 ps, .int .i64 ha, .int .i64 fu] 26)).heap.size 0 0 (.slice none 0 0) false 0 0 0 0 from box8 (w.alloc (.cells #[.int .i64 F, .int .i64 R, .slice A l.length c, .bool bl, .int .u8 (ca : Int), .int .i64 ps, .int .i64 ha, .int .i64 fu] 26)) 0 0 (.slice none 0 0) false 0 0 0 0)
  have HA := Lib.hid (rdBo (box1 (w.alloc (.cells #[.int .i64 F, .int .i64 R, .slice A l.length c, .bool bl, .int .u8 (ca : Int), .int .i64 ps, .int .i64 ha, .int .i64 fu] 26)) (.cells #[.int .i64 0, .int .i64 0, .slice none 0 0, .bool false, .int .u8 0, .int .i64 0, .int .i64 0, .int .i64 0] 26)) (rdBo (box1 w (.cells #[.int .i64 F, .int .i64 R, .slice A l.length c, .bool bl, .int .u8 (ca : Int), .int .i64 ps, .int .i64 ha, .int .i64 fu] 26)) hA))
  have hown0 := World.ownsRow_nil ((w.alloc (.cells #[.int .i64 F, .int .i64 R, .slice A l.length c, .bool bl, .int .u8 (ca : Int), .int .i64 ps, .int .i64 ha, .int .i64 fu] 26)).alloc (.cells #[.int .i64 0, .int .i64 0, .slice none 0 0, .bool false, .int .u8 0, .int .i64 0, .int .i64 0, .int .i64 0] 26)) (w.heap.size + 2) 41 1
  go_enter Tryz.func13, Tryz.ntmps13
  cases A with
  | none =>
    obtain ⟨h0, rfl⟩ := hA.1 rfl
    obtain rfl := List.eq_nil_of_length_eq_zero h0
    clear hA h0
    go_wp2_with (at_builtin; (refine wpList_append_own_none rfl _ _ 24 rfl (w.heap.size + 2) 41 i0 1 Tryz.underlying24 hi (.slice none 0 0) 0 [] rfl hown0 rfl ?_))
    refine bodyPost_ret (v := .agg #[.int .i64 F, .int .i64 R, .slice none 0 0, .bool bl, .int .u8 (ca : Int), .int .i64 ps, .int .i64 ha, .int .i64 fu]) (by simp [results, Tryz.results13, go_sem]) rfl ⟨_, rfl, World.ownsRow_nil _ _ _ _, after1 (box1 _ _)⟩
  | some ad =>
    have hcells := HA.out.cells ad rfl
    clear hA
    go_wp2_with (at_builtin; (refine wpList_append_own _ rfl _ _ 24 rfl (w.heap.size + 2) 41 i0 (.int .i8 0) 1 1 Tryz.underlying24 hi hz0 hz1 hz2 rfl (by decide) _ _ _ rfl hown0 ad l.length c (vpcs l) rfl (by simp [vpcs_len]) ?c1 ?c2 ?c3 ?c4 ?c5 ?_))
    case c1 => exact hcells
    case c2 => exact vpcs_one
    case c3 => unfold maxLen; omega
    case c4 => omega
    case c5 => simp
    intro v' w1 hown hgrow _
    obtain ⟨A', c', rfl, _, _⟩ := RdP.own (l := l) (by simpa using hown)
    have hbn : Below ((w.alloc (.cells #[.int .i64 F, .int .i64 R, .slice (some ad) l.length c, .bool bl, .int .u8 (ca : Int), .int .i64 ps, .int .i64 ha, .int .i64 fu] 26)).alloc (.cells #[.int .i64 0, .int .i64 0, .slice none 0 0, .bool false, .int .u8 0, .int .i64 0, .int .i64 0, .int .i64 0] 26)).heap.size ((w.alloc (.cells #[.int .i64 F, .int .i64 R, .slice (some ad) l.length c, .bool bl, .int .u8 (ca : Int), .int .i64 ps, .int .i64 ha, .int .i64 fu] 26)).alloc (.cells #[.int .i64 0, .int .i64 0, .slice none 0 0, .bool false, .int .u8 0, .int .i64 0, .int .i64 0, .int .i64 0] 26)) w1 := (Below.refl _ _).grown hgrow (by simp) (fun r e => by simpa using (World.ownsRow.lt hown0 r e).1)
    obtain ⟨⟨x0, x1, x2, x3, x4, x5, x6, x7⟩, xf⟩ := HX.out.below hbn (by simp; omega)
    obtain ⟨⟨z0, z1, z2, z3, z4, z5, z6, z7⟩, zf⟩ := HZ.out.below hbn (by simp)
    simp only [World.size_alloc] at z0 z1 z2 z3 z4 z5 z6 z7 zf
    have hown2 := ownsRow_setCell_below (ownsRow_setCell_below (ownsRow_setCell_below (ownsRow_setCell_below (ownsRow_setCell_below (ownsRow_setCell_below (ownsRow_setCell_below (ownsRow_setCell_below (ownsRow_setCell_below (hown) (a := ⟨w.heap.size, 2, none⟩) (by simp) (.slice A' l.length c')) (a := ⟨w.heap.size + 1, 0, none⟩) (by simp) (.int .i64 F)) (a := ⟨w.heap.size + 1, 1, none⟩) (by simp) (.int .i64 R)) (a := ⟨w.heap.size + 1, 2, none⟩) (by simp) (.slice A' l.length c')) (a := ⟨w.heap.size + 1, 3, none⟩) (by simp) (.bool bl)) (a := ⟨w.heap.size + 1, 4, none⟩) (by simp) (.int .u8 (ca : Int))) (a := ⟨w.heap.size + 1, 5, none⟩) (by simp) (.int .i64 ps)) (a := ⟨w.heap.size + 1, 6, none⟩) (by simp) (.int .i64 ha)) (a := ⟨w.heap.size + 1, 7, none⟩) (by simp) (.int .i64 fu)
    have hB := (((((((((after2 hbn).setCell (p := ⟨w.heap.size, 2, none⟩) (show w.heap.size ≤ w.heap.size by omega) (.slice A' l.length c')).setCell (p := ⟨w.heap.size + 1, 0, none⟩) (show w.heap.size ≤ w.heap.size + 1 by omega) (.int .i64 F)).setCell (p := ⟨w.heap.size + 1, 1, none⟩) (show w.heap.size ≤ w.heap.size + 1 by omega) (.int .i64 R)).setCell (p := ⟨w.heap.size + 1, 2, none⟩) (show w.heap.size ≤ w.heap.size + 1 by omega) (.slice A' l.length c')).setCell (p := ⟨w.heap.size + 1, 3, none⟩) (show w.heap.size ≤ w.heap.size + 1 by omega) (.bool bl)).setCell (p := ⟨w.heap.size + 1, 4, none⟩) (show w.heap.size ≤ w.heap.size + 1 by omega) (.int .u8 (ca : Int))).setCell (p := ⟨w.heap.size + 1, 5, none⟩) (show w.heap.size ≤ w.heap.size + 1 by omega) (.int .i64 ps)).setCell (p := ⟨w.heap.size + 1, 6, none⟩) (show w.heap.size ≤ w.heap.size + 1 by omega) (.int .i64 ha)).setCell (p := ⟨w.heap.size + 1, 7, none⟩) (show w.heap.size ≤ w.heap.size + 1 by omega) (.int .i64 fu)
    have HN : NewP w F R l bl ca ps ha fu (.returned (.agg #[.int .i64 F, .int .i64 R, .slice A' l.length c', .bool bl, .int .u8 (ca : Int), .int .i64 ps, .int .i64 ha, .int .i64 fu])) (((((((((w1.setCell ⟨w.heap.size, 2, none⟩ (.slice A' l.length c')).setCell ⟨w.heap.size + 1, 0, none⟩ (.int .i64 F)).setCell ⟨w.heap.size + 1, 1, none⟩ (.int .i64 R)).setCell ⟨w.heap.size + 1, 2, none⟩ (.slice A' l.length c')).setCell ⟨w.heap.size + 1, 3, none⟩ (.bool bl)).setCell ⟨w.heap.size + 1, 4, none⟩ (.int .u8 (ca : Int))).setCell ⟨w.heap.size + 1, 5, none⟩ (.int .i64 ps)).setCell ⟨w.heap.size + 1, 6, none⟩ (.int .i64 ha)).setCell ⟨w.heap.size + 1, 7, none⟩ (.int .i64 fu)) := ⟨_, rfl, hown2.mono (by omega), hB⟩
    have HN := Lib.hid HN
    clear hown hown2 hB hbn HX HZ
    go_wp2
    refine bodyPost_ret (v := (.agg #[.int .i64 F, .int .i64 R, .slice A' l.length c', .bool bl, .int .u8 (ca : Int), .int .i64 ps, .int .i64 ha, .int .i64 fu])) ?_ rfl HN.out
    simp [results, Tryz.results13, go_sem, z0, z1, z2, z3, z4, z5, z6, z7]

set_option maxRecDepth 100000 in
set_option maxHeartbeats 2000000 in
theorem rBegin_any (F R : Int) (l : List Int) (A : Option Addr) (c : Nat) (bl : Bool) (w : World) (hlen : l.length ≤ 100000) (hA : RdP w w.heap.size A l c) :
    Calls Tryz.prog 19 #[.agg #[.int .i64 F, .int .i64 R, .slice A l.length c], .bool bl] w (NewP w F R l bl 0 (-1) 0 1) := by
  obtain ⟨i0, hi, hz0, hz1, hz2⟩ := info_parts infoPc
  have HZ := Lib.hid (show Bx8 ((w.alloc (.cells #[.int .i64 F, .int .i64 R, .slice A l.length c] 30)).alloc (.cells #[.int .i64 0, .int .i64 0, .slice none 0 0, .bool false, .int .u8 0, .int .i64 0, .int .i64 0, .int .i64 0] 26)) (w.alloc (.cells #[.int .i64 F, .int .i64 R, .slice A l.length c] 30)).heap.size 0 0 (.slice none 0 0) false 0 0 0 0 from box8 (w.alloc (.cells #[.int .i64 F, .int .i64 R, .slice A l.length c] 30)) 0 0 (.slice none 0 0) false 0 0 0 0)
  go_enter Tryz.func19, Tryz.ntmps19
  go_wp2
  have hW : Below w.heap.size w ((w.alloc (.cells #[.int .i64 F, .int .i64 R, .slice A l.length c] 30)).alloc (.cells #[.int .i64 0, .int .i64 0, .slice none 0 0, .bool false, .int .u8 0, .int .i64 0, .int .i64 0, .int .i64 0] 26)).drew := (after1 (box1 _ _)).drew
  have hcells := Lib.hid (hA.below hW).cells
  have hnone := Lib.hid hA.1
  clear hA
  have hml : l.length ≤ maxLen := by unfold maxLen; omega
  have hml' : l.length * 1 ≤ 140737488355328 := by omega
  go_region_law (refine step_copy rfl (.const (.slice none 0 0)) (.tmp 8) 24 rfl 41 i0 (.int .i8 0) 1 1 Tryz.underlying24 hi hz0 hz1 hz2 rfl (by decide) rfl (w.heap.size + 2) (by simp) A l.length c (vpcs l) (by simp [Act.eval]) hnone.out (by simp [vpcs_len]) hcells.out vpcs_one hml hml' ?_; intro A' c' w1 hown hgrow; obtain ⟨hcr, hfr⟩ := bgrown hgrow rfl)
  all_goals
    have hown2 := ownsRow_setCell_below (ownsRow_setCell_below (ownsRow_setCell_below (ownsRow_setCell_below (ownsRow_setCell_below (ownsRow_setCell_below (ownsRow_setCell_below (ownsRow_setCell_below (hown) (a := ⟨w.heap.size + 1, 0, none⟩) (by simp) (.int .i64 F)) (a := ⟨w.heap.size + 1, 1, none⟩) (by simp) (.int .i64 R)) (a := ⟨w.heap.size + 1, 2, none⟩) (by simp) (.slice A' l.length c')) (a := ⟨w.heap.size + 1, 3, none⟩) (by simp) (.bool bl)) (a := ⟨w.heap.size + 1, 4, none⟩) (by simp) (.int .u8 0)) (a := ⟨w.heap.size + 1, 5, none⟩) (by simp) (.int .i64 (-1))) (a := ⟨w.heap.size + 1, 6, none⟩) (by simp) (.int .i64 0)) (a := ⟨w.heap.size + 1, 7, none⟩) (by simp) (.int .i64 1)
    have hB := ((((((((hW.grown hgrow (by simp; omega) (fun _ e => by cases e)).setCell (p := ⟨w.heap.size + 1, 0, none⟩) (show w.heap.size ≤ w.heap.size + 1 by omega) (.int .i64 F)).setCell (p := ⟨w.heap.size + 1, 1, none⟩) (show w.heap.size ≤ w.heap.size + 1 by omega) (.int .i64 R)).setCell (p := ⟨w.heap.size + 1, 2, none⟩) (show w.heap.size ≤ w.heap.size + 1 by omega) (.slice A' l.length c')).setCell (p := ⟨w.heap.size + 1, 3, none⟩) (show w.heap.size ≤ w.heap.size + 1 by omega) (.bool bl)).setCell (p := ⟨w.heap.size + 1, 4, none⟩) (show w.heap.size ≤ w.heap.size + 1 by omega) (.int .u8 0)).setCell (p := ⟨w.heap.size + 1, 5, none⟩) (show w.heap.size ≤ w.heap.size + 1 by omega) (.int .i64 (-1))).setCell (p := ⟨w.heap.size + 1, 6, none⟩) (show w.heap.size ≤ w.heap.size + 1 by omega) (.int .i64 0)).setCell (p := ⟨w.heap.size + 1, 7, none⟩) (show w.heap.size ≤ w.heap.size + 1 by omega) (.int .i64 1)
    have HN : NewP w F R l bl 0 (-1) 0 1 (.returned (.agg #[.int .i64 F, .int .i64 R, .slice A' l.length c', .bool bl, .int .u8 0, .int .i64 (-1), .int .i64 0, .int .i64 1])) ((((((((w1.setCell ⟨w.heap.size + 1, 0, none⟩ (.int .i64 F)).setCell ⟨w.heap.size + 1, 1, none⟩ (.int .i64 R)).setCell ⟨w.heap.size + 1, 2, none⟩ (.slice A' l.length c')).setCell ⟨w.heap.size + 1, 3, none⟩ (.bool bl)).setCell ⟨w.heap.size + 1, 4, none⟩ (.int .u8 0)).setCell ⟨w.heap.size + 1, 5, none⟩ (.int .i64 (-1))).setCell ⟨w.heap.size + 1, 6, none⟩ (.int .i64 0)).setCell ⟨w.heap.size + 1, 7, none⟩ (.int .i64 1)) := ⟨_, rfl, hown2.mono (by omega), hB⟩
    have HN := Lib.hid HN
    obtain ⟨⟨z0, z1, z2, z3, z4, z5, z6, z7⟩, zf⟩ := HZ.out.grown hgrow (by simp)
    simp only [World.size_alloc] at z0 z1 z2 z3 z4 z5 z6 z7 zf
    clear hown hown2 hB hgrow hcr hfr HZ
    go_wp2
    refine bodyPost_ret (v := (.agg #[.int .i64 F, .int .i64 R, .slice A' l.length c', .bool bl, .int .u8 0, .int .i64 (-1), .int .i64 0, .int .i64 1])) ?_ rfl HN.out
    simp [results, Tryz.results19, go_sem, z0, z1, z2, z3, z4, z5, z6, z7]

end Go.Proofs.YtelkmdklpcfobaaGreatDoor

/- The law of equal positions and of copies: it answers true, and changes nothing that lay before; given that the program reads as it should. -/
namespace Go.Proofs.YtelkmdklpcfobaaGreatDoor
open Go.RowKit Go.Sort

theorem poEq_self (p : Po) : poEq p p = true := by simp [poEq, poSm, bdS]

set_option maxRecDepth 100000 in
set_option maxHeartbeats 4000000 in
theorem law_pequal (HPA : PParse) (F R : Int) (l : List Int) (A : Option Addr) (c : Nat) (bl : Bool) (ca : Nat) (ps ha fu : Int) (F2 R2 : Int) (l2 : List Int) (A2 : Option Addr) (c2 : Nat) (bl2 : Bool) (ca2 : Nat) (ps2 ha2 fu2 : Int) (w : World) (hA : RdP w w.heap.size A l c) (hA2 : RdP w w.heap.size A2 l2 c2) (hT : T6 w) :
    Calls Tryz.prog 5 #[.agg #[.int .i64 F, .int .i64 R, .slice A l.length c, .bool bl, .int .u8 (ca : Int), .int .i64 ps, .int .i64 ha, .int .i64 fu], .agg #[.int .i64 F2, .int .i64 R2, .slice A2 l2.length c2, .bool bl2, .int .u8 (ca2 : Int), .int .i64 ps2, .int .i64 ha2, .int .i64 fu2]] w fun e w' => e = .returned (.bool true) ∧ Below w.heap.size w w' := by
  have zA := Lib.hid (fun hl : 0 < l.length => RdP.lt hA hl)
  have hT0 := Lib.hid hT
  have hB := box1 w (.cells #[.int .i64 F, .int .i64 R, .slice A l.length c, .bool bl, .int .u8 (ca : Int), .int .i64 ps, .int .i64 ha, .int .i64 fu] 26)
  have hx := box8 w F R (.slice A l.length c) bl ca ps ha fu
  replace hA := rdBo hB hA
  replace hA2 := rdBo hB hA2
  replace hT := hT.below hB
  have bx := box1 (w.alloc (.cells #[.int .i64 F, .int .i64 R, .slice A l.length c, .bool bl, .int .u8 (ca : Int), .int .i64 ps, .int .i64 ha, .int .i64 fu] 26)) (.cells #[.int .i64 F2, .int .i64 R2, .slice A2 l2.length c2, .bool bl2, .int .u8 (ca2 : Int), .int .i64 ps2, .int .i64 ha2, .int .i64 fu2] 26)
  have hz := box8 (w.alloc (.cells #[.int .i64 F, .int .i64 R, .slice A l.length c, .bool bl, .int .u8 (ca : Int), .int .i64 ps, .int .i64 ha, .int .i64 fu] 26)) F2 R2 (.slice A2 l2.length c2) bl2 ca2 ps2 ha2 fu2
  simp only [World.size_alloc] at hz
  replace hx := hx.below bx hx.lt
  replace hA := rdBo bx hA
  replace hA2 := rdBo bx hA2
  replace hT := hT.below bx
  replace hB := chain hB bx
  clear bx
  have HK := Lib.hid (fun w hT => known6_any HPA w hT)
  by_cases hs : l.length ≤ 70
  · by_cases hs2 : l2.length ≤ 70
    · obtain ⟨te, hte⟩ : ∃ te, poEq ⟨F, R, l, bl, ca, ps, ha, fu⟩ ⟨F2, R2, l2, bl2, ca2, ps2, ha2, fu2⟩ = te := ⟨_, rfl⟩
      obtain ⟨ts, hts⟩ : ∃ ts, poSm ⟨F, R, l, bl, ca, ps, ha, fu⟩ ⟨F2, R2, l2, bl2, ca2, ps2, ha2, fu2⟩ = ts := ⟨_, rfl⟩
      have h100 := Lib.hid (show l.length ≤ 100000 by omega)
      go_enter Tryz.func5, Tryz.ntmps5
      obtain ⟨⟨hx_0, hx_1, hx_2, hx_3, hx_4, hx_5, hx_6, hx_7⟩, hx_f⟩ := id hx
      obtain ⟨⟨hz_0, hz_1, hz_2, hz_3, hz_4, hz_5, hz_6, hz_7⟩, hz_f⟩ := id hz
      go_wp2_with fail
      refine (small6_any F R l A c bl ca ps ha fu _).mono ?_
      rintro e w1 ⟨rfl, b1⟩
      clear hx_0 hx_1 hx_2 hx_3 hx_4 hx_5 hx_6 hx_7 hx_f hz_0 hz_1 hz_2 hz_3 hz_4 hz_5 hz_6 hz_7 hz_f
      rw [decide_eq_true hs]
      replace hx := hx.below b1 hx.lt
      replace hz := hz.below b1 hz.lt
      replace hA := rdBo b1 hA
      replace hA2 := rdBo b1 hA2
      replace hT := hT.below b1
      replace hB := chain hB b1
      clear b1
      obtain ⟨⟨hx_0, hx_1, hx_2, hx_3, hx_4, hx_5, hx_6, hx_7⟩, hx_f⟩ := id hx
      obtain ⟨⟨hz_0, hz_1, hz_2, hz_3, hz_4, hz_5, hz_6, hz_7⟩, hz_f⟩ := id hz
      go_wp2_with fail
      refine (small6_any F2 R2 l2 A2 c2 bl2 ca2 ps2 ha2 fu2 _).mono ?_
      rintro e w2 ⟨rfl, b2⟩
      clear hx_0 hx_1 hx_2 hx_3 hx_4 hx_5 hx_6 hx_7 hx_f hz_0 hz_1 hz_2 hz_3 hz_4 hz_5 hz_6 hz_7 hz_f
      rw [decide_eq_true hs2]
      replace hx := hx.below b2 hx.lt
      replace hz := hz.below b2 hz.lt
      replace hA := rdBo b2 hA
      replace hA2 := rdBo b2 hA2
      replace hT := hT.below b2
      replace hB := chain hB b2
      clear b2
      have sz2 := Lib.hid hx.lt
      obtain ⟨⟨hx_0, hx_1, hx_2, hx_3, hx_4, hx_5, hx_6, hx_7⟩, hx_f⟩ := id hx
      obtain ⟨⟨hz_0, hz_1, hz_2, hz_3, hz_4, hz_5, hz_6, hz_7⟩, hz_f⟩ := id hz
      go_wp2_with fail
      refine (pCopy_any F R l A c bl ca ps ha fu _ h100.out hA).mono ?_
      rintro e w3 ⟨vC, rfl, hoC, b3⟩
      clear hx_0 hx_1 hx_2 hx_3 hx_4 hx_5 hx_6 hx_7 hx_f hz_0 hz_1 hz_2 hz_3 hz_4 hz_5 hz_6 hz_7 hz_f
      obtain ⟨AC, cC, rfl, hrC, hoC⟩ := own_parts hoC
      have hkC := own_block hoC
      have zC := Lib.hid b3.size
      replace hx := hx.below b3 hx.lt
      replace hz := hz.below b3 hz.lt
      replace hA := rdBo b3 hA
      replace hA2 := rdBo b3 hA2
      replace hT := hT.below b3
      replace hB := chain hB b3
      clear b3
      have bx := box1 w3 (.cells #[.int .i64 F, .int .i64 R, (.slice AC l.length cC), .bool bl, .int .u8 (ca : Int), .int .i64 ps, .int .i64 ha, .int .i64 fu] 26)
      have hy := box8 w3 F R (.slice AC l.length cC) bl ca ps ha fu
      replace hx := hx.below bx hx.lt
      replace hz := hz.below bx hz.lt
      replace hA := rdBo bx hA
      replace hA2 := rdBo bx hA2
      replace hrC := rdBo bx hrC
      replace hoC := own_below hoC bx
      replace hT := hT.below bx
      replace hB := chain hB bx
      clear bx
      have sz3 : Hid (w3.heap.size < (w3.alloc (.cells #[.int .i64 F, .int .i64 R, (.slice AC l.length cC), .bool bl, .int .u8 (ca : Int), .int .i64 ps, .int .i64 ha, .int .i64 fu] 26)).heap.size) := Lib.hid (by simp)
      obtain ⟨⟨hx_0, hx_1, hx_2, hx_3, hx_4, hx_5, hx_6, hx_7⟩, hx_f⟩ := id hx
      obtain ⟨⟨hz_0, hz_1, hz_2, hz_3, hz_4, hz_5, hz_6, hz_7⟩, hz_f⟩ := id hz
      obtain ⟨⟨hy_0, hy_1, hy_2, hy_3, hy_4, hy_5, hy_6, hy_7⟩, hy_f⟩ := id hy
      go_wp2_with fail
      clear hx_0 hx_1 hx_2 hx_3 hx_4 hx_5 hx_6 hx_7 hx_f hz_0 hz_1 hz_2 hz_3 hz_4 hz_5 hz_6 hz_7 hz_f hy_0 hy_1 hy_2 hy_3 hy_4 hy_5 hy_6 hy_7 hy_f
      generalize hwu : (w3.alloc (.cells #[.int .i64 F, .int .i64 R, (.slice AC l.length cC), .bool bl, .int .u8 (ca : Int), .int .i64 ps, .int .i64 ha, .int .i64 fu] 26)) = wu at *
      clear hwu
      have G0 := Lib.hid (fun (n : Nat) (os : Array Obj) => pEqual_any F R l A c bl ca ps ha fu F2 R2 l2 A2 c2 bl2 ca2 ps2 ha2 fu2 (Go.Sort.grow (redrawn wu n) os) h100.out (rdBo (below_regrown wu n os) hA) (rdBo (below_regrown wu n os) hA2))
      have G1 := Lib.hid (fun (n : Nat) (os : Array Obj) => rEqualP_any F R l A c bl ca ps ha fu F2 R2 l2 A2 c2 bl2 ca2 ps2 ha2 fu2 (Go.Sort.grow (redrawn wu n) os) h100.out (rdBo (below_regrown wu n os) hA) (rdBo (below_regrown wu n os) hA2))
      have G2 := Lib.hid (fun (n : Nat) (os : Array Obj) => pSame_any F R l A c bl ca ps ha fu F2 R2 l2 A2 c2 bl2 ca2 ps2 ha2 fu2 (Go.Sort.grow (redrawn wu n) os) h100.out (rdBo (below_regrown wu n os) hA) (rdBo (below_regrown wu n os) hA2))
      have G3 := Lib.hid (fun (n : Nat) (os : Array Obj) => rSameP_any F R l A c bl ca ps ha fu F2 R2 l2 A2 c2 bl2 ca2 ps2 ha2 fu2 (Go.Sort.grow (redrawn wu n) os) h100.out (rdBo (below_regrown wu n os) hA) (rdBo (below_regrown wu n os) hA2))
      have G4 := Lib.hid (fun (n : Nat) (os : Array Obj) => rEqualP_any F R l AC cC bl ca ps ha fu F R l A c bl ca ps ha fu (Go.Sort.grow (redrawn wu n) os) h100.out (rdBo (below_regrown wu n os) hrC) (rdBo (below_regrown wu n os) hA))
      simp only [hte, hts, poEq_self] at G0 G1 G2 G3 G4
      clear hte hts
      obtain ⟨⟨hx_0, hx_1, hx_2, hx_3, hx_4, hx_5, hx_6, hx_7⟩, hx_f⟩ := id hx
      obtain ⟨⟨hz_0, hz_1, hz_2, hz_3, hz_4, hz_5, hz_6, hz_7⟩, hz_f⟩ := id hz
      obtain ⟨⟨hy_0, hy_1, hy_2, hy_3, hy_4, hy_5, hy_6, hy_7⟩, hy_f⟩ := id hy
      have shx0 := cell_regrown hx_0
      have shx1 := cell_regrown hx_1
      have shx2 := cell_regrown hx_2
      have shx3 := cell_regrown hx_3
      have shx4 := cell_regrown hx_4
      have shx5 := cell_regrown hx_5
      have shx6 := cell_regrown hx_6
      have shx7 := cell_regrown hx_7
      have shz0 := cell_regrown hz_0
      have shz1 := cell_regrown hz_1
      have shz2 := cell_regrown hz_2
      have shz3 := cell_regrown hz_3
      have shz4 := cell_regrown hz_4
      have shz5 := cell_regrown hz_5
      have shz6 := cell_regrown hz_6
      have shz7 := cell_regrown hz_7
      have shy0 := cell_regrown hy_0
      have shy1 := cell_regrown hy_1
      have shy2 := cell_regrown hy_2
      have shy3 := cell_regrown hy_3
      have shy4 := cell_regrown hy_4
      have shy5 := cell_regrown hy_5
      have shy6 := cell_regrown hy_6
      have shy7 := cell_regrown hy_7
      refine wp_region_quiet_below (by kernel_rfl) (by kernel_rfl) ?_
      repeat (go_big_quiet_step ((first | (go_at_call 22; exact Calls.regrown_of (G0.out _ _)) | (go_at_call_of 20 AC; exact Calls.regrown_of (G4.out _ _)) | (go_at_call 20; exact Calls.regrown_of (G1.out _ _)) | (go_at_call 23; exact Calls.regrown_of (G2.out _ _)) | (go_at_call 24; exact Calls.regrown_of (G3.out _ _)))))
      refine wpQuiet_nil ?_
      intro _ hw'
      obtain ⟨⟨dq, osq⟩, hw''⟩ := hw'
      subst hw''
      clear hx_0 hx_1 hx_2 hx_3 hx_4 hx_5 hx_6 hx_7 hx_f hz_0 hz_1 hz_2 hz_3 hz_4 hz_5 hz_6 hz_7 hz_f hy_0 hy_1 hy_2 hy_3 hy_4 hy_5 hy_6 hy_7 hy_f
      clear G0 G1 G2 G3 G4 shx0 shx1 shx2 shx3 shx4 shx5 shx6 shx7 shz0 shz1 shz2 shz3 shz4 shz5 shz6 shz7 shy0 shy1 shy2 shy3 shy4 shy5 shy6 shy7
      have bq := below_regrown wu dq osq
      have sz4 := Lib.hid (Nat.lt_of_lt_of_le sz3.out bq.size)
      replace hx := hx.below bq hx.lt
      replace hz := hz.below bq hz.lt
      replace hy := hy.below bq hy.lt
      replace hA := rdBo bq hA
      replace hA2 := rdBo bq hA2
      replace hrC := rdBo bq hrC
      replace hoC := own_below hoC bq
      replace hT := hT.below bq
      replace hB := chain hB bq
      clear bq
      generalize Go.Sort.grow (redrawn wu dq) osq = wv at *
      obtain ⟨⟨hx_0, hx_1, hx_2, hx_3, hx_4, hx_5, hx_6, hx_7⟩, hx_f⟩ := id hx
      go_wp2_with fail
      refine (rCopyP_any F R l A c bl ca ps ha fu _ h100.out hA).mono ?_
      rintro e w4 ⟨vO, rfl, hoO, b4⟩
      clear hx_0 hx_1 hx_2 hx_3 hx_4 hx_5 hx_6 hx_7 hx_f
      obtain ⟨AO, cO, rfl, hrO, hoO⟩ := own_parts hoO
      have hkO := own_block hoO
      have zO := Lib.hid b4.size
      replace hx := hx.below b4 hx.lt
      replace hz := hz.below b4 hz.lt
      replace hy := hy.below b4 hy.lt
      replace hA := rdBo b4 hA
      replace hA2 := rdBo b4 hA2
      replace hrC := rdBo b4 hrC
      replace hoC := own_below hoC b4
      replace hT := hT.below b4
      replace hB := chain hB b4
      clear b4
      have bx := box1 w4 (.cells #[.int .i64 F, .int .i64 R, (.slice AO l.length cO), .bool bl, .int .u8 (ca : Int), .int .i64 ps, .int .i64 ha, .int .i64 fu] 26)
      have hn := box8 w4 F R (.slice AO l.length cO) bl ca ps ha fu
      replace hx := hx.below bx hx.lt
      replace hz := hz.below bx hz.lt
      replace hy := hy.below bx hy.lt
      replace hA := rdBo bx hA
      replace hA2 := rdBo bx hA2
      replace hrC := rdBo bx hrC
      replace hrO := rdBo bx hrO
      replace hoC := own_below hoC bx
      replace hoO := own_below hoO bx
      replace hT := hT.below bx
      replace hB := chain hB bx
      clear bx
      obtain ⟨⟨hx_0, hx_1, hx_2, hx_3, hx_4, hx_5, hx_6, hx_7⟩, hx_f⟩ := id hx
      obtain ⟨⟨hz_0, hz_1, hz_2, hz_3, hz_4, hz_5, hz_6, hz_7⟩, hz_f⟩ := id hz
      obtain ⟨⟨hy_0, hy_1, hy_2, hy_3, hy_4, hy_5, hy_6, hy_7⟩, hy_f⟩ := id hy
      obtain ⟨⟨hn_0, hn_1, hn_2, hn_3, hn_4, hn_5, hn_6, hn_7⟩, hn_f⟩ := id hn
      go_wp2_with fail
      clear hx_0 hx_1 hx_2 hx_3 hx_4 hx_5 hx_6 hx_7 hx_f hz_0 hz_1 hz_2 hz_3 hz_4 hz_5 hz_6 hz_7 hz_f hy_0 hy_1 hy_2 hy_3 hy_4 hy_5 hy_6 hy_7 hy_f hn_0 hn_1 hn_2 hn_3 hn_4 hn_5 hn_6 hn_7 hn_f
      generalize hwo : (w4.alloc (.cells #[.int .i64 F, .int .i64 R, (.slice AO l.length cO), .bool bl, .int .u8 (ca : Int), .int .i64 ps, .int .i64 ha, .int .i64 fu] 26)) = wo at *
      clear hwo
      have hI := Inc.start hoC (fun ad had => (hkC ad had).2)
      go_loopw [7, 46] (fun _ i wr => ∃ k : Nat, k ≤ l.length ∧ i = .int .i64 k ∧ Inc wo w2.heap.size w3.heap.size 41 AC cC l.length wr) (fun _ i _ => l.length - (intOf i).toNat)
      case atStart => exact ⟨0, by omega, rfl, hI⟩
      case round =>
        obtain ⟨k, hk, rfl, hJ⟩ := hrel
        have hy2 := hJ.box hy (Or.inr (Nat.le_refl _))
        by_cases hlt : k < l.length
        · obtain ⟨g, hg, ⟨xk, hxk⟩, hf, hst⟩ := hJ.at_ hlt
          subst hg
          obtain ⟨⟨y0, y1, y2, y3, y4, y5, y6, y7⟩, yf⟩ := id hy2
          go_wp2
          go_roundw
          case rel => exact ⟨k + 1, by omega, by go_num, hst _⟩
          case measure => simp [intOf]; omega
        · have hkl : k = l.length := by omega
          subst hkl
          have s2 := sz2.out
          have s4 := sz4.out
          replace hx := hJ.box hx (Or.inl (by omega))
          have s5 := zO.out
          replace hn := hJ.box hn (Or.inr (by omega))
          replace hA := hJ.rd hA (fun hl ad had => Or.inl (by have := zA.out hl ad had; omega))
          replace hrO := hJ.rd hrO (fun _ ad had => Or.inr (by have := (hkO ad had).1; omega))
          replace hB := hJ.below hB (by omega)
          have hT := hT0.out.below hB
          have HE := Lib.hid (rEqualP_any F R l AO cO bl ca ps ha fu F R l A c bl ca ps ha fu wr h100.out hrO hA)
          rw [poEq_self] at HE
          clear hJ hI hoC hoO hrC hrO hA hA2 hy hy2 hz hkC hkO
          obtain ⟨⟨hx_0, hx_1, hx_2, hx_3, hx_4, hx_5, hx_6, hx_7⟩, hx_f⟩ := id hx
          obtain ⟨⟨hn_0, hn_1, hn_2, hn_3, hn_4, hn_5, hn_6, hn_7⟩, hn_f⟩ := id hn
          go_wp2_with fail
          refine (HE.out).mono ?_
          rintro e w5 ⟨rfl, b5⟩
          clear hx_0 hx_1 hx_2 hx_3 hx_4 hx_5 hx_6 hx_7 hx_f hn_0 hn_1 hn_2 hn_3 hn_4 hn_5 hn_6 hn_7 hn_f
          replace hx := hx.below b5 hx.lt
          replace hn := hn.below b5 hn.lt
          replace hT := hT.below b5
          replace hB := chain hB b5
          clear b5
          go_wp2_with fail
          refine (HK.out _ hT).mono ?_
          rintro e w6 ⟨rfl, b6⟩
          replace hT := hT.below b6
          replace hB := chain hB b6
          clear b6
          go_wp2
          go_ret
          exact ⟨by rfl, hB⟩
    · go_enter Tryz.func5, Tryz.ntmps5
      obtain ⟨⟨hx_0, hx_1, hx_2, hx_3, hx_4, hx_5, hx_6, hx_7⟩, hx_f⟩ := id hx
      obtain ⟨⟨hz_0, hz_1, hz_2, hz_3, hz_4, hz_5, hz_6, hz_7⟩, hz_f⟩ := id hz
      go_wp2_with fail
      refine (small6_any F R l A c bl ca ps ha fu _).mono ?_
      rintro e w1 ⟨rfl, b1⟩
      clear hx_0 hx_1 hx_2 hx_3 hx_4 hx_5 hx_6 hx_7 hx_f hz_0 hz_1 hz_2 hz_3 hz_4 hz_5 hz_6 hz_7 hz_f
      rw [decide_eq_true hs]
      replace hx := hx.below b1 hx.lt
      replace hz := hz.below b1 hz.lt
      replace hA := rdBo b1 hA
      replace hA2 := rdBo b1 hA2
      replace hT := hT.below b1
      replace hB := chain hB b1
      clear b1
      obtain ⟨⟨hx_0, hx_1, hx_2, hx_3, hx_4, hx_5, hx_6, hx_7⟩, hx_f⟩ := id hx
      obtain ⟨⟨hz_0, hz_1, hz_2, hz_3, hz_4, hz_5, hz_6, hz_7⟩, hz_f⟩ := id hz
      go_wp2_with fail
      refine (small6_any F2 R2 l2 A2 c2 bl2 ca2 ps2 ha2 fu2 _).mono ?_
      rintro e w2 ⟨rfl, b2⟩
      clear hx_0 hx_1 hx_2 hx_3 hx_4 hx_5 hx_6 hx_7 hx_f hz_0 hz_1 hz_2 hz_3 hz_4 hz_5 hz_6 hz_7 hz_f
      rw [decide_eq_false hs2]
      replace hx := hx.below b2 hx.lt
      replace hz := hz.below b2 hz.lt
      replace hA := rdBo b2 hA
      replace hA2 := rdBo b2 hA2
      replace hT := hT.below b2
      replace hB := chain hB b2
      clear b2
      obtain ⟨⟨hx_0, hx_1, hx_2, hx_3, hx_4, hx_5, hx_6, hx_7⟩, hx_f⟩ := id hx
      obtain ⟨⟨hz_0, hz_1, hz_2, hz_3, hz_4, hz_5, hz_6, hz_7⟩, hz_f⟩ := id hz
      go_wp2_with fail
      refine (HK.out _ hT).mono ?_
      rintro e w3 ⟨rfl, b3⟩
      clear hx_0 hx_1 hx_2 hx_3 hx_4 hx_5 hx_6 hx_7 hx_f hz_0 hz_1 hz_2 hz_3 hz_4 hz_5 hz_6 hz_7 hz_f
      replace hx := hx.below b3 hx.lt
      replace hz := hz.below b3 hz.lt
      replace hA := rdBo b3 hA
      replace hA2 := rdBo b3 hA2
      replace hT := hT.below b3
      replace hB := chain hB b3
      clear b3
      go_wp2
      go_ret
      exact ⟨by rfl, hB⟩
  · go_enter Tryz.func5, Tryz.ntmps5
    obtain ⟨⟨hx_0, hx_1, hx_2, hx_3, hx_4, hx_5, hx_6, hx_7⟩, hx_f⟩ := id hx
    obtain ⟨⟨hz_0, hz_1, hz_2, hz_3, hz_4, hz_5, hz_6, hz_7⟩, hz_f⟩ := id hz
    go_wp2_with fail
    refine (small6_any F R l A c bl ca ps ha fu _).mono ?_
    rintro e w1 ⟨rfl, b1⟩
    clear hx_0 hx_1 hx_2 hx_3 hx_4 hx_5 hx_6 hx_7 hx_f hz_0 hz_1 hz_2 hz_3 hz_4 hz_5 hz_6 hz_7 hz_f
    rw [decide_eq_false hs]
    replace hx := hx.below b1 hx.lt
    replace hz := hz.below b1 hz.lt
    replace hA := rdBo b1 hA
    replace hA2 := rdBo b1 hA2
    replace hT := hT.below b1
    replace hB := chain hB b1
    clear b1
    obtain ⟨⟨hx_0, hx_1, hx_2, hx_3, hx_4, hx_5, hx_6, hx_7⟩, hx_f⟩ := id hx
    obtain ⟨⟨hz_0, hz_1, hz_2, hz_3, hz_4, hz_5, hz_6, hz_7⟩, hz_f⟩ := id hz
    go_wp2_with fail
    refine (HK.out _ hT).mono ?_
    rintro e w2 ⟨rfl, b2⟩
    clear hx_0 hx_1 hx_2 hx_3 hx_4 hx_5 hx_6 hx_7 hx_f hz_0 hz_1 hz_2 hz_3 hz_4 hz_5 hz_6 hz_7 hz_f
    replace hx := hx.below b2 hx.lt
    replace hz := hz.below b2 hz.lt
    replace hA := rdBo b2 hA
    replace hA2 := rdBo b2 hA2
    replace hT := hT.below b2
    replace hB := chain hB b2
    clear b2
    go_wp2
    go_ret
    exact ⟨by rfl, hB⟩

end Go.Proofs.YtelkmdklpcfobaaGreatDoor
