/- Positions, by the program: what reading a position gives. -/
import Derived.Test.YtelkmdklpcfobaaGreatDoorPpH
import Derived.Test.YtelkmdklpcfobaaGreatDoorPpE
import Derived.Test.YtelkmdklpcfobaaGreatDoorPpF

namespace Go.Proofs.YtelkmdklpcfobaaGreatDoor
open Go.RowKit Go.Sort

/-- what reading a position gives. -/
def ParsedQ (w : World) (o : Option Po) (e : Ending) (w' : World) : Prop :=
  match o with
  | none => e = .returned (.tuple #[.agg #[.int .i64 0, .int .i64 0, .slice none 0 0, .bool false, .int .u8 0, .int .i64 0, .int .i64 0, .int .i64 0], .int .i64 6]) ∧ Below w.heap.size w w'
  | some p => ∃ v, e = .returned (.tuple #[.agg #[.int .i64 p.F, .int .i64 p.R, v, .bool p.bl, .int .u8 (p.ca : Int), .int .i64 p.ps, .int .i64 p.ha, .int .i64 p.fu], .int .i64 0]) ∧ w'.ownsRow w.heap.size 41 1 v p.l.length (vpcs p.l) ∧ Below w.heap.size w w'
theorem ParsedQ.no {w w' : World} {o : Option Po} (h : o = none) (hb : Below w.heap.size w w') : ParsedQ w o (.returned (.tuple #[.agg #[.int .i64 0, .int .i64 0, .slice none 0 0, .bool false, .int .u8 0, .int .i64 0, .int .i64 0, .int .i64 0], .int .i64 6])) w' := by
  subst h
  exact ⟨rfl, hb⟩
theorem ParsedQ.yes {w w' : World} {o : Option Po} {F R : Int} {l : List Int} {bl : Bool} {ca : Nat} {ps ha fu : Int} {v : Value} (h : o = some ⟨F, R, l, bl, ca, ps, ha, fu⟩) (ho : w'.ownsRow w.heap.size 41 1 v l.length (vpcs l)) (hb : Below w.heap.size w w') : ParsedQ w o (.returned (.tuple #[.agg #[.int .i64 F, .int .i64 R, v, .bool bl, .int .u8 (ca : Int), .int .i64 ps, .int .i64 ha, .int .i64 fu], .int .i64 0])) w' := by
  subst h
  exact ⟨_, rfl, ho, hb⟩
theorem st8 {W : World} {b : Nat} {F0 R0 : Int} {v0 : Value} {bl0 : Bool} {ca0 : Nat} {ps0 ha0 fu0 : Int} (h : Bx8 W b F0 R0 v0 bl0 ca0 ps0 ha0 fu0) (F R : Int) (v : Value) (bl : Bool) (ca : Nat) (ps ha fu : Int) :
    Bx8 ((((((((W.setCell ⟨b, 0, none⟩ (.int .i64 F)).setCell ⟨b, 1, none⟩ (.int .i64 R)).setCell ⟨b, 2, none⟩ v).setCell ⟨b, 3, none⟩ (.bool bl)).setCell ⟨b, 4, none⟩ (.int .u8 (ca : Int))).setCell ⟨b, 5, none⟩ (.int .i64 ps)).setCell ⟨b, 6, none⟩ (.int .i64 ha)).setCell ⟨b, 7, none⟩ (.int .i64 fu)) b F R v bl ca ps ha fu := by
  obtain ⟨⟨x0, x1, x2, x3, x4, x5, x6, x7⟩, xf⟩ := h
  refine ⟨⟨?_, ?_, ?_, ?_, ?_, ?_, ?_, ?_⟩, fun o => ?_⟩ <;> simp [go_sem, x0, x1, x2, x3, x4, x5, x6, x7, xf]
theorem below8 {B b : Nat} {V W : World} (h : Below B V W) (hb : B ≤ b) (v0 v1 v2 v3 v4 v5 v6 v7 : Value) :
    Below B V ((((((((W.setCell ⟨b, 0, none⟩ v0).setCell ⟨b, 1, none⟩ v1).setCell ⟨b, 2, none⟩ v2).setCell ⟨b, 3, none⟩ v3).setCell ⟨b, 4, none⟩ v4).setCell ⟨b, 5, none⟩ v5).setCell ⟨b, 6, none⟩ v6).setCell ⟨b, 7, none⟩ v7) :=
  (((((((h.setCell (p := ⟨b, 0, none⟩) hb _).setCell (p := ⟨b, 1, none⟩) hb _).setCell (p := ⟨b, 2, none⟩) hb _).setCell (p := ⟨b, 3, none⟩) hb _).setCell (p := ⟨b, 4, none⟩) hb _).setCell (p := ⟨b, 5, none⟩) hb _).setCell (p := ⟨b, 6, none⟩) hb _).setCell (p := ⟨b, 7, none⟩) hb _
theorem own8 {B b : Nat} {W : World} {e : TypeId} {sz : Nat} {v : Value} {n : Nat} {xs : List Value} (h : W.ownsRow B e sz v n xs) (hb : b < B) (v0 v1 v2 v3 v4 v5 v6 v7 : Value) :
    World.ownsRow ((((((((W.setCell ⟨b, 0, none⟩ v0).setCell ⟨b, 1, none⟩ v1).setCell ⟨b, 2, none⟩ v2).setCell ⟨b, 3, none⟩ v3).setCell ⟨b, 4, none⟩ v4).setCell ⟨b, 5, none⟩ v5).setCell ⟨b, 6, none⟩ v6).setCell ⟨b, 7, none⟩ v7) B e sz v n xs :=
  ownsRow_setCell_below (ownsRow_setCell_below (ownsRow_setCell_below (ownsRow_setCell_below (ownsRow_setCell_below (ownsRow_setCell_below (ownsRow_setCell_below (ownsRow_setCell_below h (a := ⟨b, 0, none⟩) hb v0) (a := ⟨b, 1, none⟩) hb v1) (a := ⟨b, 2, none⟩) hb v2) (a := ⟨b, 3, none⟩) hb v3) (a := ⟨b, 4, none⟩) hb v4) (a := ⟨b, 5, none⟩) hb v5) (a := ⟨b, 6, none⟩) hb v6) (a := ⟨b, 7, none⟩) hb v7
/-- the program reads as it should. -/
def PParse : Prop := ∀ (s : ByteArray), s.size ≤ 200 → ∀ w : World, T6 w → Calls Tryz.prog 27 #[.string s] w (ParsedQ w (rdPo s.data.toList))

end Go.Proofs.YtelkmdklpcfobaaGreatDoor

/- Positions, by the program: the position with a board. -/
namespace Go.Proofs.YtelkmdklpcfobaaGreatDoor
open Go.RowKit Go.Sort

/-- what Of answers. -/
def OfP (w : World) (F R : Int) (l : List Int) (bl : Bool) (t : Bool) (e : Ending) (w' : World) : Prop :=
  match t with
  | false => e = .returned (.tuple #[.agg #[.int .i64 0, .int .i64 0, .slice none 0 0, .bool false, .int .u8 0, .int .i64 0, .int .i64 0, .int .i64 0], .int .i64 2]) ∧ Below w.heap.size w w'
  | true => ∃ v, e = .returned (.tuple #[.agg #[.int .i64 F, .int .i64 R, v, .bool bl, .int .u8 0, .int .i64 (-1), .int .i64 0, .int .i64 1], .int .i64 0]) ∧ w'.ownsRow w.heap.size 41 1 v l.length (vpcs l) ∧ Below w.heap.size w w'

set_option maxRecDepth 100000 in
set_option maxHeartbeats 2000000 in
theorem pOf_any (F R : Int) (l : List Int) (A : Option Addr) (c : Nat) (bl : Bool) (w : World) (hlen : l.length ≤ 100000) (hcap : l.length ≤ c) (hT : T6 w) (hA : RdP w w.heap.size A l c) :
    Calls Tryz.prog 16 #[.agg #[.int .i64 F, .int .i64 R, .slice A l.length c], .bool bl] w (OfP w F R l bl (okPo ⟨F, R, l, bl, 0, -1, 0, 1⟩)) := by
  have hX := box8 (w.alloc (.cells #[.int .i64 F, .int .i64 R, .slice A l.length c] 30)) 0 0 (.slice none 0 0) false 0 0 0 0
  have hX0 : Bx8 ((w.alloc (.cells #[.int .i64 F, .int .i64 R, .slice A l.length c] 30)).alloc (.cells #[.int .i64 0, .int .i64 0, .slice none 0 0, .bool false, .int .u8 0, .int .i64 0, .int .i64 0, .int .i64 0] 26)) (w.alloc (.cells #[.int .i64 F, .int .i64 R, .slice A l.length c] 30)).heap.size 0 0 (.slice none 0 0) false 0 0 0 0 := hX
  have hX1 := hX0.below (box1 ((w.alloc (.cells #[.int .i64 F, .int .i64 R, .slice A l.length c] 30)).alloc (.cells #[.int .i64 0, .int .i64 0, .slice none 0 0, .bool false, .int .u8 0, .int .i64 0, .int .i64 0, .int .i64 0] 26)) (.cells #[.int .i64 F, .int .i64 R, .slice A l.length c, .bool bl, .int .u8 0, .int .i64 (-1), .int .i64 0, .int .i64 1] 26)) hX0.lt
  have hY := box8 ((w.alloc (.cells #[.int .i64 F, .int .i64 R, .slice A l.length c] 30)).alloc (.cells #[.int .i64 0, .int .i64 0, .slice none 0 0, .bool false, .int .u8 0, .int .i64 0, .int .i64 0, .int .i64 0] 26)) F R (.slice A l.length c) bl 0 (-1) 0 1
  have hY1 : Bx8 (((w.alloc (.cells #[.int .i64 F, .int .i64 R, .slice A l.length c] 30)).alloc (.cells #[.int .i64 0, .int .i64 0, .slice none 0 0, .bool false, .int .u8 0, .int .i64 0, .int .i64 0, .int .i64 0] 26)).alloc (.cells #[.int .i64 F, .int .i64 R, .slice A l.length c, .bool bl, .int .u8 0, .int .i64 (-1), .int .i64 0, .int .i64 1] 26)) ((w.alloc (.cells #[.int .i64 F, .int .i64 R, .slice A l.length c] 30)).alloc (.cells #[.int .i64 0, .int .i64 0, .slice none 0 0, .bool false, .int .u8 0, .int .i64 0, .int .i64 0, .int .i64 0] 26)).heap.size F R (.slice A l.length c) bl 0 (-1) 0 1 := hY
  have hB := (after2 (box1 ((w.alloc (.cells #[.int .i64 F, .int .i64 R, .slice A l.length c] 30)).alloc (.cells #[.int .i64 0, .int .i64 0, .slice none 0 0, .bool false, .int .u8 0, .int .i64 0, .int .i64 0, .int .i64 0] 26)) (.cells #[.int .i64 F, .int .i64 R, .slice A l.length c, .bool bl, .int .u8 0, .int .i64 (-1), .int .i64 0, .int .i64 1] 26)))
  have hT1 := ((hT.below (box1 _ _)).below (box1 _ _)).below (box1 ((w.alloc (.cells #[.int .i64 F, .int .i64 R, .slice A l.length c] 30)).alloc (.cells #[.int .i64 0, .int .i64 0, .slice none 0 0, .bool false, .int .u8 0, .int .i64 0, .int .i64 0, .int .i64 0] 26)) (.cells #[.int .i64 F, .int .i64 R, .slice A l.length c, .bool bl, .int .u8 0, .int .i64 (-1), .int .i64 0, .int .i64 1] 26))
  have hA1 := rdBo (box1 ((w.alloc (.cells #[.int .i64 F, .int .i64 R, .slice A l.length c] 30)).alloc (.cells #[.int .i64 0, .int .i64 0, .slice none 0 0, .bool false, .int .u8 0, .int .i64 0, .int .i64 0, .int .i64 0] 26)) (.cells #[.int .i64 F, .int .i64 R, .slice A l.length c, .bool bl, .int .u8 0, .int .i64 (-1), .int .i64 0, .int .i64 1] 26)) (rdBo (box1 _ _) (rdBo (box1 _ _) hA))
  have HV := Lib.hid (pValid_any F R l A c bl 0 (-1) 0 1 (by omega) hlen hcap _ hT1.t5 hT1.rts hA1)
  have HC := Lib.hid (fun w hA => pCopy_any F R l A c bl 0 (-1) 0 1 w hlen hA)
  have HX := Lib.hid hX1
  have HY := Lib.hid hY1
  have HA := Lib.hid hA1
  have HB := Lib.hid hB
  clear hX hX0 hX1 hY hY1 hB hT hT1 hA hA1
  generalize okPo ⟨F, R, l, bl, 0, -1, 0, 1⟩ = t at *
  go_enter Tryz.func16, Tryz.ntmps16
  go_wp2_with fail
  refine HV.out.mono ?_
  rintro e w1 ⟨rfl, hb1⟩
  have hx1 := HX.out.below hb1 (by simp)
  have hy1 := HY.out.below hb1 (by simp)
  have hA2 := rdBo hb1 HA.out
  have hB2 := chain HB.out hb1
  simp only [World.size_alloc] at hx1 hy1
  cases t with
  | false =>
    obtain ⟨⟨x0, x1, x2, x3, x4, x5, x6, x7⟩, xf⟩ := hx1
    clear hy1 HX HY HA HB hb1 HC
    go_wp2
    refine bodyPost_ret (v := .tuple #[.agg #[.int .i64 0, .int .i64 0, .slice none 0 0, .bool false, .int .u8 0, .int .i64 0, .int .i64 0, .int .i64 0], .int .i64 2]) ?_ rfl ⟨rfl, ?_⟩
    · simp [results, Tryz.results16, go_sem, x0, x1, x2, x3, x4, x5, x6, x7]
    · exact (((((((hB2.setCell (p := ⟨w.heap.size + 1, 0, none⟩) (by simp) _).setCell (p := ⟨w.heap.size + 1, 1, none⟩) (by simp) _).setCell (p := ⟨w.heap.size + 1, 2, none⟩) (by simp) _).setCell (p := ⟨w.heap.size + 1, 3, none⟩) (by simp) _).setCell (p := ⟨w.heap.size + 1, 4, none⟩) (by simp) _).setCell (p := ⟨w.heap.size + 1, 5, none⟩) (by simp) _).setCell (p := ⟨w.heap.size + 1, 6, none⟩) (by simp) _).setCell (p := ⟨w.heap.size + 1, 7, none⟩) (by simp) _
  | true =>
    obtain ⟨⟨y0, y1, y2, y3, y4, y5, y6, y7⟩, yf⟩ := hy1
    clear HX HY HA HB hb1
    go_wp2_with fail
    refine (HC.out _ hA2).mono ?_
    rintro e w2 ⟨v, rfl, hown, hb2⟩
    obtain ⟨A', c', rfl, _, _⟩ := RdP.own hown
    obtain ⟨⟨x0, x1, x2, x3, x4, x5, x6, x7⟩, xf⟩ := hx1.below hb2 hx1.lt
    have hB3 := chain hB2 hb2
    have hlt := hx1.lt
    have hown2 := ownsRow_setCell_below (ownsRow_setCell_below (ownsRow_setCell_below (ownsRow_setCell_below (ownsRow_setCell_below (ownsRow_setCell_below (ownsRow_setCell_below (ownsRow_setCell_below (hown) (a := ⟨w.heap.size + 1, 0, none⟩) (show w.heap.size + 1 < w1.heap.size from hlt) (.int .i64 F)) (a := ⟨w.heap.size + 1, 1, none⟩) (show w.heap.size + 1 < w1.heap.size from hlt) (.int .i64 R)) (a := ⟨w.heap.size + 1, 2, none⟩) (show w.heap.size + 1 < w1.heap.size from hlt) (.slice A' l.length c')) (a := ⟨w.heap.size + 1, 3, none⟩) (show w.heap.size + 1 < w1.heap.size from hlt) (.bool bl)) (a := ⟨w.heap.size + 1, 4, none⟩) (show w.heap.size + 1 < w1.heap.size from hlt) (.int .u8 0)) (a := ⟨w.heap.size + 1, 5, none⟩) (show w.heap.size + 1 < w1.heap.size from hlt) (.int .i64 (-1))) (a := ⟨w.heap.size + 1, 6, none⟩) (show w.heap.size + 1 < w1.heap.size from hlt) (.int .i64 0)) (a := ⟨w.heap.size + 1, 7, none⟩) (show w.heap.size + 1 < w1.heap.size from hlt) (.int .i64 1)
    have hBB := ((((((((hB3).setCell (p := ⟨w.heap.size + 1, 0, none⟩) (show w.heap.size ≤ w.heap.size + 1 by omega) (.int .i64 F)).setCell (p := ⟨w.heap.size + 1, 1, none⟩) (show w.heap.size ≤ w.heap.size + 1 by omega) (.int .i64 R)).setCell (p := ⟨w.heap.size + 1, 2, none⟩) (show w.heap.size ≤ w.heap.size + 1 by omega) (.slice A' l.length c')).setCell (p := ⟨w.heap.size + 1, 3, none⟩) (show w.heap.size ≤ w.heap.size + 1 by omega) (.bool bl)).setCell (p := ⟨w.heap.size + 1, 4, none⟩) (show w.heap.size ≤ w.heap.size + 1 by omega) (.int .u8 0)).setCell (p := ⟨w.heap.size + 1, 5, none⟩) (show w.heap.size ≤ w.heap.size + 1 by omega) (.int .i64 (-1))).setCell (p := ⟨w.heap.size + 1, 6, none⟩) (show w.heap.size ≤ w.heap.size + 1 by omega) (.int .i64 0)).setCell (p := ⟨w.heap.size + 1, 7, none⟩) (show w.heap.size ≤ w.heap.size + 1 by omega) (.int .i64 1)
    have HN : OfP w F R l bl true (.returned (.tuple #[.agg #[.int .i64 F, .int .i64 R, .slice A' l.length c', .bool bl, .int .u8 0, .int .i64 (-1), .int .i64 0, .int .i64 1], .int .i64 0])) ((((((((w2.setCell ⟨w.heap.size + 1, 0, none⟩ (.int .i64 F)).setCell ⟨w.heap.size + 1, 1, none⟩ (.int .i64 R)).setCell ⟨w.heap.size + 1, 2, none⟩ (.slice A' l.length c')).setCell ⟨w.heap.size + 1, 3, none⟩ (.bool bl)).setCell ⟨w.heap.size + 1, 4, none⟩ (.int .u8 0)).setCell ⟨w.heap.size + 1, 5, none⟩ (.int .i64 (-1))).setCell ⟨w.heap.size + 1, 6, none⟩ (.int .i64 0)).setCell ⟨w.heap.size + 1, 7, none⟩ (.int .i64 1)) := ⟨_, rfl, hown2.mono (by have := hB2.size; omega), hBB⟩
    have HN := Lib.hid HN
    clear hown hown2 hBB hB3 hb2 hB2 hlt hx1 hA2 HC
    go_wp2
    refine bodyPost_ret (v := (.tuple #[.agg #[.int .i64 F, .int .i64 R, .slice A' l.length c', .bool bl, .int .u8 0, .int .i64 (-1), .int .i64 0, .int .i64 1], .int .i64 0])) ?_ rfl HN.out
    simp [results, Tryz.results16, go_sem, x0, x1, x2, x3, x4, x5, x6, x7]

end Go.Proofs.YtelkmdklpcfobaaGreatDoor

/- Positions: the examples of the chapter, given that the program reads as it should. -/
namespace Go.Proofs.YtelkmdklpcfobaaGreatDoor
open Go.RowKit Go.Sort

def goodT : List ByteArray := [⟨#[51, 120, 51, 32, 107, 50, 47, 51, 47, 50, 75, 32, 119, 32, 45, 32, 45, 32, 48, 32, 49]⟩, ⟨#[51, 120, 51, 32, 107, 82, 49, 47, 51, 47, 50, 75, 32, 98, 32, 45, 32, 45, 32, 48, 32, 49]⟩, ⟨#[51, 120, 51, 32, 107, 50, 47, 51, 47, 49, 80, 75, 32, 119, 32, 45, 32, 45, 32, 48, 32, 49]⟩, ⟨#[51, 120, 54, 32, 107, 50, 47, 51, 47, 80, 50, 47, 51, 47, 51, 47, 50, 75, 32, 98, 32, 45, 32, 97, 51, 32, 48, 32, 49]⟩, ⟨#[56, 120, 56, 32, 52, 107, 51, 47, 56, 47, 56, 47, 56, 47, 56, 47, 56, 47, 56, 47, 52, 75, 50, 82, 32, 119, 32, 75, 32, 45, 32, 48, 32, 49]⟩]
def badT6 : List ByteArray := [⟨#[51, 120, 51, 32, 107, 82, 49, 47, 51, 47, 50, 75, 32, 119, 32, 45, 32, 45, 32, 48, 32, 49]⟩, ⟨#[51, 120, 51, 32, 107, 80, 49, 47, 51, 47, 50, 75, 32, 98, 32, 45, 32, 45, 32, 48, 32, 49]⟩, ⟨#[51, 120, 54, 32, 107, 50, 47, 51, 47, 51, 47, 80, 50, 47, 51, 47, 50, 75, 32, 98, 32, 45, 32, 97, 50, 32, 48, 32, 49]⟩, ⟨#[51, 120, 54, 32, 107, 50, 47, 51, 47, 51, 47, 80, 50, 47, 51, 47, 50, 75, 32, 98, 32, 45, 32, 97, 51, 32, 48, 32, 49]⟩, ⟨#[51, 120, 54, 32, 107, 50, 47, 51, 47, 80, 50, 47, 51, 47, 51, 47, 50, 75, 32, 98, 32, 45, 32, 97, 51, 32, 49, 32, 49]⟩, ⟨#[51, 120, 54, 32, 107, 50, 47, 51, 47, 80, 50, 47, 51, 47, 51, 47, 50, 75, 32, 119, 32, 45, 32, 97, 51, 32, 48, 32, 49]⟩, ⟨#[56, 120, 56, 32, 52, 107, 51, 47, 56, 47, 56, 47, 56, 47, 56, 47, 56, 47, 56, 47, 52, 75, 50, 82, 32, 119, 32, 81, 32, 45, 32, 48, 32, 49]⟩]
def startB : ByteArray := ⟨#[56, 120, 56, 32, 114, 110, 98, 113, 107, 98, 110, 114, 47, 112, 112, 112, 112, 112, 112, 112, 112, 47, 56, 47, 56, 47, 56, 47, 56, 47, 80, 80, 80, 80, 80, 80, 80, 80, 47, 82, 78, 66, 81, 75, 66, 78, 82, 32, 119, 32, 75, 81, 107, 113, 32, 45, 32, 48, 32, 49]⟩
theorem goodT_all : (goodT.all fun t => (rdPo t.data.toList).isSome && decide (t.size ≤ 200)) = true := by decide +kernel
theorem badT6_all : (badT6.all fun t => decide (rdPo t.data.toList = none) && decide (t.size ≤ 200)) = true := by decide +kernel
theorem startB_ok : ((rdPo startB.data.toList).isSome && decide (startB.size ≤ 200)) = true := by decide +kernel
/-- a text that is read: its position, and what follows of it. -/
theorem good_of {t : ByteArray} (h : ((rdPo t.data.toList).isSome && decide (t.size ≤ 200)) = true) : ∃ p, rdPo t.data.toList = some p ∧ okPo p = true ∧ bsL (posT p) = t ∧ p.ca < 256 ∧ p.l.length ≤ 64 ∧ t.size ≤ 200 := by
  rw [Bool.and_eq_true, Option.isSome_iff_exists] at h
  obtain ⟨⟨p, hp⟩, hs⟩ := h
  obtain ⟨h1, h2⟩ := text_rd hp
  obtain ⟨_, _, _, _, _, _, _, _, _, _, hca, _, _, hv⟩ := okPo_nat h1
  exact ⟨p, hp, h1, by rw [h2, bsL_of], by omega, vbd_64 hv, of_decide_eq_true hs⟩

set_option maxRecDepth 100000 in
set_option maxHeartbeats 2000000 in
theorem small6_any (F R : Int) (l : List Int) (A : Option Addr) (c : Nat) (bl : Bool) (ca : Nat) (ps ha fu : Int) (w : World) :
    Calls Tryz.prog 9 #[.agg #[.int .i64 F, .int .i64 R, .slice A l.length c, .bool bl, .int .u8 (ca : Int), .int .i64 ps, .int .i64 ha, .int .i64 fu]] w fun e w' => e = .returned (.bool (decide (l.length ≤ 70))) ∧ Below w.heap.size w w' := by
  go_enter Tryz.func9, Tryz.ntmps9
  go_wp2
  go_ret
  refine ⟨ret_bool ?_, box1 _ _⟩
  rw [decide_eq_decide]
  omega

set_option maxRecDepth 100000 in
set_option maxHeartbeats 2000000 in
theorem pStart_any (HPA : PParse) (p : Po) (hp : rdPo startB.data.toList = some p) (w : World) (hT : T6 w) :
    Calls Tryz.prog 29 #[] w (NewP w p.F p.R p.l p.bl p.ca p.ps p.ha p.fu) := by
  have HP := Lib.hid (HPA startB (by decide) _ (hT.below (box1 w (.cells #[.int .i64 0, .int .i64 0, .slice none 0 0, .bool false, .int .u8 0, .int .i64 0, .int .i64 0, .int .i64 0] 26))))
  rw [hp] at HP
  have hX := box8 w 0 0 (.slice none 0 0) false 0 0 0 0
  have HX := Lib.hid (show Bx8 (w.alloc (.cells #[.int .i64 0, .int .i64 0, .slice none 0 0, .bool false, .int .u8 0, .int .i64 0, .int .i64 0, .int .i64 0] 26)) w.heap.size 0 0 (.slice none 0 0) false 0 0 0 0 from hX)
  obtain ⟨F, R, l, bl, ca, ps, ha, fu⟩ := p
  clear hX hp hT
  go_enter Tryz.func29, Tryz.ntmps29
  go_wp2_with fail
  refine HP.out.mono ?_
  rintro e w1 ⟨v, rfl, hown, hb1⟩
  obtain ⟨A', c', rfl, _, _⟩ := RdP.own hown
  have hb1' := hb1
  simp only [World.size_alloc] at hb1'
  have hlt := HX.out.lt
  simp only [World.size_alloc] at hlt
  have hb2 := chain (box1 w (.cells #[.int .i64 0, .int .i64 0, .slice none 0 0, .bool false, .int .u8 0, .int .i64 0, .int .i64 0, .int .i64 0] 26)) hb1
  have hs1 := hb1.size
  simp only [World.size_alloc] at hs1
  have hx1 := (HX.out.below hb1 HX.out.lt).below (box1 w1 (.cells #[.int .i64 F, .int .i64 R, .slice A' l.length c', .bool bl, .int .u8 (ca : Int), .int .i64 ps, .int .i64 ha, .int .i64 fu] 26)) (show w.heap.size < w1.heap.size by omega)
  have hy1 := box8 w1 F R (.slice A' l.length c') bl ca ps ha fu
  have hown2 := own_below hown (box1 w1 (.cells #[.int .i64 F, .int .i64 R, .slice A' l.length c', .bool bl, .int .u8 (ca : Int), .int .i64 ps, .int .i64 ha, .int .i64 fu] 26))
  have hb3 := chain hb2 (box1 w1 (.cells #[.int .i64 F, .int .i64 R, .slice A' l.length c', .bool bl, .int .u8 (ca : Int), .int .i64 ps, .int .i64 ha, .int .i64 fu] 26))
  have hown3 := own8 hown2 (b := w.heap.size) (show w.heap.size < (w.alloc (.cells #[.int .i64 0, .int .i64 0, .slice none 0 0, .bool false, .int .u8 0, .int .i64 0, .int .i64 0, .int .i64 0] 26)).heap.size by simp) (.int .i64 F) (.int .i64 R) (.slice A' l.length c') (.bool bl) (.int .u8 (ca : Int)) (.int .i64 ps) (.int .i64 ha) (.int .i64 fu)
  have hb4 := below8 hb3 (Nat.le_refl _) (.int .i64 F) (.int .i64 R) (.slice A' l.length c') (.bool bl) (.int .u8 (ca : Int)) (.int .i64 ps) (.int .i64 ha) (.int .i64 fu)
  have HN := Lib.hid (show NewP w F R l bl ca ps ha fu (.returned (.agg #[.int .i64 F, .int .i64 R, .slice A' l.length c', .bool bl, .int .u8 (ca : Int), .int .i64 ps, .int .i64 ha, .int .i64 fu])) _ from ⟨_, rfl, hown3.mono (by simp), hb4⟩)
  obtain ⟨⟨x0, x1, x2, x3, x4, x5, x6, x7⟩, xf⟩ := hx1
  obtain ⟨⟨y0, y1, y2, y3, y4, y5, y6, y7⟩, yf⟩ := hy1
  clear hown hown2 hown3 hb4 hb3 hb2 hb1 hb1' HP HX
  go_wp2
  refine bodyPost_ret (v := (.agg #[.int .i64 F, .int .i64 R, .slice A' l.length c', .bool bl, .int .u8 (ca : Int), .int .i64 ps, .int .i64 ha, .int .i64 fu])) ?_ rfl HN.out
  simp [results, Tryz.results29, go_sem, x0, x1, x2, x3, x4, x5, x6, x7]

end Go.Proofs.YtelkmdklpcfobaaGreatDoor
