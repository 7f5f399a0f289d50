/- Laws of positions: what a region that makes a box knows of its worlds. -/
import Derived.Test.YtelkmdklpcfobaaGreatDoorPpK
import Derived.Test.YtelkmdklpcfobaaGreatDoorPoD
import Derived.Test.YtelkmdklpcfobaaGreatDoorBkD
namespace Go.Proofs.YtelkmdklpcfobaaGreatDoor
open Go.RowKit Go.Sort

/-- one row, or two rows, the tables, and what lay before. -/
def S10 (V W : World) (A : Option Addr) (l : List Int) (c : Nat) : Prop := RdP W W.heap.size A l c ∧ T6 W ∧ Below V.heap.size V W
def S11 (V W : World) (A : Option Addr) (l : List Int) (c : Nat) (A2 : Option Addr) (l2 : List Int) (c2 : Nat) : Prop := RdP W W.heap.size A l c ∧ RdP W W.heap.size A2 l2 c2 ∧ T6 W ∧ Below V.heap.size V W
theorem S10.below {V W W' : World} {A : Option Addr} {l : List Int} {c : Nat} (h : S10 V W A l c) (hb : Below W.heap.size W W') : S10 V W' A l c :=
  ⟨rdBo hb h.1, h.2.1.below hb, h.2.2.trans (hb.mono h.2.2.size)⟩
theorem S11.below {V W W' : World} {A : Option Addr} {l : List Int} {c : Nat} {A2 : Option Addr} {l2 : List Int} {c2 : Nat} (h : S11 V W A l c A2 l2 c2) (hb : Below W.heap.size W W') : S11 V W' A l c A2 l2 c2 :=
  ⟨rdBo hb h.1, rdBo hb h.2.1, h.2.2.1.below hb, h.2.2.2.trans (hb.mono h.2.2.2.size)⟩
/-- the eight cells of a box. -/
def C8 (W : World) (b : Nat) (v0 v1 v2 v3 v4 v5 v6 v7 : Value) : Prop :=
  W.cell? ⟨b, 0, none⟩ = some v0 ∧ W.cell? ⟨b, 1, none⟩ = some v1 ∧ W.cell? ⟨b, 2, none⟩ = some v2 ∧ W.cell? ⟨b, 3, none⟩ = some v3 ∧ W.cell? ⟨b, 4, none⟩ = some v4 ∧ W.cell? ⟨b, 5, none⟩ = some v5 ∧ W.cell? ⟨b, 6, none⟩ = some v6 ∧ W.cell? ⟨b, 7, none⟩ = some v7
theorem C8.below {W W' : World} {b : Nat} {v0 v1 v2 v3 v4 v5 v6 v7 : Value} (h : C8 W b v0 v1 v2 v3 v4 v5 v6 v7) (hb : Below W.heap.size W W') : C8 W' b v0 v1 v2 v3 v4 v5 v6 v7 :=
  ⟨cBo hb h.1, cBo hb h.2.1, cBo hb h.2.2.1, cBo hb h.2.2.2.1, cBo hb h.2.2.2.2.1, cBo hb h.2.2.2.2.2.1, cBo hb h.2.2.2.2.2.2.1, cBo hb h.2.2.2.2.2.2.2⟩
theorem keep10 {V W W' : World} {b : Nat} {v0 v1 v2 v3 v4 v5 v6 v7 : Value} {A : Option Addr} {l : List Int} {c : Nat} (h : (W.cell? ⟨b, 0, none⟩ = some v0 ∧ W.cell? ⟨b, 1, none⟩ = some v1 ∧ W.cell? ⟨b, 2, none⟩ = some v2 ∧ W.cell? ⟨b, 3, none⟩ = some v3 ∧ W.cell? ⟨b, 4, none⟩ = some v4 ∧ W.cell? ⟨b, 5, none⟩ = some v5 ∧ W.cell? ⟨b, 6, none⟩ = some v6 ∧ W.cell? ⟨b, 7, none⟩ = some v7) ∧ S10 V W A l c) (hb : Below W.heap.size W W') :
    (W'.cell? ⟨b, 0, none⟩ = some v0 ∧ W'.cell? ⟨b, 1, none⟩ = some v1 ∧ W'.cell? ⟨b, 2, none⟩ = some v2 ∧ W'.cell? ⟨b, 3, none⟩ = some v3 ∧ W'.cell? ⟨b, 4, none⟩ = some v4 ∧ W'.cell? ⟨b, 5, none⟩ = some v5 ∧ W'.cell? ⟨b, 6, none⟩ = some v6 ∧ W'.cell? ⟨b, 7, none⟩ = some v7) ∧ S10 V W' A l c :=
  ⟨C8.below h.1 hb, h.2.below hb⟩
theorem S10.rd {a : Prop} {V W : World} {A : Option Addr} {l : List Int} {c : Nat} (h : a ∧ S10 V W A l c) : RdP W W.heap.size A l c := h.2.1
theorem S10.t6 {a : Prop} {V W : World} {A : Option Addr} {l : List Int} {c : Nat} (h : a ∧ S10 V W A l c) : T6 W := h.2.2.1
theorem S10.bel {a : Prop} {V W : World} {A : Option Addr} {l : List Int} {c : Nat} (h : a ∧ S10 V W A l c) : Below V.heap.size V W := h.2.2.2
def S10m (V W : World) (A : Option Addr) (l : List Int) (c : Nat) (b : Nat) (v0 v1 v2 v3 v4 v5 v6 v7 : Value) : Prop := S10 V ((((((((W.setCell ⟨b, 0, none⟩ v0).setCell ⟨b, 1, none⟩ v1).setCell ⟨b, 2, none⟩ v2).setCell ⟨b, 3, none⟩ v3).setCell ⟨b, 4, none⟩ v4).setCell ⟨b, 5, none⟩ v5).setCell ⟨b, 6, none⟩ v6).setCell ⟨b, 7, none⟩ v7) A l c
theorem S10.mark {V W : World} {A : Option Addr} {l : List Int} {c : Nat} {b : Nat} {v0 v1 v2 v3 v4 v5 v6 v7 : Value} : S10 V ((((((((W.setCell ⟨b, 0, none⟩ v0).setCell ⟨b, 1, none⟩ v1).setCell ⟨b, 2, none⟩ v2).setCell ⟨b, 3, none⟩ v3).setCell ⟨b, 4, none⟩ v4).setCell ⟨b, 5, none⟩ v5).setCell ⟨b, 6, none⟩ v6).setCell ⟨b, 7, none⟩ v7) A l c = S10m V W A l c b v0 v1 v2 v3 v4 v5 v6 v7 := rfl
theorem keep10s {V W : World} {A : Option Addr} {l : List Int} {c : Nat} {b0 b : Nat} {u0 u1 u2 u3 u4 u5 u6 u7 : Value} (h : (V.cell? ⟨b0, 0, none⟩ = some u0 ∧ V.cell? ⟨b0, 1, none⟩ = some u1 ∧ V.cell? ⟨b0, 2, none⟩ = some u2 ∧ V.cell? ⟨b0, 3, none⟩ = some u3 ∧ V.cell? ⟨b0, 4, none⟩ = some u4 ∧ V.cell? ⟨b0, 5, none⟩ = some u5 ∧ V.cell? ⟨b0, 6, none⟩ = some u6 ∧ V.cell? ⟨b0, 7, none⟩ = some u7) ∧ S10 V V A l c) (hb : Below V.heap.size V W) (hbb : V.heap.size ≤ b) (v0 v1 v2 v3 v4 v5 v6 v7 : Value) :
    (World.cell? ((((((((W.setCell ⟨b, 0, none⟩ v0).setCell ⟨b, 1, none⟩ v1).setCell ⟨b, 2, none⟩ v2).setCell ⟨b, 3, none⟩ v3).setCell ⟨b, 4, none⟩ v4).setCell ⟨b, 5, none⟩ v5).setCell ⟨b, 6, none⟩ v6).setCell ⟨b, 7, none⟩ v7) ⟨b0, 0, none⟩ = some u0 ∧ World.cell? ((((((((W.setCell ⟨b, 0, none⟩ v0).setCell ⟨b, 1, none⟩ v1).setCell ⟨b, 2, none⟩ v2).setCell ⟨b, 3, none⟩ v3).setCell ⟨b, 4, none⟩ v4).setCell ⟨b, 5, none⟩ v5).setCell ⟨b, 6, none⟩ v6).setCell ⟨b, 7, none⟩ v7) ⟨b0, 1, none⟩ = some u1 ∧ World.cell? ((((((((W.setCell ⟨b, 0, none⟩ v0).setCell ⟨b, 1, none⟩ v1).setCell ⟨b, 2, none⟩ v2).setCell ⟨b, 3, none⟩ v3).setCell ⟨b, 4, none⟩ v4).setCell ⟨b, 5, none⟩ v5).setCell ⟨b, 6, none⟩ v6).setCell ⟨b, 7, none⟩ v7) ⟨b0, 2, none⟩ = some u2 ∧ World.cell? ((((((((W.setCell ⟨b, 0, none⟩ v0).setCell ⟨b, 1, none⟩ v1).setCell ⟨b, 2, none⟩ v2).setCell ⟨b, 3, none⟩ v3).setCell ⟨b, 4, none⟩ v4).setCell ⟨b, 5, none⟩ v5).setCell ⟨b, 6, none⟩ v6).setCell ⟨b, 7, none⟩ v7) ⟨b0, 3, none⟩ = some u3 ∧ World.cell? ((((((((W.setCell ⟨b, 0, none⟩ v0).setCell ⟨b, 1, none⟩ v1).setCell ⟨b, 2, none⟩ v2).setCell ⟨b, 3, none⟩ v3).setCell ⟨b, 4, none⟩ v4).setCell ⟨b, 5, none⟩ v5).setCell ⟨b, 6, none⟩ v6).setCell ⟨b, 7, none⟩ v7) ⟨b0, 4, none⟩ = some u4 ∧ World.cell? ((((((((W.setCell ⟨b, 0, none⟩ v0).setCell ⟨b, 1, none⟩ v1).setCell ⟨b, 2, none⟩ v2).setCell ⟨b, 3, none⟩ v3).setCell ⟨b, 4, none⟩ v4).setCell ⟨b, 5, none⟩ v5).setCell ⟨b, 6, none⟩ v6).setCell ⟨b, 7, none⟩ v7) ⟨b0, 5, none⟩ = some u5 ∧ World.cell? ((((((((W.setCell ⟨b, 0, none⟩ v0).setCell ⟨b, 1, none⟩ v1).setCell ⟨b, 2, none⟩ v2).setCell ⟨b, 3, none⟩ v3).setCell ⟨b, 4, none⟩ v4).setCell ⟨b, 5, none⟩ v5).setCell ⟨b, 6, none⟩ v6).setCell ⟨b, 7, none⟩ v7) ⟨b0, 6, none⟩ = some u6 ∧ World.cell? ((((((((W.setCell ⟨b, 0, none⟩ v0).setCell ⟨b, 1, none⟩ v1).setCell ⟨b, 2, none⟩ v2).setCell ⟨b, 3, none⟩ v3).setCell ⟨b, 4, none⟩ v4).setCell ⟨b, 5, none⟩ v5).setCell ⟨b, 6, none⟩ v6).setCell ⟨b, 7, none⟩ v7) ⟨b0, 7, none⟩ = some u7) ∧ S10m V W A l c b v0 v1 v2 v3 v4 v5 v6 v7 :=
  keep10 h (below8 hb hbb v0 v1 v2 v3 v4 v5 v6 v7)
theorem zb8 {X u : World} (h : Below (X.alloc (.cells #[.int .i64 0, .int .i64 0, .slice none 0 0, .bool false, .int .u8 0, .int .i64 0, .int .i64 0, .int .i64 0] 26)).heap.size (X.alloc (.cells #[.int .i64 0, .int .i64 0, .slice none 0 0, .bool false, .int .u8 0, .int .i64 0, .int .i64 0, .int .i64 0] 26)) u) : Bx8 u X.heap.size 0 0 (.slice none 0 0) false 0 0 0 0 :=
  (show Bx8 (X.alloc (.cells #[.int .i64 0, .int .i64 0, .slice none 0 0, .bool false, .int .u8 0, .int .i64 0, .int .i64 0, .int .i64 0] 26)) X.heap.size 0 0 (.slice none 0 0) false 0 0 0 0 from box8 X 0 0 (.slice none 0 0) false 0 0 0 0).below h (by simp)
theorem zb8d {X u : World} (h : Below (X.alloc (.cells #[.int .i64 0, .int .i64 0, .slice none 0 0, .bool false, .int .u8 0, .int .i64 0, .int .i64 0, .int .i64 0] 26)).drew.heap.size (X.alloc (.cells #[.int .i64 0, .int .i64 0, .slice none 0 0, .bool false, .int .u8 0, .int .i64 0, .int .i64 0, .int .i64 0] 26)).drew u) : Bx8 u X.heap.size 0 0 (.slice none 0 0) false 0 0 0 0 :=
  (show Bx8 (X.alloc (.cells #[.int .i64 0, .int .i64 0, .slice none 0 0, .bool false, .int .u8 0, .int .i64 0, .int .i64 0, .int .i64 0] 26)).drew X.heap.size 0 0 (.slice none 0 0) false 0 0 0 0 from box8 X 0 0 (.slice none 0 0) false 0 0 0 0).below h (by simp)
/-- the same with a second box and a second row. -/
theorem keep11 {V W W' : World} {b b' : Nat} {v0 v1 v2 v3 v4 v5 v6 v7 z0 z1 z2 z3 z4 z5 z6 z7 : Value} {A : Option Addr} {l : List Int} {c : Nat} {A2 : Option Addr} {l2 : List Int} {c2 : Nat} (h : (W.cell? ⟨b, 0, none⟩ = some v0 ∧ W.cell? ⟨b, 1, none⟩ = some v1 ∧ W.cell? ⟨b, 2, none⟩ = some v2 ∧ W.cell? ⟨b, 3, none⟩ = some v3 ∧ W.cell? ⟨b, 4, none⟩ = some v4 ∧ W.cell? ⟨b, 5, none⟩ = some v5 ∧ W.cell? ⟨b, 6, none⟩ = some v6 ∧ W.cell? ⟨b, 7, none⟩ = some v7) ∧ (W.cell? ⟨b', 0, none⟩ = some z0 ∧ W.cell? ⟨b', 1, none⟩ = some z1 ∧ W.cell? ⟨b', 2, none⟩ = some z2 ∧ W.cell? ⟨b', 3, none⟩ = some z3 ∧ W.cell? ⟨b', 4, none⟩ = some z4 ∧ W.cell? ⟨b', 5, none⟩ = some z5 ∧ W.cell? ⟨b', 6, none⟩ = some z6 ∧ W.cell? ⟨b', 7, none⟩ = some z7) ∧ S11 V W A l c A2 l2 c2) (hb : Below W.heap.size W W') :
    (W'.cell? ⟨b, 0, none⟩ = some v0 ∧ W'.cell? ⟨b, 1, none⟩ = some v1 ∧ W'.cell? ⟨b, 2, none⟩ = some v2 ∧ W'.cell? ⟨b, 3, none⟩ = some v3 ∧ W'.cell? ⟨b, 4, none⟩ = some v4 ∧ W'.cell? ⟨b, 5, none⟩ = some v5 ∧ W'.cell? ⟨b, 6, none⟩ = some v6 ∧ W'.cell? ⟨b, 7, none⟩ = some v7) ∧ (W'.cell? ⟨b', 0, none⟩ = some z0 ∧ W'.cell? ⟨b', 1, none⟩ = some z1 ∧ W'.cell? ⟨b', 2, none⟩ = some z2 ∧ W'.cell? ⟨b', 3, none⟩ = some z3 ∧ W'.cell? ⟨b', 4, none⟩ = some z4 ∧ W'.cell? ⟨b', 5, none⟩ = some z5 ∧ W'.cell? ⟨b', 6, none⟩ = some z6 ∧ W'.cell? ⟨b', 7, none⟩ = some z7) ∧ S11 V W' A l c A2 l2 c2 :=
  ⟨C8.below h.1 hb, C8.below h.2.1 hb, h.2.2.below hb⟩
theorem S11.rd {a b : Prop} {V W : World} {A : Option Addr} {l : List Int} {c : Nat} {A2 : Option Addr} {l2 : List Int} {c2 : Nat} (h : a ∧ b ∧ S11 V W A l c A2 l2 c2) : RdP W W.heap.size A l c := h.2.2.1
theorem S11.rd2 {a b : Prop} {V W : World} {A : Option Addr} {l : List Int} {c : Nat} {A2 : Option Addr} {l2 : List Int} {c2 : Nat} (h : a ∧ b ∧ S11 V W A l c A2 l2 c2) : RdP W W.heap.size A2 l2 c2 := h.2.2.2.1
theorem S11.t6 {a b : Prop} {V W : World} {A : Option Addr} {l : List Int} {c : Nat} {A2 : Option Addr} {l2 : List Int} {c2 : Nat} (h : a ∧ b ∧ S11 V W A l c A2 l2 c2) : T6 W := h.2.2.2.2.1
theorem S11.bel {a b : Prop} {V W : World} {A : Option Addr} {l : List Int} {c : Nat} {A2 : Option Addr} {l2 : List Int} {c2 : Nat} (h : a ∧ b ∧ S11 V W A l c A2 l2 c2) : Below V.heap.size V W := h.2.2.2.2.2

/-- one cell of another block is written. -/
theorem rd_set {W : World} {A : Option Addr} {l : List Int} {c b k : Nat} {x : Value} (h : RdP W W.heap.size A l c) (hne : ∀ ad, A = some ad → ad.block ≠ b) : RdP (W.setCell ⟨b, k, none⟩ x) (W.setCell ⟨b, k, none⟩ x).heap.size A l c := by
  have hb := (But.refl b W).setCell k x
  exact ⟨h.1, fun hl => by have := (hb.rd h (fun ad had => hne ad had)).2 hl; simpa using this⟩
theorem bx_set {W : World} {b b' k : Nat} {x : Value} {F R : Int} {v : Value} {bl : Bool} {ca : Nat} {ps ha fu : Int} (h : Bx8 W b F R v bl ca ps ha fu) (hne : b ≠ b') : Bx8 (W.setCell ⟨b', k, none⟩ x) b F R v bl ca ps ha fu := by
  obtain ⟨⟨x0, x1, x2, x3, x4, x5, x6, x7⟩, xf⟩ := h
  have hb := (But.refl b' W).setCell k x
  exact ⟨⟨hb.cell x0 hne, hb.cell x1 hne, hb.cell x2 hne, hb.cell x3 hne, hb.cell x4 hne, hb.cell x5 hne, hb.cell x6 hne, hb.cell x7 hne⟩, fun o => by rw [← xf o]; simp only [World.frozen?, hb.block _ hne]⟩
theorem bx_ca {W : World} {b : Nat} {F R : Int} {v : Value} {bl : Bool} {ca : Nat} {ps ha fu : Int} (h : Bx8 W b F R v bl ca ps ha fu) : Bx8 (W.setCell ⟨b, 4, none⟩ (.int .u8 0)) b F R v bl 0 ps ha fu := by
  obtain ⟨⟨x0, x1, x2, x3, x4, x5, x6, x7⟩, xf⟩ := h
  refine ⟨⟨?_, ?_, ?_, ?_, ?_, ?_, ?_, ?_⟩, fun o => ?_⟩ <;> simp [go_sem, x0, x1, x2, x3, x4, x5, x6, x7, xf]
theorem bx_ps {W : World} {b : Nat} {F R : Int} {v : Value} {bl : Bool} {ca : Nat} {ps ha fu : Int} (h : Bx8 W b F R v bl ca ps ha fu) : Bx8 (W.setCell ⟨b, 5, none⟩ (.int .i64 (-1))) b F R v bl ca (-1) ha fu := by
  obtain ⟨⟨x0, x1, x2, x3, x4, x5, x6, x7⟩, xf⟩ := h
  refine ⟨⟨?_, ?_, ?_, ?_, ?_, ?_, ?_, ?_⟩, fun o => ?_⟩ <;> simp [go_sem, x0, x1, x2, x3, x4, x5, x6, x7, xf]
theorem own_cap {W : World} {B e c : Nat} {A : Option Addr} {l : List Int} (h : W.ownsRow B e 1 (.slice A l.length c) l.length (vpcs l)) : l.length ≤ c := by
  obtain ⟨A', c', he, hc, _⟩ := RdP.own h
  simp only [Value.slice.injEq] at he
  omega
theorem own_rd {W : World} {B e c : Nat} {A : Option Addr} {l : List Int} (h : W.ownsRow B e 1 (.slice A l.length c) l.length (vpcs l)) : RdP W W.heap.size A l c := by
  obtain ⟨A', c', he, _, hr⟩ := RdP.own h
  simp only [Value.slice.injEq] at he
  obtain ⟨rfl, _, rfl⟩ := he
  exact hr

end Go.Proofs.YtelkmdklpcfobaaGreatDoor
