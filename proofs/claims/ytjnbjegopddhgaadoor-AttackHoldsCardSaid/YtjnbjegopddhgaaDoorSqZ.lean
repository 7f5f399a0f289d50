/- Each: the iterator over the squares of a set gives them in order, as far as the loop takes them. Under the table of package math/bits as its text lays it. -/
import Derived.RangeFuncNested
import Derived.RangeFuncBound
import Derived.RangeFuncCalls
import Derived.RangeFuncLeaves
import Derived.Shelf.Abstract
import Derived.Shelf.RegionOpen
import Derived.WalkKit
import Derived.OwnWalkIn
import Derived.TacticsInMore
import Derived.LoopNIn
import Derived.LoopIn
import Derived.Shelf.Spec.TrailingZeros
import Derived.Test.YtjnbjegopddhgaaDoorSqD
import Derived.Sort.QuietTacIn
import Derived.Sort.BigQuietIn
import Derived.Test.YtjnbjegopddhgaaDoorBdD
import Derived.RangeFuncFrom
import Derived.Test.YtjnbjegopddhgaaDoorSqC
import Derived.Laws.BytesString
import Derived.Lib.Hide

namespace Go.Proofs.YtjnbjegopddhgaaDoor
open Go.RowKit Go.Shelf
attribute [local go_sem] Oper.semAt_some

/-- the table of math/bits lies in its variable. -/
def Tab (w : World) : Prop := 0 + 1 ≤ w.heap.size ∧ TabAt 0 Lib.deBruijn64tab w
theorem Tab.below {w w' : World} {B : Nat} (h : Tab w) (hb : Below B w w') (hB : 0 + 1 ≤ B) : Tab w' :=
  ⟨Nat.le_trans h.1 hb.size, fun j hj => (hb.cell (p := ⟨0, j, none⟩) hB).trans (h.2 j hj)⟩

set_option maxRecDepth 100000 in
set_option maxHeartbeats 1000000 in
theorem tz_core (x k idx : Nat) (w : World) (hx0 : ((x : Int) == 0) = false)
    (key : IntKind.u64.wrap (bits BinOp.and IntKind.u64 (x : Int) (IntKind.u64.wrap (-(x : Int))) * 285870213051353865) / 288230376151711744 = (idx : Int))
    (hi : idx < 64) (hk : k < 64) (hcell : w.cell? ⟨0, idx, none⟩ = some (.int .u8 k)) :
    Calls Tryd.prog 66 #[.int .u64 x] w fun e w' => e = .returned (.int .i64 k) ∧ w' = w := by
  go_enter Tryd.func66, Tryd.ntmps66
  go_wp2_with (simp only [key])
  go_ret
  exact ⟨rfl, rfl⟩

theorem tz_any (x : Nat) (hx0 : x ≠ 0) (hx : x < 18446744073709551616) (w : World) (hT : Tab w) :
    Calls Tryd.prog 66 #[.int .u64 x] w fun e w' => e = .returned (.int .i64 (Lib.ctz 64 x)) ∧ w' = w := by
  obtain ⟨hlow, hk⟩ := Lib.lowest_bit 64 x hx0 hx
  obtain ⟨hi, htab⟩ := Lib.deBruijn64_at _ hk
  have hcell := hT.2 _ hi
  rw [htab] at hcell
  exact tz_core x _ _ w (by simp; omega) (tz64_key x _ hx hx0 hlow) hi hk hcell

/-- a square of a set. -/
abbrev Sq (X : Nat) := { i : Nat // i ∈ listOf X }
def vals {X : Nat} (l : List (Sq X)) : List Nat := l.map (·.1)
theorem vals_snoc {X : Nat} (l : List (Sq X)) (x : Sq X) : vals (l ++ [x]) = vals l ++ [x.1] := by simp [vals]
theorem vals_len {X : Nat} (l : List (Sq X)) : (vals l).length = l.length := by simp [vals]

theorem and_pred (x : Nat) (h0 : x ≠ 0) (hx : x < 18446744073709551616) : bits .and .u64 (x : Int) ((x : Int) - 1) = ((x &&& (x - 1) : Nat) : Int) := by
  have e : ((x : Int) - 1) = ((x - 1 : Nat) : Int) := by omega
  rw [e, u64_and_nat x (x - 1) hx (by omega)]

set_option maxRecDepth 100000 in
set_option maxHeartbeats 1000000 in
theorem each1_in (n l Bn n₀ X : Nat) (hn : 1 ≤ n) (hX : X < 18446744073709551616) (J Jx : List (Sq X) → World → Prop)
    (hY : ∀ pre x W, J pre W → pre.length < (listOf X).length → YieldAt Fence.wide (n - 1) Tryd.prog l #[.int .i64 (x.1 : Int)] W fun e W' =>
      (e = .returned (.bool true) ∧ J (pre ++ [x]) W' ∧ Below n₀ W W') ∨ (e = .returned (.bool false) ∧ Jx (pre ++ [x]) W'))
    (W : World) (hBn : W.cell? ⟨Bn, 0, none⟩ = some (.int .u64 X)) (hT : Tab W) (h1 : 0 + 1 ≤ n₀) (h0 : J [] W) :
    CallsIn Fence.wide n Tryd.prog 65 #[.func (.yield l) #[] #[], .pointer (some ⟨Bn, 0, none⟩)] W fun e W' => (∃ v, e = .returned v) ∧
      ((∃ ys, vals ys = listOf X ∧ J ys W') ∨ (∃ pre, vals pre <+: listOf X ∧ Jx pre W')) := by
  refine callsIn_of_wp Tryd.func65 rfl trivial ?_ rfl
  simp only [Tryd.ntmps65, List.size_toArray, List.length_cons, List.length_nil, Nat.reduceAdd, Nat.reduceSub, Array.replicate_succ, Array.replicate_zero, List.push_toArray, List.append_toArray, List.nil_append, List.cons_append]
  gi_wp2
  gi_loopw [3] (fun p wr => ∃ (pre : List (Sq X)) (r : Nat), p = .int .u64 r ∧ r < 18446744073709551616 ∧ vals pre ++ listOf r = listOf X ∧ J pre wr ∧ Below n₀ W wr)
    (fun p _ => (intOf p).toNat)
  case atStart =>
    exact ⟨[], X, rfl, hX, rfl, h0, Below.refl _ _⟩
  case round =>
    obtain ⟨pre, r, rfl, hr, hl, hJs, hB⟩ := hrel
    have HL := Lib.hid hl
    clear hl
    by_cases hr0 : r = 0
    · subst hr0
      have HE : Hid (vals pre = listOf X) := Lib.hid (by have := HL.out; rw [listOf_zero, List.append_nil] at this; exact this)
      gi_wp2
      go_end0
      exact ⟨⟨_, rfl⟩, .inl ⟨pre, HE.out, hJs⟩⟩
    · have hstep := listOf_step hr0 (by simpa using hr)
      have hmem : Lib.ctz 64 r ∈ listOf X := by
        rw [← HL.out, hstep]
        simp
      have HN : Hid (vals (pre ++ [⟨Lib.ctz 64 r, hmem⟩]) ++ listOf (r &&& (r - 1)) = listOf X) := Lib.hid (by
        have e : vals (pre ++ [⟨Lib.ctz 64 r, hmem⟩]) = vals pre ++ [Lib.ctz 64 r] := vals_snoc pre ⟨_, hmem⟩
        rw [e, List.append_assoc]
        exact (congrArg (vals pre ++ ·) hstep.symm).trans HL.out)
      have hlen : pre.length < (listOf X).length := by
        rw [← HL.out, hstep, List.length_append, vals_len]
        simp
      have HP : Hid (vals (pre ++ [⟨Lib.ctz 64 r, hmem⟩]) <+: listOf X) := Lib.hid ⟨_, HN.out⟩
      have hAnd := and_pred r hr0 hr
      have hlt := and_pred_lt hr0
      have hz : ((r : Int) != 0) = true := by rw [bne_iff_ne]; omega
      have hr1 : (1 : Int) ≤ (r : Int) := by omega
      have hT' := Lib.hid (hT.below hB h1)
      have hYx := Lib.hid (hY pre ⟨Lib.ctz 64 r, hmem⟩ wr hJs hlen)
      clear hY hstep
      gi_wp2_with fail
      refine ⟨trivial, callsIn_wide.2 ((tz_any r hr0 hr _ hT'.out).mono ?_)⟩
      rintro e w1 ⟨rfl, rfl⟩
      obtain ⟨fn, tmps, assign, body, hy, hR⟩ := hYx.out
      gi_wp2
      refine hR.mono ?_
      rintro e W3 (⟨rfl, hJ3, hk3⟩ | ⟨rfl, hJx3⟩)
      · gi_wp2
        go_roundw
        case rel => exact ⟨_, r &&& (r - 1), rfl, by omega, HN.out, hJ3, hB.trans hk3⟩
        case measure => simp [intOf]; omega
      · gi_wp2
        refine bodyPost_ret (results_none rfl _ _ _) rfl ?_
        exact ⟨⟨_, rfl⟩, .inr ⟨_, HP.out, hJx3⟩⟩

theorem each_any (X : Nat) (w : World) :
    Calls Tryd.prog 43 #[.int .u64 X] w fun e w' => e = .returned (.func (.func 65) #[] #[.pointer (some ⟨w.heap.size, 0, none⟩)]) ∧ w' = w.alloc (.cells #[.int .u64 X] 30) := by
  go_enter Tryd.func43, Tryd.ntmps43
  go_wp2
  go_ret
  exact ⟨rfl, rfl⟩

theorem each_stops (n Bn n₀ X : Nat) (hn : 1 ≤ n) (hX : X < 18446744073709551616) (w : World) (hBn : Bn < w.heap.size) (h1 : 0 + 1 ≤ n₀)
    (hc : w.cell? ⟨Bn, 0, none⟩ = some (.int .u64 X)) (hT : Tab w) :
    SeqStopsK Fence.wide n Tryd.prog 65 #[.pointer (some ⟨Bn, 0, none⟩)] (fun x : Sq X => #[Value.int .i64 (x.1 : Int)]) (Below n₀) (fun ys => vals ys = listOf X) (fun pre => vals pre <+: listOf X) (listOf X).length w := fun l J Jx W hW _ _ hY h0 =>
  each1_in n l Bn n₀ X hn hX J Jx hY W ((hW.cell (p := ⟨Bn, 0, none⟩) hBn).trans hc) (hT.below hW hT.1) h1 h0

end Go.Proofs.YtjnbjegopddhgaaDoor

/- A region that draws its order, inside a round of a range over a function: whatever the walk outside a round shows of all orders holds in it, where no operation is a defer statement. -/
namespace Go.Proofs.YtjnbjegopddhgaaDoor
open Go

def noDefer (ops : Array Oper) : Prop := ∀ (i : Nat) (o : Oper), ops[i]? = some o → ∀ c, o.op ≠ .defer c

def plainB (ops : Array Oper) : Bool := ops.all fun o => match o.op with | .defer _ => false | _ => true
theorem noDefer_of (ops : Array Oper) (h : plainB ops = true) : noDefer ops := by
  intro i o ho c hc
  have := Array.all_eq_true.1 h i (Array.getElem?_eq_some_iff.1 ho).1
  rw [(Array.getElem?_eq_some_iff.1 ho).2] at this
  simp [hc] at this

theorem wpIn_round {l n : Nat} {P : Program} {o : Oper} {a : Act} {w : World} {K : Act → World → Prop} {Q : Exit → Act → World → Prop} (hd : ∀ c, o.op ≠ .defer c)
    (h : o.wpIn Fence.wide n P a w K Q) : o.wpIn (Fence.wide.inRound l) n P a w K Q := by
  unfold Oper.wpIn at *
  refine ⟨h.1, ?_⟩
  have h2 := h.2
  rw [Oper.semAt_eq _ _ _ hd] at h2 ⊢
  generalize (execOp a.eval o).run P w = r at *
  cases r with
  | ok x w' => cases x <;> exact h2
  | halt x w' => exact h2

theorem wpOpIn_round {l n : Nat} {P : Program} {ops : Array Oper} {i : Nat} {a : Act} {w : World} {K K' : Act → World → Prop} {Q : Exit → Act → World → Prop} (hd : noDefer ops) (hK : ∀ a w, K a w → K' a w)
    (h : wpOpIn Fence.wide n P ops Q i K a w) : wpOpIn (Fence.wide.inRound l) n P ops Q i K' a w := by
  unfold wpOpIn at *
  cases ho : ops[i]? with
  | none => simp only [ho] at h ⊢; exact hK _ _ h
  | some o =>
    simp only [ho] at h ⊢
    by_cases hw : Region.wanted o (yielded ops a.tmps) = true
    · simp only [hw, if_true] at h ⊢
      exact Oper.wpIn_mono hK (wpIn_round (hd i o ho) h)
    · simp only [hw] at h ⊢
      exact ⟨h.1, hK _ _ h.2⟩

theorem wpAnyIn_round {l n : Nat} {P : Program} {md : Region.Mode} {ops : Array Oper} {Q : Exit → Act → World → Prop} (hd : noDefer ops) :
    ∀ (fuel : Nat) (listed : Array Bool) (a : Act) (w : World), wpAnyIn Fence.wide n P md ops Q fuel listed a w → wpAnyIn (Fence.wide.inRound l) n P md ops Q fuel listed a w
  | 0, _, _, _, h => h
  | fuel + 1, _, _, _, h => ⟨h.1, fun i hi => wpOpIn_round hd (fun a w => wpAnyIn_round hd fuel _ a w) (h.2 i hi)⟩

theorem quiet_round {l n id : Nat} {P : Program} {Q : Exit → Act → World → Prop} {a : Act} {w : World} {L : List Oper} (hd : plainB L.toArray = true) (hm : P.follows .mixedOrders = true) (hB : Region.lexB .any L.toArray = true)
    (h : wpQuietIn Fence.wide n P L.toArray (fun w' => ∃ n, w' = w.drewN n) (fun a' => ∀ w', (∃ n, w' = w.drewN n) → Q .normal a' w') L a) : (Code.region id L.toArray true).wpIn (Fence.wide.inRound l) n P Q a w := by
  simp only [Region.lexB, Bool.and_eq_true] at hB
  refine wpIn_region_any hm (wpAnyIn_round (noDefer_of _ hd) _ _ _ _ (wpAnyIn_of_quiet (C := fun w' => ∃ n, w' = w.drewN n) (Q := fun a' => ∀ w', (∃ n, w' = w.drewN n) → Q .normal a' w') rfl (fun _ w' hw' h => h w' hw') _ _ _ _ ⟨1, rfl⟩ ?_))
  have := wpAnyQIn_lex (F := Fence.wide) (n := n) (P := P) (C := fun w' => ∃ n, w' = w.drewN n) (md := .any) hB.1 L 0 (Array.replicate L.toArray.size false) a (by simp) (by simpa using hB.2) h
  simpa using this

end Go.Proofs.YtjnbjegopddhgaaDoor

/- Shift: the set whose squares are moved, without those that leave the board. -/
namespace Go.Proofs.YtjnbjegopddhgaaDoor
open Go.RowKit Go.Shelf
attribute [local go_sem] Oper.semAt_some

theorem alive {w : World} (o : Obj) {p : Addr} {v : Value} (h : w.cell? p = some v) : (w.alloc o).cell? p = some v :=
  (World.cell?_alloc_lt w o p (World.block_lt_of_cell? w p h)).trans h
theorem keeps_below {W W' : World} (h : Below W.heap.size W W') : KeepsOthers W W' := ⟨h.size, fun _ _ hk _ => (h.block _ (Array.getElem?_eq_some_iff.1 hk).1).trans hk⟩

end Go.Proofs.YtjnbjegopddhgaaDoor

/- Shift's other answers: errors, and too many steps. -/
namespace Go.Proofs.YtjnbjegopddhgaaDoor
open Go.RowKit

theorem x64 {F R : Int} {X : Nat} (hv : vsz F R) (hX : X < 2 ^ (F * R).toNat) : X < 18446744073709551616 := by
  have h := (vsz_mul hv).2
  have : 2 ^ (F * R).toNat ≤ 2 ^ 64 := Nat.pow_le_pow_right (by decide) (by omega)
  simp at this
  omega

end Go.Proofs.YtjnbjegopddhgaaDoor

/- The names of squares: the program's and the reference's. -/
namespace Go.Proofs.YtjnbjegopddhgaaDoor
open Go.RowKit

/-- the string of two bytes. -/
def nm (x y : Int) : ByteArray := (ByteArray.empty.push (UInt8.ofNat x.toNat)).push (UInt8.ofNat y.toNat)

theorem nm_ref : ∀ f, f < 8 → ∀ r, r < 8 → (ByteArray.mk #[97, 98, 99, 100, 101, 102, 103, 104]).extract f (f + 1) ++ (ByteArray.mk #[49, 50, 51, 52, 53, 54, 55, 56]).extract r (r + 1) = nm (97 + (f : Int)) (49 + (r : Int)) := by decide +kernel

theorem ret_str {a b : ByteArray} (h : a = b) : Ending.returned (.string a) = .returned (.string b) := by rw [h]

/-- the name of a square. -/
def nameB (F a : Int) : ByteArray := nm (97 + a % F) (49 + a / F)

set_option maxRecDepth 100000 in
set_option maxHeartbeats 400000 in
theorem refName_any (F R a : Int) (h : vat F R a) (w : World) :
    Calls Tryd.prog 55 #[.agg #[.int .i64 F, .int .i64 R], .int .i64 a] w fun e w' => e = .returned (.string (nameB F a)) ∧ Below w.heap.size w w' := by
  obtain ⟨p0, p1, p2, p3⟩ := place_bd h.1 h.2.1 h.2.2
  have f2 := h.1.2.1
  have r2 := h.1.2.2.2
  have E : Hid ((ByteArray.mk #[97, 98, 99, 100, 101, 102, 103, 104]).extract (a % F).toNat (a % F + 1).toNat ++ (ByteArray.mk #[49, 50, 51, 52, 53, 54, 55, 56]).extract (a / F).toNat (a / F + 1).toNat = nameB F a) := Lib.hid (by
    have := nm_ref (a % F).toNat (by omega) (a / F).toNat (by omega)
    rw [show (a % F + 1).toNat = (a % F).toNat + 1 from by omega, show (a / F + 1).toNat = (a / F).toNat + 1 from by omega, this]
    unfold nameB
    rw [Int.toNat_of_nonneg p0, Int.toNat_of_nonneg p2])
  go_enter Tryd.func55, Tryd.ntmps55
  go_wp2_with fail
  refine (refPlace_any _ _ _ h _).mono ?_
  rintro e w1 ⟨rfl, hb⟩
  go_wp2
  go_quiet (fail)
  go_wp2
  go_ret
  exact ⟨ret_str E.out, drawn (after1 (hb.alloc hb.size _)) _⟩
end Go.Proofs.YtjnbjegopddhgaaDoor

/- Reading the names of squares: the program's Parse and the reference's. -/
namespace Go.Proofs.YtjnbjegopddhgaaDoor
open Go.RowKit

theorem nm_data (x y : Int) : (nm x y).data.toList = [UInt8.ofNat x.toNat, UInt8.ofNat y.toNat] := rfl
theorem nm_size (x y : Int) : (nm x y).size = 2 := by
  show (nm x y).data.size = 2
  rw [← Array.length_toList, nm_data]
  rfl
theorem bytes_eq {a b : ByteArray} (h : a.data.toList = b.data.toList) : a = b := by
  cases a with | mk x => cases b with | mk y => cases x with | mk l => cases y with | mk m => simp at h; rw [h]
theorem toList_ne {a b : ByteArray} (h : a ≠ b) : (a.toList == b.toList) = false := by
  rw [beq_eq_false_iff_ne, ByteArray.toList_eq, ByteArray.toList_eq]
  exact fun e => h (bytes_eq e)
theorem u8_of (x : Int) (h0 : 0 ≤ x) (h1 : x < 256) : ((UInt8.ofNat x.toNat).toNat : Int) = x := by
  have : (UInt8.ofNat x.toNat).toNat = x.toNat := by simp; omega
  omega
theorem nm_inj {x y x' y' : Int} (hx : 0 ≤ x ∧ x < 256) (hy : 0 ≤ y ∧ y < 256) (hx' : 0 ≤ x' ∧ x' < 256) (hy' : 0 ≤ y' ∧ y' < 256) (h : nm x y = nm x' y') : x = x' ∧ y = y' := by
  have h2 := congrArg (fun s : ByteArray => s.data.toList) h
  simp only [nm_data, List.cons.injEq] at h2
  have e1 := congrArg (fun b : UInt8 => (b.toNat : Int)) h2.1
  have e2 := congrArg (fun b : UInt8 => (b.toNat : Int)) h2.2.1
  try dsimp only at e1 e2
  rw [u8_of x hx.1 hx.2, u8_of x' hx'.1 hx'.2] at e1
  rw [u8_of y hy.1 hy.2, u8_of y' hy'.1 hy'.2] at e2
  exact ⟨e1, e2⟩
theorem nm_get (x y : Int) (hx : 0 ≤ x ∧ x < 256) (hy : 0 ≤ y ∧ y < 256) (n0 : 0 < (nm x y).size) (n1 : 1 < (nm x y).size) : (((nm x y)[0]'n0).toNat : Int) = x ∧ (((nm x y)[1]'n1).toNat : Int) = y := by
  have h0 : ((nm x y)[0]'n0) = UInt8.ofNat x.toNat := rfl
  have h1 : ((nm x y)[1]'n1) = UInt8.ofNat y.toNat := rfl
  rw [h0, h1]
  exact ⟨u8_of x hx.1 hx.2, u8_of y hy.1 hy.2⟩
theorem eq_nm (s : ByteArray) (h : s.size = 2) (n0 : 0 < s.size) (n1 : 1 < s.size) : s = nm ((s[0]'n0).toNat : Int) ((s[1]'n1).toNat : Int) := by
  apply bytes_eq
  rw [nm_data]
  have hl : s.data.toList.length = 2 := by simpa using h
  obtain ⟨⟨l⟩⟩ := s
  match l, hl with
  | [a, b], _ =>
    have e0 : (ByteArray.mk #[a, b])[0]'n0 = a := rfl
    have e1 : (ByteArray.mk #[a, b])[1]'n1 = b := rfl
    simp [e0, e1]

theorem name_bd {F R a : Int} (h : vat F R a) : (0 ≤ 97 + a % F ∧ 97 + a % F < 256) ∧ (0 ≤ 49 + a / F ∧ 49 + a / F < 256) := by
  obtain ⟨p0, p1, p2, p3⟩ := place_bd h.1 h.2.1 h.2.2
  have f2 := h.1.2.1
  have r2 := h.1.2.2.2
  omega
theorem nameB_inj {F R a b : Int} (ha : vat F R a) (hb : vat F R b) (h : nameB F a = nameB F b) : a = b := by
  obtain ⟨x, y⟩ := name_bd ha
  obtain ⟨x', y'⟩ := name_bd hb
  obtain ⟨e1, e2⟩ := nm_inj x y x' y' h
  have := place_eq (a := a) ha.1
  have := place_eq (a := b) hb.1
  rw [← place_eq (a := a) ha.1, ← place_eq (a := b) hb.1, show a % F = b % F from by omega, show a / F = b / F from by omega]

set_option maxRecDepth 100000 in
set_option maxHeartbeats 1000000 in
theorem refParse_yes (F R a : Int) (s : ByteArray) (ha : vat F R a) (hs : nameB F a = s) (w : World) :
    Calls Tryd.prog 29 #[.agg #[.int .i64 F, .int .i64 R], .string s] w fun e w' => e = .returned (.int .i64 a) ∧ Below w.heap.size w w' := by
  obtain ⟨m0, m1⟩ := vsz_mul ha.1
  have HS := Lib.hid hs
  clear hs
  obtain ⟨hv, a0, a1⟩ := id ha
  go_enter Tryd.func29, Tryd.ntmps29
  go_wp2
  go_loopw [5] (fun i wr => ∃ k : Nat, (k : Int) ≤ a ∧ i = .int .i64 k ∧ Below (w.alloc (.cells #[.int .i64 F, .int .i64 R] 23)).heap.size (w.alloc (.cells #[.int .i64 F, .int .i64 R] 23)) wr) (fun i _ => 64 - (intOf i).toNat)
  case atStart => exact ⟨0, by omega, rfl, Below.refl _ _⟩
  case round =>
    obtain ⟨k, hk, rfl, hB⟩ := hrel
    have s1 := hB.size
    simp at s1
    have hc0 := hB.cell (p := ⟨w.heap.size, 0, none⟩) (by simp)
    have hc1 := hB.cell (p := ⟨w.heap.size, 1, none⟩) (by simp)
    simp [go_sem] at hc0 hc1
    have hkv : vat F R k := ⟨hv, by omega, by omega⟩
    have hlt : (k : Int) < F * R := by omega
    by_cases e : (k : Int) = a
    · have HE : Hid (nameB F k = s) := Lib.hid (by rw [e]; exact HS.out)
      have HK := Lib.hid e
      clear e
      go_wp2_with fail
      refine (refName_any _ _ _ hkv _).mono ?_
      rintro e w1 ⟨rfl, hb⟩
      rw [HE.out]
      go_wp2
      go_ret
      exact ⟨ret_int HK.out, after1 (chain hB hb)⟩
    · have hne : ((nameB F k).toList == s.toList) = false := toList_ne fun h => e (nameB_inj hkv ha (h.trans HS.out.symm))
      go_wp2_with fail
      refine (refName_any _ _ _ hkv _).mono ?_
      rintro e w1 ⟨rfl, hb⟩
      generalize hnm : nameB F k = t at *
      clear hnm
      go_wp2
      go_roundw
      case rel => exact ⟨k + 1, by omega, by go_num, chain hB hb⟩
      case measure => simp [intOf]; omega

set_option maxRecDepth 100000 in
set_option maxHeartbeats 1000000 in
theorem refParse_no (F R : Int) (s : ByteArray) (hv : vsz F R) (h : ∀ a, vat F R a → nameB F a ≠ s) (w : World) :
    Calls Tryd.prog 29 #[.agg #[.int .i64 F, .int .i64 R], .string s] w fun e w' => e = .returned (.int .i64 (-1)) ∧ Below w.heap.size w w' := by
  obtain ⟨m0, m1⟩ := vsz_mul hv
  have H := Lib.hid h
  clear h
  go_enter Tryd.func29, Tryd.ntmps29
  go_wp2
  go_loopw [5] (fun i wr => ∃ k : Nat, (k : Int) ≤ F * R ∧ i = .int .i64 k ∧ Below (w.alloc (.cells #[.int .i64 F, .int .i64 R] 23)).heap.size (w.alloc (.cells #[.int .i64 F, .int .i64 R] 23)) wr) (fun i _ => 64 - (intOf i).toNat)
  case atStart => exact ⟨0, by omega, rfl, Below.refl _ _⟩
  case round =>
    obtain ⟨k, hk, rfl, hB⟩ := hrel
    have s1 := hB.size
    simp at s1
    have hc0 := hB.cell (p := ⟨w.heap.size, 0, none⟩) (by simp)
    have hc1 := hB.cell (p := ⟨w.heap.size, 1, none⟩) (by simp)
    simp [go_sem] at hc0 hc1
    by_cases hlt : (k : Int) < F * R
    · have hkv : vat F R k := ⟨hv, by omega, hlt⟩
      have hne : ((nameB F k).toList == s.toList) = false := toList_ne (H.out _ hkv)
      go_wp2_with fail
      refine (refName_any _ _ _ hkv _).mono ?_
      rintro e w1 ⟨rfl, hb⟩
      generalize hnm : nameB F k = t at *
      clear hnm
      go_wp2
      go_roundw
      case rel => exact ⟨k + 1, by omega, by go_num, chain hB hb⟩
      case measure => simp [intOf]; omega
    · go_wp2
      go_ret
      exact ⟨rfl, after1 hB⟩

end Go.Proofs.YtjnbjegopddhgaaDoor

/- The examples of the chapter: known answers true, and changes nothing that lay before. Under the table of package math/bits as its text lays it. -/
namespace Go.Proofs.YtjnbjegopddhgaaDoor
open Go.RowKit

theorem vsz_of (F R : Int) (h : (decide (3 ≤ F) && decide (F ≤ 8) && decide (3 ≤ R) && decide (R ≤ 8)) = true) : vsz F R := by simp at h; exact ⟨h.1.1.1, h.1.1.2, h.1.2, h.2⟩
theorem v34 : vsz 3 4 := vsz_of _ _ rfl
theorem v33 : vsz 3 3 := vsz_of _ _ rfl
theorem v54 : vsz 5 4 := vsz_of _ _ rfl
theorem v88 : vsz 8 8 := vsz_of _ _ rfl
theorem v89 : ¬ vsz 8 9 := fun h => by have := h.2.2.2; omega
theorem a17 : vat 5 4 17 := ⟨v54, by omega, by omega⟩

theorem nm_none (s : ByteArray) (h : ∀ n, n < 20 → nameB 5 ((n : Nat) : Int) ≠ s) : ∀ a, vat 5 4 a → nameB 5 a ≠ s := by
  intro a ha
  obtain ⟨n, rfl⟩ := Int.eq_ofNat_of_zero_le ha.2.1
  exact h n (by have := ha.2.2; omega)

theorem l273 : listOf 273 = [0, 4, 8] := by decide +kernel
theorem s273 : ofL (shl 3 3 1 0 (listOf 273)) = 34 := by
  rw [l273]
  have h0 : onb 3 3 (((0 : Nat) : Int) % 3 + 1) (((0 : Nat) : Int) / 3 + 0) := ⟨by decide, by decide, by decide, by decide⟩
  have h4 : onb 3 3 (((4 : Nat) : Int) % 3 + 1) (((4 : Nat) : Int) / 3 + 0) := ⟨by decide, by decide, by decide, by decide⟩
  have h8 : ¬ onb 3 3 (((8 : Nat) : Int) % 3 + 1) (((8 : Nat) : Int) / 3 + 0) := fun h => absurd h.2.1 (by decide)
  have e1 := shl_yes (l := []) h0
  have e2 := shl_yes (l := [0]) h4
  have e3 := shl_no (l := [0, 4]) h8
  have e : shl 3 3 1 0 [0, 4, 8] = [1, 5] := by
    show shl 3 3 1 0 ([0, 4] ++ [8]) = _
    rw [e3]
    show shl 3 3 1 0 ([0] ++ [4]) = _
    rw [e2]
    show shl 3 3 1 0 ([] ++ [0]) ++ _ = _
    rw [e1]
    rfl
  rw [e]
  rfl

theorem carry4 {w w' : World} {b c : Addr} {d f : Addr} {v0 v1 v2 v3 : Value} (hb : Below w.heap.size w w') (h : w.cell? b = some v0 ∧ w.cell? c = some v1 ∧ w.cell? d = some v2 ∧ w.cell? f = some v3) :
    w'.cell? b = some v0 ∧ w'.cell? c = some v1 ∧ w'.cell? d = some v2 ∧ w'.cell? f = some v3 :=
  ⟨(hb.cell (World.block_lt_of_cell? w _ h.1)).trans h.1, (hb.cell (World.block_lt_of_cell? w _ h.2.1)).trans h.2.1, (hb.cell (World.block_lt_of_cell? w _ h.2.2.1)).trans h.2.2.1, (hb.cell (World.block_lt_of_cell? w _ h.2.2.2)).trans h.2.2.2⟩

theorem k_count1 (w : World) : Calls Tryd.prog 77 #[.agg #[.int .i64 3, .int .i64 4]] w fun e w' => e = .returned (.tuple #[.int .i64 12, .int .i64 0]) ∧ Below w.heap.size w w' :=
  (count_yes 3 4 v34 w).mono fun e w' h => ⟨by rw [h.1]; try rfl, h.2⟩

theorem k_count2 (w : World) : Calls Tryd.prog 77 #[.agg #[.int .i64 8, .int .i64 9]] w fun e w' => e = .returned (.tuple #[.int .i64 0, .int .i64 2]) ∧ Below w.heap.size w w' :=
  (count_no 8 9 v89 w).mono fun e w' h => ⟨by rw [h.1]; try rfl, h.2⟩

theorem k_at1 (w : World) : Calls Tryd.prog 98 #[.agg #[.int .i64 5, .int .i64 4], .int .i64 2, .int .i64 3] w fun e w' => e = .returned (.tuple #[.int .i64 17, .int .i64 0]) ∧ Below w.heap.size w w' :=
  (at_yes 5 4 2 3 v54 ⟨by omega, by omega, by omega, by omega⟩ w).mono fun e w' h => ⟨by rw [h.1]; try rfl, h.2⟩

theorem k_at2 (w : World) : Calls Tryd.prog 98 #[.agg #[.int .i64 5, .int .i64 4], .int .i64 5, .int .i64 0] w fun e w' => e = .returned (.tuple #[.int .i64 0, .int .i64 3]) ∧ Below w.heap.size w w' :=
  (at_off 5 4 5 0 v54 (fun h => absurd h.2.1 (by omega)) w).mono fun e w' h => ⟨by rw [h.1]; try rfl, h.2⟩

theorem k_place (w : World) : Calls Tryd.prog 97 #[.agg #[.int .i64 5, .int .i64 4], .int .i64 17] w fun e w' => e = .returned (.tuple #[.int .i64 2, .int .i64 3, .int .i64 0]) ∧ Below w.heap.size w w' :=
  (placeX_yes 5 4 17 a17 w).mono fun e w' h => ⟨by rw [h.1]; try rfl, h.2⟩

theorem k_dist1 (w : World) : Calls Tryd.prog 99 #[.agg #[.int .i64 8, .int .i64 8], .int .i64 0, .int .i64 63] w fun e w' => e = .returned (.tuple #[.int .i64 7, .int .i64 0]) ∧ Below w.heap.size w w' :=
  (distance_yes 8 8 0 63 ⟨v88, by omega, by omega⟩ ⟨v88, by omega, by omega⟩ w).mono fun e w' h => ⟨by rw [h.1]; try rfl, h.2⟩

theorem k_dist2 (w : World) : Calls Tryd.prog 99 #[.agg #[.int .i64 8, .int .i64 8], .int .i64 0, .int .i64 2] w fun e w' => e = .returned (.tuple #[.int .i64 2, .int .i64 0]) ∧ Below w.heap.size w w' :=
  (distance_yes 8 8 0 2 ⟨v88, by omega, by omega⟩ ⟨v88, by omega, by omega⟩ w).mono fun e w' h => ⟨by rw [h.1]; try rfl, h.2⟩

theorem k_all (w : World) : Calls Tryd.prog 92 #[.agg #[.int .i64 3, .int .i64 3]] w fun e w' => e = .returned (.tuple #[.int .u64 511, .int .i64 0]) ∧ Below w.heap.size w w' :=
  (all_yes 3 3 v33 w).mono fun e w' h => ⟨by rw [h.1]; try rfl, h.2⟩

end Go.Proofs.YtjnbjegopddhgaaDoor
