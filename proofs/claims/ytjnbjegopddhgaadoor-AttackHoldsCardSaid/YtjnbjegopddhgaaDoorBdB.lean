/- The reference's list of the squares of a set, and the set of a list. -/
import Derived.Test.YtjnbjegopddhgaaDoorSqD

namespace Go.Proofs.YtjnbjegopddhgaaDoor
open Go.RowKit

theorem ints3 : (Tryd.prog.info? 3).map (fun i => (i.zero, i.size, i.bytes)) = some (some (.int .i64 0), 1, 8) := by kernel_rfl

/-- the squares of a set among the first k. -/
def listTo (X k : Nat) : List Nat := (List.range k).filter (fun i => X.testBit i)
theorem listTo_yes (X k : Nat) (h : X.testBit k = true) : listTo X (k + 1) = listTo X k ++ [k] := by
  unfold listTo; rw [List.range_succ, List.filter_append]; simp [h]
theorem listTo_no (X k : Nat) (h : X.testBit k = false) : listTo X (k + 1) = listTo X k := by
  unfold listTo; rw [List.range_succ, List.filter_append]; simp [h]
theorem listTo_le (X k : Nat) : (listTo X k).length ≤ k := by
  unfold listTo
  have := List.length_filter_le (fun i => X.testBit i) (List.range k)
  simpa using this
theorem listTo_64 (X : Nat) : listTo X 64 = listOf X := rfl
def vnat (i : Nat) : Value := .int .i64 (i : Int)
def vnats (l : List Nat) : List Value := l.map vnat
theorem vnats_snoc (l : List Nat) (i : Nat) : vnats (l ++ [i]) = vnats l ++ [.int .i64 (i : Int)] := by simp [vnats, vnat]
theorem vnats_len (l : List Nat) : (vnats l).length = l.length := by simp [vnats]

set_option maxRecDepth 100000 in
set_option maxHeartbeats 1000000 in
theorem refList_any (X : Nat) (hX : X < 18446744073709551616) (w : World) :
    Calls Tryd.prog 27 #[.int .u64 X] w fun e w' => ∃ v, e = .returned v ∧ w'.ownsRow w.heap.size 3 1 v (listOf X).length (vnats (listOf X)) ∧ Below w.heap.size w w' := by
  obtain ⟨i0, hi, hz0, hz1, hz2⟩ := info_parts ints3
  go_enter Tryd.func27, Tryd.ntmps27
  go_wp2
  go_loopw [3, 4] (fun v i wr => ∃ k : Nat, k ≤ 64 ∧ i = .int .i64 k ∧ wr.ownsRow w.heap.size 3 1 v (listTo X k).length (vnats (listTo X k)) ∧ Below w.heap.size w wr) (fun _ i _ => 64 - (intOf i).toNat)
  case atStart => exact ⟨0, by omega, rfl, World.ownsRow_nil _ _ _ _, Below.refl _ _⟩
  case round =>
    obtain ⟨k, hk, rfl, hown, hB⟩ := hrel
    by_cases hlt : k < 64
    · have hle := listTo_le X k
      cases hb : X.testBit k
      · have hs := listTo_no X k hb
        have HS := Lib.hid hs
        have HB := Lib.hid hb
        clear hs hb
        go_wp2_with fail
        refine (refHas_in X _ hX (by omega) (by omega) _).mono ?_
        rintro e w1 ⟨rfl, rfl⟩
        rw [show ((k : Int)).toNat = k from by omega, HB.out]
        go_wp2
        go_roundw
        case rel => exact ⟨k + 1, by omega, by go_num, by rw [HS.out]; exact hown, hB⟩
        case measure => simp [intOf]; omega
      · have hs := listTo_yes X k hb
        have HS := Lib.hid hs
        have HB := Lib.hid hb
        clear hs hb
        go_wp2_with fail
        refine (refHas_in X _ hX (by omega) (by omega) _).mono ?_
        rintro e w1 ⟨rfl, rfl⟩
        rw [show ((k : Int)).toNat = k from by omega, HB.out]
        go_wp2_with (at_builtin; (refine wpList_append_own _ rfl _ _ 36 rfl w.heap.size 3 i0 (.int .i64 0) 1 8 Tryd.underlying36 hi hz0 hz1 hz2 rfl (by decide) _ _ _ rfl (hown.alloc _) ⟨wr.heap.size, 0, none⟩ 1 1 [.int .i64 (k : Int)] rfl rfl ?c1 ?c2 ?c3 ?c4 ?c5 ?_))
        case c1 =>
          intro j u hj
          match j, hj with
          | 0, hj => simp at hj; subst hj; simp [Addr.add]
        case c2 => intro u hu; simp at hu; subst hu; rfl
        case c3 => unfold maxLen; omega
        case c4 => omega
        case c5 => have := hB.size; simp; omega
        intro v' w2 hown' hgrow _
        go_wp2
        go_roundw
        case rel =>
          refine ⟨k + 1, by omega, by go_num, ?_, ?_⟩
          · rw [HS.out, vnats_snoc, List.length_append]; exact hown'
          · exact (hB.alloc hB.size _).grown hgrow (by have := hB.size; simp; omega) (fun r e => (World.ownsRow.lt hown r e).1)
        case measure => simp [intOf]; omega
    · have hk64 : k = 64 := by omega
      subst hk64
      go_wp2
      go_ret
      exact ⟨_, rfl, by rw [← listTo_64]; exact hown, hB⟩

end Go.Proofs.YtjnbjegopddhgaaDoor

/- The set of a list of squares: the reference's and the program's; lists of squares. -/
namespace Go.Proofs.YtjnbjegopddhgaaDoor
open Go.RowKit

/-- a slice value that reads, below block B, as the list l of int64s. -/
def RdI (w : World) (B : Nat) (A : Option Addr) (l : List Int) : Prop :=
  0 < l.length → ∃ ad, A = some ad ∧ ad.block < B ∧ ∀ j u, l[j]? = some u → w.cell? (ad.add j) = some (.int .i64 u)
theorem RdI.at_ {w : World} {B : Nat} {A : Option Addr} {l : List Int} (h : RdI w B A l) {k : Nat} (hk : k < l.length) : ∃ ad, A = some ad ∧ ad.block < B ∧ w.cell? (ad.add k) = some (.int .i64 (l[k]?.getD 0)) := by
  obtain ⟨ad, e, hb, hc⟩ := h (by omega)
  exact ⟨ad, e, hb, hc k _ (by rw [List.getElem?_eq_getElem hk]; rfl)⟩
theorem blk_add (a : Addr) (n : Nat) : (a.add n).block = a.block := by unfold Addr.add; split <;> rfl
theorem RdI.below {w w' : World} {B : Nat} {A : Option Addr} {l : List Int} (h : RdI w B A l) (hb : Below B w w') : RdI w' B A l := fun hl => by
  obtain ⟨ad, e, h1, hc⟩ := h hl
  exact ⟨ad, e, h1, fun j u hu => (hb.cell (by rw [blk_add]; exact h1)).trans (hc j u hu)⟩
theorem RdI.own {w : World} {B e : Nat} {v : Value} {l : List Nat} (h : w.ownsRow B e 1 v l.length (vnats l)) : ∃ A c, v = .slice A l.length c ∧ RdI w w.heap.size A (l.map fun i : Nat => (i : Int)) := by
  obtain ⟨hl, ⟨rfl, h0⟩ | ⟨g, cap, cur, rfl, hg, hh, hn, hc, hs, ht⟩⟩ := h
  · exact ⟨none, 0, by rw [h0], fun hh => by simp at hh; omega⟩
  · refine ⟨some ⟨g, 0, none⟩, cap, rfl, fun _ => ⟨_, rfl, (Array.getElem?_eq_some_iff.1 hh).1, fun j u hu => ?_⟩⟩
    have hcell := World.ownsRow.cells (w := w) (base := B) (e := e) (size := 1) (v := .slice (some ⟨g, 0, none⟩) l.length cap) (n := l.length) (xs := vnats l) ⟨hl, .inr ⟨g, cap, cur, rfl, hg, hh, hn, hc, hs, ht⟩⟩ (g := g) rfl j (.int .i64 u)
    apply hcell
    rw [List.getElem?_map] at hu
    simp only [vnats, List.getElem?_map]
    cases hj : l[j]? with
    | none => rw [hj] at hu; simp at hu
    | some x => rw [hj] at hu; simp at hu; subst hu; rfl

theorem own_below {w w' : World} {base : Nat} {e : TypeId} {size : Nat} {v : Value} {n : Nat} {xs : List Value} (h : w.ownsRow base e size v n xs) (hb : Below w.heap.size w w') : w'.ownsRow base e size v n xs := by
  obtain ⟨hl, h0 | ⟨g, cap, cur, rfl, hg, hh, hr⟩⟩ := h
  · exact ⟨hl, .inl h0⟩
  · exact ⟨hl, .inr ⟨g, cap, cur, rfl, hg, (hb.block g (Array.getElem?_eq_some_iff.1 hh).1).trans hh, hr⟩⟩

theorem add_wrap (X : Nat) (n : Int) (hX : X < 18446744073709551616) (h1 : n < 64) (hb : X.testBit n.toNat = false) :
    IntKind.u64.wrap ((X : Int) + IntKind.u64.wrap ((2 : Int) ^ n.toNat)) = ((X ||| bitN n.toNat : Nat) : Int) := by
  have e := add_bit hb
  have l := or_lt X n.toNat hX (by omega)
  rw [pow_wrap n h1, IntKind.wrap_u64]
  unfold bitN at *
  omega

def sqs (l : List Int) : List Nat := l.map Int.toNat
/-- the set of the first k. -/
def ofTo (l : List Int) (k : Nat) : Nat := ofL ((sqs l).take k)
theorem ofTo_zero (l : List Int) : ofTo l 0 = 0 := rfl
theorem ofTo_succ (l : List Int) (k : Nat) (h : k < l.length) : ofTo l (k + 1) = ofTo l k ||| bitN (l[k]?.getD 0).toNat := by
  unfold ofTo
  have h' : k < (sqs l).length := by simpa [sqs] using h
  rw [List.take_succ_eq_append_getElem h', ofL_snoc]
  congr 2
  simp [sqs, List.getElem?_eq_getElem h]
theorem ofTo_all (l : List Int) : ofTo l l.length = ofL (sqs l) := by
  unfold ofTo; rw [List.take_of_length_le (by simp [sqs])]
theorem ofTo_lt (l : List Int) (k : Nat) (h : ∀ j, j < l.length → 0 ≤ l[j]?.getD 0 ∧ l[j]?.getD 0 < 64) : ofTo l k < 18446744073709551616 := by
  have := ofL_lt (l := (sqs l).take k) (n := 64) (by
    intro i hi
    have hi := List.mem_of_mem_take hi
    simp only [sqs, List.mem_map] at hi
    obtain ⟨x, hx, rfl⟩ := hi
    obtain ⟨j, hj, rfl⟩ := List.mem_iff_getElem.1 hx
    have := h j hj
    rw [List.getElem?_eq_getElem hj] at this
    simp at this
    omega)
  unfold ofTo
  simpa using this

set_option maxRecDepth 100000 in
set_option maxHeartbeats 1000000 in
theorem refOf_any (l : List Int) (A : Option Addr) (c : Nat) (w : World) (hlen : l.length ≤ 1000000) (hA : RdI w w.heap.size A l) (h : ∀ j, j < l.length → 0 ≤ l[j]?.getD 0 ∧ l[j]?.getD 0 < 64) :
    Calls Tryd.prog 13 #[.slice A l.length c] w fun e w' => e = .returned (.int .u64 (ofL (sqs l) : Int)) ∧ w' = w := by
  have H := Lib.hid h
  clear h
  go_enter Tryd.func13, Tryd.ntmps13
  go_wp2
  go_loop [3, 4] (fun v i => ∃ k : Nat, k ≤ l.length ∧ i = .int .i64 k ∧ v = .int .u64 (ofTo l k : Int)) (fun _ i => l.length - (intOf i).toNat)
  case atStart => exact ⟨0, by omega, rfl, rfl⟩
  case round =>
    obtain ⟨k, hk, rfl, rfl⟩ := hrel
    by_cases hlt : k < l.length
    · obtain ⟨ad, rfl, hb, hc⟩ := hA.at_ hlt
      have hX := ofTo_lt l k H.out
      obtain ⟨b0, b1⟩ := H.out k hlt
      have hs := ofTo_succ l k hlt
      have HS := Lib.hid hs
      clear hs hA
      generalize hn : l[k]?.getD 0 = n at *
      clear hn
      generalize hX' : ofTo l k = X at *
      clear hX'
      go_wp2_with fail
      refine (refHas_in X n hX b0 b1 _).mono ?_
      rintro e w1 ⟨rfl, rfl⟩
      cases hb : X.testBit n.toNat
      · have E := Lib.hid (add_wrap X n hX b1 hb)
        go_wp2
        go_round
        case rel => exact ⟨k + 1, by omega, by go_num, by rw [HS.out]; exact vint E.out⟩
        case measure => simp [intOf]; omega
      · have E := Lib.hid (or_bit hb)
        go_wp2
        go_round
        case rel => exact ⟨k + 1, by omega, by go_num, by rw [HS.out]; unfold bitN; rw [E.out]⟩
        case measure => simp [intOf]; omega
    · have hkl : k = l.length := by omega
      subst hkl
      go_wp2
      go_ret
      exact ⟨ret_int (by rw [ofTo_all]), rfl⟩

end Go.Proofs.YtjnbjegopddhgaaDoor

/- Pieces: the table of kinds as the program's text lays it, and contracts of the functions of package piece that make no memory. -/
namespace Go.Proofs.YtjnbjegopddhgaaDoor
open Go.RowKit

def ltr (i : Nat) : Nat := [80, 78, 66, 82, 81, 75, 65, 67, 68, 69, 70, 71, 72, 73, 74].getD i 0
def vlu (i : Nat) : Nat := [1, 3, 3, 5, 9, 0, 0, 0, 0, 0, 0, 0, 0, 0, 0].getD i 0
def knmL (i : Nat) : List UInt8 := ([[112, 97, 119, 110], [107, 110, 105, 103, 104, 116], [98, 105, 115, 104, 111, 112], [114, 111, 111, 107], [113, 117, 101, 101, 110], [107, 105, 110, 103],
  [102, 97, 105, 114, 121, 45, 97], [102, 97, 105, 114, 121, 45, 99], [102, 97, 105, 114, 121, 45, 100], [102, 97, 105, 114, 121, 45, 101], [102, 97, 105, 114, 121, 45, 102], [102, 97, 105, 114, 121, 45, 103], [102, 97, 105, 114, 121, 45, 104], [102, 97, 105, 114, 121, 45, 105], [102, 97, 105, 114, 121, 45, 106]] : List (List UInt8)).getD i []
def knm (i : Nat) : ByteArray := ⟨(knmL i).toArray⟩

theorem ltr_bd : ∀ i, i < 15 → 65 ≤ ltr i ∧ ltr i ≤ 90 := by decide +kernel
def okP (p : Int) : Prop := -15 ≤ p ∧ p ≤ 15

set_option maxRecDepth 100000 in
set_option maxHeartbeats 400000 in
theorem pValid_yes (p : Int) (h : okP p) (w : World) :
    Calls Tryd.prog 78 #[.int .i8 p] w fun e w' => e = .returned (.bool true) ∧ w = w' := by
  obtain ⟨h0, h1⟩ := h
  go_enter Tryd.func78, Tryd.ntmps78
  go_wp2
  go_ret
  exact ⟨rfl, rfl⟩

set_option maxRecDepth 100000 in
set_option maxHeartbeats 400000 in
theorem pValid_no (p : Int) (h : ¬ okP p) (w : World) :
    Calls Tryd.prog 78 #[.int .i8 p] w fun e w' => e = .returned (.bool false) ∧ w = w' := by
  by_cases h0 : -15 ≤ p
  · have hd : decide (p ≤ 15) = false := decide_eq_false fun h1 => h ⟨h0, h1⟩
    clear h
    go_enter Tryd.func78, Tryd.ntmps78
    go_wp2
    go_ret
    exact ⟨rfl, rfl⟩
  · have hd : decide (-15 ≤ p) = false := decide_eq_false h0
    clear h
    go_enter Tryd.func78, Tryd.ntmps78
    go_wp2
    go_ret
    exact ⟨rfl, rfl⟩

end Go.Proofs.YtjnbjegopddhgaaDoor

/- Pieces: contracts of the reference's functions that make no memory, and of Orthodox. -/
namespace Go.Proofs.YtjnbjegopddhgaaDoor
open Go.RowKit

theorem okP_pos {i : Nat} (h : i ≤ 15) : okP (i : Int) := ⟨by omega, by omega⟩
theorem okP_neg {i : Nat} (h : i ≤ 15) : okP (-(i : Int)) := ⟨by omega, by omega⟩

/-- is it a piece of one of the six usual kinds? -/
def orthB (p : Int) : Bool := p != 0 && decide (-6 ≤ p) && decide (p ≤ 6)
theorem orth_0 : orthB 0 = false := rfl
theorem orth_lo {p : Int} (h : p < -6) : orthB p = false := by unfold orthB; rw [decide_eq_false (by omega : ¬ -6 ≤ p)]; simp
theorem orth_hi {p : Int} (h : 6 < p) : orthB p = false := by unfold orthB; rw [decide_eq_false (by omega : ¬ p ≤ 6)]; simp
theorem orth_in {p : Int} (h : p ≠ 0) (h0 : -6 ≤ p) (h1 : p ≤ 6) : orthB p = true := by unfold orthB; simp [h, h0, h1]

set_option maxRecDepth 100000 in
set_option maxHeartbeats 400000 in
theorem rpValid_yes (p : Int) (h : okP p) (w : World) :
    Calls Tryd.prog 60 #[.int .i8 p] w fun e w' => e = .returned (.bool true) ∧ w = w' := by
  obtain ⟨h0, h1⟩ := h
  go_enter Tryd.func60, Tryd.ntmps60
  go_wp2
  go_ret
  exact ⟨rfl, rfl⟩

set_option maxRecDepth 100000 in
set_option maxHeartbeats 400000 in
theorem rpValid_no (p : Int) (h : ¬ okP p) (w : World) :
    Calls Tryd.prog 60 #[.int .i8 p] w fun e w' => e = .returned (.bool false) ∧ w = w' := by
  by_cases h0 : -15 ≤ p
  · have hd : decide (p ≤ 15) = false := decide_eq_false fun h1 => h ⟨h0, h1⟩
    clear h
    go_enter Tryd.func60, Tryd.ntmps60
    go_wp2
    go_ret
    exact ⟨rfl, rfl⟩
  · have hd : decide (-15 ≤ p) = false := decide_eq_false h0
    clear h
    go_enter Tryd.func60, Tryd.ntmps60
    go_wp2
    go_ret
    exact ⟨rfl, rfl⟩

set_option maxRecDepth 100000 in
set_option maxHeartbeats 400000 in
theorem orth_any (p : Int) (hp : -128 ≤ p ∧ p ≤ 127) (w : World) :
    Calls Tryd.prog 57 #[.int .i8 p] w fun e w' => e = .returned (.bool (orthB p)) ∧ w = w' := by
  by_cases h0 : p = 0
  · subst h0
    go_enter Tryd.func57, Tryd.ntmps57
    go_wp2
    go_ret
    exact ⟨rfl, rfl⟩
  · have hz : (p != 0) = true := bne_iff_ne.2 h0
    by_cases h1 : p < -6
    · rw [orth_lo h1]
      have hd : decide (-6 ≤ p) = false := decide_eq_false (by omega)
      go_enter Tryd.func57, Tryd.ntmps57
      go_wp2
      go_ret
      exact ⟨rfl, rfl⟩
    · by_cases h2 : 6 < p
      · rw [orth_hi h2]
        have h3 : -6 ≤ p := by omega
        have hd : decide (p ≤ 6) = false := decide_eq_false (by omega)
        go_enter Tryd.func57, Tryd.ntmps57
        go_wp2
        go_ret
        exact ⟨rfl, rfl⟩
      · have h3 : -6 ≤ p := by omega
        have h4 : p ≤ 6 := by omega
        rw [orth_in h0 h3 h4]
        go_enter Tryd.func57, Tryd.ntmps57
        go_wp2
        go_ret
        exact ⟨rfl, rfl⟩

set_option maxRecDepth 100000 in
set_option maxHeartbeats 400000 in
theorem rorth_any (p : Int) (hp : -128 ≤ p ∧ p ≤ 127) (w : World) :
    Calls Tryd.prog 35 #[.int .i8 p] w fun e w' => e = .returned (.bool (orthB p)) ∧ w = w' := by
  by_cases h0 : p = 0
  · subst h0
    go_enter Tryd.func35, Tryd.ntmps35
    go_wp2
    go_ret
    exact ⟨rfl, rfl⟩
  · have hz : (p != 0) = true := bne_iff_ne.2 h0
    by_cases h1 : p < -6
    · rw [orth_lo h1]
      have hd : decide (-6 ≤ p) = false := decide_eq_false (by omega)
      go_enter Tryd.func35, Tryd.ntmps35
      go_wp2
      go_ret
      exact ⟨rfl, rfl⟩
    · by_cases h2 : 6 < p
      · rw [orth_hi h2]
        have h3 : -6 ≤ p := by omega
        have hd : decide (p ≤ 6) = false := decide_eq_false (by omega)
        go_enter Tryd.func35, Tryd.ntmps35
        go_wp2
        go_ret
        exact ⟨rfl, rfl⟩
      · have h3 : -6 ≤ p := by omega
        have h4 : p ≤ 6 := by omega
        rw [orth_in h0 h3 h4]
        go_enter Tryd.func35, Tryd.ntmps35
        go_wp2
        go_ret
        exact ⟨rfl, rfl⟩

set_option maxRecDepth 100000 in
set_option maxHeartbeats 400000 in
theorem rKind_pos (i : Nat) (h1 : i ≤ 15) (w : World) :
    Calls Tryd.prog 62 #[.int .i8 (i : Int)] w fun e w' => e = .returned (.int .i8 (i : Int)) ∧ w = w' := by
  have hn : decide ((i : Int) < 0) = false := decide_eq_false (by omega)
  go_enter Tryd.func62, Tryd.ntmps62
  go_wp2
  go_ret
  exact ⟨rfl, rfl⟩

set_option maxRecDepth 100000 in
set_option maxHeartbeats 400000 in
theorem rKind_neg (i : Nat) (h0 : 1 ≤ i) (h1 : i ≤ 15) (w : World) :
    Calls Tryd.prog 62 #[.int .i8 (-(i : Int))] w fun e w' => e = .returned (.int .i8 (i : Int)) ∧ w = w' := by
  have hn : -(i : Int) < 0 := by omega
  go_enter Tryd.func62, Tryd.ntmps62
  go_wp2
  go_ret
  exact ⟨ret_int (by omega), rfl⟩

set_option maxRecDepth 100000 in
set_option maxHeartbeats 400000 in
theorem rSide_pos (i : Nat) (h0 : 1 ≤ i) (h1 : i ≤ 15) (w : World) :
    Calls Tryd.prog 61 #[.int .i8 (i : Int)] w fun e w' => e = .returned (.int .i64 1) ∧ w = w' := by
  have hn : decide ((i : Int) < 0) = false := decide_eq_false (by omega)
  have hp : (0 : Int) < (i : Int) := by omega
  go_enter Tryd.func61, Tryd.ntmps61
  go_wp2
  go_ret
  exact ⟨rfl, rfl⟩

set_option maxRecDepth 100000 in
set_option maxHeartbeats 400000 in
theorem rSide_neg (i : Nat) (h0 : 1 ≤ i) (h1 : i ≤ 15) (w : World) :
    Calls Tryd.prog 61 #[.int .i8 (-(i : Int))] w fun e w' => e = .returned (.int .i64 (-1)) ∧ w = w' := by
  have hn : -(i : Int) < 0 := by omega
  go_enter Tryd.func61, Tryd.ntmps61
  go_wp2
  go_ret
  exact ⟨rfl, rfl⟩

set_option maxRecDepth 100000 in
set_option maxHeartbeats 400000 in
theorem rSide_zero (w : World) :
    Calls Tryd.prog 61 #[.int .i8 0] w fun e w' => e = .returned (.int .i64 0) ∧ w = w' := by
  go_enter Tryd.func61, Tryd.ntmps61
  go_wp2
  go_ret
  exact ⟨rfl, rfl⟩

theorem vlu_hi : ∀ i, i < 15 → 5 ≤ i → vlu i = 0 := by decide +kernel

end Go.Proofs.YtjnbjegopddhgaaDoor

/- Boards: rows of pieces in memory; which boards are valid, by the document's own functions. -/
namespace Go.Proofs.YtjnbjegopddhgaaDoor
open Go.RowKit

/-- a slice value that reads, below block B, as the list l of pieces. -/
def RdP (w : World) (B : Nat) (A : Option Addr) (l : List Int) (c : Nat) : Prop :=
  (A = none → l.length = 0 ∧ c = 0) ∧ (0 < l.length → ∃ ad, A = some ad ∧ ad.block < B ∧ ∀ j u, l[j]? = some u → w.cell? (ad.add j) = some (.int .i8 u))
theorem RdP.at_ {w : World} {B : Nat} {A : Option Addr} {l : List Int} {c : Nat} (h : RdP w B A l c) {k : Nat} (hk : k < l.length) : ∃ ad, A = some ad ∧ ad.block < B ∧ w.cell? (ad.add k) = some (.int .i8 (l[k]?.getD 0)) := by
  obtain ⟨ad, e, hb, hc⟩ := h.2 (by omega)
  exact ⟨ad, e, hb, hc k _ (by rw [List.getElem?_eq_getElem hk]; rfl)⟩
theorem RdP.below {w w' : World} {B : Nat} {A : Option Addr} {l : List Int} {c : Nat} (h : RdP w B A l c) (hb : Below B w w') : RdP w' B A l c := ⟨h.1, fun hl => by
  obtain ⟨ad, e, h1, hc⟩ := h.2 hl
  exact ⟨ad, e, h1, fun j u hu => (hb.cell (by rw [blk_add]; exact h1)).trans (hc j u hu)⟩⟩
theorem RdP.grow {w : World} {B B' : Nat} {A : Option Addr} {l : List Int} {c : Nat} (h : RdP w B A l c) (hB : B ≤ B') : RdP w B' A l c := ⟨h.1, fun hl => by
  obtain ⟨ad, e, h1, hc⟩ := h.2 hl
  exact ⟨ad, e, by omega, hc⟩⟩

/-- a valid board. -/
def vbd (F R : Int) (l : List Int) : Prop := vsz F R ∧ (l.length : Int) = F * R ∧ ∀ j, j < l.length → okP (l[j]?.getD 0)

set_option maxRecDepth 100000 in
set_option maxHeartbeats 1000000 in
theorem rbValid_yes (F R : Int) (l : List Int) (A : Option Addr) (c : Nat) (h : vbd F R l) (w : World) (hA : RdP w w.heap.size A l c) :
    Calls Tryd.prog 34 #[.agg #[.int .i64 F, .int .i64 R, .slice A l.length c]] w fun e w' => e = .returned (.bool true) ∧ Below w.heap.size w w' := by
  obtain ⟨hv, hl, hp⟩ := h
  obtain ⟨m0, m1⟩ := vsz_mul hv
  have hne : ((l.length : Int) != F * R) = false := by simp [hl]
  have HL := Lib.hid hl
  have HP := Lib.hid hp
  have hlen : l.length ≤ 64 := by omega
  clear hl hp
  go_enter Tryd.func34, Tryd.ntmps34
  go_wp2_with fail
  refine (refSize_yes _ _ hv _).mono ?_
  rintro e w1 ⟨rfl, hb⟩
  have s1 := hb.size
  simp at s1
  have hc0 := hb.cell (p := ⟨w.heap.size, 0, none⟩) (by simp)
  have hc1 := hb.cell (p := ⟨w.heap.size, 1, none⟩) (by simp)
  have hc2 := hb.cell (p := ⟨w.heap.size, 2, none⟩) (by simp)
  simp [go_sem] at hc0 hc1 hc2
  have hB1 := after1 hb
  have A1 := hA.below hB1
  clear hA hb
  go_wp2
  go_loopw [3] (fun i wr => ∃ k : Nat, k ≤ l.length ∧ i = .int .i64 k ∧ Below w1.heap.size w1 wr) (fun i _ => l.length - (intOf i).toNat)
  case atStart => exact ⟨0, by omega, rfl, Below.refl _ _⟩
  case round =>
    obtain ⟨k, hk, rfl, hB⟩ := hrel
    have s2 := hB.size
    have d2 := (hB.cell (p := ⟨w.heap.size, 2, none⟩) (by simp; omega)).trans hc2
    by_cases hlt : k < l.length
    · obtain ⟨ad, rfl, hb, hc⟩ := (A1.below (hB.mono (by omega))).at_ hlt
      have hV := HP.out k hlt
      clear A1
      generalize hn : l[k]?.getD 0 = n at *
      clear hn
      go_wp2_with fail
      refine (rpValid_yes n hV _).mono ?_
      rintro e w2 ⟨rfl, rfl⟩
      go_wp2
      go_roundw
      case rel => exact ⟨k + 1, by omega, by go_num, hB⟩
      case measure => simp [intOf]; omega
    · have hkl : k = l.length := by omega
      subst hkl
      go_wp2
      go_ret
      exact ⟨rfl, chain hB1 hB⟩

theorem least {P : Nat → Prop} (n : Nat) : P n → ∃ m, m ≤ n ∧ P m ∧ ∀ j, j < m → ¬ P j := by
  induction n using Nat.strongRecOn with
  | ind n ih =>
    intro h
    by_cases hx : ∃ j, j < n ∧ P j
    · obtain ⟨j, hj, hp⟩ := hx
      obtain ⟨m, hm, h1, h2⟩ := ih j hj hp
      exact ⟨m, by omega, h1, h2⟩
    · exact ⟨n, Nat.le_refl _, h, fun j hj hp => hx ⟨j, hj, hp⟩⟩
/-- the first number of a list that is no piece. -/
theorem first_bad {l : List Int} (h : ¬ ∀ j, j < l.length → okP (l[j]?.getD 0)) : ∃ m, m < l.length ∧ ¬ okP (l[m]?.getD 0) ∧ ∀ j, j < m → okP (l[j]?.getD 0) := by
  have h' : ∃ m, m < l.length ∧ ¬ okP (l[m]?.getD 0) := by
    apply Classical.byContradiction
    intro hc
    exact h fun j hj => Classical.byContradiction fun hb => hc ⟨j, hj, hb⟩
  obtain ⟨n, hn⟩ := h'
  obtain ⟨m, hm, hp, hl⟩ := least (P := fun m => m < l.length ∧ ¬ okP (l[m]?.getD 0)) n hn
  exact ⟨m, hp.1, hp.2, fun j hj => Classical.byContradiction fun hb => hl j hj ⟨by omega, hb⟩⟩

set_option maxRecDepth 100000 in
set_option maxHeartbeats 1000000 in
theorem rbValid_no (F R : Int) (l : List Int) (A : Option Addr) (c : Nat) (h : ¬ vbd F R l) (w : World) (hlen : l.length ≤ 100000) (hA : RdP w w.heap.size A l c) :
    Calls Tryd.prog 34 #[.agg #[.int .i64 F, .int .i64 R, .slice A l.length c]] w fun e w' => e = .returned (.bool false) ∧ Below w.heap.size w w' := by
  by_cases hv : vsz F R
  · obtain ⟨m0, m1⟩ := vsz_mul hv
    by_cases hl : (l.length : Int) = F * R
    · obtain ⟨m, hm, hbad, hgood⟩ := first_bad (fun hp => h ⟨hv, hl, hp⟩)
      have hne : ((l.length : Int) != F * R) = false := by simp [hl]
      have HL := Lib.hid hl
      have HP := Lib.hid hgood
      have HB := Lib.hid hbad
      clear hl hgood hbad h
      go_enter Tryd.func34, Tryd.ntmps34
      go_wp2_with fail
      refine (refSize_yes _ _ hv _).mono ?_
      rintro e w1 ⟨rfl, hb⟩
      have s1 := hb.size
      simp at s1
      have hc0 := hb.cell (p := ⟨w.heap.size, 0, none⟩) (by simp)
      have hc1 := hb.cell (p := ⟨w.heap.size, 1, none⟩) (by simp)
      have hc2 := hb.cell (p := ⟨w.heap.size, 2, none⟩) (by simp)
      simp [go_sem] at hc0 hc1 hc2
      have hB1 := after1 hb
      have A1 := hA.below hB1
      clear hA hb
      go_wp2
      go_loopw [3] (fun i wr => ∃ k : Nat, k ≤ m ∧ i = .int .i64 k ∧ Below w1.heap.size w1 wr) (fun i _ => l.length - (intOf i).toNat)
      case atStart => exact ⟨0, by omega, rfl, Below.refl _ _⟩
      case round =>
        obtain ⟨k, hk, rfl, hB⟩ := hrel
        have s2 := hB.size
        have d2 := (hB.cell (p := ⟨w.heap.size, 2, none⟩) (by simp; omega)).trans hc2
        obtain ⟨ad, rfl, hb, hc⟩ := (A1.below (hB.mono (by omega))).at_ (show k < l.length by omega)
        by_cases hlt : k < m
        · have hV := HP.out k hlt
          clear A1
          generalize hn : l[k]?.getD 0 = n at *
          clear hn
          have hlt' : k < l.length := by omega
          go_wp2_with fail
          refine (rpValid_yes n hV _).mono ?_
          rintro e w2 ⟨rfl, rfl⟩
          go_wp2
          go_roundw
          case rel => exact ⟨k + 1, by omega, by go_num, hB⟩
          case measure => simp [intOf]; omega
        · have hkl : k = m := by omega
          subst hkl
          have hV := HB.out
          clear A1
          generalize hn : l[k]?.getD 0 = n at *
          clear hn
          go_wp2_with fail
          refine (rpValid_no n hV _).mono ?_
          rintro e w2 ⟨rfl, rfl⟩
          go_wp2
          go_ret
          exact ⟨rfl, chain hB1 hB⟩
    · have hne : ((l.length : Int) != F * R) = true := by simp [hl]
      clear h hl
      go_enter Tryd.func34, Tryd.ntmps34
      go_wp2_with fail
      refine (refSize_yes _ _ hv _).mono ?_
      rintro e w1 ⟨rfl, hb⟩
      have hc0 := hb.cell (p := ⟨w.heap.size, 0, none⟩) (by simp)
      have hc1 := hb.cell (p := ⟨w.heap.size, 1, none⟩) (by simp)
      have hc2 := hb.cell (p := ⟨w.heap.size, 2, none⟩) (by simp)
      simp [go_sem] at hc0 hc1 hc2
      go_wp2
      go_ret
      exact ⟨rfl, after1 hb⟩
  · clear h
    go_enter Tryd.func34, Tryd.ntmps34
    go_wp2_with fail
    refine (refSize_no _ _ hv _).mono ?_
    rintro e w1 ⟨rfl, hb⟩
    go_wp2
    go_ret
    exact ⟨rfl, after1 hb⟩

end Go.Proofs.YtjnbjegopddhgaaDoor

/- Boards: which are the same, by the document's own function. -/
namespace Go.Proofs.YtjnbjegopddhgaaDoor
open Go.RowKit

theorem first_diff {l l' : List Int} (hl : l.length = l'.length) (h : l ≠ l') : ∃ m, m < l.length ∧ l[m]?.getD 0 ≠ l'[m]?.getD 0 ∧ ∀ j, j < m → l[j]?.getD 0 = l'[j]?.getD 0 := by
  have h' : ∃ m, m < l.length ∧ l[m]?.getD 0 ≠ l'[m]?.getD 0 := by
    apply Classical.byContradiction
    intro hc
    apply h
    apply List.ext_getElem hl
    intro j h1 h2
    have : l[j]?.getD 0 = l'[j]?.getD 0 := Classical.byContradiction fun hb => hc ⟨j, h1, hb⟩
    rw [List.getElem?_eq_getElem h1, List.getElem?_eq_getElem h2] at this
    exact this
  obtain ⟨n, hn⟩ := h'
  obtain ⟨m, hm, hp, hq⟩ := least (P := fun m => m < l.length ∧ l[m]?.getD 0 ≠ l'[m]?.getD 0) n hn
  exact ⟨m, hp.1, hp.2, fun j hj => Classical.byContradiction fun hb => hq j hj ⟨by omega, hb⟩⟩

end Go.Proofs.YtjnbjegopddhgaaDoor
