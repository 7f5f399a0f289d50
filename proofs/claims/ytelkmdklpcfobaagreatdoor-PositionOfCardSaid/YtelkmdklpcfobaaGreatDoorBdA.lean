/- The reference's list of the squares of a set, and the set of a list. -/
import Derived.Test.YtelkmdklpcfobaaGreatDoorPcA
import Derived.Test.YtelkmdklpcfobaaGreatDoorBdG

namespace Go.Proofs.YtelkmdklpcfobaaGreatDoor
open Go.RowKit

theorem ints3 : (Tryz.prog.info? 3).map (fun i => (i.zero, i.size, i.bytes)) = some (some (.int .i64 0), 1, 8) := by kernel_rfl

/-- the squares of a set among the first k. -/
def listTo (X k : Nat) : List Nat := (List.range k).filter (fun i => X.testBit i)
theorem listTo_yes (X k : Nat) (h : X.testBit k = true) : listTo X (k + 1) = listTo X k ++ [k] := by
  unfold listTo; rw [List.range_succ, List.filter_append]; simp [h]
theorem listTo_no (X k : Nat) (h : X.testBit k = false) : listTo X (k + 1) = listTo X k := by
  unfold listTo; rw [List.range_succ, List.filter_append]; simp [h]
theorem listTo_le (X k : Nat) : (listTo X k).length ≤ k := by
  unfold listTo
  have := List.length_filter_le (fun i => X.testBit i) (List.range k)
  simpa using this
theorem listTo_64 (X : Nat) : listTo X 64 = listOf X := rfl
def vnat (i : Nat) : Value := .int .i64 (i : Int)
def vnats (l : List Nat) : List Value := l.map vnat
theorem vnats_snoc (l : List Nat) (i : Nat) : vnats (l ++ [i]) = vnats l ++ [.int .i64 (i : Int)] := by simp [vnats, vnat]
theorem vnats_len (l : List Nat) : (vnats l).length = l.length := by simp [vnats]

end Go.Proofs.YtelkmdklpcfobaaGreatDoor

/- The set of a list of squares: the reference's and the program's; lists of squares. -/
namespace Go.Proofs.YtelkmdklpcfobaaGreatDoor
open Go.RowKit

/-- a slice value that reads, below block B, as the list l of int64s. -/
def RdI (w : World) (B : Nat) (A : Option Addr) (l : List Int) : Prop :=
  0 < l.length → ∃ ad, A = some ad ∧ ad.block < B ∧ ∀ j u, l[j]? = some u → w.cell? (ad.add j) = some (.int .i64 u)
theorem RdI.at_ {w : World} {B : Nat} {A : Option Addr} {l : List Int} (h : RdI w B A l) {k : Nat} (hk : k < l.length) : ∃ ad, A = some ad ∧ ad.block < B ∧ w.cell? (ad.add k) = some (.int .i64 (l[k]?.getD 0)) := by
  obtain ⟨ad, e, hb, hc⟩ := h (by omega)
  exact ⟨ad, e, hb, hc k _ (by rw [List.getElem?_eq_getElem hk]; rfl)⟩
theorem blk_add (a : Addr) (n : Nat) : (a.add n).block = a.block := by unfold Addr.add; split <;> rfl
theorem RdI.below {w w' : World} {B : Nat} {A : Option Addr} {l : List Int} (h : RdI w B A l) (hb : Below B w w') : RdI w' B A l := fun hl => by
  obtain ⟨ad, e, h1, hc⟩ := h hl
  exact ⟨ad, e, h1, fun j u hu => (hb.cell (by rw [blk_add]; exact h1)).trans (hc j u hu)⟩
theorem RdI.own {w : World} {B e : Nat} {v : Value} {l : List Nat} (h : w.ownsRow B e 1 v l.length (vnats l)) : ∃ A c, v = .slice A l.length c ∧ RdI w w.heap.size A (l.map fun i : Nat => (i : Int)) := by
  obtain ⟨hl, ⟨rfl, h0⟩ | ⟨g, cap, cur, rfl, hg, hh, hn, hc, hs, ht⟩⟩ := h
  · exact ⟨none, 0, by rw [h0], fun hh => by simp at hh; omega⟩
  · refine ⟨some ⟨g, 0, none⟩, cap, rfl, fun _ => ⟨_, rfl, (Array.getElem?_eq_some_iff.1 hh).1, fun j u hu => ?_⟩⟩
    have hcell := World.ownsRow.cells (w := w) (base := B) (e := e) (size := 1) (v := .slice (some ⟨g, 0, none⟩) l.length cap) (n := l.length) (xs := vnats l) ⟨hl, .inr ⟨g, cap, cur, rfl, hg, hh, hn, hc, hs, ht⟩⟩ (g := g) rfl j (.int .i64 u)
    apply hcell
    rw [List.getElem?_map] at hu
    simp only [vnats, List.getElem?_map]
    cases hj : l[j]? with
    | none => rw [hj] at hu; simp at hu
    | some x => rw [hj] at hu; simp at hu; subst hu; rfl

theorem own_below {w w' : World} {base : Nat} {e : TypeId} {size : Nat} {v : Value} {n : Nat} {xs : List Value} (h : w.ownsRow base e size v n xs) (hb : Below w.heap.size w w') : w'.ownsRow base e size v n xs := by
  obtain ⟨hl, h0 | ⟨g, cap, cur, rfl, hg, hh, hr⟩⟩ := h
  · exact ⟨hl, .inl h0⟩
  · exact ⟨hl, .inr ⟨g, cap, cur, rfl, hg, (hb.block g (Array.getElem?_eq_some_iff.1 hh).1).trans hh, hr⟩⟩

theorem add_wrap (X : Nat) (n : Int) (hX : X < 18446744073709551616) (h1 : n < 64) (hb : X.testBit n.toNat = false) :
    IntKind.u64.wrap ((X : Int) + IntKind.u64.wrap ((2 : Int) ^ n.toNat)) = ((X ||| bitN n.toNat : Nat) : Int) := by
  have e := add_bit hb
  have l := or_lt X n.toNat hX (by omega)
  rw [pow_wrap n h1, IntKind.wrap_u64]
  unfold bitN at *
  omega

def sqs (l : List Int) : List Nat := l.map Int.toNat
/-- the set of the first k. -/
def ofTo (l : List Int) (k : Nat) : Nat := ofL ((sqs l).take k)
theorem ofTo_zero (l : List Int) : ofTo l 0 = 0 := rfl
theorem ofTo_succ (l : List Int) (k : Nat) (h : k < l.length) : ofTo l (k + 1) = ofTo l k ||| bitN (l[k]?.getD 0).toNat := by
  unfold ofTo
  have h' : k < (sqs l).length := by simpa [sqs] using h
  rw [List.take_succ_eq_append_getElem h', ofL_snoc]
  congr 2
  simp [sqs, List.getElem?_eq_getElem h]
theorem ofTo_all (l : List Int) : ofTo l l.length = ofL (sqs l) := by
  unfold ofTo; rw [List.take_of_length_le (by simp [sqs])]
theorem ofTo_lt (l : List Int) (k : Nat) (h : ∀ j, j < l.length → 0 ≤ l[j]?.getD 0 ∧ l[j]?.getD 0 < 64) : ofTo l k < 18446744073709551616 := by
  have := ofL_lt (l := (sqs l).take k) (n := 64) (by
    intro i hi
    have hi := List.mem_of_mem_take hi
    simp only [sqs, List.mem_map] at hi
    obtain ⟨x, hx, rfl⟩ := hi
    obtain ⟨j, hj, rfl⟩ := List.mem_iff_getElem.1 hx
    have := h j hj
    rw [List.getElem?_eq_getElem hj] at this
    simp at this
    omega)
  unfold ofTo
  simpa using this

set_option maxRecDepth 100000 in
set_option maxHeartbeats 1000000 in
theorem refOf_any (l : List Int) (A : Option Addr) (c : Nat) (w : World) (hlen : l.length ≤ 1000000) (hA : RdI w w.heap.size A l) (h : ∀ j, j < l.length → 0 ≤ l[j]?.getD 0 ∧ l[j]?.getD 0 < 64) :
    Calls Tryz.prog 146 #[.slice A l.length c] w fun e w' => e = .returned (.int .u64 (ofL (sqs l) : Int)) ∧ w' = w := by
  have H := Lib.hid h
  clear h
  go_enter Tryz.func146, Tryz.ntmps146
  go_wp2
  go_loop [3, 4] (fun v i => ∃ k : Nat, k ≤ l.length ∧ i = .int .i64 k ∧ v = .int .u64 (ofTo l k : Int)) (fun _ i => l.length - (intOf i).toNat)
  case atStart => exact ⟨0, by omega, rfl, rfl⟩
  case round =>
    obtain ⟨k, hk, rfl, rfl⟩ := hrel
    by_cases hlt : k < l.length
    · obtain ⟨ad, rfl, hb, hc⟩ := hA.at_ hlt
      have hX := ofTo_lt l k H.out
      obtain ⟨b0, b1⟩ := H.out k hlt
      have hs := ofTo_succ l k hlt
      have HS := Lib.hid hs
      clear hs hA
      generalize hn : l[k]?.getD 0 = n at *
      clear hn
      generalize hX' : ofTo l k = X at *
      clear hX'
      go_wp2_with fail
      refine (refHas_in X n hX b0 b1 _).mono ?_
      rintro e w1 ⟨rfl, rfl⟩
      cases hb : X.testBit n.toNat
      · have E := Lib.hid (add_wrap X n hX b1 hb)
        go_wp2
        go_round
        case rel => exact ⟨k + 1, by omega, by go_num, by rw [HS.out]; exact vint E.out⟩
        case measure => simp [intOf]; omega
      · have E := Lib.hid (or_bit hb)
        go_wp2
        go_round
        case rel => exact ⟨k + 1, by omega, by go_num, by rw [HS.out]; unfold bitN; rw [E.out]⟩
        case measure => simp [intOf]; omega
    · have hkl : k = l.length := by omega
      subst hkl
      go_wp2
      go_ret
      exact ⟨ret_int (by rw [ofTo_all]), rfl⟩

end Go.Proofs.YtelkmdklpcfobaaGreatDoor

/- Boards: rows of pieces in memory; which boards are valid, by the document's own functions. -/
namespace Go.Proofs.YtelkmdklpcfobaaGreatDoor
open Go.RowKit

/-- a slice value that reads, below block B, as the list l of pieces. -/
def RdP (w : World) (B : Nat) (A : Option Addr) (l : List Int) (c : Nat) : Prop :=
  (A = none → l.length = 0 ∧ c = 0) ∧ (0 < l.length → ∃ ad, A = some ad ∧ ad.block < B ∧ ∀ j u, l[j]? = some u → w.cell? (ad.add j) = some (.int .i8 u))
theorem RdP.at_ {w : World} {B : Nat} {A : Option Addr} {l : List Int} {c : Nat} (h : RdP w B A l c) {k : Nat} (hk : k < l.length) : ∃ ad, A = some ad ∧ ad.block < B ∧ w.cell? (ad.add k) = some (.int .i8 (l[k]?.getD 0)) := by
  obtain ⟨ad, e, hb, hc⟩ := h.2 (by omega)
  exact ⟨ad, e, hb, hc k _ (by rw [List.getElem?_eq_getElem hk]; rfl)⟩
theorem RdP.below {w w' : World} {B : Nat} {A : Option Addr} {l : List Int} {c : Nat} (h : RdP w B A l c) (hb : Below B w w') : RdP w' B A l c := ⟨h.1, fun hl => by
  obtain ⟨ad, e, h1, hc⟩ := h.2 hl
  exact ⟨ad, e, h1, fun j u hu => (hb.cell (by rw [blk_add]; exact h1)).trans (hc j u hu)⟩⟩
theorem RdP.grow {w : World} {B B' : Nat} {A : Option Addr} {l : List Int} {c : Nat} (h : RdP w B A l c) (hB : B ≤ B') : RdP w B' A l c := ⟨h.1, fun hl => by
  obtain ⟨ad, e, h1, hc⟩ := h.2 hl
  exact ⟨ad, e, by omega, hc⟩⟩

/-- a valid board. -/
def vbd (F R : Int) (l : List Int) : Prop := vsz F R ∧ (l.length : Int) = F * R ∧ ∀ j, j < l.length → okP (l[j]?.getD 0)

set_option maxRecDepth 100000 in
set_option maxHeartbeats 1000000 in
theorem rbValid_yes (F R : Int) (l : List Int) (A : Option Addr) (c : Nat) (h : vbd F R l) (w : World) (hA : RdP w w.heap.size A l c) :
    Calls Tryz.prog 76 #[.agg #[.int .i64 F, .int .i64 R, .slice A l.length c]] w fun e w' => e = .returned (.bool true) ∧ Below w.heap.size w w' := by
  obtain ⟨hv, hl, hp⟩ := h
  obtain ⟨m0, m1⟩ := vsz_mul hv
  have hne : ((l.length : Int) != F * R) = false := by simp [hl]
  have HL := Lib.hid hl
  have HP := Lib.hid hp
  have hlen : l.length ≤ 64 := by omega
  clear hl hp
  go_enter Tryz.func76, Tryz.ntmps76
  go_wp2_with fail
  refine (refSize_yes _ _ hv _).mono ?_
  rintro e w1 ⟨rfl, hb⟩
  have s1 := hb.size
  simp at s1
  have hc0 := hb.cell (p := ⟨w.heap.size, 0, none⟩) (by simp)
  have hc1 := hb.cell (p := ⟨w.heap.size, 1, none⟩) (by simp)
  have hc2 := hb.cell (p := ⟨w.heap.size, 2, none⟩) (by simp)
  simp [go_sem] at hc0 hc1 hc2
  have hB1 := after1 hb
  have A1 := hA.below hB1
  clear hA hb
  go_wp2
  go_loopw [3] (fun i wr => ∃ k : Nat, k ≤ l.length ∧ i = .int .i64 k ∧ Below w1.heap.size w1 wr) (fun i _ => l.length - (intOf i).toNat)
  case atStart => exact ⟨0, by omega, rfl, Below.refl _ _⟩
  case round =>
    obtain ⟨k, hk, rfl, hB⟩ := hrel
    have s2 := hB.size
    have d2 := (hB.cell (p := ⟨w.heap.size, 2, none⟩) (by simp; omega)).trans hc2
    by_cases hlt : k < l.length
    · obtain ⟨ad, rfl, hb, hc⟩ := (A1.below (hB.mono (by omega))).at_ hlt
      have hV := HP.out k hlt
      clear A1
      generalize hn : l[k]?.getD 0 = n at *
      clear hn
      go_wp2_with fail
      refine (rpValid_yes n hV _).mono ?_
      rintro e w2 ⟨rfl, rfl⟩
      go_wp2
      go_roundw
      case rel => exact ⟨k + 1, by omega, by go_num, hB⟩
      case measure => simp [intOf]; omega
    · have hkl : k = l.length := by omega
      subst hkl
      go_wp2
      go_ret
      exact ⟨rfl, chain hB1 hB⟩

theorem least {P : Nat → Prop} (n : Nat) : P n → ∃ m, m ≤ n ∧ P m ∧ ∀ j, j < m → ¬ P j := by
  induction n using Nat.strongRecOn with
  | ind n ih =>
    intro h
    by_cases hx : ∃ j, j < n ∧ P j
    · obtain ⟨j, hj, hp⟩ := hx
      obtain ⟨m, hm, h1, h2⟩ := ih j hj hp
      exact ⟨m, by omega, h1, h2⟩
    · exact ⟨n, Nat.le_refl _, h, fun j hj hp => hx ⟨j, hj, hp⟩⟩
/-- the first number of a list that is no piece. -/
theorem first_bad {l : List Int} (h : ¬ ∀ j, j < l.length → okP (l[j]?.getD 0)) : ∃ m, m < l.length ∧ ¬ okP (l[m]?.getD 0) ∧ ∀ j, j < m → okP (l[j]?.getD 0) := by
  have h' : ∃ m, m < l.length ∧ ¬ okP (l[m]?.getD 0) := by
    apply Classical.byContradiction
    intro hc
    exact h fun j hj => Classical.byContradiction fun hb => hc ⟨j, hj, hb⟩
  obtain ⟨n, hn⟩ := h'
  obtain ⟨m, hm, hp, hl⟩ := least (P := fun m => m < l.length ∧ ¬ okP (l[m]?.getD 0)) n hn
  exact ⟨m, hp.1, hp.2, fun j hj => Classical.byContradiction fun hb => hl j hj ⟨by omega, hb⟩⟩

set_option maxRecDepth 100000 in
set_option maxHeartbeats 1000000 in
theorem rbValid_no (F R : Int) (l : List Int) (A : Option Addr) (c : Nat) (h : ¬ vbd F R l) (w : World) (hlen : l.length ≤ 100000) (hA : RdP w w.heap.size A l c) :
    Calls Tryz.prog 76 #[.agg #[.int .i64 F, .int .i64 R, .slice A l.length c]] w fun e w' => e = .returned (.bool false) ∧ Below w.heap.size w w' := by
  by_cases hv : vsz F R
  · obtain ⟨m0, m1⟩ := vsz_mul hv
    by_cases hl : (l.length : Int) = F * R
    · obtain ⟨m, hm, hbad, hgood⟩ := first_bad (fun hp => h ⟨hv, hl, hp⟩)
      have hne : ((l.length : Int) != F * R) = false := by simp [hl]
      have HL := Lib.hid hl
      have HP := Lib.hid hgood
      have HB := Lib.hid hbad
      clear hl hgood hbad h
      go_enter Tryz.func76, Tryz.ntmps76
      go_wp2_with fail
      refine (refSize_yes _ _ hv _).mono ?_
      rintro e w1 ⟨rfl, hb⟩
      have s1 := hb.size
      simp at s1
      have hc0 := hb.cell (p := ⟨w.heap.size, 0, none⟩) (by simp)
      have hc1 := hb.cell (p := ⟨w.heap.size, 1, none⟩) (by simp)
      have hc2 := hb.cell (p := ⟨w.heap.size, 2, none⟩) (by simp)
      simp [go_sem] at hc0 hc1 hc2
      have hB1 := after1 hb
      have A1 := hA.below hB1
      clear hA hb
      go_wp2
      go_loopw [3] (fun i wr => ∃ k : Nat, k ≤ m ∧ i = .int .i64 k ∧ Below w1.heap.size w1 wr) (fun i _ => l.length - (intOf i).toNat)
      case atStart => exact ⟨0, by omega, rfl, Below.refl _ _⟩
      case round =>
        obtain ⟨k, hk, rfl, hB⟩ := hrel
        have s2 := hB.size
        have d2 := (hB.cell (p := ⟨w.heap.size, 2, none⟩) (by simp; omega)).trans hc2
        obtain ⟨ad, rfl, hb, hc⟩ := (A1.below (hB.mono (by omega))).at_ (show k < l.length by omega)
        by_cases hlt : k < m
        · have hV := HP.out k hlt
          clear A1
          generalize hn : l[k]?.getD 0 = n at *
          clear hn
          have hlt' : k < l.length := by omega
          go_wp2_with fail
          refine (rpValid_yes n hV _).mono ?_
          rintro e w2 ⟨rfl, rfl⟩
          go_wp2
          go_roundw
          case rel => exact ⟨k + 1, by omega, by go_num, hB⟩
          case measure => simp [intOf]; omega
        · have hkl : k = m := by omega
          subst hkl
          have hV := HB.out
          clear A1
          generalize hn : l[k]?.getD 0 = n at *
          clear hn
          go_wp2_with fail
          refine (rpValid_no n hV _).mono ?_
          rintro e w2 ⟨rfl, rfl⟩
          go_wp2
          go_ret
          exact ⟨rfl, chain hB1 hB⟩
    · have hne : ((l.length : Int) != F * R) = true := by simp [hl]
      clear h hl
      go_enter Tryz.func76, Tryz.ntmps76
      go_wp2_with fail
      refine (refSize_yes _ _ hv _).mono ?_
      rintro e w1 ⟨rfl, hb⟩
      have hc0 := hb.cell (p := ⟨w.heap.size, 0, none⟩) (by simp)
      have hc1 := hb.cell (p := ⟨w.heap.size, 1, none⟩) (by simp)
      have hc2 := hb.cell (p := ⟨w.heap.size, 2, none⟩) (by simp)
      simp [go_sem] at hc0 hc1 hc2
      go_wp2
      go_ret
      exact ⟨rfl, after1 hb⟩
  · clear h
    go_enter Tryz.func76, Tryz.ntmps76
    go_wp2_with fail
    refine (refSize_no _ _ hv _).mono ?_
    rintro e w1 ⟨rfl, hb⟩
    go_wp2
    go_ret
    exact ⟨rfl, after1 hb⟩

end Go.Proofs.YtelkmdklpcfobaaGreatDoor
