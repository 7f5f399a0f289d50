/- Texts of boards: what the program's calls of SplitN, Reverse and Join give. -/
import Derived.Test.YtpcfgeggjfbfjaaDoorBpE
import Derived.Deep.Upon
namespace Go.Proofs.YtpcfgeggjfbfjaaDoor
open Go.RowKit

/-- a row of strings in block b. -/
def RdSt (w : World) (b : Nat) (xs : List ByteArray) : Prop := ∀ j x, xs[j]? = some x → w.cell? ⟨b, j, none⟩ = some (.string x)
theorem RdSt.below {w w' : World} {B b : Nat} {xs : List ByteArray} (h : RdSt w b xs) (hb : Below B w w') (hB : b < B) : RdSt w' b xs := fun j x hx => (hb.cell (p := ⟨b, j, none⟩) hB).trans (h j x hx)
theorem RdSt.at_ {w : World} {b : Nat} {xs : List ByteArray} (h : RdSt w b xs) {k : Nat} (hk : k < xs.length) : w.cell? ⟨b, k, none⟩ = some (.string (xs[k]?.getD ByteArray.empty)) := by
  rw [List.getElem?_eq_getElem hk]
  exact h k _ (List.getElem?_eq_getElem hk)

theorem sep_eq : (⟨#[47]⟩ : ByteArray).data.toList = [47] := rfl

set_option maxRecDepth 100000 in
theorem genSplit_any (s : ByteArray) (hs : s.size ≤ 1000) (w : World) :
    Calls Tryd.prog 52 #[.string s, .string ⟨#[47]⟩, .int .i64 0, .int .i64 9] w fun e w' =>
      e = .returned (.slice (some ⟨w.heap.size, 0, none⟩) (Lib.splitB ⟨#[47]⟩ 0 (min 9 (s.size + 1) - 1) s).length (min 9 (s.size + 1))) ∧ w' = w.alloc (.cells (Lib.cellsOf (Lib.splitB ⟨#[47]⟩ 0 (min 9 (s.size + 1) - 1) s) (min 9 (s.size + 1))) 9) :=
  Any.strings_genSplit_core Tryd.lays221 (by kernel_rfl) s ⟨#[47]⟩ 0 9 (min 9 (s.size + 1)) w (by omega) (by decide) (by decide)
    (fun x c _ => by
      refine (Tryd.strings_Index_one x 47 _).mono ?_
      rintro e w' ⟨rfl, rfl⟩
      refine ⟨?_, rfl⟩
      unfold Lib.indexB
      rw [sep_eq, Lib.index_one])
    (by
      refine (Tryd.strings_Count_one s 47 w).mono ?_
      rintro e w' ⟨rfl, rfl⟩
      refine ⟨?_, rfl⟩
      unfold Lib.countB
      rw [sep_eq, Lib.count_one]
      rfl)
    (by decide) (by decide) (by rw [if_neg (by decide)]; omega)

set_option maxRecDepth 100000 in
set_option maxHeartbeats 1000000 in
theorem splitN_any (s : ByteArray) (hs : s.size ≤ 1000) (w : World) :
    Calls Tryd.prog 39 #[.string s, .string ⟨#[47]⟩, .int .i64 9] w fun e w' =>
      ∃ (xs : List ByteArray) (c : Nat), e = .returned (.slice (some ⟨w.heap.size, 0, none⟩) xs.length c) ∧ xs.length ≤ c ∧ xs.map (·.data.toList) = parts9 s.data.toList ∧ RdSt w' w.heap.size xs ∧ (∀ j, w'.frozen? ⟨w.heap.size, j, none⟩ = false) ∧ w'.heap.size = w.heap.size + 1 ∧ Below w.heap.size w w' := by
  go_enter Tryd.func39, Tryd.ntmps39
  go_wp2_with fail
  refine (genSplit_any s hs _).mono ?_
  rintro e w' ⟨rfl, hw⟩
  have hd := Lib.splitB_data ⟨#[47]⟩ 0 (min 9 (s.size + 1) - 1) s
  have hll := Lib.splitB_length_le ⟨#[47]⟩ 0 (min 9 (s.size + 1) - 1) s
  have hsz : s.data.toList.length = s.size := by rw [Array.length_toList]; rfl
  have hp : (Lib.splitB ⟨#[47]⟩ 0 (min 9 (s.size + 1) - 1) s).map (·.data.toList) = parts9 s.data.toList := by
    rw [hd]
    unfold parts9 cut47
    rw [hsz]
  have hp := Lib.hid hp
  clear hd hsz
  generalize Lib.splitB ⟨#[47]⟩ 0 (min 9 (s.size + 1) - 1) s = xs at *
  generalize hN : min 9 (s.size + 1) = N at *
  have HW := Lib.hid hw
  clear hw
  go_wp2
  go_ret
  have hxN : xs.length ≤ N := by omega
  refine ⟨xs, N, rfl, hxN, hp.out, ?_, ?_, ?_, ?_⟩
  · intro j x hx
    have hj := (List.getElem?_eq_some_iff.1 hx).1
    rw [HW.out]
    simp [go_sem, Lib.cellsOf, List.getElem?_append, hj]
    exact Option.some.inj ((List.getElem?_eq_getElem hj).symm.trans hx)
  · intro j
    rw [HW.out]
    simp [go_sem]
  · rw [HW.out]
    simp
  · rw [HW.out]
    exact box1 _ _

theorem below_cells {B b : Nat} {a : World} (hb : B ≤ b) : ∀ (vs : List Value) (o : Nat) (w : World), Below B a w → Below B a (w.setCells b o vs)
  | [], _, _, h => h
  | v :: vs, o, _, h => below_cells hb vs (o + 1) _ (h.setCell (p := ⟨b, o, none⟩) hb v)

theorem join_eq (ts : List (List UInt8)) : Lib.join ts [47] = jn ts := by
  cases ts with
  | nil => rfl
  | cons t ts =>
    rw [Lib.join_cons]
    show t ++ Lib.joinTail [47] ts = t ++ ts.flatMap (fun u => 47 :: u)
    rw [List.flatMap_def]
    rfl

set_option maxRecDepth 100000 in
theorem join_any (b c : Nat) (xs : List ByteArray) (w : World) (hb : b < w.heap.size) (hlen : xs.length ≤ 100000) (hcap : xs.length ≤ c) (hc : RdSt w b xs) (hj : (jn (xs.map (·.data.toList))).length ≤ 100000) :
    Calls Tryd.prog 38 #[.slice (some ⟨b, 0, none⟩) xs.length c, .string ⟨#[47]⟩] w fun e w' => e = .returned (.string (bsL (jn (xs.map (·.data.toList))))) ∧ Below w.heap.size w w' := by
  refine (Tryd.strings_Join b 0 c xs ⟨#[47]⟩ w (fun j x hx => by rw [Nat.zero_add]; exact hc j x hx) hb (by omega) hcap (by rw [sep_eq, join_eq]; omega)).mono ?_
  rintro e w' ⟨rfl, h⟩
  refine ⟨?_, h⟩
  rw [sep_eq, join_eq]
  rfl

end Go.Proofs.YtpcfgeggjfbfjaaDoor
