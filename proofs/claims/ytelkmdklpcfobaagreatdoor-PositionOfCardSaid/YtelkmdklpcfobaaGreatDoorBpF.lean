/- Texts of boards: a text is cut at its slashes into at most nine parts; the parts in the other order; parts joined. -/
import Derived.Test.YtelkmdklpcfobaaGreatDoorShelf
import Derived.Test.YtelkmdklpcfobaaGreatDoorPoW
import Derived.Test.YtelkmdklpcfobaaGreatDoorBpC
import Derived.Deep.Upon

namespace Go.Proofs.YtelkmdklpcfobaaGreatDoor
open Go.RowKit

theorem idx47_none {s : List UInt8} (h : Lib.indexByte s 47 = -1) : clean s := fun c hc e => by
  obtain ⟨k, hk, rfl⟩ := List.mem_iff_getElem.1 hc
  exact Lib.indexByte_none h k (by rw [List.getElem?_eq_getElem hk, e])
theorem idx47_some {s : List UInt8} {o : Nat} (h : Lib.indexByte s 47 = o) : s = s.take o ++ 47 :: s.drop (o + 1) ∧ clean (s.take o) ∧ o < s.length := by
  obtain ⟨h1, h2⟩ := Lib.indexByte_some h
  have ho : o < s.length := (List.getElem?_eq_some_iff.1 h1).1
  refine ⟨?_, fun c hc e => ?_, ho⟩
  · rw [List.getElem?_eq_getElem ho] at h1
    have e : s[o] = 47 := Option.some.inj h1
    rw [← e, ← List.drop_eq_getElem_cons ho, List.take_append_drop]
  · obtain ⟨k, hk, rfl⟩ := List.mem_iff_getElem.1 hc
    rw [List.length_take] at hk
    rw [List.getElem_take] at e
    exact h2 k (by omega) (by rw [List.getElem?_eq_getElem (by omega), e])
theorem jn_cons (t : List UInt8) {ts : List (List UInt8)} (h : ts ≠ []) : jn (t :: ts) = t ++ 47 :: jn ts := by
  cases ts with
  | nil => exact absurd rfl h
  | cons u us => simp [jn]

/-- at most k cuts, from the left. -/
def cut47 (k : Nat) (s : List UInt8) : List (List UInt8) := Lib.splitK [47] 0 k s
theorem cut47_inv : ∀ (k : Nat) (s : List UInt8), cut47 k s ≠ [] ∧ jn (cut47 k s) = s ∧ (cut47 k s).length ≤ k + 1 ∧ ((cut47 k s).length = k + 1 ∨ ∀ t ∈ cut47 k s, clean t) ∧ (s.length ≤ k → ∀ t ∈ cut47 k s, clean t)
  | 0, s => by
    refine ⟨by simp [cut47, Lib.splitK], by simp [cut47, Lib.splitK, jn], by simp [cut47, Lib.splitK], .inl (by simp [cut47, Lib.splitK]), fun h t ht => ?_⟩
    have : s = [] := List.eq_nil_of_length_eq_zero (by omega)
    subst this
    simp [cut47, Lib.splitK] at ht
    subst ht
    intro c hc
    simp at hc
  | k + 1, s => by
    unfold cut47 Lib.splitK
    rw [Lib.index_one]
    by_cases h : Lib.indexByte s 47 = -1
    · rw [if_pos (beq_iff_eq.2 h)]
      have hc : ∀ t ∈ [s], clean t := fun t ht => by
        rw [List.mem_singleton] at ht
        subst ht
        exact idx47_none h
      exact ⟨by simp, by simp [jn], by simp, .inr hc, fun _ => hc⟩
    · have hge := Lib.indexByte_ge s 47
      obtain ⟨o, ho⟩ : ∃ o : Nat, Lib.indexByte s 47 = o := ⟨(Lib.indexByte s 47).toNat, by omega⟩
      obtain ⟨e, hcl, hlt⟩ := idx47_some ho
      rw [if_neg (by rw [ho]; simp), ho, Int.toNat_natCast, Nat.add_zero, show o + ([47] : List UInt8).length = o + 1 from rfl]
      obtain ⟨q0, q1, q2, q3, q4⟩ := cut47_inv k (s.drop (o + 1))
      unfold cut47 at q0 q1 q2 q3 q4
      refine ⟨by simp, ?_, by simpa using q2, ?_, fun hk => ?_⟩
      · rw [jn_cons _ q0, q1]
        exact e.symm
      · rcases q3 with q3 | q3
        · exact .inl (by simp [q3])
        · refine .inr fun t ht => ?_
          rcases List.mem_cons.1 ht with rfl | ht
          · exact hcl
          · exact q3 t ht
      · intro t ht
        rcases List.mem_cons.1 ht with rfl | ht
        · exact hcl
        · exact q4 (by rw [List.length_drop]; omega) t ht

theorem spl_count (L : List UInt8) : (spl L).length = L.count 47 + 1 := by
  have h : ∀ (L : List UInt8) (st : List (List UInt8)), (L.foldl spS st).length = st.length + L.count 47 := by
    intro L
    induction L with
    | nil => intro st; simp
    | cons c L ih =>
      intro st
      rw [List.foldl_cons, ih]
      unfold spS
      by_cases hc : c = 47
      · subst hc; simp; omega
      · rw [if_neg hc, List.length_set, List.count_cons]; simp [hc]
  unfold spl spT
  rw [List.take_length, h]
  simp; omega
theorem jn_count : ∀ {ts : List (List UInt8)}, ts ≠ [] → ts.length ≤ (jn ts).count 47 + 1
  | [], h => absurd rfl h
  | [t], _ => by simp
  | t :: u :: us, _ => by
    have ih := jn_count (ts := u :: us) (by simp)
    rw [jn_cons t (by simp), List.count_append, List.count_cons]
    simp only [List.length_cons] at ih ⊢
    simp
    omega
/-- the parts that the program looks at. -/
def parts9 (L : List UInt8) : List (List UInt8) := cut47 (min 9 (L.length + 1) - 1) L
theorem parts9_or (L : List UInt8) : (parts9 L = spl L ∨ ((parts9 L).length = 9 ∧ 9 ≤ (spl L).length)) ∧ 1 ≤ (parts9 L).length ∧ (parts9 L).length ≤ 9 := by
  obtain ⟨q0, q1, q2, q3, q4⟩ := cut47_inv (min 9 (L.length + 1) - 1) L
  have hne : 1 ≤ (parts9 L).length := by
    unfold parts9
    cases h : cut47 (min 9 (L.length + 1) - 1) L with
    | nil => exact absurd h q0
    | cons => simp
  refine ⟨?_, hne, by unfold parts9; omega⟩
  have hcl : (∀ t ∈ parts9 L, clean t) → parts9 L = spl L := fun hc => by
    have := jn_spl q0 hc
    rw [q1] at this
    exact this.symm
  by_cases hL : L.length ≤ 8
  · exact .inl (hcl (q4 (by omega)))
  · rcases q3 with q3 | q3
    · have h9 : (parts9 L).length = 9 := by unfold parts9; rw [q3]; omega
      refine .inr ⟨h9, ?_⟩
      have := jn_count q0
      rw [q1] at this
      rw [spl_count]
      unfold parts9 at h9
      omega
    · exact .inl (hcl q3)
theorem parts9_none {L : List UInt8} (h : 9 ≤ (spl L).length) : parseB L = none := by
  unfold parseB
  rw [if_pos (.inr (by omega))]
theorem parts9_each (L : List UInt8) : ∀ t ∈ parts9 L, t.length ≤ L.length := by
  intro t ht
  have h : ∀ ts : List (List UInt8), ∀ t ∈ ts, t.length ≤ (jn ts).length := by
    intro ts
    cases ts with
    | nil => intro t ht; simp at ht
    | cons u us =>
      intro t ht
      simp only [jn, List.length_append]
      rcases List.mem_cons.1 ht with rfl | ht
      · omega
      · have h2 : ∀ (us : List (List UInt8)), t ∈ us → t.length ≤ (us.flatMap fun u => 47 :: u).length := by
          intro us
          induction us with
          | nil => intro h; simp at h
          | cons x xs ih =>
            intro h
            rw [List.flatMap_cons, List.length_append, List.length_cons]
            rcases List.mem_cons.1 h with rfl | h
            · omega
            · have := ih h; omega
        have := h2 us ht
        omega
  have e := (cut47_inv (min 9 (L.length + 1) - 1) L).2.1
  have := h _ t ht
  unfold parts9 at this
  rwa [e] at this

end Go.Proofs.YtelkmdklpcfobaaGreatDoor

/- Texts of boards: what the program's calls of SplitN, Reverse and Join give. -/
namespace Go.Proofs.YtelkmdklpcfobaaGreatDoor
open Go.RowKit

/-- a row of strings in block b. -/
def RdSt (w : World) (b : Nat) (xs : List ByteArray) : Prop := ∀ j x, xs[j]? = some x → w.cell? ⟨b, j, none⟩ = some (.string x)
theorem RdSt.below {w w' : World} {B b : Nat} {xs : List ByteArray} (h : RdSt w b xs) (hb : Below B w w') (hB : b < B) : RdSt w' b xs := fun j x hx => (hb.cell (p := ⟨b, j, none⟩) hB).trans (h j x hx)
theorem RdSt.at_ {w : World} {b : Nat} {xs : List ByteArray} (h : RdSt w b xs) {k : Nat} (hk : k < xs.length) : w.cell? ⟨b, k, none⟩ = some (.string (xs[k]?.getD ByteArray.empty)) := by
  rw [List.getElem?_eq_getElem hk]
  exact h k _ (List.getElem?_eq_getElem hk)

theorem sep_eq : (⟨#[47]⟩ : ByteArray).data.toList = [47] := rfl

set_option maxRecDepth 100000 in
theorem genSplit_any (s : ByteArray) (hs : s.size ≤ 1000) (w : World) :
    Calls Tryz.prog 95 #[.string s, .string ⟨#[47]⟩, .int .i64 0, .int .i64 9] w fun e w' =>
      e = .returned (.slice (some ⟨w.heap.size, 0, none⟩) (Lib.splitB ⟨#[47]⟩ 0 (min 9 (s.size + 1) - 1) s).length (min 9 (s.size + 1))) ∧ w' = w.alloc (.cells (Lib.cellsOf (Lib.splitB ⟨#[47]⟩ 0 (min 9 (s.size + 1) - 1) s) (min 9 (s.size + 1))) 9) :=
  Any.strings_genSplit_core Tryz.lays221 (by kernel_rfl) s ⟨#[47]⟩ 0 9 (min 9 (s.size + 1)) w (by omega) (by decide) (by decide)
    (fun x c _ => by
      refine (Tryz.strings_Index_one x 47 _).mono ?_
      rintro e w' ⟨rfl, rfl⟩
      refine ⟨?_, rfl⟩
      unfold Lib.indexB
      rw [sep_eq, Lib.index_one])
    (by
      refine (Tryz.strings_Count_one s 47 w).mono ?_
      rintro e w' ⟨rfl, rfl⟩
      refine ⟨?_, rfl⟩
      unfold Lib.countB
      rw [sep_eq, Lib.count_one]
      rfl)
    (by decide) (by decide) (by rw [if_neg (by decide)]; omega)

set_option maxRecDepth 100000 in
set_option maxHeartbeats 1000000 in
theorem splitN_any (s : ByteArray) (hs : s.size ≤ 1000) (w : World) :
    Calls Tryz.prog 62 #[.string s, .string ⟨#[47]⟩, .int .i64 9] w fun e w' =>
      ∃ (xs : List ByteArray) (c : Nat), e = .returned (.slice (some ⟨w.heap.size, 0, none⟩) xs.length c) ∧ xs.length ≤ c ∧ xs.map (·.data.toList) = parts9 s.data.toList ∧ RdSt w' w.heap.size xs ∧ (∀ j, w'.frozen? ⟨w.heap.size, j, none⟩ = false) ∧ w'.heap.size = w.heap.size + 1 ∧ Below w.heap.size w w' := by
  go_enter Tryz.func62, Tryz.ntmps62
  go_wp2_with fail
  refine (genSplit_any s hs _).mono ?_
  rintro e w' ⟨rfl, hw⟩
  have hd := Lib.splitB_data ⟨#[47]⟩ 0 (min 9 (s.size + 1) - 1) s
  have hll := Lib.splitB_length_le ⟨#[47]⟩ 0 (min 9 (s.size + 1) - 1) s
  have hsz : s.data.toList.length = s.size := by rw [Array.length_toList]; rfl
  have hp : (Lib.splitB ⟨#[47]⟩ 0 (min 9 (s.size + 1) - 1) s).map (·.data.toList) = parts9 s.data.toList := by
    rw [hd]
    unfold parts9 cut47
    rw [hsz]
  have hp := Lib.hid hp
  clear hd hsz
  generalize Lib.splitB ⟨#[47]⟩ 0 (min 9 (s.size + 1) - 1) s = xs at *
  generalize hN : min 9 (s.size + 1) = N at *
  have HW := Lib.hid hw
  clear hw
  go_wp2
  go_ret
  have hxN : xs.length ≤ N := by omega
  refine ⟨xs, N, rfl, hxN, hp.out, ?_, ?_, ?_, ?_⟩
  · intro j x hx
    have hj := (List.getElem?_eq_some_iff.1 hx).1
    rw [HW.out]
    simp [go_sem, Lib.cellsOf, List.getElem?_append, hj]
    exact Option.some.inj ((List.getElem?_eq_getElem hj).symm.trans hx)
  · intro j
    rw [HW.out]
    simp [go_sem]
  · rw [HW.out]
    simp
  · rw [HW.out]
    exact box1 _ _

theorem below_cells {B b : Nat} {a : World} (hb : B ≤ b) : ∀ (vs : List Value) (o : Nat) (w : World), Below B a w → Below B a (w.setCells b o vs)
  | [], _, _, h => h
  | v :: vs, o, _, h => below_cells hb vs (o + 1) _ (h.setCell (p := ⟨b, o, none⟩) hb v)

set_option maxRecDepth 100000 in
theorem reverse_any (b c B : Nat) (xs : List ByteArray) (w : World) (hB : B ≤ b) (hlen : xs.length ≤ 100000) (hc : RdSt w b xs) (hf : ∀ j, w.frozen? ⟨b, j, none⟩ = false) :
    Calls Tryz.prog 90 #[.slice (some ⟨b, 0, none⟩) xs.length c] w fun e w' => e = .returned (.tuple #[]) ∧ RdSt w' b xs.reverse ∧ Below B w w' ∧ (∀ k, k < w.heap.size → k ≠ b → w'.heap[k]? = w.heap[k]?) := by
  have h := Tryz.slices_Reverse_string_cells b 0 xs.length c (fun i => xs[i]?.getD ByteArray.empty) w (by omega) (fun i hi => by rw [Nat.zero_add]; exact hc.at_ hi) (fun j _ => by rw [Nat.zero_add]; exact hf j)
  refine h.mono ?_
  rintro e w' ⟨rfl, q, rfl⟩
  have hl : ((Lib.strsOf (fun i => xs[i]?.getD ByteArray.empty) xs.length).reverse.map Go.Proofs.encStr).length = xs.length := by simp [Lib.strsOf]
  refine ⟨rfl, ?_, below_cells hB _ _ _ ⟨rfl, rfl, rfl, Nat.le_refl _, fun _ _ => rfl⟩, fun k hk hne => World.heap_setCells_other (w.drewN q) b 0 _ hk hne⟩
  intro j x hx
  have hj : j < xs.length := by have := (List.getElem?_eq_some_iff.1 hx).1; simpa using this
  have hin := World.cell?_setCells_in b ((Lib.strsOf (fun i => xs[i]?.getD ByteArray.empty) xs.length).reverse.map Go.Proofs.encStr) 0 (w.drewN q) (fun k hk => by
    rw [hl] at hk
    rw [Nat.zero_add]
    have : (w.drewN q).cell? ⟨b, k, none⟩ = w.cell? ⟨b, k, none⟩ := rfl
    rw [this, hc.at_ hk]
    rfl) j (by rw [hl]; exact hj)
  rw [Nat.zero_add] at hin
  rw [hin]
  congr 1
  rw [List.getElem_map, List.getElem_reverse]
  simp only [Lib.strsOf, List.getElem_map, List.getElem_range, List.length_map, List.length_range]
  rw [List.getElem?_reverse (by omega)] at hx
  rw [hx]
  rfl

theorem join_eq (ts : List (List UInt8)) : Lib.join ts [47] = jn ts := by
  cases ts with
  | nil => rfl
  | cons t ts =>
    rw [Lib.join_cons]
    show t ++ Lib.joinTail [47] ts = t ++ ts.flatMap (fun u => 47 :: u)
    rw [List.flatMap_def]
    rfl

set_option maxRecDepth 100000 in
theorem join_any (b c : Nat) (xs : List ByteArray) (w : World) (hb : b < w.heap.size) (hlen : xs.length ≤ 100000) (hcap : xs.length ≤ c) (hc : RdSt w b xs) (hj : (jn (xs.map (·.data.toList))).length ≤ 100000) :
    Calls Tryz.prog 91 #[.slice (some ⟨b, 0, none⟩) xs.length c, .string ⟨#[47]⟩] w fun e w' => e = .returned (.string (bsL (jn (xs.map (·.data.toList))))) ∧ Below w.heap.size w w' := by
  refine (Tryz.strings_Join b 0 c xs ⟨#[47]⟩ w (fun j x hx => by rw [Nat.zero_add]; exact hc j x hx) hb (by omega) hcap (by rw [sep_eq, join_eq]; omega)).mono ?_
  rintro e w' ⟨rfl, h⟩
  refine ⟨?_, h⟩
  rw [sep_eq, join_eq]
  rfl

end Go.Proofs.YtelkmdklpcfobaaGreatDoor
