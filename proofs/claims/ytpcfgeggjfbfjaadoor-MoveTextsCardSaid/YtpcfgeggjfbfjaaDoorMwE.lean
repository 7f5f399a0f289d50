/- Moves, by the program: a text is cut at its spaces; words are joined by spaces. -/
import Derived.Test.YtpcfgeggjfbfjaaDoorBpF
import Derived.Test.YtpcfgeggjfbfjaaDoorMvL
namespace Go.Proofs.YtpcfgeggjfbfjaaDoor
open Go.RowKit

theorem sepW : (⟨#[32]⟩ : ByteArray).data.toList = [32] := rfl

/-- the words that the program looks at. -/
def wordsP (L : List UInt8) : List (List UInt8) := cut32 (min 1001 (L.length + 1) - 1) L
theorem wordsP_or (L : List UInt8) : ((wordsP L).length ≤ 1000 → wordsP L = wds L) ∧ (1000 < (wordsP L).length → 1000 < (wds L).length) ∧ 1 ≤ (wordsP L).length := by
  obtain ⟨q0, q1, q2, q3, q4⟩ := cut32_inv (min 1001 (L.length + 1) - 1) L
  have hcl : (∀ t ∈ wordsP L, cleanW t) → wordsP L = wds L := fun hc => by
    have := jw_spl q0 hc
    rw [q1] at this
    exact this.symm
  refine ⟨fun h => ?_, fun h => ?_, ?_⟩
  · by_cases hL : L.length ≤ 1000
    · exact hcl (q4 (by omega))
    · rcases q3 with q3 | q3
      · unfold wordsP at h
        omega
      · exact hcl q3
  · have := jw_count q0
    rw [q1] at this
    rw [wds_count]
    unfold wordsP at h
    omega
  · unfold wordsP
    cases h : cut32 (min 1001 (L.length + 1) - 1) L with
    | nil => exact absurd h q0
    | cons => simp
theorem wordsP_each (L : List UInt8) : ∀ t ∈ wordsP L, t.length ≤ L.length := by
  intro t ht
  have h : ∀ ts : List (List UInt8), ∀ t ∈ ts, t.length ≤ (jw ts).length := by
    intro ts
    cases ts with
    | nil => intro t ht; simp at ht
    | cons u us =>
      intro t ht
      simp only [jw, List.length_append]
      rcases List.mem_cons.1 ht with rfl | ht
      · omega
      · have h2 : ∀ (us : List (List UInt8)), t ∈ us → t.length ≤ (us.flatMap fun u => 32 :: u).length := by
          intro us
          induction us with
          | nil => intro h; simp at h
          | cons x xs ih =>
            intro h
            rw [List.flatMap_cons, List.length_append, List.length_cons]
            rcases List.mem_cons.1 h with rfl | h
            · omega
            · have := ih h; omega
        have := h2 us ht
        omega
  have e := (cut32_inv (min 1001 (L.length + 1) - 1) L).2.1
  have := h _ t ht
  unfold wordsP at this
  rwa [e] at this

set_option maxRecDepth 100000 in
theorem genSplitW (s : ByteArray) (hs : s.size ≤ 10000) (w : World) :
    Calls Tryd.prog 52 #[.string s, .string ⟨#[32]⟩, .int .i64 0, .int .i64 1001] w fun e w' =>
      e = .returned (.slice (some ⟨w.heap.size, 0, none⟩) (Lib.splitB ⟨#[32]⟩ 0 (min 1001 (s.size + 1) - 1) s).length (min 1001 (s.size + 1))) ∧ w' = w.alloc (.cells (Lib.cellsOf (Lib.splitB ⟨#[32]⟩ 0 (min 1001 (s.size + 1) - 1) s) (min 1001 (s.size + 1))) 9) :=
  Any.strings_genSplit_core Tryd.lays221 (by kernel_rfl) s ⟨#[32]⟩ 0 1001 (min 1001 (s.size + 1)) w (by omega) (by decide) (by decide)
    (fun x c _ => by
      refine (Tryd.strings_Index_one x 32 _).mono ?_
      rintro e w' ⟨rfl, rfl⟩
      refine ⟨?_, rfl⟩
      unfold Lib.indexB
      rw [sepW, Lib.index_one])
    (by
      refine (Tryd.strings_Count_one s 32 w).mono ?_
      rintro e w' ⟨rfl, rfl⟩
      refine ⟨?_, rfl⟩
      unfold Lib.countB
      rw [sepW, Lib.count_one]
      rfl)
    (by decide) (by decide) (by rw [if_neg (by decide)]; omega)

set_option maxRecDepth 100000 in
set_option maxHeartbeats 2000000 in
theorem splitW_any (s : ByteArray) (hs : s.size ≤ 10000) (w : World) :
    Calls Tryd.prog 39 #[.string s, .string ⟨#[32]⟩, .int .i64 1001] w fun e w' =>
      ∃ (xs : List ByteArray) (c : Nat), e = .returned (.slice (some ⟨w.heap.size, 0, none⟩) xs.length c) ∧ xs.length ≤ c ∧ xs.map (·.data.toList) = wordsP s.data.toList ∧ RdSt w' w.heap.size xs ∧ w'.heap.size = w.heap.size + 1 ∧ Below w.heap.size w w' := by
  go_enter Tryd.func39, Tryd.ntmps39
  go_wp2_with fail
  refine (genSplitW s hs _).mono ?_
  rintro e w' ⟨rfl, hw⟩
  have hd := Lib.splitB_data ⟨#[32]⟩ 0 (min 1001 (s.size + 1) - 1) s
  have hll := Lib.splitB_length_le ⟨#[32]⟩ 0 (min 1001 (s.size + 1) - 1) s
  have hsz : s.data.toList.length = s.size := by rw [Array.length_toList]; rfl
  have hp : (Lib.splitB ⟨#[32]⟩ 0 (min 1001 (s.size + 1) - 1) s).map (·.data.toList) = wordsP s.data.toList := by
    rw [hd]
    unfold wordsP cut32
    rw [hsz]
  have hp := Lib.hid hp
  clear hd hsz
  generalize Lib.splitB ⟨#[32]⟩ 0 (min 1001 (s.size + 1) - 1) s = xs at *
  generalize hN : min 1001 (s.size + 1) = N at *
  have HW := Lib.hid hw
  clear hw
  go_wp2
  go_ret
  have hxN : xs.length ≤ N := by omega
  refine ⟨xs, N, rfl, hxN, hp.out, ?_, ?_, ?_⟩
  · intro j x hx
    have hj := (List.getElem?_eq_some_iff.1 hx).1
    rw [HW.out]
    simp [go_sem, Lib.cellsOf, List.getElem?_append, hj]
    exact Option.some.inj ((List.getElem?_eq_getElem hj).symm.trans hx)
  · rw [HW.out]
    simp
  · rw [HW.out]
    exact box1 _ _

theorem joinW_eq (ts : List (List UInt8)) : Lib.join ts [32] = jw ts := by
  cases ts with
  | nil => rfl
  | cons t ts =>
    rw [Lib.join_cons]
    show t ++ Lib.joinTail [32] ts = t ++ ts.flatMap (fun u => 32 :: u)
    rw [List.flatMap_def]
    rfl

set_option maxRecDepth 100000 in
theorem joinW_any (b c : Nat) (xs : List ByteArray) (w : World) (hb : b < w.heap.size) (hlen : xs.length ≤ 100000) (hcap : xs.length ≤ c) (hc : RdSt w b xs) (hj : (jw (xs.map (·.data.toList))).length ≤ 100000) :
    Calls Tryd.prog 38 #[.slice (some ⟨b, 0, none⟩) xs.length c, .string ⟨#[32]⟩] w fun e w' => e = .returned (.string (bsL (jw (xs.map (·.data.toList))))) ∧ Below w.heap.size w w' := by
  refine (Tryd.strings_Join b 0 c xs ⟨#[32]⟩ w (fun j x hx => by rw [Nat.zero_add]; exact hc j x hx) hb (by omega) hcap (by rw [sepW, joinW_eq]; omega)).mono ?_
  rintro e w' ⟨rfl, h⟩
  refine ⟨?_, h⟩
  rw [sepW, joinW_eq]
  rfl
theorem joinW_none (A : Option Addr) (c : Nat) (w : World) :
    Calls Tryd.prog 38 #[.slice A 0 c, .string ⟨#[32]⟩] w fun e w' => e = .returned (.string ⟨#[]⟩) ∧ Below w.heap.size w w' := by
  refine (Tryd.strings_Join_none A c ⟨#[32]⟩ w).mono ?_
  rintro e w' ⟨rfl, rfl⟩
  exact ⟨rfl, Below.refl _ _⟩

end Go.Proofs.YtpcfgeggjfbfjaaDoor
