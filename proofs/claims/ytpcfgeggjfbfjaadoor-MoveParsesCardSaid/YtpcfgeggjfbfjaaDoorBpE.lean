/- Texts of boards: a text is cut at its slashes into at most nine parts; the parts in the other order; parts joined. -/
import Derived.Test.YtpcfgeggjfbfjaaDoorShelf
import Derived.Test.YtpcfgeggjfbfjaaDoorBdI
import Derived.Test.YtpcfgeggjfbfjaaDoorBpC
namespace Go.Proofs.YtpcfgeggjfbfjaaDoor
open Go.RowKit

theorem idx47_none {s : List UInt8} (h : Lib.indexByte s 47 = -1) : clean s := fun c hc e => by
  obtain ⟨k, hk, rfl⟩ := List.mem_iff_getElem.1 hc
  exact Lib.indexByte_none h k (by rw [List.getElem?_eq_getElem hk, e])
theorem idx47_some {s : List UInt8} {o : Nat} (h : Lib.indexByte s 47 = o) : s = s.take o ++ 47 :: s.drop (o + 1) ∧ clean (s.take o) ∧ o < s.length := by
  obtain ⟨h1, h2⟩ := Lib.indexByte_some h
  have ho : o < s.length := (List.getElem?_eq_some_iff.1 h1).1
  refine ⟨?_, fun c hc e => ?_, ho⟩
  · rw [List.getElem?_eq_getElem ho] at h1
    have e : s[o] = 47 := Option.some.inj h1
    rw [← e, ← List.drop_eq_getElem_cons ho, List.take_append_drop]
  · obtain ⟨k, hk, rfl⟩ := List.mem_iff_getElem.1 hc
    rw [List.length_take] at hk
    rw [List.getElem_take] at e
    exact h2 k (by omega) (by rw [List.getElem?_eq_getElem (by omega), e])
theorem jn_cons (t : List UInt8) {ts : List (List UInt8)} (h : ts ≠ []) : jn (t :: ts) = t ++ 47 :: jn ts := by
  cases ts with
  | nil => exact absurd rfl h
  | cons u us => simp [jn]

/-- at most k cuts, from the left. -/
def cut47 (k : Nat) (s : List UInt8) : List (List UInt8) := Lib.splitK [47] 0 k s
theorem cut47_inv : ∀ (k : Nat) (s : List UInt8), cut47 k s ≠ [] ∧ jn (cut47 k s) = s ∧ (cut47 k s).length ≤ k + 1 ∧ ((cut47 k s).length = k + 1 ∨ ∀ t ∈ cut47 k s, clean t) ∧ (s.length ≤ k → ∀ t ∈ cut47 k s, clean t)
  | 0, s => by
    refine ⟨by simp [cut47, Lib.splitK], by simp [cut47, Lib.splitK, jn], by simp [cut47, Lib.splitK], .inl (by simp [cut47, Lib.splitK]), fun h t ht => ?_⟩
    have : s = [] := List.eq_nil_of_length_eq_zero (by omega)
    subst this
    simp [cut47, Lib.splitK] at ht
    subst ht
    intro c hc
    simp at hc
  | k + 1, s => by
    unfold cut47 Lib.splitK
    rw [Lib.index_one]
    by_cases h : Lib.indexByte s 47 = -1
    · rw [if_pos (beq_iff_eq.2 h)]
      have hc : ∀ t ∈ [s], clean t := fun t ht => by
        rw [List.mem_singleton] at ht
        subst ht
        exact idx47_none h
      exact ⟨by simp, by simp [jn], by simp, .inr hc, fun _ => hc⟩
    · have hge := Lib.indexByte_ge s 47
      obtain ⟨o, ho⟩ : ∃ o : Nat, Lib.indexByte s 47 = o := ⟨(Lib.indexByte s 47).toNat, by omega⟩
      obtain ⟨e, hcl, hlt⟩ := idx47_some ho
      rw [if_neg (by rw [ho]; simp), ho, Int.toNat_natCast, Nat.add_zero, show o + ([47] : List UInt8).length = o + 1 from rfl]
      obtain ⟨q0, q1, q2, q3, q4⟩ := cut47_inv k (s.drop (o + 1))
      unfold cut47 at q0 q1 q2 q3 q4
      refine ⟨by simp, ?_, by simpa using q2, ?_, fun hk => ?_⟩
      · rw [jn_cons _ q0, q1]
        exact e.symm
      · rcases q3 with q3 | q3
        · exact .inl (by simp [q3])
        · refine .inr fun t ht => ?_
          rcases List.mem_cons.1 ht with rfl | ht
          · exact hcl
          · exact q3 t ht
      · intro t ht
        rcases List.mem_cons.1 ht with rfl | ht
        · exact hcl
        · exact q4 (by rw [List.length_drop]; omega) t ht

theorem spl_count (L : List UInt8) : (spl L).length = L.count 47 + 1 := by
  have h : ∀ (L : List UInt8) (st : List (List UInt8)), (L.foldl spS st).length = st.length + L.count 47 := by
    intro L
    induction L with
    | nil => intro st; simp
    | cons c L ih =>
      intro st
      rw [List.foldl_cons, ih]
      unfold spS
      by_cases hc : c = 47
      · subst hc; simp; omega
      · rw [if_neg hc, List.length_set, List.count_cons]; simp [hc]
  unfold spl spT
  rw [List.take_length, h]
  simp; omega
theorem jn_count : ∀ {ts : List (List UInt8)}, ts ≠ [] → ts.length ≤ (jn ts).count 47 + 1
  | [], h => absurd rfl h
  | [t], _ => by simp
  | t :: u :: us, _ => by
    have ih := jn_count (ts := u :: us) (by simp)
    rw [jn_cons t (by simp), List.count_append, List.count_cons]
    simp only [List.length_cons] at ih ⊢
    simp
    omega
/-- the parts that the program looks at. -/
def parts9 (L : List UInt8) : List (List UInt8) := cut47 (min 9 (L.length + 1) - 1) L
theorem parts9_or (L : List UInt8) : (parts9 L = spl L ∨ ((parts9 L).length = 9 ∧ 9 ≤ (spl L).length)) ∧ 1 ≤ (parts9 L).length ∧ (parts9 L).length ≤ 9 := by
  obtain ⟨q0, q1, q2, q3, q4⟩ := cut47_inv (min 9 (L.length + 1) - 1) L
  have hne : 1 ≤ (parts9 L).length := by
    unfold parts9
    cases h : cut47 (min 9 (L.length + 1) - 1) L with
    | nil => exact absurd h q0
    | cons => simp
  refine ⟨?_, hne, by unfold parts9; omega⟩
  have hcl : (∀ t ∈ parts9 L, clean t) → parts9 L = spl L := fun hc => by
    have := jn_spl q0 hc
    rw [q1] at this
    exact this.symm
  by_cases hL : L.length ≤ 8
  · exact .inl (hcl (q4 (by omega)))
  · rcases q3 with q3 | q3
    · have h9 : (parts9 L).length = 9 := by unfold parts9; rw [q3]; omega
      refine .inr ⟨h9, ?_⟩
      have := jn_count q0
      rw [q1] at this
      rw [spl_count]
      unfold parts9 at h9
      omega
    · exact .inl (hcl q3)
theorem parts9_none {L : List UInt8} (h : 9 ≤ (spl L).length) : parseB L = none := by
  unfold parseB
  rw [if_pos (.inr (by omega))]
theorem parts9_each (L : List UInt8) : ∀ t ∈ parts9 L, t.length ≤ L.length := by
  intro t ht
  have h : ∀ ts : List (List UInt8), ∀ t ∈ ts, t.length ≤ (jn ts).length := by
    intro ts
    cases ts with
    | nil => intro t ht; simp at ht
    | cons u us =>
      intro t ht
      simp only [jn, List.length_append]
      rcases List.mem_cons.1 ht with rfl | ht
      · omega
      · have h2 : ∀ (us : List (List UInt8)), t ∈ us → t.length ≤ (us.flatMap fun u => 47 :: u).length := by
          intro us
          induction us with
          | nil => intro h; simp at h
          | cons x xs ih =>
            intro h
            rw [List.flatMap_cons, List.length_append, List.length_cons]
            rcases List.mem_cons.1 h with rfl | h
            · omega
            · have := ih h; omega
        have := h2 us ht
        omega
  have e := (cut47_inv (min 9 (L.length + 1) - 1) L).2.1
  have := h _ t ht
  unfold parts9 at this
  rwa [e] at this

end Go.Proofs.YtpcfgeggjfbfjaaDoor
