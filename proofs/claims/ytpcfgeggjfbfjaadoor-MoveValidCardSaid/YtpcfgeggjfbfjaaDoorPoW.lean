/- Positions: a text is cut at its spaces; words joined by spaces. -/
import Derived.Test.YtpcfgeggjfbfjaaDoorBdI
import Derived.Shelf.Strings.Split
namespace Go.Proofs.YtpcfgeggjfbfjaaDoor
open Go.RowKit

/-- the words of a text so far, and one byte more. -/
def wdS (st : List (List UInt8)) (c : UInt8) : List (List UInt8) := if c = 32 then st ++ [[]] else st.set (st.length - 1) (st[st.length - 1]?.getD [] ++ [c])
def wdT (L : List UInt8) (k : Nat) : List (List UInt8) := (L.take k).foldl wdS [[]]
def wds (L : List UInt8) : List (List UInt8) := wdT L L.length
theorem wdT_succ (L : List UInt8) (k : Nat) (h : k < L.length) : wdT L (k + 1) = wdS (wdT L k) (L[k]) := by
  unfold wdT
  rw [List.take_succ_eq_append_getElem h, List.foldl_append]
  rfl
theorem wdS_len (st : List (List UInt8)) (c : UInt8) : st.length ≤ (wdS st c).length ∧ (wdS st c).length ≤ st.length + 1 := by
  unfold wdS; split <;> simp
theorem wdT_len (L : List UInt8) (k : Nat) (h : k ≤ L.length) : 1 ≤ (wdT L k).length ∧ (wdT L k).length ≤ k + 1 := by
  induction k with
  | zero => simp [wdT]
  | succ k ih =>
    have := ih (by omega)
    rw [wdT_succ L k (by omega)]
    have := wdS_len (wdT L k) L[k]
    omega
theorem wdT_each (L : List UInt8) (k : Nat) (h : k ≤ L.length) : ∀ t ∈ wdT L k, t.length ≤ k := by
  induction k with
  | zero => intro t ht; simp [wdT] at ht; subst ht; simp
  | succ k ih =>
    have := ih (by omega)
    rw [wdT_succ L k (by omega)]
    unfold wdS
    split
    · intro t ht
      rw [List.mem_append, List.mem_singleton] at ht
      rcases ht with ht | rfl
      · have := this t ht; omega
      · simp
    · intro t ht
      rcases List.mem_or_eq_of_mem_set ht with ht | rfl
      · have := this t ht; omega
      · rw [List.length_append]
        have h1 := (wdT_len L k (by omega)).1
        rw [List.getElem?_eq_getElem (show (wdT L k).length - 1 < (wdT L k).length by omega)]
        have := this _ (List.getElem_mem (show (wdT L k).length - 1 < (wdT L k).length by omega))
        simp; omega
def jw : List (List UInt8) → List UInt8
  | [] => []
  | t :: ts => t ++ ts.flatMap (fun u => 32 :: u)
theorem jw_snoc {ts : List (List UInt8)} (h : ts ≠ []) (u : List UInt8) : jw (ts ++ [u]) = jw ts ++ [32] ++ u := by
  cases ts with
  | nil => exact absurd rfl h
  | cons t ts => simp [jw]
theorem jw_one (u : List UInt8) : jw [u] = u := by simp [jw]
theorem wdS_snoc (us : List (List UInt8)) (u : List UInt8) (c : UInt8) : wdS (us ++ [u]) c = if c = 32 then us ++ [u] ++ [[]] else us ++ [u ++ [c]] := by
  unfold wdS
  split
  · rfl
  · have h : (us ++ [u]).length - 1 = us.length := by simp
    rw [h, List.getElem?_append_right (by omega)]
    simp
theorem jw_last (us : List (List UInt8)) (u : List UInt8) (c : UInt8) : jw (us ++ [u ++ [c]]) = jw (us ++ [u]) ++ [c] := by
  cases us with
  | nil => simp [jw]
  | cons t ts => simp [jw]
theorem wdT_jn (L : List UInt8) (k : Nat) (hk : k ≤ L.length) : (∃ us u, wdT L k = us ++ [u]) ∧ jw (wdT L k) = L.take k := by
  induction k with
  | zero => exact ⟨⟨[], [], rfl⟩, by simp [wdT, jw]⟩
  | succ k ih =>
    obtain ⟨⟨us, u, e⟩, hj⟩ := ih (by omega)
    rw [wdT_succ L k (by omega), e, wdS_snoc, List.take_succ_eq_append_getElem (by omega), ← hj, e]
    split
    · rename_i hc
      exact ⟨⟨_, _, rfl⟩, by rw [jw_snoc (by simp), hc]; simp⟩
    · exact ⟨⟨_, _, rfl⟩, jw_last us u _⟩
theorem wds_jn (L : List UInt8) : jw (wds L) = L := by
  have := (wdT_jn L L.length (Nat.le_refl _)).2
  rw [List.take_length] at this
  exact this
def cleanW (t : List UInt8) : Prop := ∀ c ∈ t, c ≠ 32
theorem fold_word (t : List UInt8) (h : cleanW t) (us : List (List UInt8)) (u : List UInt8) : t.foldl wdS (us ++ [u]) = us ++ [u ++ t] := by
  induction t generalizing u with
  | nil => simp
  | cons c t ih =>
    rw [List.foldl_cons, wdS_snoc, if_neg (h c (by simp)), ih (fun x hx => h x (by simp [hx]))]
    simp
theorem fold_words (ts : List (List UInt8)) (h : ∀ t ∈ ts, cleanW t) (us : List (List UInt8)) (u : List UInt8) : (ts.flatMap (fun u => 32 :: u)).foldl wdS (us ++ [u]) = us ++ [u] ++ ts := by
  induction ts generalizing us u with
  | nil => simp
  | cons t ts ih =>
    rw [List.flatMap_cons, List.foldl_append, List.foldl_cons, wdS_snoc, if_pos rfl, fold_word t (h t (by simp)), List.nil_append, ih (fun x hx => h x (by simp [hx]))]
    simp
theorem jw_spl {ts : List (List UInt8)} (hne : ts ≠ []) (h : ∀ t ∈ ts, cleanW t) : wds (jw ts) = ts := by
  cases ts with
  | nil => exact absurd rfl hne
  | cons t ts =>
    unfold wds wdT
    rw [List.take_length]
    show (t ++ ts.flatMap (fun u => 32 :: u)).foldl wdS ([] ++ [[]]) = _
    rw [List.foldl_append, fold_word t (h t (by simp)), fold_words ts (fun x hx => h x (by simp [hx]))]
    simp
theorem idx32_none {s : List UInt8} (h : Lib.indexByte s 32 = -1) : cleanW s := fun c hc e => by
  obtain ⟨k, hk, rfl⟩ := List.mem_iff_getElem.1 hc
  exact Lib.indexByte_none h k (by rw [List.getElem?_eq_getElem hk, e])
theorem idx32_some {s : List UInt8} {o : Nat} (h : Lib.indexByte s 32 = o) : s = s.take o ++ 32 :: s.drop (o + 1) ∧ cleanW (s.take o) ∧ o < s.length := by
  obtain ⟨h1, h2⟩ := Lib.indexByte_some h
  have ho : o < s.length := (List.getElem?_eq_some_iff.1 h1).1
  refine ⟨?_, fun c hc e => ?_, ho⟩
  · rw [List.getElem?_eq_getElem ho] at h1
    have e : s[o] = 32 := Option.some.inj h1
    rw [← e, ← List.drop_eq_getElem_cons ho, List.take_append_drop]
  · obtain ⟨k, hk, rfl⟩ := List.mem_iff_getElem.1 hc
    rw [List.length_take] at hk
    rw [List.getElem_take] at e
    exact h2 k (by omega) (by rw [List.getElem?_eq_getElem (by omega), e])
theorem jw_cons (t : List UInt8) {ts : List (List UInt8)} (h : ts ≠ []) : jw (t :: ts) = t ++ 32 :: jw ts := by
  cases ts with
  | nil => exact absurd rfl h
  | cons u us => simp [jw]

/-- at most k cuts, from the left. -/
def cut32 (k : Nat) (s : List UInt8) : List (List UInt8) := Lib.splitK [32] 0 k s
theorem cut32_inv : ∀ (k : Nat) (s : List UInt8), cut32 k s ≠ [] ∧ jw (cut32 k s) = s ∧ (cut32 k s).length ≤ k + 1 ∧ ((cut32 k s).length = k + 1 ∨ ∀ t ∈ cut32 k s, cleanW t) ∧ (s.length ≤ k → ∀ t ∈ cut32 k s, cleanW t)
  | 0, s => by
    refine ⟨by simp [cut32, Lib.splitK], by simp [cut32, Lib.splitK, jw], by simp [cut32, Lib.splitK], .inl (by simp [cut32, Lib.splitK]), fun h t ht => ?_⟩
    have : s = [] := List.eq_nil_of_length_eq_zero (by omega)
    subst this
    simp [cut32, Lib.splitK] at ht
    subst ht
    intro c hc
    simp at hc
  | k + 1, s => by
    unfold cut32 Lib.splitK
    rw [Lib.index_one]
    by_cases h : Lib.indexByte s 32 = -1
    · rw [if_pos (beq_iff_eq.2 h)]
      have hc : ∀ t ∈ [s], cleanW t := fun t ht => by
        rw [List.mem_singleton] at ht
        subst ht
        exact idx32_none h
      exact ⟨by simp, by simp [jw], by simp, .inr hc, fun _ => hc⟩
    · have hge := Lib.indexByte_ge s 32
      obtain ⟨o, ho⟩ : ∃ o : Nat, Lib.indexByte s 32 = o := ⟨(Lib.indexByte s 32).toNat, by omega⟩
      obtain ⟨e, hcl, hlt⟩ := idx32_some ho
      rw [if_neg (by rw [ho]; simp), ho, Int.toNat_natCast, Nat.add_zero, show o + ([32] : List UInt8).length = o + 1 from rfl]
      obtain ⟨q0, q1, q2, q3, q4⟩ := cut32_inv k (s.drop (o + 1))
      unfold cut32 at q0 q1 q2 q3 q4
      refine ⟨by simp, ?_, by simpa using q2, ?_, fun hk => ?_⟩
      · rw [jw_cons _ q0, q1]
        exact e.symm
      · rcases q3 with q3 | q3
        · exact .inl (by simp [q3])
        · refine .inr fun t ht => ?_
          rcases List.mem_cons.1 ht with rfl | ht
          · exact hcl
          · exact q3 t ht
      · intro t ht
        rcases List.mem_cons.1 ht with rfl | ht
        · exact hcl
        · exact q4 (by rw [List.length_drop]; omega) t ht

theorem wds_count (L : List UInt8) : (wds L).length = L.count 32 + 1 := by
  have h : ∀ (L : List UInt8) (st : List (List UInt8)), (L.foldl wdS st).length = st.length + L.count 32 := by
    intro L
    induction L with
    | nil => intro st; simp
    | cons c L ih =>
      intro st
      rw [List.foldl_cons, ih]
      unfold wdS
      by_cases hc : c = 32
      · subst hc; simp; omega
      · rw [if_neg hc, List.length_set, List.count_cons]; simp [hc]
  unfold wds wdT
  rw [List.take_length, h]
  simp; omega
theorem jw_count : ∀ {ts : List (List UInt8)}, ts ≠ [] → ts.length ≤ (jw ts).count 32 + 1
  | [], h => absurd rfl h
  | [t], _ => by simp
  | t :: u :: us, _ => by
    have ih := jw_count (ts := u :: us) (by simp)
    rw [jw_cons t (by simp), List.count_append, List.count_cons]
    simp only [List.length_cons] at ih ⊢
    simp
    omega

end Go.Proofs.YtpcfgeggjfbfjaaDoor
