/- A region that draws its order, inside a round of a range over a function, whose last operation waits for all others: if the others are quiet (they load, and call what leaves all that lay as it was), one walk in the order of the text serves every order; then the last one. -/
import Derived.Lib.QuietBelowIn
import Derived.Test.YtjnbjegopddhgaaDoorSqZ

namespace Go.Proofs.YtjnbjegopddhgaaDoor
open Go Go.Sort

section
variable {P : Program} {L : List Oper} {st : Oper}

/-- the last operation waits for all others, each of which waits for earlier ones alone; no operation is guarded. -/
def tailB (L : List Oper) (st : Oper) : Bool :=
  st.guard.isNone && ((List.range L.length).all fun i => st.after.toList.any fun e => Region.binds .any e && (e.on == i)) && (st.after.toList.all fun e => decide (e.on < L.length)) &&
  ((List.range L.length).all fun i => match L[i]? with
    | some o => o.guard.isNone && o.after.toList.all fun e => decide (e.on < i)
    | none => true)
structure TailP (L : List Oper) (st : Oper) : Prop where
  sg : st.guard = none
  cov : ∀ i, i < L.length → ∃ e ∈ st.after, Region.binds .any e = true ∧ e.on = i
  on : ∀ e ∈ st.after, e.on < L.length
  og : ∀ (i : Nat) o, L[i]? = some o → o.guard = none
  lt : ∀ (i : Nat) o, L[i]? = some o → ∀ e ∈ o.after, e.on < i
theorem tailP_of (h : tailB L st = true) : TailP L st := by
  unfold tailB at h
  simp only [Bool.and_eq_true, List.all_eq_true, List.mem_range, List.any_eq_true, beq_iff_eq, decide_eq_true_eq, Option.isNone_iff_eq_none] at h
  obtain ⟨⟨⟨h1, h2⟩, h3⟩, h4⟩ := h
  refine ⟨h1, fun i hi => ?_, fun e he => h3 e (by simpa using he), fun i o ho => ?_, fun i o ho e he => ?_⟩
  · obtain ⟨e, he, h5, h6⟩ := h2 i hi
    exact ⟨e, by simpa using he, h5, h6⟩
  · have hi := (List.getElem?_eq_some_iff.1 ho).1
    have := h4 i hi
    rw [ho] at this
    simp only [Bool.and_eq_true, Option.isNone_iff_eq_none] at this
    exact this.1
  · have hi := (List.getElem?_eq_some_iff.1 ho).1
    have := h4 i hi
    rw [ho] at this
    simp only [Bool.and_eq_true, List.all_eq_true, decide_eq_true_eq] at this
    exact this.2 e (by simpa using he)

theorem getD_lt {l : Array Bool} {i : Nat} (d : Bool) (h : i < l.size) : (l.push false).getD i d = l.getD i d := by
  simp [Array.getD, h, Nat.lt_succ_of_lt h, Array.getElem_push_lt h]
theorem getD_eq (l : Array Bool) (d : Bool) : (l.push false).getD l.size d = false := by simp [Array.getD]
theorem push_set {l : Array Bool} {i : Nat} (h : i < l.size) : (l.push false).setIfInBounds i true = (l.setIfInBounds i true).push false := by
  apply Array.ext_getElem?
  intro j
  simp only [Array.getElem?_setIfInBounds, Array.getElem?_push, Array.size_push, Array.size_setIfInBounds]
  by_cases hj : j = l.size
  · subst hj
    simp [Nat.ne_of_lt h]
  · by_cases hij : i = j
    · subst hij
      simp [h, hj, Nat.lt_succ_of_lt h]
    · simp [hij, hj]
theorem ops_lt {i : Nat} (h : i < L.length) : ((L ++ [st]).toArray)[i]? = L[i]? := by simp [List.getElem?_append_left h]
theorem ops_eq : ((L ++ [st]).toArray)[L.length]? = some st := by simp

theorem ready_low {l : Array Bool} (hT : TailP L st) (hs : l.size = L.length) {i : Nat} (hi : i < L.length) : i ∈ Region.ready .any (L ++ [st]).toArray (l.push false) ↔ i ∈ Region.ready .any L.toArray l := by
  rw [mem_ready, mem_ready, ops_lt hi, getD_lt _ (by omega)]
  have e : (L.toArray)[i]? = L[i]? := by simp
  rw [e]
  constructor
  · rintro ⟨h1, o, ho, h2⟩
    refine ⟨h1, o, ho, fun e he hb => ?_⟩
    have := h2 e he hb
    rwa [getD_lt _ (by have := hT.lt i o ho e he; omega)] at this
  · rintro ⟨h1, o, ho, h2⟩
    refine ⟨h1, o, ho, fun e he hb => ?_⟩
    rw [getD_lt _ (by have := hT.lt i o ho e he; omega)]
    exact h2 e he hb
theorem ready_top {l : Array Bool} (hT : TailP L st) (hs : l.size = L.length) : L.length ∈ Region.ready .any (L ++ [st]).toArray (l.push false) ↔ ∀ i, i < L.length → l.getD i false = true := by
  rw [mem_ready, ops_eq]
  constructor
  · rintro ⟨_, o, ho, h⟩ i hi
    cases ho
    obtain ⟨e, he, hb, rfl⟩ := hT.cov i hi
    have := h e he hb
    rwa [getD_lt _ (by omega)] at this
  · intro h
    refine ⟨by rw [← hs]; exact getD_eq _ _, st, rfl, fun e he _ => ?_⟩
    have := hT.on e he
    rw [getD_lt _ (by omega)]
    exact h _ this
theorem ready_bd {l : Array Bool} {i : Nat} (h : i ∈ Region.ready .any (L ++ [st]).toArray l) : i < L.length + 1 := by
  obtain ⟨_, o, ho, _⟩ := mem_ready.1 h
  have := (Array.getElem?_eq_some_iff.1 ho).1
  simpa using this
theorem ready_full {l : Array Bool} (_hs : l.size = L.length + 1) (h : ∀ i, i < L.length + 1 → l.getD i true = true) : Region.ready .any (L ++ [st]).toArray l = [] := by
  apply List.eq_nil_iff_forall_not_mem.2
  intro i hi
  have h1 := ready_bd hi
  have h2 := (mem_ready.1 hi).1
  rw [h i h1] at h2
  cases h2
theorem getD_dflt {l : Array Bool} {i : Nat} (h : i < l.size) (d d' : Bool) : l.getD i d = l.getD i d' := by simp [Array.getD, h]
/-- the first one that is not listed is ready. -/
theorem ready_some {l : Array Bool} (hT : TailP L st) (hs : l.size = L.length) (h : ¬ ∀ i, i < L.length → l.getD i false = true) : ∃ i, i < L.length ∧ i ∈ Region.ready .any L.toArray l := by
  have hex : ∃ i, i < L.length ∧ l.getD i false = false := by
    apply Classical.byContradiction
    intro hc
    apply h
    intro i hi
    cases e : l.getD i false
    · exact absurd ⟨i, hi, e⟩ hc
    · rfl
  have key : ∀ n, (∃ i, i ≤ n ∧ i < L.length ∧ l.getD i false = false) → ∃ i, i < L.length ∧ l.getD i false = false ∧ ∀ j, j < i → l.getD j false = true := by
    intro n
    induction n with
    | zero =>
      rintro ⟨i, hi, h1, h2⟩
      exact ⟨i, h1, h2, fun j hj => by omega⟩
    | succ n ih =>
      rintro ⟨i, hi, h1, h2⟩
      by_cases hc : ∃ j, j ≤ n ∧ j < L.length ∧ l.getD j false = false
      · exact ih hc
      · refine ⟨i, h1, h2, fun j hj => ?_⟩
        cases e : l.getD j false
        · exact absurd ⟨j, by omega, by omega, e⟩ hc
        · rfl
  obtain ⟨i, hi, h1⟩ := hex
  obtain ⟨i, hi, h1, h2⟩ := key i ⟨i, Nat.le_refl _, hi, h1⟩
  refine ⟨i, hi, mem_ready.2 ⟨by rw [getD_dflt (by omega) true false]; exact h1, L[i], by simp [hi], fun e he _ => h2 _ (hT.lt i L[i] (by simp [hi]) e he)⟩⟩

theorem wpOp_same {n : Nat} {F : Fence} {Q : Exit → Act → World → Prop} {K K' : Act → World → Prop} {i : Nat} {a : Act} {w : World} (hT : TailP L st) (hi : i < L.length) (hK : ∀ a w, K a w → K' a w) (h : wpOpIn F n P L.toArray Q i K a w) : wpOpIn F n P (L ++ [st]).toArray Q i K' a w := by
  unfold wpOpIn at *
  have e : (L.toArray)[i]? = L[i]? := by simp
  rw [ops_lt hi]
  rw [e] at h
  have ho : L[i]? = some L[i] := by simp [hi]
  rw [ho] at h ⊢
  have hg := hT.og i _ ho
  have hw : ∀ y, Region.wanted L[i] y = true := fun y => by simp [Region.wanted, hg]
  simp only [hw, if_true] at h ⊢
  exact Oper.wpIn_mono hK h

theorem any_tail {n : Nat} {C : World → Prop} {Qq : Act → Prop} {Q : Exit → Act → World → Prop} (hT : TailP L st) (hst : ∀ a w, C w → Qq a → st.wpIn Fence.wide n P a w (fun a' w' => Q .normal a' w') Q) :
    ∀ (fuel : Nat) (l : Array Bool) (a : Act) (w : World), l.size = L.length → C w → wpAnyQIn Fence.wide n P .any L.toArray C Qq fuel l a → wpAnyIn Fence.wide n P .any (L ++ [st]).toArray Q (fuel + 1) (l.push false) a w := by
  intro fuel
  induction fuel with
  | zero =>
    intro l a w hs hC h
    have hall : ∀ i, i < L.length → l.getD i false = true := by
      apply Classical.byContradiction
      intro hc
      obtain ⟨i, _, hr⟩ := ready_some hT hs hc
      rw [h.1] at hr
      cases hr
    have htop := (ready_top hT hs).2 hall
    refine ⟨fun h0 => absurd (h0 ▸ htop) (List.not_mem_nil), fun i hi => ?_⟩
    by_cases him : i = L.length
    · subst him
      unfold wpOpIn
      rw [ops_eq]
      have hw : Region.wanted st (yielded (L ++ [st]).toArray a.tmps) = true := by simp [Region.wanted, hT.sg]
      simp only [hw, if_true]
      refine Oper.wpIn_mono (fun a' w' hq => ?_) (hst a w hC h.2)
      exact ⟨ready_full (by simp; omega) (fun j hj => by
        rw [← hs] at hj ⊢
        by_cases e : j = l.size
        · subst e; simp [Array.getD]
        · have hj2 : j < l.size := by omega
          have := hall j (by omega)
          rw [getD_dflt hj2 false true] at this
          simp [Array.getD, hj2, Nat.lt_succ_of_lt hj2, Array.getElem_setIfInBounds, Array.getElem_push_lt hj2] at this ⊢
          exact .inr this), hq⟩
    · have hi2 : i < L.length := by have := ready_bd hi; omega
      have := (mem_ready.1 hi).1
      rw [getD_lt _ (by omega), getD_dflt (by omega) true false, hall i hi2] at this
      cases this
  | succ fuel ih =>
    intro l a w hs hC h
    by_cases hall : ∀ i, i < L.length → l.getD i false = true
    · have hr0 : Region.ready .any L.toArray l = [] := by
        apply List.eq_nil_iff_forall_not_mem.2
        intro i hi
        obtain ⟨h1, o, ho, _⟩ := mem_ready.1 hi
        have hi2 : i < L.length := by simpa using (Array.getElem?_eq_some_iff.1 ho).1
        rw [getD_dflt (by omega) true false, hall i hi2] at h1
        cases h1
      have htop := (ready_top hT hs).2 hall
      refine ⟨fun h0 => absurd (h0 ▸ htop) (List.not_mem_nil), fun i hi => ?_⟩
      by_cases him : i = L.length
      · subst him
        unfold wpOpIn
        rw [ops_eq]
        have hw : Region.wanted st (yielded (L ++ [st]).toArray a.tmps) = true := by simp [Region.wanted, hT.sg]
        simp only [hw, if_true]
        have hfull : Region.ready .any (L ++ [st]).toArray ((l.push false).setIfInBounds L.length true) = [] := ready_full (by simp; omega) (fun j hj => by
          rw [← hs] at hj ⊢
          by_cases e : j = l.size
          · subst e; simp [Array.getD]
          · have hj2 : j < l.size := by omega
            have := hall j (by omega)
            rw [getD_dflt hj2 false true] at this
            simp [Array.getD, hj2, Nat.lt_succ_of_lt hj2, Array.getElem_setIfInBounds, Array.getElem_push_lt hj2] at this ⊢
            exact .inr this)
        refine Oper.wpIn_mono (fun a' w' hq => ?_) (hst a w hC (h.1 hr0))
        exact ⟨fun _ => hq, fun j hj => by rw [hfull] at hj; cases hj⟩
      · have hi2 : i < L.length := by have := ready_bd hi; omega
        have := (mem_ready.1 hi).1
        rw [getD_lt _ (by omega), getD_dflt (by omega) true false, hall i hi2] at this
        cases this
    · obtain ⟨i0, hi0, hr0⟩ := ready_some hT hs hall
      have hr1 := (ready_low hT hs hi0).2 hr0
      refine ⟨fun h0 => absurd (h0 ▸ hr1) (List.not_mem_nil), fun i hi => ?_⟩
      have him : i ≠ L.length := by
        rintro rfl
        exact hall ((ready_top hT hs).1 hi)
      have hi2 : i < L.length := by have := ready_bd hi; omega
      have hi3 := (ready_low hT hs hi2).1 hi
      rw [push_set (by omega)]
      exact wpOp_same hT hi2 (fun _ _ h => h) (wpOpIn_of_qOpIn rfl hC (fun a' w' hC' hq => ih (l.setIfInBounds i true) a' w' (by simpa using hs) hC' hq) (h.2 i hi3))

/-- THE LAW. -/
theorem tail_round {r n id : Nat} {Q : Exit → Act → World → Prop} {a : Act} {w : World} (C : World → Prop) (hd : plainB (L ++ [st]).toArray = true) (hm : P.follows .mixedOrders = true) (hB : Region.lexB .any L.toArray = true) (hT : tailB L st = true) (hC : C { w with drawn := w.drawn + 1 })
    (h : wpQuietIn Fence.wide n P L.toArray C (fun a' => ∀ w', C w' → st.wpIn Fence.wide n P a' w' (fun a'' w'' => Q .normal a'' w'') Q) L a) : (Code.region id (L ++ [st]).toArray true).wpIn (Fence.wide.inRound r) n P Q a w := by
  simp only [Region.lexB, Bool.and_eq_true] at hB
  have hq := wpAnyQIn_lex (F := Fence.wide) (n := n) (P := P) (C := C) (md := .any) hB.1 L 0 (Array.replicate L.toArray.size false) a (by simp) (by simpa using hB.2) h
  have := any_tail (C := C) (Q := Q) (Qq := fun a' => ∀ w', C w' → st.wpIn Fence.wide n P a' w' (fun a'' w'' => Q .normal a'' w'') Q) (tailP_of hT) (fun a' w' hw' hq' => hq' w' hw') L.length (Array.replicate L.length false) a { w with drawn := w.drawn + 1 } (by simp) hC (by simpa using hq)
  refine wpIn_region_any hm (wpAnyIn_round (noDefer_of _ hd) _ _ _ _ ?_)
  have e : (L ++ [st]).toArray.size = L.length + 1 := by simp
  rw [e]
  have e2 : Array.replicate (L.length + 1) false = (Array.replicate L.length false).push false := Array.replicate_succ ..
  rw [e2]
  exact this
end

end Go.Proofs.YtjnbjegopddhgaaDoor
