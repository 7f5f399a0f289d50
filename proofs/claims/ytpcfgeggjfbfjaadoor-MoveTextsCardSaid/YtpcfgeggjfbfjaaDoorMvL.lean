/- Moves: texts of lists, and what words are read as: functions on lists; no program in them. -/
import Derived.Test.YtpcfgeggjfbfjaaDoorMvA
import Derived.Test.YtpcfgeggjfbfjaaDoorPoW
namespace Go.Proofs.YtpcfgeggjfbfjaaDoor
open Go.RowKit

theorem mvT_clean {F R : Int} {m : Mv} (h : okM F R m) : cleanW (mvT F m) := by
  obtain ⟨h1, h2, h3, h4⟩ := h
  intro c hc
  unfold mvT at hc
  obtain ⟨⟨x0, x1⟩, ⟨x2, x3⟩⟩ := name_bd h1
  obtain ⟨⟨y0, y1⟩, ⟨y2, y3⟩⟩ := name_bd h2
  obtain ⟨p0, p1, p2, p3⟩ := place_bd h1.1 h1.2.1 h1.2.2
  obtain ⟨q0, q1, q2, q3⟩ := place_bd h2.1 h2.2.1 h2.2.2
  have key : ∀ n : Nat, n < 256 → n ≠ 32 → UInt8.ofNat n ≠ 32 := fun n hn h e => h (by
    have := congrArg UInt8.toNat e
    rw [u8_lt n hn] at this
    exact this)
  rw [nameB_two, nameB_two] at hc
  simp only [List.cons_append, List.nil_append, List.mem_cons] at hc
  rcases hc with rfl | rfl | rfl | rfl | hc
  · exact key _ (by omega) (by omega)
  · exact key _ (by omega) (by omega)
  · exact key _ (by omega) (by omega)
  · exact key _ (by omega) (by omega)
  · unfold prL at hc
    split at hc
    · simp at hc
    · rename_i hp
      rcases h4 with h4 | ⟨h4, h5⟩
      · exact absurd h4 hp
      · have hl := lt_rng (p := m.p) ⟨by omega, by omega⟩ hp
        rw [List.mem_singleton] at hc
        subst hc
        exact key _ (by omega) (by omega)

/-- the text of a list. -/
def lnT (F : Int) (l : List Mv) : List UInt8 := jw (l.map (mvT F))
/-- the words of a text. -/
def wdsM (L : List UInt8) : List (List UInt8) := if L = [] then [] else wds L
theorem lnT_nil (F : Int) : lnT F [] = [] := rfl
theorem lnT_ne {F R : Int} {l : List Mv} (hne : l ≠ []) (_h : ∀ m ∈ l, okM F R m) : lnT F l ≠ [] := by
  cases l with
  | nil => exact absurd rfl hne
  | cons m l =>
    intro e
    have := congrArg List.length e
    unfold lnT at this
    rw [List.map_cons] at this
    simp only [jw, List.length_append, List.length_nil] at this
    have := mvT_len F m
    omega
theorem wdsM_line {F R : Int} {l : List Mv} (h : ∀ m ∈ l, okM F R m) : wdsM (lnT F l) = l.map (mvT F) := by
  by_cases hl : l = []
  · subst hl; rfl
  · unfold wdsM
    rw [if_neg (lnT_ne hl h)]
    unfold lnT
    refine jw_spl (by simpa using hl) fun t ht => ?_
    obtain ⟨m, hm, rfl⟩ := List.mem_map.1 ht
    exact mvT_clean (h m hm)
/-- all words are read, or one is the first that is not. -/
theorem words_or (F R : Int) : ∀ ws : List (List UInt8), (∃ l : List Mv, ws.map (rdM F R) = l.map some) ∨ (∃ (l : List Mv) (t : List UInt8) (us : List (List UInt8)), ws = (ws.take l.length) ++ t :: us ∧ (ws.take l.length).map (rdM F R) = l.map some ∧ rdM F R t = none)
  | [] => .inl ⟨[], rfl⟩
  | t :: ws => by
    cases e : rdM F R t with
    | none => exact .inr ⟨[], t, ws, by simp, by simp, e⟩
    | some m =>
      rcases words_or F R ws with ⟨l, h⟩ | ⟨l, u, us, h1, h2, h3⟩
      · exact .inl ⟨m :: l, by simp [e, h]⟩
      · exact .inr ⟨m :: l, u, us, by simpa using h1, by simpa [e] using h2, h3⟩
/-- what is read from a text is a list of that text. -/
theorem text_words {F R : Int} {L : List UInt8} {l : List Mv} (hv : vsz F R) (h : (wdsM L).map (rdM F R) = l.map some) : (∀ m ∈ l, okM F R m) ∧ lnT F l = L := by
  have hlen : (wdsM L).length = l.length := by have := congrArg List.length h; simpa using this
  have hat : ∀ j, j < l.length → ∃ m, l[j]? = some m ∧ okM F R m ∧ some (mvT F m) = (wdsM L)[j]? := fun j hj => by
    have := congrArg (·[j]?) h
    simp only [List.getElem?_map] at this
    rw [List.getElem?_eq_getElem hj, List.getElem?_eq_getElem (by omega)] at this
    simp at this
    obtain ⟨o1, o2⟩ := text_rdM hv this
    exact ⟨_, List.getElem?_eq_getElem hj, o1, by rw [o2, List.getElem?_eq_getElem (by omega)]⟩
  constructor
  · intro m hm
    obtain ⟨j, hj, rfl⟩ := List.mem_iff_getElem.1 hm
    obtain ⟨m', e, ho, _⟩ := hat j hj
    rw [List.getElem?_eq_getElem hj] at e
    rw [Option.some.inj e]
    exact ho
  · have hm : l.map (mvT F) = wdsM L := by
      apply List.ext_getElem?
      intro j
      by_cases hj : j < l.length
      · obtain ⟨m', e, _, e2⟩ := hat j hj
        rw [List.getElem?_map, e, ← e2]
        rfl
      · rw [List.getElem?_eq_none (by simpa using Nat.le_of_not_lt hj), List.getElem?_eq_none (by omega)]
    unfold lnT
    rw [hm]
    unfold wdsM
    split
    · rename_i e; rw [e]; rfl
    · exact wds_jn L

end Go.Proofs.YtpcfgeggjfbfjaaDoor
