/- Boards: a text is read as a board just if it is that board's text. -/
import Derived.Test.YtpcfgeggjfbfjaaDoorBdG
import Derived.Test.YtpcfgeggjfbfjaaDoorBdA
namespace Go.Proofs.YtpcfgeggjfbfjaaDoor
open Go.RowKit

def okRow (row : List Int) : Prop := ∀ x ∈ row, okP x

/-! a letter is none of the digits and no slash -/
theorem lt_rng {p : Int} (h : okP p) (hz : p ≠ 0) : 65 ≤ lt p ∧ lt p ≤ 122 := by
  obtain ⟨h0, h1⟩ := h
  have hu := ltr_bd
  by_cases hn : p < 0
  · obtain ⟨i, rfl⟩ : ∃ i : Nat, p = -(i : Int) := ⟨(-p).toNat, by omega⟩
    rw [lt_neg (by omega)]
    have := hu (i - 1) (by omega)
    omega
  · obtain ⟨i, rfl⟩ : ∃ i : Nat, p = (i : Int) := ⟨p.toNat, by omega⟩
    rw [lt_pos (by omega)]
    have := hu (i - 1) (by omega)
    omega
theorem piP_ok {c : Nat} (h : piP c ≠ 0) : okP (piP c) ∧ lt (piP c) = c := by
  unfold piP at *
  cases hf : ((List.range 31).map fun i : Nat => (i : Int) - 15).find? fun p => decide (p ≠ 0) && decide (lt p = c) with
  | none => rw [hf] at h; simp at h
  | some p =>
    rw [hf] at h
    have h1 := List.find?_some hf
    have h2 := List.mem_of_find?_eq_some hf
    simp only [Bool.and_eq_true, decide_eq_true_iff] at h1
    simp only [List.mem_map, List.mem_range] at h2
    obtain ⟨i, hi, rfl⟩ := h2
    exact ⟨⟨by simp; omega, by simp; omega⟩, h1.2⟩
theorem u8_lt (n : Nat) (h : n < 256) : (UInt8.ofNat n).toNat = n := by simp; omega

/-- reading the text of a row from a state: prS over the bytes that a piece adds. -/
theorem rd_pc {acc : List Int} {d : Bool} {p : Int} (h : okP p) (hz : p ≠ 0) : prS (some (acc, d)) (UInt8.ofNat (lt p)) = some (acc ++ [p], false) := by
  have hr := lt_rng h hz
  unfold prS
  simp only
  rw [u8_lt _ (by omega), if_neg (by omega)]
  have e : piP (lt p) = p := piP_lt ⟨h.1, h.2, hz⟩
  rw [e, if_neg hz]
theorem rd_dg {acc : List Int} {e : Nat} (h0 : 0 < e) (h1 : e ≤ 8) : prS (some (acc, false)) (UInt8.ofNat (48 + e)) = some (acc ++ List.replicate e 0, true) := by
  unfold prS
  simp only
  rw [u8_lt _ (by omega), if_pos (by omega)]
  simp
/-- what has been read when k pieces of the row have been written, with a group of empty squares still open. -/
theorem rd_row (row : List Int) (hok : okRow row) (h8 : row.length ≤ 8) (k : Nat) (hk : k ≤ row.length) :
    ((rowS row k).1.foldl prS (some ([], false)) = some (row.take (k - (rowS row k).2), false)) ∧ (rowS row k).2 ≤ k ∧ row.take k = row.take (k - (rowS row k).2) ++ List.replicate (rowS row k).2 0 := by
  induction k with
  | zero => simp [rowS_zero]
  | succ k ih =>
    obtain ⟨h1, h2, h3⟩ := ih (by omega)
    have hx : row.take (k + 1) = row.take k ++ [row[k]?.getD 0] := by
      rw [List.take_succ_eq_append_getElem (by omega), List.getElem?_eq_getElem (by omega)]; rfl
    by_cases hz : row[k]?.getD 0 = 0
    · rw [rowS_emp (by omega) hz]
      refine ⟨?_, by simp; omega, ?_⟩
      · simp only
        rw [show k + 1 - ((rowS row k).2 + 1) = k - (rowS row k).2 by omega]
        exact h1
      · simp only
        rw [show k + 1 - ((rowS row k).2 + 1) = k - (rowS row k).2 by omega, hx, h3, hz, List.replicate_succ', List.append_assoc]
    · rw [rowS_pc (by omega) hz]
      have hp : okP (row[k]?.getD 0) := by
        rw [List.getElem?_eq_getElem (show k < row.length by omega)]
        exact hok _ (List.getElem_mem _)
      refine ⟨?_, by simp, by simp⟩
      simp only [Nat.sub_zero]
      rw [List.foldl_append, List.foldl_append, h1]
      by_cases he : (rowS row k).2 = 0
      · rw [he] at h3 ⊢
        rw [flu_zero]
        simp only [Nat.sub_zero, List.foldl_nil, List.foldl_cons]
        rw [rd_pc hp hz, hx]
      · rw [flu_pos (by omega)]
        simp only [List.foldl_nil, List.foldl_cons]
        rw [rd_dg (by omega) (by have := rowS_bd row k (by omega); omega), rd_pc hp hz, hx, ← h3]
theorem prow_text (row : List Int) (hok : okRow row) (h8 : row.length ≤ 8) : prow (rowT row) = some row := by
  obtain ⟨h1, h2, h3⟩ := rd_row row hok h8 row.length (Nat.le_refl _)
  unfold prow prT
  rw [List.take_length]
  unfold rowT
  rw [List.foldl_append, h1]
  by_cases he : (rowS row row.length).2 = 0
  · rw [he] at h3 ⊢
    rw [flu_zero]
    simp
  · rw [flu_pos (by omega)]
    simp only [List.foldl_nil, List.foldl_cons]
    rw [rd_dg (by omega) (by omega), ← h3]
    simp

theorem rowS_full (row : List Int) : rowS row row.length = row.foldl stp ([], 0) := by unfold rowS; rw [List.take_length]
theorem fold_zeros (n : Nat) (a : List UInt8) (e : Nat) : (List.replicate n (0 : Int)).foldl stp (a, e) = (a, e + n) := by
  induction n generalizing e with
  | zero => rfl
  | succ n ih =>
    rw [List.replicate_succ, List.foldl_cons]
    have : stp (a, e) 0 = (a, e + 1) := by unfold stp; rw [if_pos rfl]
    rw [this, ih]
    simp; omega
/-- what has been read of a row gives back the bytes that were read. -/
theorem rd_inv (t : List UInt8) (k : Nat) (hk : k ≤ t.length) : ∀ (row : List Int) (d : Bool), prT t k = some (row, d) →
    okRow row ∧ (d = false → (row.foldl stp ([], 0)).2 = 0 ∧ (row.foldl stp ([], 0)).1 = t.take k) ∧ (d = true → 0 < (row.foldl stp ([], 0)).2 ∧ (row.foldl stp ([], 0)).1 ++ flu (row.foldl stp ([], 0)).2 = t.take k) := by
  induction k with
  | zero =>
    intro row d h
    simp [prT] at h
    obtain ⟨rfl, rfl⟩ := h
    exact ⟨fun x hx => by simp at hx, fun _ => ⟨rfl, rfl⟩, fun h => by cases h⟩
  | succ k ih =>
    intro row d h
    rw [prT_succ t k (by omega)] at h
    have ht : t.take (k + 1) = t.take k ++ [t[k]] := List.take_succ_eq_append_getElem (by omega)
    cases hp : prT t k with
    | none => rw [hp] at h; simp [prS] at h
    | some st =>
      obtain ⟨r0, d0⟩ := st
      obtain ⟨i1, i2, i3⟩ := ih (by omega) r0 d0 hp
      rw [hp] at h
      simp only [prS] at h
      split at h
      · rename_i hd
        cases d0 with
        | true => simp at h
        | false =>
          simp at h
          obtain ⟨rfl, rfl⟩ := h
          obtain ⟨j1, j2⟩ := i2 rfl
          have hf : (r0 ++ List.replicate (t[k].toNat - 48) 0).foldl stp ([], 0) = (t.take k, t[k].toNat - 48) := by
            rw [List.foldl_append]
            have : r0.foldl stp ([], 0) = (t.take k, 0) := Prod.ext j2 j1
            rw [this, fold_zeros]; simp
          refine ⟨?_, (fun h => by cases h), fun _ => ?_⟩
          · intro x hx
            rcases List.mem_append.1 hx with hx | hx
            · exact i1 x hx
            · rw [List.eq_of_mem_replicate hx]; exact ⟨by omega, by omega⟩
          · rw [hf]
            refine ⟨by simp only; omega, ?_⟩
            simp only
            rw [flu_pos (by omega), ht, show 48 + (t[k].toNat - 48) = t[k].toNat by omega]
            simp
      · split at h
        · simp at h
        · rename_i hz
          simp at h
          obtain ⟨rfl, rfl⟩ := h
          obtain ⟨k1, k2⟩ := piP_ok hz
          have hl : UInt8.ofNat (lt (piP t[k].toNat)) = t[k] := by rw [k2]; simp
          have hf : (r0 ++ [piP t[k].toNat]).foldl stp ([], 0) = (t.take (k + 1), 0) := by
            rw [List.foldl_append, List.foldl_cons, List.foldl_nil]
            unfold stp
            rw [if_neg hz, hl, ht]
            cases d0 with
            | true =>
              have := (i3 rfl).2
              unfold stp at this
              rw [this]
            | false =>
              obtain ⟨j1, j2⟩ := i2 rfl
              unfold stp at j1 j2
              rw [j1, j2, flu_zero, List.append_nil]
          refine ⟨?_, fun _ => ?_, fun h => by cases h⟩
          · intro x hx
            rcases List.mem_append.1 hx with hx | hx
            · exact i1 x hx
            · rw [List.mem_singleton.1 hx]; exact k1
          · rw [hf]; exact ⟨rfl, rfl⟩
theorem text_prow {t : List UInt8} {row : List Int} (h : prow t = some row) : okRow row ∧ rowT row = t := by
  unfold prow at h
  cases hp : prT t t.length with
  | none => rw [hp] at h; simp at h
  | some st =>
    obtain ⟨r, d⟩ := st
    rw [hp] at h
    simp at h
    subst h
    obtain ⟨i1, i2, i3⟩ := rd_inv t t.length (Nat.le_refl _) r d hp
    refine ⟨i1, ?_⟩
    unfold rowT
    rw [rowS_full]
    rw [List.take_length] at i2 i3
    cases d with
    | true => exact (i3 rfl).2
    | false => obtain ⟨j1, j2⟩ := i2 rfl; rw [j1, j2, flu_zero, List.append_nil]

/-! ranks and slashes -/
def jn : List (List UInt8) → List UInt8
  | [] => []
  | t :: ts => t ++ ts.flatMap (fun u => 47 :: u)
theorem jn_snoc {ts : List (List UInt8)} (h : ts ≠ []) (u : List UInt8) : jn (ts ++ [u]) = jn ts ++ [47] ++ u := by
  cases ts with
  | nil => exact absurd rfl h
  | cons t ts => simp [jn]
theorem jn_one (u : List UInt8) : jn [u] = u := by simp [jn]
theorem spS_snoc (us : List (List UInt8)) (u : List UInt8) (c : UInt8) : spS (us ++ [u]) c = if c = 47 then us ++ [u] ++ [[]] else us ++ [u ++ [c]] := by
  unfold spS
  split
  · rfl
  · have h : (us ++ [u]).length - 1 = us.length := by simp
    rw [h, List.getElem?_append_right (by omega)]
    simp
theorem jn_last (us : List (List UInt8)) (u : List UInt8) (c : UInt8) : jn (us ++ [u ++ [c]]) = jn (us ++ [u]) ++ [c] := by
  cases us with
  | nil => simp [jn]
  | cons t ts => simp [jn]
theorem spT_jn (L : List UInt8) (k : Nat) (hk : k ≤ L.length) : (∃ us u, spT L k = us ++ [u]) ∧ jn (spT L k) = L.take k := by
  induction k with
  | zero => exact ⟨⟨[], [], rfl⟩, by simp [spT, jn]⟩
  | succ k ih =>
    obtain ⟨⟨us, u, e⟩, hj⟩ := ih (by omega)
    rw [spT_succ L k (by omega), e, spS_snoc, List.take_succ_eq_append_getElem (by omega), ← hj, e]
    split
    · rename_i hc
      exact ⟨⟨_, _, rfl⟩, by rw [jn_snoc (by simp), hc]; simp⟩
    · exact ⟨⟨_, _, rfl⟩, jn_last us u _⟩
theorem spl_jn (L : List UInt8) : jn (spl L) = L := by
  have := (spT_jn L L.length (Nat.le_refl _)).2
  rw [List.take_length] at this
  exact this
def clean (t : List UInt8) : Prop := ∀ c ∈ t, c ≠ 47
theorem fold_clean (t : List UInt8) (h : clean t) (us : List (List UInt8)) (u : List UInt8) : t.foldl spS (us ++ [u]) = us ++ [u ++ t] := by
  induction t generalizing u with
  | nil => simp
  | cons c t ih =>
    rw [List.foldl_cons, spS_snoc, if_neg (h c (by simp)), ih (fun x hx => h x (by simp [hx]))]
    simp
theorem fold_ranks (ts : List (List UInt8)) (h : ∀ t ∈ ts, clean t) (us : List (List UInt8)) (u : List UInt8) : (ts.flatMap (fun u => 47 :: u)).foldl spS (us ++ [u]) = us ++ [u] ++ ts := by
  induction ts generalizing us u with
  | nil => simp
  | cons t ts ih =>
    rw [List.flatMap_cons, List.foldl_append, List.foldl_cons, spS_snoc, if_pos rfl, fold_clean t (h t (by simp)), List.nil_append, ih (fun x hx => h x (by simp [hx]))]
    simp
theorem jn_spl {ts : List (List UInt8)} (hne : ts ≠ []) (h : ∀ t ∈ ts, clean t) : spl (jn ts) = ts := by
  cases ts with
  | nil => exact absurd rfl hne
  | cons t ts =>
    unfold spl spT
    rw [List.take_length]
    show (t ++ ts.flatMap (fun u => 47 :: u)).foldl spS ([] ++ [[]]) = _
    rw [List.foldl_append, fold_clean t (h t (by simp)), fold_ranks ts (fun x hx => h x (by simp [hx]))]
    simp
theorem rowT_clean (row : List Int) (hok : okRow row) (h8 : row.length ≤ 8) : clean (rowT row) := by
  have key : ∀ k, k ≤ row.length → clean (rowS row k).1 := by
    intro k
    induction k with
    | zero => intro _ c hc; simp [rowS_zero] at hc
    | succ k ih =>
      intro hk
      by_cases hz : row[k]?.getD 0 = 0
      · rw [rowS_emp (by omega) hz]; exact ih (by omega)
      · rw [rowS_pc (by omega) hz]
        have hp : okP (row[k]?.getD 0) := by
          rw [List.getElem?_eq_getElem (show k < row.length by omega)]
          exact hok _ (List.getElem_mem _)
        have hr := lt_rng hp hz
        have hb := rowS_bd row k (by omega)
        intro c hc
        simp only [List.mem_append, List.mem_singleton] at hc
        rcases hc with (hc | hc) | hc
        · exact ih (by omega) c hc
        · unfold flu at hc
          split at hc
          · rw [List.mem_singleton] at hc
            rw [hc]; intro e
            have := congrArg UInt8.toNat e
            rw [u8_lt _ (by omega)] at this
            have h47 : (47 : UInt8).toNat = 47 := rfl
            omega
          · simp at hc
        · rw [hc]; intro e
          have := congrArg UInt8.toNat e
          rw [u8_lt _ (by omega)] at this
          have h47 : (47 : UInt8).toNat = 47 := rfl
          omega
  intro c hc
  unfold rowT at hc
  rcases List.mem_append.1 hc with hc | hc
  · exact key _ (Nat.le_refl _) c hc
  · unfold flu at hc
    split at hc
    · rw [List.mem_singleton] at hc
      rw [hc]; intro e
      have := congrArg UInt8.toNat e
      have hb := rowS_bd row row.length (Nat.le_refl _)
      rw [u8_lt _ (by omega)] at this
      have h47 : (47 : UInt8).toNat = 47 := rfl
      omega
    · simp at hc

/-- the texts of the ranks, the last one first. -/
def rks (F R : Nat) (l : List Int) : List (List UInt8) := (List.range R).map fun i => rowT (rk F l (R - 1 - i))
theorem rks_len (F R : Nat) (l : List Int) : (rks F R l).length = R := by simp [rks]
theorem rks_at {F R : Nat} {l : List Int} {i : Nat} (h : i < R) : (rks F R l)[i]?.getD [] = rowT (rk F l (R - 1 - i)) := by
  unfold rks; rw [List.getElem?_map, List.getElem?_range h]; rfl
theorem accT_jn (F R : Nat) (l : List Int) (k : Nat) (hk : k ≤ R) : accT F R l k = jn ((rks F R l).take k) := by
  induction k with
  | zero => simp [accT, jn]
  | succ k ih =>
    have h' : k < (rks F R l).length := by rw [rks_len]; omega
    have hg : (rks F R l)[k] = rowT (rk F l (R - 1 - k)) := by
      have := rks_at (F := F) (l := l) (show k < R by omega)
      rw [List.getElem?_eq_getElem h'] at this
      exact this
    rw [List.take_succ_eq_append_getElem h', hg, accT, ih (by omega)]
    by_cases h0 : k = 0
    · subst h0; simp [jn]
    · rw [if_neg h0, jn_snoc (by intro e; have := congrArg List.length e; simp [rks_len] at this; omega)]
theorem text_jn (F R : Nat) (l : List Int) : accT F R l R = jn (rks F R l) := by
  rw [accT_jn F R l R (Nat.le_refl _), List.take_of_length_le (by rw [rks_len]; omega)]

theorem rk_ok {F : Nat} {l : List Int} (h : okRow l) (r : Nat) : okRow (rk F l r) := by
  intro x hx
  unfold rk at hx
  exact h x (List.mem_of_mem_drop (List.mem_of_mem_take hx))
theorem rk_le (F : Nat) (l : List Int) (r : Nat) : (rk F l r).length ≤ F := by unfold rk; rw [List.length_take]; omega
/-- the text of a valid board is read as that board. -/
theorem parse_text {f r : Nat} {l : List Int} (hf0 : 3 ≤ f) (hf1 : f ≤ 8) (hr0 : 3 ≤ r) (hr1 : r ≤ 8) (hl : l.length = r * f) (hok : okRow l) : parseB (accT f r l r) = some (f, r, l) := by
  have hcl : ∀ t ∈ rks f r l, clean t := by
    intro t ht
    unfold rks at ht
    obtain ⟨i, _, rfl⟩ := List.mem_map.1 ht
    exact rowT_clean _ (rk_ok hok _) (Nat.le_trans (rk_le f l _) hf1)
  have hs : spl (accT f r l r) = rks f r l := by
    rw [text_jn]
    exact jn_spl (by intro e; have := congrArg List.length e; simp [rks_len] at this; omega) hcl
  have inv : ∀ m, m ≤ r → brT (rks f r l) m = some (if m = 0 then 0 else f, l.take (m * f)) := by
    intro m
    induction m with
    | zero => intro _; simp [brT]
    | succ m ih =>
      intro hm
      rw [brT_succ _ m (by rw [rks_len]; omega), ih (by omega), rks_len, rks_at (by omega), show r - 1 - (r - 1 - m) = m by omega]
      have hlen := rk_len (F := f) (R := r) (r := m) hl (by omega)
      have hpr := prow_text (rk f l m) (rk_ok hok m) (by omega)
      have hmul : (m + 1) * f ≤ r * f := Nat.mul_le_mul_right f hm
      rw [Nat.add_mul] at hmul
      simp only [brS, hpr, hlen]
      rw [if_neg, if_neg (by omega)]
      · congr 2
        unfold rk
        rw [Nat.add_mul, Nat.one_mul, List.take_add]
      · rw [List.length_take]
        by_cases h0 : m = 0
        · subst h0; simp; omega
        · rw [if_neg h0]; omega
  unfold parseB
  rw [hs, rks_len, if_neg (by omega), inv r (Nat.le_refl _), if_neg (by omega), List.take_of_length_le (by omega)]
  rfl
/-- what is read as a board is the text of it, and it is valid. -/
theorem text_parse {L : List UInt8} {f r : Nat} {ps : List Int} (h : parseB L = some (f, r, ps)) : 3 ≤ f ∧ f ≤ 8 ∧ 3 ≤ r ∧ r ≤ 8 ∧ ps.length = r * f ∧ okRow ps ∧ accT f r ps r = L := by
  unfold parseB at h
  split at h
  · simp at h
  · rename_i hn
    obtain ⟨ts, hts⟩ : ∃ ts, spl L = ts := ⟨_, rfl⟩
    have hj := spl_jn L
    rw [hts] at h hn hj
    cases hb : brT ts ts.length with
    | none => rw [hb] at h; simp at h
    | some st =>
      obtain ⟨f', ps'⟩ := st
      rw [hb] at h
      simp only [Option.map_some, Option.some.injEq, Prod.mk.injEq] at h
      obtain ⟨rfl, rfl, rfl⟩ := h
      have inv : ∀ m, m ≤ ts.length → ∀ f ps, brT ts m = some (f, ps) → (m = 0 → ps = []) ∧ (0 < m → 3 ≤ f ∧ f ≤ 8) ∧ ps.length = m * f ∧ okRow ps ∧ ∀ i, i < m → rowT (rk f ps i) = ts[ts.length - 1 - i]?.getD [] := by
        intro m
        induction m with
        | zero =>
          intro _ f ps h
          simp [brT] at h
          obtain ⟨rfl, rfl⟩ := h
          exact ⟨fun _ => rfl, fun h => by omega, by simp, fun x hx => by simp at hx, fun i hi => by omega⟩
        | succ m ih =>
          intro hm f ps h
          rw [brT_succ _ m (by omega)] at h
          cases hp : brT ts m with
          | none => rw [hp] at h; simp [brS] at h
          | some st =>
            obtain ⟨f0, ps0⟩ := st
            obtain ⟨i0, i1, i2, i3, i4⟩ := ih (by omega) f0 ps0 hp
            rw [hp] at h
            simp only [brS] at h
            cases hw : prow (ts[ts.length - 1 - m]?.getD []) with
            | none => rw [hw] at h; simp at h
            | some row =>
              rw [hw] at h
              simp only at h
              split at h
              · simp at h
              · rename_i hc
                simp only [Option.some.injEq, Prod.mk.injEq] at h
                obtain ⟨rfl, rfl⟩ := h
                obtain ⟨hrok, hrt⟩ := text_prow hw
                have hrow : 3 ≤ row.length ∧ row.length ≤ 8 := by omega
                have hf : 0 < m → row.length = f0 := by
                  intro h0
                  have h3 := (i1 h0).1
                  have : 0 < ps0.length := by rw [i2]; exact Nat.mul_pos h0 (by omega)
                  apply Classical.byContradiction
                  intro hne
                  exact hc (Or.inr (Or.inr ⟨this, hne⟩))
                have hlen0 : ps0.length = m * row.length := by
                  by_cases h0 : m = 0
                  · rw [i0 h0, h0]; simp
                  · rw [i2, hf (by omega)]
                refine ⟨fun h => by omega, fun _ => hrow, by rw [List.length_append, hlen0, Nat.add_mul]; omega, ?_, ?_⟩
                · intro x hx
                  rcases List.mem_append.1 hx with hx | hx
                  · exact i3 x hx
                  · exact hrok x hx
                · intro i hi
                  by_cases him : i < m
                  · rw [← i4 i him, ← hf (by omega)]
                    unfold rk
                    have hmul : (i + 1) * row.length ≤ m * row.length := Nat.mul_le_mul_right _ (by omega)
                    rw [Nat.add_mul] at hmul
                    rw [List.drop_append_of_le_length (by omega), List.take_append_of_le_length (by rw [List.length_drop]; omega)]
                  · obtain rfl : i = m := by omega
                    have e : rk row.length (ps0 ++ row) i = row := by
                      unfold rk
                      rw [← hlen0, List.drop_left, List.take_of_length_le (Nat.le_refl _)]
                    rw [e, hrt]
      obtain ⟨_, i1, i2, i3, i4⟩ := inv ts.length (Nat.le_refl _) f' ps' hb
      have h38 := i1 (by omega)
      refine ⟨h38.1, h38.2, by omega, by omega, i2, i3, ?_⟩
      rw [text_jn, ← hj]
      congr 1
      apply List.ext_getElem
      · rw [rks_len]
      · intro k h1 h2
        have h3 := rks_at (F := f') (l := ps') h2
        rw [List.getElem?_eq_getElem h1] at h3
        have h4 := i4 (ts.length - 1 - k) (by omega)
        rw [show ts.length - 1 - (ts.length - 1 - k) = k by omega, List.getElem?_eq_getElem h2] at h4
        exact h3.trans h4

end Go.Proofs.YtpcfgeggjfbfjaaDoor
