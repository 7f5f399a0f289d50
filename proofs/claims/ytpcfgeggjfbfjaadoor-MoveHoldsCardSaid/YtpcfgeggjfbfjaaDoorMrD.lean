/- Moves, by the document: which lists are the same. -/
import Derived.Test.YtpcfgeggjfbfjaaDoorMvC
namespace Go.Proofs.YtpcfgeggjfbfjaaDoor
open Go.RowKit Go.Sort

set_option maxRecDepth 100000 in
set_option maxHeartbeats 2000000 in
theorem rmSame_eq (l : List Mv) (A1 A2 : Option Addr) (c1 c2 : Nat) (hl : l.length ≤ 100000) (w : World) (hA : RdM w w.heap.size A1 l) (hA2 : RdM w w.heap.size A2 l) :
    Calls Tryd.prog 22 #[.slice A1 l.length c1, .slice A2 l.length c2] w fun e w' => e = .returned (.bool true) ∧ Below w.heap.size w w' := by
  go_enter Tryd.func22, Tryd.ntmps22
  go_wp2
  go_loopw [5] (fun i wr => ∃ k : Nat, k ≤ l.length ∧ i = .int .i64 k ∧ Below w.heap.size w wr) (fun i _ => l.length - (intOf i).toNat)
  case atStart => exact ⟨0, by omega, rfl, Below.refl _ _⟩
  case round =>
    obtain ⟨k, hk, rfl, hB⟩ := hrel
    have HB := Lib.hid hB
    by_cases hlt : k < l.length
    · obtain ⟨m, hm⟩ : ∃ m, l[k]? = some m := ⟨_, List.getElem?_eq_getElem hlt⟩
      obtain ⟨ad, rfl, had, m0, m1, m2⟩ := (rdMv hB hA).at_ hm
      obtain ⟨ad2, rfl, had2, n0, n1, n2⟩ := (rdMv hB hA2).at_ hm
      obtain ⟨x, y, p⟩ := m
      simp only at m0 m1 m2 n0 n1 n2
      clear hA hA2 hm hB
      go_wp2_with fail
      go_quiet (fail)
      go_wp2
      go_roundw
      case rel => exact ⟨k + 1, by omega, by go_num, drawn HB.out _⟩
      case measure => simp [intOf]; omega
    · clear hA hA2 hB
      go_wp2
      go_ret
      exact ⟨rfl, HB.out⟩

set_option maxRecDepth 100000 in
set_option maxHeartbeats 2000000 in
theorem rmSame_len (l k : List Mv) (A1 A2 : Option Addr) (c1 c2 : Nat) (h : l.length ≠ k.length) (w : World) :
    Calls Tryd.prog 22 #[.slice A1 l.length c1, .slice A2 k.length c2] w fun e w' => e = .returned (.bool false) ∧ Below w.heap.size w w' := by
  have hq : ((l.length : Int) != (k.length : Int)) = true := bne_iff_ne.2 (by omega)
  clear h
  go_enter Tryd.func22, Tryd.ntmps22
  go_wp2
  go_ret
  exact ⟨rfl, Below.refl _ _⟩

set_option maxRecDepth 100000 in
set_option maxHeartbeats 2000000 in
theorem rmSame_ne (l q : List Mv) (A1 A2 : Option Addr) (c1 c2 : Nat) (hl : l.length ≤ 100000) (he : q.length = l.length) (n : Nat) (hn : n < l.length) (hne : l[n]? ≠ q[n]?) (heq : ∀ j, j < n → l[j]? = q[j]?) (w : World) (hA : RdM w w.heap.size A1 l) (hA2 : RdM w w.heap.size A2 q) :
    Calls Tryd.prog 22 #[.slice A1 l.length c1, .slice A2 q.length c2] w fun e w' => e = .returned (.bool false) ∧ Below w.heap.size w w' := by
  have HE := Lib.hid heq
  have HL := Lib.hid he
  rw [he]
  clear heq he
  go_enter Tryd.func22, Tryd.ntmps22
  go_wp2
  go_loopw [5] (fun i wr => ∃ k : Nat, k ≤ n ∧ i = .int .i64 k ∧ Below w.heap.size w wr) (fun i _ => l.length - (intOf i).toNat)
  case atStart => exact ⟨0, by omega, rfl, Below.refl _ _⟩
  case round =>
    obtain ⟨k, hk, rfl, hB⟩ := hrel
    have HB := Lib.hid hB
    by_cases hlt : k < n
    · have hkl : k < l.length := by omega
      obtain ⟨m, hm⟩ : ∃ m, l[k]? = some m := ⟨_, List.getElem?_eq_getElem hkl⟩
      have hm2 : q[k]? = some m := by rw [← HE.out k hlt, hm]
      obtain ⟨ad, rfl, had, m0, m1, m2⟩ := (rdMv hB hA).at_ hm
      obtain ⟨ad2, rfl, had2, n0, n1, n2⟩ := (rdMv hB hA2).at_ hm2
      obtain ⟨x, y, p⟩ := m
      simp only at m0 m1 m2 n0 n1 n2
      clear hA hA2 hm hm2 hB hne
      go_wp2_with fail
      go_quiet (fail)
      go_wp2
      go_roundw
      case rel => exact ⟨k + 1, by omega, by go_num, drawn HB.out _⟩
      case measure => simp [intOf]; omega
    · obtain rfl : k = n := by omega
      obtain ⟨m, hm⟩ : ∃ m, l[k]? = some m := ⟨_, List.getElem?_eq_getElem hn⟩
      obtain ⟨m', hm2⟩ : ∃ m, q[k]? = some m := ⟨_, List.getElem?_eq_getElem (by rw [HL.out]; exact hn)⟩
      obtain ⟨ad, rfl, had, m0, m1, m2⟩ := (rdMv hB hA).at_ hm
      obtain ⟨ad2, rfl, had2, n0, n1, n2⟩ := (rdMv hB hA2).at_ hm2
      obtain ⟨x, y, p⟩ := m
      obtain ⟨x', y', p'⟩ := m'
      rw [hm, hm2] at hne
      have hne2 : x ≠ x' ∨ (x = x' ∧ y ≠ y') ∨ (x = x' ∧ y = y' ∧ p ≠ p') := by
        by_cases h1 : x = x'
        · by_cases h2 : y = y'
          · exact .inr (.inr ⟨h1, h2, fun h3 => hne (by rw [h1, h2, h3])⟩)
          · exact .inr (.inl ⟨h1, h2⟩)
        · exact .inl h1
      simp only at m0 m1 m2 n0 n1 n2
      clear hA hA2 hm hm2 hB hne
      rcases hne2 with h | ⟨rfl, h⟩ | ⟨rfl, rfl, h⟩
      · have hb : (x == x') = false := beq_eq_false_iff_ne.2 h
        clear h
        go_wp2_with fail
        go_quiet (fail)
        go_wp2
        go_ret
        exact ⟨rfl, drawn HB.out _⟩
      · have hb : (y == y') = false := beq_eq_false_iff_ne.2 h
        clear h
        go_wp2_with fail
        go_quiet (fail)
        go_wp2
        go_ret
        exact ⟨rfl, drawn HB.out _⟩
      · have hb : (p == p') = false := beq_eq_false_iff_ne.2 h
        clear h
        go_wp2_with fail
        go_quiet (fail)
        go_wp2
        go_ret
        exact ⟨rfl, drawn HB.out _⟩

/-- two lists are compared. -/
theorem rmSame_any (l q : List Mv) (A1 A2 : Option Addr) (c1 c2 : Nat) (hl : l.length ≤ 100000) (b : Bool) (hb : b = true ↔ l = q) (w : World) (hA : RdM w w.heap.size A1 l) (hA2 : RdM w w.heap.size A2 q) :
    Calls Tryd.prog 22 #[.slice A1 l.length c1, .slice A2 q.length c2] w fun e w' => e = .returned (.bool b) ∧ Below w.heap.size w w' := by
  by_cases h : l = q
  · subst h
    rw [b_true hb rfl]
    exact rmSame_eq l A1 A2 c1 c2 hl w hA hA2
  · rw [b_false hb h]
    by_cases he : l.length = q.length
    · obtain ⟨j, hj⟩ : ∃ j : Nat, l[j]? ≠ q[j]? := by
        by_cases hh : ∃ j : Nat, l[j]? ≠ q[j]?
        · exact hh
        · refine absurd (List.ext_getElem? fun j => ?_) h
          by_cases h1 : l[j]? = q[j]?
          · exact h1
          · exact absurd ⟨j, h1⟩ hh
      obtain ⟨n, _, hn, hlow⟩ := least (P := fun n => l[n]? ≠ q[n]?) j hj
      have hnl : n < l.length := by
        rcases Nat.lt_or_ge n l.length with h1 | h1
        · exact h1
        · exact absurd (by rw [List.getElem?_eq_none h1, List.getElem?_eq_none (by omega)]) hn
      refine rmSame_ne l q A1 A2 c1 c2 hl he.symm n hnl hn (fun i hi => ?_) w hA hA2
      by_cases h1 : l[i]? = q[i]?
      · exact h1
      · exact absurd h1 (hlow i hi)
    · exact rmSame_len l q A1 A2 c1 c2 he w

end Go.Proofs.YtpcfgeggjfbfjaaDoor
