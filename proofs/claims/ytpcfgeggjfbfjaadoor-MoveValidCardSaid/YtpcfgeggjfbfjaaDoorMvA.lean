/- Moves: what a valid move is, what its text is, and what reading it is: functions on numbers and lists; no program in them. -/
import Derived.Test.YtpcfgeggjfbfjaaDoorSqQ
import Derived.Test.YtpcfgeggjfbfjaaDoorPcC
import Derived.Test.YtpcfgeggjfbfjaaDoorBdI
namespace Go.Proofs.YtpcfgeggjfbfjaaDoor
open Go.RowKit

/-- a move. -/
structure Mv where
  a : Int
  b : Int
  p : Int
  deriving DecidableEq

/-- a move as a value, and the cells of a row of moves. -/
def Mv.cells (m : Mv) : List Value := [.int .i64 m.a, .int .i64 m.b, .int .i8 m.p]
def vmvs (l : List Mv) : List Value := l.flatMap Mv.cells

def okPr (p : Int) : Prop := p = 0 ∨ (2 ≤ p ∧ p ≤ 5)
instance (p : Int) : Decidable (okPr p) := inferInstanceAs (Decidable (p = 0 ∨ (2 ≤ p ∧ p ≤ 5)))
def okM (F R : Int) (m : Mv) : Prop := vat F R m.a ∧ vat F R m.b ∧ m.a ≠ m.b ∧ okPr m.p

/-- the letter of a promotion. -/
def prL (p : Int) : List UInt8 := if p = 0 then [] else [UInt8.ofNat (lt p)]
def mvT (F : Int) (m : Mv) : List UInt8 := (nameB F m.a).data.toList ++ ((nameB F m.b).data.toList ++ prL m.p)

/-- the square with a name. -/
def nmV (F R : Int) (w : List UInt8) : Option Int := ((List.range (F * R).toNat).find? fun n : Nat => (nameB F (n : Int)).data.toList == w).map fun n : Nat => (n : Int)
theorem nameB_two (F a : Int) : (nameB F a).data.toList = [UInt8.ofNat (97 + a % F).toNat, UInt8.ofNat (49 + a / F).toNat] := rfl
theorem nmB_eq {s t : ByteArray} (h : s.data.toList = t.data.toList) : s = t := by
  cases s; cases t
  simp only [Array.toList_inj] at h
  rw [h]
theorem nmV_name {F R a : Int} (h : vat F R a) : nmV F R (nameB F a).data.toList = some a := by
  obtain ⟨hv, h0, h1⟩ := id h
  unfold nmV
  have hm : a.toNat ∈ List.range (F * R).toNat := List.mem_range.2 (by omega)
  cases e : (List.range (F * R).toNat).find? fun n : Nat => (nameB F (n : Int)).data.toList == (nameB F a).data.toList with
  | none =>
    have := List.find?_eq_none.1 e _ hm
    simp [Int.toNat_of_nonneg h0] at this
  | some n =>
    have h2 := List.find?_some e
    have h3 := List.mem_range.1 (List.mem_of_find?_eq_some e)
    have h4 : nameB F (n : Int) = nameB F a := nmB_eq (by simpa using h2)
    have := nameB_inj ⟨hv, by omega, by omega⟩ h h4
    simp [this]
theorem nmV_yes {F R a : Int} {w : List UInt8} (hv : vsz F R) (h : nmV F R w = some a) : vat F R a ∧ (nameB F a).data.toList = w := by
  unfold nmV at h
  cases e : (List.range (F * R).toNat).find? fun n : Nat => (nameB F (n : Int)).data.toList == w with
  | none => rw [e] at h; simp at h
  | some n =>
    rw [e] at h
    simp at h
    subst h
    have h2 := List.find?_some e
    have h3 := List.mem_range.1 (List.mem_of_find?_eq_some e)
    exact ⟨⟨hv, by omega, by omega⟩, by simpa using h2⟩
theorem nmV_no {F R : Int} {w : List UInt8} (h : nmV F R w = none) : ∀ a, vat F R a → (nameB F a).data.toList ≠ w := fun a ha e => by
  have := nmV_name ha
  rw [e, h] at this
  cases this

/-- the kind of piece with a letter, of those that a pawn becomes; none for other texts. -/
def prV (w : List UInt8) : Option Int :=
  match w with
  | [] => some 0
  | [c] => if 2 ≤ piP c.toNat ∧ piP c.toNat ≤ 5 then some (piP c.toNat) else none
  | _ => none
theorem prV_prL {p : Int} (h : okPr p) : prV (prL p) = some p := by
  unfold prL
  rcases h with h | ⟨h0, h1⟩
  · subst h; rfl
  · rw [if_neg (by omega)]
    unfold prV
    have hl := lt_rng (p := p) ⟨by omega, by omega⟩ (by omega)
    have e : (UInt8.ofNat (lt p)).toNat = lt p := u8_lt _ (by omega)
    simp only [e]
    rw [piP_lt ⟨by omega, by omega, by omega⟩, if_pos ⟨h0, h1⟩]
theorem prV_some {w : List UInt8} {p : Int} (h : prV w = some p) : okPr p ∧ prL p = w := by
  unfold prV at h
  split at h
  · cases h; exact ⟨.inl rfl, rfl⟩
  · rename_i c
    split at h
    · rename_i h2
      cases h
      refine ⟨.inr h2, ?_⟩
      unfold prL
      rw [if_neg (by omega), (piP_ok (c := c.toNat) (by omega)).2]
      simp
    · cases h
  · cases h

/-- the move with a text. -/
def rdM (F R : Int) (L : List UInt8) : Option Mv :=
  match nmV F R (L.take 2), nmV F R ((L.drop 2).take 2), prV (L.drop 4) with
  | some a, some b, some p => if a = b then none else some ⟨a, b, p⟩
  | _, _, _ => none
theorem rdM_text {F R : Int} {m : Mv} (h : okM F R m) : rdM F R (mvT F m) = some m := by
  obtain ⟨h1, h2, h3, h4⟩ := h
  unfold rdM mvT
  have e1 : ((nameB F m.a).data.toList ++ ((nameB F m.b).data.toList ++ prL m.p)).take 2 = (nameB F m.a).data.toList := by rw [nameB_two]; rfl
  have e2 : (((nameB F m.a).data.toList ++ ((nameB F m.b).data.toList ++ prL m.p)).drop 2).take 2 = (nameB F m.b).data.toList := by rw [nameB_two, nameB_two]; rfl
  have e3 : ((nameB F m.a).data.toList ++ ((nameB F m.b).data.toList ++ prL m.p)).drop 4 = prL m.p := by rw [nameB_two, nameB_two]; rfl
  rw [e1, e2, e3, nmV_name h1, nmV_name h2, prV_prL h4]
  simp [h3]
theorem text_rdM {F R : Int} {L : List UInt8} {m : Mv} (hv : vsz F R) (h : rdM F R L = some m) : okM F R m ∧ mvT F m = L := by
  unfold rdM at h
  split at h
  · rename_i a b p ha hb hp
    split at h
    · cases h
    · rename_i hne
      cases h
      obtain ⟨a1, a2⟩ := nmV_yes hv ha
      obtain ⟨b1, b2⟩ := nmV_yes hv hb
      obtain ⟨p1, p2⟩ := prV_some hp
      refine ⟨⟨a1, b1, hne, p1⟩, ?_⟩
      unfold mvT
      simp only
      rw [a2, b2, p2, ← List.append_assoc]
      have : L.take 2 ++ (L.drop 2).take 2 = L.take 4 := by
        rw [show (4 : Nat) = 2 + 2 from rfl, List.take_add]
      rw [this, List.take_append_drop]
  · cases h
theorem mvT_len (F : Int) (m : Mv) : 4 ≤ (mvT F m).length ∧ (mvT F m).length ≤ 5 := by
  unfold mvT prL
  rw [nameB_two, nameB_two]
  split <;> simp
end Go.Proofs.YtpcfgeggjfbfjaaDoor
