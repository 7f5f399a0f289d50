/- A range over the program's ray whose body writes into one box, may be left early by a break, and is left by a return only at a square that is not the next one of the ray (which never comes). -/
import Derived.Test.YtejlbjbmpdddkaaDoorRpN
namespace Go.Proofs.YtejlbjbmpdddkaaDoor
open Go.RowKit Go.Shelf

def rayPostX {L : List Nat} (S : Nat) (G : List (El L) → Value) (p : List (El L) → Prop) (px : Nat → List (El L) → Prop) (xs : List (El L)) (W : World) : Exit → Act → World → Prop
  | .normal, _, W' => (W'.cell? ⟨S, 0, none⟩ = some (G xs) ∧ W'.frozen? ⟨S, 0, none⟩ = false) ∧ ButS S W W' ∧ p xs
  | .ret, _, W' => KeepsOthers W W' ∧ ¬ vl xs <+: L
  | .exit id, _, W' => (W'.cell? ⟨S, 0, none⟩ = some (G xs) ∧ W'.frozen? ⟨S, 0, none⟩ = false) ∧ ButS S W W' ∧ px id xs
  | .goto _, _, _ => False
  | .panic _, _, _ => False
  | .outgrown, _, _ => False

theorem next_ray {L : List Nat} {pre : List (El L)} {x : El L} (h : vl (pre ++ [x]) <+: L) (hl : pre.length < L.length) : x.1 = L[pre.length]'hl := by
  obtain ⟨t, ht⟩ := h
  rw [vl_snoc] at ht
  have hv : (vl pre).length = pre.length := vl_len pre
  have this := congrArg (fun q : List Nat => q[pre.length]?) ht
  simp only [List.append_assoc] at this
  rw [List.getElem?_append_right (by omega), List.getElem?_eq_getElem hl, hv, Nat.sub_self] at this
  simp at this
  have this := congrArg some this.symm
  exact (Option.some.inj this).symm

theorem range_rayX {F R a f r : Int} {L : List Nat} (hL : RayIs F R a f r L) (f0 : -9223372036854775808 ≤ f) (f1 : f ≤ 9223372036854775807) (r0 : -9223372036854775808 ≤ r) (r1 : r ≤ 9223372036854775807) {n : Nat} (hn : 2 ≤ n)
    {g : Operand} {ps : Array Tmp} (hps : ps.size = 1) {assign body : Code} {Q : Exit → Act → World → Prop} {A : Act} {V : World} (b S : Nat) (hSb : S < b ∨ b + 4 ≤ S) (hb : b + 4 ≤ V.heap.size)
    (hg : A.eval g = .func (.func 26) #[] #[.pointer (some ⟨b, 0, none⟩), .pointer (some ⟨b + 1, 0, none⟩), .pointer (some ⟨b + 1 + 1, 0, none⟩), .pointer (some ⟨b + 1 + 1 + 1, 0, none⟩)])
    (c0 : V.cell? ⟨b, 0, none⟩ = some (.int .i64 F)) (c1 : V.cell? ⟨b, 1, none⟩ = some (.int .i64 R)) (ca : V.cell? ⟨b + 1, 0, none⟩ = some (.int .i64 a)) (cf : V.cell? ⟨b + 1 + 1, 0, none⟩ = some (.int .i64 f)) (cr : V.cell? ⟨b + 1 + 1 + 1, 0, none⟩ = some (.int .i64 r))
    (G : List (El L) → Value) (p : List (El L) → Prop) (px : Nat → List (El L) → Prop)
    (v0 : V.cell? ⟨S, 0, none⟩ = some (G [])) (v1 : V.frozen? ⟨S, 0, none⟩ = false) (p0 : p []) (a₁ : El L → Act)
    (hassign : ∀ (l : Nat) (x : El L) (W : World) (K : Act → World → Prop), K (a₁ x) W →
      assign.wpIn (Fence.wide.inRound l) (n - 1 - 1) Tryd.prog (Exit.then K (fun _ _ _ => False)) { tmps := (ps.zip #[Value.int .i64 (x.1 : Int)]).foldl (fun t (p, v) => t.setIfInBounds p v) A.tmps, defers := [] } W)
    (hbody : ∀ (l : Nat) (pre : List (El L)) (x : El L) (W : World), W.cell? ⟨S, 0, none⟩ = some (G pre) → W.frozen? ⟨S, 0, none⟩ = false → ButS S V W → p pre → pre.length < L.length → body.wpIn (Fence.wide.inRound l) (n - 1 - 1) Tryd.prog (rayPostX S G p px (pre ++ [x]) W) (a₁ x) W)
    (hdone : ∀ (D : Nat) (xs : List (El L)) (W : World), V.heap.size ≤ D → vl xs = L → W.cell? ⟨S, 0, none⟩ = some (G xs) → W.frozen? ⟨S, 0, none⟩ = false → ButS S V W → p xs → W.heap[D]? = some (.deferred (some [])) → Q .normal { A with defers := { target := .collected D, args := #[] } :: A.defers } W)
    (hstop : ∀ (D id : Nat) (pre : List (El L)) (W : World), V.heap.size ≤ D → vl pre <+: L → W.cell? ⟨S, 0, none⟩ = some (G pre) → W.frozen? ⟨S, 0, none⟩ = false → ButS S V W → px id pre → W.heap[D]? = some (.deferred (some [])) → (Code.exit id).wpIn Fence.wide n Tryd.prog Q { A with defers := { target := .collected D, args := #[] } :: A.defers } W) :
    (Code.rangeFunc g ps assign body).wpIn Fence.wide n Tryd.prog Q A V := by
  have hOx : OwnFrom V.heap.size (fun (pre : Nat × List (El L)) W => (W.cell? ⟨S, 0, none⟩ = some (G pre.2) ∧ W.frozen? ⟨S, 0, none⟩ = false) ∧ ButS S V W ∧ px pre.1 pre.2) :=
    OwnFrom.and (ownFrom_box _ (fun s : Nat × List (El L) => G s.2)) (OwnFrom.and (ownFrom_but (Nat.le_refl _)) (ownFrom_pure _ _))
  refine wpIn_rangeFunc_ownF rfl (by omega) (gf := 26) hg trivial (enters_of Tryd.func26 (by kernel_rfl) rfl)
    (ray_stops (n - 1) b 0 F R a f r L hL (by omega) f0 f1 r0 r1 V (Nat.zero_le _) hb c0 c1 ca cf cr) kpR_t (kpR_b (Nat.zero_le _) hb) (Below.refl _ _) (fun _ => hps.symm)
    (fun pre W => (W.cell? ⟨S, 0, none⟩ = some (G pre) ∧ W.frozen? ⟨S, 0, none⟩ = false) ∧ ButS S V W ∧ p pre)
    (fun cc pre W => (cc = .ret ∧ ¬ vl pre <+: L) ∨ (∃ id, cc = .exit id ∧ ((W.cell? ⟨S, 0, none⟩ = some (G pre) ∧ W.frozen? ⟨S, 0, none⟩ = false) ∧ ButS S V W ∧ px id pre)))
    (OwnFrom.and (ownFrom_box _ _) (OwnFrom.and (ownFrom_but (Nat.le_refl _)) (ownFrom_pure _ _)))
    (fun cc s X Y row hs hg hr => hs.elim (fun h => .inl h) (fun ⟨id, e, h⟩ => .inr ⟨id, e, hOx (id, s) X Y row h hg hr⟩))
    ⟨⟨v0, v1⟩, ButS.refl _ _, p0⟩ a₁ hassign ?_ ?_ ?_
  · rintro l pre x W ⟨⟨hS, hf⟩, hB, hp⟩ hlen
    refine wpIn_mono (hbody l pre x W hS hf hB hp hlen) ?_
    intro e a' W' h
    have hbW : b + 4 ≤ W.heap.size := Nat.le_trans hb hB.size
    cases e with
    | normal => exact ⟨keeps_but h.2.1 hS, h.2.1.kpR hbW hSb, h.1, hB.trans h.2.1, h.2.2⟩
    | ret => exact ⟨h.1, .inl ⟨rfl, h.2⟩⟩
    | exit id => exact ⟨keeps_but h.2.1 hS, .inr ⟨id, rfl, h.1, hB.trans h.2.1, h.2.2⟩⟩
    | goto t => exact h.elim
    | panic c => exact h.elim
    | outgrown => exact h.elim
  · rintro D xs W hD hxs ⟨⟨hS, hf⟩, hB, hp⟩ hK
    exact hdone D xs W hD hxs hS hf hB hp hK
  · rintro D c pre W hD hpre h hK
    rcases h with ⟨rfl, h⟩ | ⟨id, rfl, ⟨hS, hf⟩, hB, hp⟩
    · exact absurd hpre h
    · exact hstop D id pre W hD hpre hS hf hB hp hK

end Go.Proofs.YtejlbjbmpdddkaaDoor
