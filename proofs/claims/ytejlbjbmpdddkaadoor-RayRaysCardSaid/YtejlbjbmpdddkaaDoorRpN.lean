/- Ranges over the program's ray whose body writes into one box: one law for all of them; marks of several ranges, one behind the other, among the deferred calls. -/
import Derived.RangeFuncFrom
import Derived.Test.YtejlbjbmpdddkaaDoorRpM
import Derived.Test.YtejlbjbmpdddkaaDoorSqU
namespace Go.Proofs.YtejlbjbmpdddkaaDoor
open Go.RowKit Go.Shelf

theorem vl_lt {F R x y f r : Int} (hv : vsz F R) {pre : List (El (rayL F R x y f r))} : ∀ i ∈ vl pre, (i : Int) < F * R := by
  intro i hi
  obtain ⟨e, _, rfl⟩ := List.mem_map.1 hi
  exact rayL_lt hv _ e.2
theorem vl_64 {F R x y f r : Int} (hv : vsz F R) {pre : List (El (rayL F R x y f r))} : ofL (vl pre) < 18446744073709551616 := by
  have := ofL_lt (l := vl pre) (n := 64) (fun i hi => by have := vl_lt hv i hi; have := (vsz_mul hv).2; omega)
  simpa using this
theorem el_64 {F R : Int} (hv : vsz F R) {T : List Nat} (hT : ∀ i ∈ T, (i : Int) < F * R) : ofL T < 18446744073709551616 := by
  have := ofL_lt (l := T) (n := 64) (fun i hi => by have := hT i hi; have := (vsz_mul hv).2; omega)
  simpa using this

/-- all but block S is as it was. -/
def ButS (S : Nat) (V W : World) : Prop := W.os = V.os ∧ W.tape = V.tape ∧ W.output = V.output ∧ V.heap.size ≤ W.heap.size ∧ ∀ k, k < V.heap.size → k ≠ S → W.heap[k]? = V.heap[k]?
theorem ButS.refl (S : Nat) (V : World) : ButS S V V := ⟨rfl, rfl, rfl, Nat.le_refl _, fun _ _ _ => rfl⟩
theorem ButS.size {S : Nat} {V W : World} (h : ButS S V W) : V.heap.size ≤ W.heap.size := h.2.2.2.1
theorem ButS.trans {S : Nat} {A B C : World} (h : ButS S A B) (k : ButS S B C) : ButS S A C :=
  ⟨k.1.trans h.1, k.2.1.trans h.2.1, k.2.2.1.trans h.2.2.1, Nat.le_trans h.size k.size, fun i hi hn => (k.2.2.2.2 i (Nat.lt_of_lt_of_le hi h.size) hn).trans (h.2.2.2.2 i hi hn)⟩
theorem ButS.of {S : Nat} {A B : World} (h : Below A.heap.size A B) : ButS S A B := ⟨h.os, h.tape, h.output, h.size, fun k hk _ => h.block k hk⟩
theorem ButS.drew {S : Nat} {A B : World} (h : ButS S A B) : ButS S A B.drew := h
theorem ButS.drewN {S : Nat} {A B : World} (h : ButS S A B) (n : Nat) : ButS S A (B.drewN n) := h
theorem ButS.set {S : Nat} (A : World) (o : Nat) (v : Value) : ButS S A (A.setCell ⟨S, o, none⟩ v) := ⟨rfl, rfl, rfl, by simp, fun _ _ hn => Below.heap_setCell _ _ _ _ hn⟩
theorem ButS.below {S B : Nat} {V W : World} (h : ButS S V W) (hS : B ≤ S) (hV : B ≤ V.heap.size) : Below B V W := ⟨h.1, h.2.1, h.2.2.1, h.size, fun k hk => h.2.2.2.2 k (by omega) (by omega)⟩
theorem ButS.cell {S : Nat} {V W : World} (h : ButS S V W) {p : Addr} {v : Value} (hc : V.cell? p = some v) (hS : p.block ≠ S) : W.cell? p = some v :=
  (World.cell?_of_block (h.2.2.2.2 _ (World.block_lt_of_cell? _ _ hc) hS)).trans hc
theorem ButS.kpR {S b : Nat} {V W : World} (h : ButS S V W) (hb : b + 4 ≤ V.heap.size) (hS : S < b ∨ b + 4 ≤ S) : KpR 0 b V W :=
  ⟨h.below (Nat.zero_le _) (Nat.zero_le _), fun k h0 h1 => h.2.2.2.2 k (by omega) (by omega)⟩
theorem keeps_but {S : Nat} {V W : World} (h : ButS S V W) {v : Value} {o : Nat} (hc : V.cell? ⟨S, o, none⟩ = some v) : KeepsOthers V W := by
  refine ⟨h.size, fun k ob hk hn => ?_⟩
  by_cases e : k = S
  · subst e
    unfold World.cell? at hc
    rw [hk] at hc
    revert hc hn
    cases ob <;> simp [Obj.isCells]
  · exact (h.2.2.2.2 k (Array.getElem?_eq_some_iff.1 hk).1 e).trans hk
theorem ownFrom_but {β : Type} {S B : Nat} {V : World} (hB : V.heap.size ≤ B) : OwnFrom B (fun (_ : β) W => ButS S V W) := fun _ W W' row hs hg hr =>
  ⟨hg.os.trans hs.1, hg.tape.trans hs.2.1, hg.output.trans hs.2.2.1, Nat.le_trans hs.size hg.size, fun k hk hn =>
    (hg.block k (Nat.lt_of_lt_of_le hk hs.size) (fun e => by have := (hr k e.symm).1; omega)).trans (hs.2.2.2.2 k hk hn)⟩
theorem ownFrom_cell {β : Type} {B : Nat} (p : Addr) (g : β → Value) : OwnFrom B (fun (s : β) W => W.cell? p = some (g s)) := fun _ _ _ _ hs hg hr => cell_kept hs hg (fun r e => (hr r e).2)
theorem ownFrom_box {β : Type} {B : Nat} (p : Addr) (g : β → Value) : OwnFrom B (fun (s : β) W => W.cell? p = some (g s) ∧ W.frozen? p = false) := fun _ _ _ _ hs hg hr => ⟨cell_kept hs.1 hg (fun r e => (hr r e).2), (frozen_kept hs.1 hg (fun r e => (hr r e).2)).trans hs.2⟩

/-- how the body of a round is left that writes into box S alone. -/
def rayPost {α : Type} (S : Nat) (G : List α → Value) (p : List α → Prop) (Gx : List α → Value) (px : Code → List α → Prop) (xs : List α) (W : World) : Exit → Act → World → Prop
  | .normal, _, W' => (W'.cell? ⟨S, 0, none⟩ = some (G xs) ∧ W'.frozen? ⟨S, 0, none⟩ = false) ∧ ButS S W W' ∧ p xs
  | .ret, _, W' => (W'.cell? ⟨S, 0, none⟩ = some (Gx xs) ∧ W'.frozen? ⟨S, 0, none⟩ = false) ∧ ButS S W W' ∧ px .ret xs
  | .exit id, _, W' => (W'.cell? ⟨S, 0, none⟩ = some (Gx xs) ∧ W'.frozen? ⟨S, 0, none⟩ = false) ∧ ButS S W W' ∧ px (.exit id) xs
  | .goto _, _, _ => False
  | .panic _, _, _ => False
  | .outgrown, _, _ => False

/-- A RANGE OVER THE PROGRAM's RAY. -/
theorem range_ray {F R a f r : Int} {L : List Nat} (hL : RayIs F R a f r L) (f0 : -9223372036854775808 ≤ f) (f1 : f ≤ 9223372036854775807) (r0 : -9223372036854775808 ≤ r) (r1 : r ≤ 9223372036854775807) {n : Nat} (hn : 2 ≤ n)
    {g : Operand} {ps : Array Tmp} (hps : ps.size = 1) {assign body : Code} {Q : Exit → Act → World → Prop} {A : Act} {V : World} (b S : Nat) (hSb : S < b ∨ b + 4 ≤ S) (hb : b + 4 ≤ V.heap.size)
    (hg : A.eval g = .func (.func 26) #[] #[.pointer (some ⟨b, 0, none⟩), .pointer (some ⟨b + 1, 0, none⟩), .pointer (some ⟨b + 1 + 1, 0, none⟩), .pointer (some ⟨b + 1 + 1 + 1, 0, none⟩)])
    (c0 : V.cell? ⟨b, 0, none⟩ = some (.int .i64 F)) (c1 : V.cell? ⟨b, 1, none⟩ = some (.int .i64 R)) (ca : V.cell? ⟨b + 1, 0, none⟩ = some (.int .i64 a)) (cf : V.cell? ⟨b + 1 + 1, 0, none⟩ = some (.int .i64 f)) (cr : V.cell? ⟨b + 1 + 1 + 1, 0, none⟩ = some (.int .i64 r))
    (G : List (El L) → Value) (p : List (El L) → Prop) (Gx : List (El L) → Value) (px : Code → List (El L) → Prop)
    (v0 : V.cell? ⟨S, 0, none⟩ = some (G [])) (v1 : V.frozen? ⟨S, 0, none⟩ = false) (p0 : p []) (a₁ : El L → Act)
    (hassign : ∀ (l : Nat) (x : El L) (W : World) (K : Act → World → Prop), K (a₁ x) W →
      assign.wpIn (Fence.wide.inRound l) (n - 1 - 1) Tryd.prog (Exit.then K (fun _ _ _ => False)) { tmps := (ps.zip #[Value.int .i64 (x.1 : Int)]).foldl (fun t (p, v) => t.setIfInBounds p v) A.tmps, defers := [] } W)
    (hbody : ∀ (l : Nat) (pre : List (El L)) (x : El L) (W : World), W.cell? ⟨S, 0, none⟩ = some (G pre) → W.frozen? ⟨S, 0, none⟩ = false → ButS S V W → p pre → pre.length < L.length → body.wpIn (Fence.wide.inRound l) (n - 1 - 1) Tryd.prog (rayPost S G p Gx px (pre ++ [x]) W) (a₁ x) W)
    (hdone : ∀ (D : Nat) (xs : List (El L)) (W : World), V.heap.size ≤ D → vl xs = L → W.cell? ⟨S, 0, none⟩ = some (G xs) → W.frozen? ⟨S, 0, none⟩ = false → ButS S V W → p xs → W.heap[D]? = some (.deferred (some [])) → Q .normal { A with defers := { target := .collected D, args := #[] } :: A.defers } W)
    (hstop : ∀ (D : Nat) (c : Code) (pre : List (El L)) (W : World), V.heap.size ≤ D → vl pre <+: L → W.cell? ⟨S, 0, none⟩ = some (Gx pre) → W.frozen? ⟨S, 0, none⟩ = false → ButS S V W → px c pre → W.heap[D]? = some (.deferred (some [])) → c.wpIn Fence.wide n Tryd.prog Q { A with defers := { target := .collected D, args := #[] } :: A.defers } W) :
    (Code.rangeFunc g ps assign body).wpIn Fence.wide n Tryd.prog Q A V := by
  refine wpIn_rangeFunc_ownF rfl (by omega) (gf := 26) hg trivial (enters_of Tryd.func26 (by kernel_rfl) rfl)
    (ray_stops (n - 1) b 0 F R a f r L hL (by omega) f0 f1 r0 r1 V (Nat.zero_le _) hb c0 c1 ca cf cr) kpR_t (kpR_b (Nat.zero_le _) hb) (Below.refl _ _) (fun _ => hps.symm)
    (fun pre W => (W.cell? ⟨S, 0, none⟩ = some (G pre) ∧ W.frozen? ⟨S, 0, none⟩ = false) ∧ ButS S V W ∧ p pre)
    (fun cc pre W => (W.cell? ⟨S, 0, none⟩ = some (Gx pre) ∧ W.frozen? ⟨S, 0, none⟩ = false) ∧ ButS S V W ∧ px cc pre)
    (OwnFrom.and (ownFrom_box _ _) (OwnFrom.and (ownFrom_but (Nat.le_refl _)) (ownFrom_pure _ _)))
    (fun cc => OwnFrom.and (ownFrom_box _ _) (OwnFrom.and (ownFrom_but (Nat.le_refl _)) (ownFrom_pure _ _)))
    ⟨⟨v0, v1⟩, ButS.refl _ _, p0⟩ a₁ hassign ?_ ?_ ?_
  · rintro l pre x W ⟨⟨hS, hf⟩, hB, hp⟩ hlen
    refine wpIn_mono (hbody l pre x W hS hf hB hp hlen) ?_
    intro e a' W' h
    have hbW : b + 4 ≤ W.heap.size := Nat.le_trans hb hB.size
    cases e with
    | normal => exact ⟨keeps_but h.2.1 hS, h.2.1.kpR hbW hSb, h.1, hB.trans h.2.1, h.2.2⟩
    | ret => exact ⟨keeps_but h.2.1 hS, h.1, hB.trans h.2.1, h.2.2⟩
    | exit id => exact ⟨keeps_but h.2.1 hS, h.1, hB.trans h.2.1, h.2.2⟩
    | goto t => exact h.elim
    | panic c => exact h.elim
    | outgrown => exact h.elim
  · rintro D xs W hD hxs ⟨⟨hS, hf⟩, hB, hp⟩ hK
    exact hdone D xs W hD hxs hS hf hB hp hK
  · rintro D c pre W hD hpre ⟨⟨hS, hf⟩, hB, hp⟩ hK
    exact hstop D c pre W hD hpre hS hf hB hp hK

/-! ### marks -/
def marks (Ds : List Nat) : List Deferred := Ds.map fun D => { target := .collected D, args := #[] }
def MarksAt (n₀ : Nat) (Ds : List Nat) (w : World) : Prop := Ds.Nodup ∧ ∀ D ∈ Ds, n₀ ≤ D ∧ w.heap[D]? = some (.deferred (some []))
theorem MarksAt.nil (n₀ : Nat) (w : World) : MarksAt n₀ [] w := ⟨List.nodup_nil, fun D h => by cases h⟩
theorem MarksAt.lt {n₀ : Nat} {Ds : List Nat} {w : World} (h : MarksAt n₀ Ds w) {D : Nat} (hD : D ∈ Ds) : D < w.heap.size := (Array.getElem?_eq_some_iff.1 (h.2 D hD).2).1
theorem MarksAt.but {n₀ S : Nat} {Ds : List Nat} {w w' : World} (h : MarksAt n₀ Ds w) (hb : ButS S w w') (hS : S < n₀) : MarksAt n₀ Ds w' :=
  ⟨h.1, fun D hD => ⟨(h.2 D hD).1, (hb.2.2.2.2 D (h.lt hD) (by have := (h.2 D hD).1; omega)).trans (h.2 D hD).2⟩⟩
theorem MarksAt.cons {n₀ S : Nat} {Ds : List Nat} {w w' : World} (h : MarksAt n₀ Ds w) (hb : ButS S w w') (hS : S < n₀) {D : Nat} (hD : w.heap.size ≤ D) (hn : n₀ ≤ D) (hk : w'.heap[D]? = some (.deferred (some []))) : MarksAt n₀ (D :: Ds) w' := by
  have h2 := h.but hb hS
  refine ⟨List.nodup_cons.2 ⟨fun hm => by have := h.lt hm; omega, h.1⟩, fun E hE => ?_⟩
  rcases List.mem_cons.1 hE with rfl | hE
  · exact ⟨hn, hk⟩
  · exact h2.2 E hE
theorem marks_cons (D : Nat) (Ds : List Nat) : { target := .collected D, args := #[] } :: marks Ds = marks (D :: Ds) := rfl
theorem leaves_marks {Fe : Fence} {n : Nat} {P : Program} {fn : Func} {tmps : Array Value} {Rr : Ending → World → Prop} {n₀ : Nat} : ∀ (Ds : List Nat) (w : World), MarksAt n₀ Ds w → (∀ w', Below n₀ w w' → LeavesIn Fe n P fn tmps Rr [] .returning w') → LeavesInM Fe n P fn tmps Rr (marks Ds) .returning w
  | [], w, _, h => h w (Below.refl _ _)
  | D :: Ds, w, hM, h => by
    have hD := hM.2 D (by simp)
    have hB : Below n₀ w (w.putObj D (.deferred none)) := (Below.refl _ _).grown (grownBy_putObj' w D _) (by have := hM.lt (D := D) (by simp); omega) (fun k e => by cases e; omega)
    refine ⟨by simp, .inl ⟨D, _, rfl, run_takeDeferred hD.2, ?_⟩⟩
    refine leaves_marks Ds _ ⟨(List.nodup_cons.1 hM.1).2, fun E hE => ?_⟩ (fun w' hw => h w' (hB.trans hw))
    have hE2 := hM.2 E (by simp [hE])
    have hne : E ≠ D := by rintro rfl; exact (List.nodup_cons.1 hM.1).1 hE
    exact ⟨hE2.1, (World.putObj_heap_other (fun e => hne (by omega))).trans hE2.2⟩

end Go.Proofs.YtejlbjbmpdddkaaDoor
