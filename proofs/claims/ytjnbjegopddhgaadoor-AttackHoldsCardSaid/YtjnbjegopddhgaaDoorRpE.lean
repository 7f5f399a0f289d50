/- Ranges over the program's ray whose body writes into one box: one law for all of them; marks of several ranges, one behind the other, among the deferred calls. -/
import Derived.RangeFuncFrom
import Derived.Test.YtjnbjegopddhgaaDoorRpM
import Derived.Test.YtjnbjegopddhgaaDoorSqZ

namespace Go.Proofs.YtjnbjegopddhgaaDoor
open Go.RowKit Go.Shelf

theorem vl_lt {F R x y f r : Int} (hv : vsz F R) {pre : List (El (rayL F R x y f r))} : ∀ i ∈ vl pre, (i : Int) < F * R := by
  intro i hi
  obtain ⟨e, _, rfl⟩ := List.mem_map.1 hi
  exact rayL_lt hv _ e.2
theorem vl_64 {F R x y f r : Int} (hv : vsz F R) {pre : List (El (rayL F R x y f r))} : ofL (vl pre) < 18446744073709551616 := by
  have := ofL_lt (l := vl pre) (n := 64) (fun i hi => by have := vl_lt hv i hi; have := (vsz_mul hv).2; omega)
  simpa using this
theorem el_64 {F R : Int} (hv : vsz F R) {T : List Nat} (hT : ∀ i ∈ T, (i : Int) < F * R) : ofL T < 18446744073709551616 := by
  have := ofL_lt (l := T) (n := 64) (fun i hi => by have := hT i hi; have := (vsz_mul hv).2; omega)
  simpa using this

/-- all but block S is as it was. -/
def ButS (S : Nat) (V W : World) : Prop := W.os = V.os ∧ W.tape = V.tape ∧ W.output = V.output ∧ V.heap.size ≤ W.heap.size ∧ ∀ k, k < V.heap.size → k ≠ S → W.heap[k]? = V.heap[k]?
theorem ButS.refl (S : Nat) (V : World) : ButS S V V := ⟨rfl, rfl, rfl, Nat.le_refl _, fun _ _ _ => rfl⟩
theorem ButS.size {S : Nat} {V W : World} (h : ButS S V W) : V.heap.size ≤ W.heap.size := h.2.2.2.1
theorem ButS.trans {S : Nat} {A B C : World} (h : ButS S A B) (k : ButS S B C) : ButS S A C :=
  ⟨k.1.trans h.1, k.2.1.trans h.2.1, k.2.2.1.trans h.2.2.1, Nat.le_trans h.size k.size, fun i hi hn => (k.2.2.2.2 i (Nat.lt_of_lt_of_le hi h.size) hn).trans (h.2.2.2.2 i hi hn)⟩
theorem ButS.of {S : Nat} {A B : World} (h : Below A.heap.size A B) : ButS S A B := ⟨h.os, h.tape, h.output, h.size, fun k hk _ => h.block k hk⟩
theorem ButS.drew {S : Nat} {A B : World} (h : ButS S A B) : ButS S A B.drew := h
theorem ButS.drewN {S : Nat} {A B : World} (h : ButS S A B) (n : Nat) : ButS S A (B.drewN n) := h
theorem ButS.set {S : Nat} (A : World) (o : Nat) (v : Value) : ButS S A (A.setCell ⟨S, o, none⟩ v) := ⟨rfl, rfl, rfl, by simp, fun _ _ hn => Below.heap_setCell _ _ _ _ hn⟩
theorem ButS.below {S B : Nat} {V W : World} (h : ButS S V W) (hS : B ≤ S) (hV : B ≤ V.heap.size) : Below B V W := ⟨h.1, h.2.1, h.2.2.1, h.size, fun k hk => h.2.2.2.2 k (by omega) (by omega)⟩
theorem ButS.cell {S : Nat} {V W : World} (h : ButS S V W) {p : Addr} {v : Value} (hc : V.cell? p = some v) (hS : p.block ≠ S) : W.cell? p = some v :=
  (World.cell?_of_block (h.2.2.2.2 _ (World.block_lt_of_cell? _ _ hc) hS)).trans hc
theorem ButS.kpR {S b : Nat} {V W : World} (h : ButS S V W) (hb : b + 4 ≤ V.heap.size) (hS : S < b ∨ b + 4 ≤ S) : KpR 0 b V W :=
  ⟨h.below (Nat.zero_le _) (Nat.zero_le _), fun k h0 h1 => h.2.2.2.2 k (by omega) (by omega)⟩
theorem keeps_but {S : Nat} {V W : World} (h : ButS S V W) {v : Value} {o : Nat} (hc : V.cell? ⟨S, o, none⟩ = some v) : KeepsOthers V W := by
  refine ⟨h.size, fun k ob hk hn => ?_⟩
  by_cases e : k = S
  · subst e
    unfold World.cell? at hc
    rw [hk] at hc
    revert hc hn
    cases ob <;> simp [Obj.isCells]
  · exact (h.2.2.2.2 k (Array.getElem?_eq_some_iff.1 hk).1 e).trans hk
theorem ownFrom_but {β : Type} {S B : Nat} {V : World} (hB : V.heap.size ≤ B) : OwnFrom B (fun (_ : β) W => ButS S V W) := fun _ W W' row hs hg hr =>
  ⟨hg.os.trans hs.1, hg.tape.trans hs.2.1, hg.output.trans hs.2.2.1, Nat.le_trans hs.size hg.size, fun k hk hn =>
    (hg.block k (Nat.lt_of_lt_of_le hk hs.size) (fun e => by have := (hr k e.symm).1; omega)).trans (hs.2.2.2.2 k hk hn)⟩
theorem ownFrom_cell {β : Type} {B : Nat} (p : Addr) (g : β → Value) : OwnFrom B (fun (s : β) W => W.cell? p = some (g s)) := fun _ _ _ _ hs hg hr => cell_kept hs hg (fun r e => (hr r e).2)
theorem ownFrom_box {β : Type} {B : Nat} (p : Addr) (g : β → Value) : OwnFrom B (fun (s : β) W => W.cell? p = some (g s) ∧ W.frozen? p = false) := fun _ _ _ _ hs hg hr => ⟨cell_kept hs.1 hg (fun r e => (hr r e).2), (frozen_kept hs.1 hg (fun r e => (hr r e).2)).trans hs.2⟩

/-- how the body of a round is left that writes into box S alone. -/
def rayPost {α : Type} (S : Nat) (G : List α → Value) (p : List α → Prop) (Gx : List α → Value) (px : Code → List α → Prop) (xs : List α) (W : World) : Exit → Act → World → Prop
  | .normal, _, W' => (W'.cell? ⟨S, 0, none⟩ = some (G xs) ∧ W'.frozen? ⟨S, 0, none⟩ = false) ∧ ButS S W W' ∧ p xs
  | .ret, _, W' => (W'.cell? ⟨S, 0, none⟩ = some (Gx xs) ∧ W'.frozen? ⟨S, 0, none⟩ = false) ∧ ButS S W W' ∧ px .ret xs
  | .exit id, _, W' => (W'.cell? ⟨S, 0, none⟩ = some (Gx xs) ∧ W'.frozen? ⟨S, 0, none⟩ = false) ∧ ButS S W W' ∧ px (.exit id) xs
  | .goto _, _, _ => False
  | .panic _, _, _ => False
  | .outgrown, _, _ => False

/-- A RANGE OVER THE PROGRAM's RAY. -/
theorem range_ray {F R a f r : Int} {L : List Nat} (hL : RayIs F R a f r L) (f0 : -9223372036854775808 ≤ f) (f1 : f ≤ 9223372036854775807) (r0 : -9223372036854775808 ≤ r) (r1 : r ≤ 9223372036854775807) {n : Nat} (hn : 2 ≤ n)
    {g : Operand} {ps : Array Tmp} (hps : ps.size = 1) {assign body : Code} {Q : Exit → Act → World → Prop} {A : Act} {V : World} (b S : Nat) (hSb : S < b ∨ b + 4 ≤ S) (hb : b + 4 ≤ V.heap.size)
    (hg : A.eval g = .func (.func 96) #[] #[.pointer (some ⟨b, 0, none⟩), .pointer (some ⟨b + 1, 0, none⟩), .pointer (some ⟨b + 1 + 1, 0, none⟩), .pointer (some ⟨b + 1 + 1 + 1, 0, none⟩)])
    (c0 : V.cell? ⟨b, 0, none⟩ = some (.int .i64 F)) (c1 : V.cell? ⟨b, 1, none⟩ = some (.int .i64 R)) (ca : V.cell? ⟨b + 1, 0, none⟩ = some (.int .i64 a)) (cf : V.cell? ⟨b + 1 + 1, 0, none⟩ = some (.int .i64 f)) (cr : V.cell? ⟨b + 1 + 1 + 1, 0, none⟩ = some (.int .i64 r))
    (G : List (El L) → Value) (p : List (El L) → Prop) (Gx : List (El L) → Value) (px : Code → List (El L) → Prop)
    (v0 : V.cell? ⟨S, 0, none⟩ = some (G [])) (v1 : V.frozen? ⟨S, 0, none⟩ = false) (p0 : p []) (a₁ : El L → Act)
    (hassign : ∀ (l : Nat) (x : El L) (W : World) (K : Act → World → Prop), K (a₁ x) W →
      assign.wpIn (Fence.wide.inRound l) (n - 1 - 1) Tryd.prog (Exit.then K (fun _ _ _ => False)) { tmps := (ps.zip #[Value.int .i64 (x.1 : Int)]).foldl (fun t (p, v) => t.setIfInBounds p v) A.tmps, defers := [] } W)
    (hbody : ∀ (l : Nat) (pre : List (El L)) (x : El L) (W : World), W.cell? ⟨S, 0, none⟩ = some (G pre) → W.frozen? ⟨S, 0, none⟩ = false → ButS S V W → p pre → pre.length < L.length → body.wpIn (Fence.wide.inRound l) (n - 1 - 1) Tryd.prog (rayPost S G p Gx px (pre ++ [x]) W) (a₁ x) W)
    (hdone : ∀ (D : Nat) (xs : List (El L)) (W : World), V.heap.size ≤ D → vl xs = L → W.cell? ⟨S, 0, none⟩ = some (G xs) → W.frozen? ⟨S, 0, none⟩ = false → ButS S V W → p xs → W.heap[D]? = some (.deferred (some [])) → Q .normal { A with defers := { target := .collected D, args := #[] } :: A.defers } W)
    (hstop : ∀ (D : Nat) (c : Code) (pre : List (El L)) (W : World), V.heap.size ≤ D → vl pre <+: L → W.cell? ⟨S, 0, none⟩ = some (Gx pre) → W.frozen? ⟨S, 0, none⟩ = false → ButS S V W → px c pre → W.heap[D]? = some (.deferred (some [])) → c.wpIn Fence.wide n Tryd.prog Q { A with defers := { target := .collected D, args := #[] } :: A.defers } W) :
    (Code.rangeFunc g ps assign body).wpIn Fence.wide n Tryd.prog Q A V := by
  refine wpIn_rangeFunc_ownF rfl (by omega) (gf := 96) hg trivial (enters_of Tryd.func96 (by kernel_rfl) rfl)
    (ray_stops (n - 1) b 0 F R a f r L hL (by omega) f0 f1 r0 r1 V (Nat.zero_le _) hb c0 c1 ca cf cr) kpR_t (kpR_b (Nat.zero_le _) hb) (Below.refl _ _) (fun _ => hps.symm)
    (fun pre W => (W.cell? ⟨S, 0, none⟩ = some (G pre) ∧ W.frozen? ⟨S, 0, none⟩ = false) ∧ ButS S V W ∧ p pre)
    (fun cc pre W => (W.cell? ⟨S, 0, none⟩ = some (Gx pre) ∧ W.frozen? ⟨S, 0, none⟩ = false) ∧ ButS S V W ∧ px cc pre)
    (OwnFrom.and (ownFrom_box _ _) (OwnFrom.and (ownFrom_but (Nat.le_refl _)) (ownFrom_pure _ _)))
    (fun cc => OwnFrom.and (ownFrom_box _ _) (OwnFrom.and (ownFrom_but (Nat.le_refl _)) (ownFrom_pure _ _)))
    ⟨⟨v0, v1⟩, ButS.refl _ _, p0⟩ a₁ hassign ?_ ?_ ?_
  · rintro l pre x W ⟨⟨hS, hf⟩, hB, hp⟩ hlen
    refine wpIn_mono (hbody l pre x W hS hf hB hp hlen) ?_
    intro e a' W' h
    have hbW : b + 4 ≤ W.heap.size := Nat.le_trans hb hB.size
    cases e with
    | normal => exact ⟨keeps_but h.2.1 hS, h.2.1.kpR hbW hSb, h.1, hB.trans h.2.1, h.2.2⟩
    | ret => exact ⟨keeps_but h.2.1 hS, h.1, hB.trans h.2.1, h.2.2⟩
    | exit id => exact ⟨keeps_but h.2.1 hS, h.1, hB.trans h.2.1, h.2.2⟩
    | goto t => exact h.elim
    | panic c => exact h.elim
    | outgrown => exact h.elim
  · rintro D xs W hD hxs ⟨⟨hS, hf⟩, hB, hp⟩ hK
    exact hdone D xs W hD hxs hS hf hB hp hK
  · rintro D c pre W hD hpre ⟨⟨hS, hf⟩, hB, hp⟩ hK
    exact hstop D c pre W hD hpre hS hf hB hp hK

/-! ### marks -/
def marks (Ds : List Nat) : List Deferred := Ds.map fun D => { target := .collected D, args := #[] }
def MarksAt (n₀ : Nat) (Ds : List Nat) (w : World) : Prop := Ds.Nodup ∧ ∀ D ∈ Ds, n₀ ≤ D ∧ w.heap[D]? = some (.deferred (some []))
theorem MarksAt.nil (n₀ : Nat) (w : World) : MarksAt n₀ [] w := ⟨List.nodup_nil, fun D h => by cases h⟩
theorem MarksAt.lt {n₀ : Nat} {Ds : List Nat} {w : World} (h : MarksAt n₀ Ds w) {D : Nat} (hD : D ∈ Ds) : D < w.heap.size := (Array.getElem?_eq_some_iff.1 (h.2 D hD).2).1
theorem MarksAt.but {n₀ S : Nat} {Ds : List Nat} {w w' : World} (h : MarksAt n₀ Ds w) (hb : ButS S w w') (hS : S < n₀) : MarksAt n₀ Ds w' :=
  ⟨h.1, fun D hD => ⟨(h.2 D hD).1, (hb.2.2.2.2 D (h.lt hD) (by have := (h.2 D hD).1; omega)).trans (h.2 D hD).2⟩⟩
theorem MarksAt.cons {n₀ S : Nat} {Ds : List Nat} {w w' : World} (h : MarksAt n₀ Ds w) (hb : ButS S w w') (hS : S < n₀) {D : Nat} (hD : w.heap.size ≤ D) (hn : n₀ ≤ D) (hk : w'.heap[D]? = some (.deferred (some []))) : MarksAt n₀ (D :: Ds) w' := by
  have h2 := h.but hb hS
  refine ⟨List.nodup_cons.2 ⟨fun hm => by have := h.lt hm; omega, h.1⟩, fun E hE => ?_⟩
  rcases List.mem_cons.1 hE with rfl | hE
  · exact ⟨hn, hk⟩
  · exact h2.2 E hE
theorem marks_cons (D : Nat) (Ds : List Nat) : { target := .collected D, args := #[] } :: marks Ds = marks (D :: Ds) := rfl
theorem leaves_marks {Fe : Fence} {n : Nat} {P : Program} {fn : Func} {tmps : Array Value} {Rr : Ending → World → Prop} {n₀ : Nat} : ∀ (Ds : List Nat) (w : World), MarksAt n₀ Ds w → (∀ w', Below n₀ w w' → LeavesIn Fe n P fn tmps Rr [] .returning w') → LeavesInM Fe n P fn tmps Rr (marks Ds) .returning w
  | [], w, _, h => h w (Below.refl _ _)
  | D :: Ds, w, hM, h => by
    have hD := hM.2 D (by simp)
    have hB : Below n₀ w (w.putObj D (.deferred none)) := (Below.refl _ _).grown (grownBy_putObj' w D _) (by have := hM.lt (D := D) (by simp); omega) (fun k e => by cases e; omega)
    refine ⟨by simp, .inl ⟨D, _, rfl, run_takeDeferred hD.2, ?_⟩⟩
    refine leaves_marks Ds _ ⟨(List.nodup_cons.1 hM.1).2, fun E hE => ?_⟩ (fun w' hw => h w' (hB.trans hw))
    have hE2 := hM.2 E (by simp [hE])
    have hne : E ≠ D := by rintro rfl; exact (List.nodup_cons.1 hM.1).1 hE
    exact ⟨hE2.1, (World.putObj_heap_other (fun e => hne (by omega))).trans hE2.2⟩

end Go.Proofs.YtjnbjegopddhgaaDoor

/- The squares of some rays, each up to the first occupied one: the program's slide and leap. -/
namespace Go.Proofs.YtjnbjegopddhgaaDoor
open Go.RowKit Go.Shelf
attribute [local go_sem] Oper.semAt_some

/-- a slice that reads as these steps. -/
def RdS (w : World) (B : Nat) (A : Option Addr) (l : List (Int × Int)) : Prop :=
  0 < l.length → ∃ ad, A = some ad ∧ ad.block < B ∧ ∀ k, k < l.length → w.cell? (ad.add (k * 2)) = some (.int .i64 (l[k]?.getD (0, 0)).1) ∧ w.cell? ⟨(ad.add (k * 2)).block, (ad.add (k * 2)).off + 1, none⟩ = some (.int .i64 (l[k]?.getD (0, 0)).2)
theorem RdS.at_ {w : World} {B : Nat} {A : Option Addr} {l : List (Int × Int)} (h : RdS w B A l) {k : Nat} (hk : k < l.length) : ∃ ad, A = some ad ∧ ad.block < B ∧ w.cell? (ad.add (k * 2)) = some (.int .i64 (l[k]?.getD (0, 0)).1) ∧ w.cell? ⟨(ad.add (k * 2)).block, (ad.add (k * 2)).off + 1, none⟩ = some (.int .i64 (l[k]?.getD (0, 0)).2) := by
  obtain ⟨ad, e, hb, h⟩ := h (by omega)
  exact ⟨ad, e, hb, h k hk⟩
theorem RdS.but {w w' : World} {B S : Nat} {A : Option Addr} {l : List (Int × Int)} (h : RdS w B A l) (hb : ButS S w w') (hS : B ≤ S) : RdS w' B A l := fun hl => by
  obtain ⟨ad, e, hB, h⟩ := h hl
  exact ⟨ad, e, hB, fun k hk => ⟨hb.cell (h k hk).1 (by rw [blk_add]; omega), hb.cell (h k hk).2 (by show (ad.add (k * 2)).block ≠ S; rw [blk_add]; omega)⟩⟩

set_option maxRecDepth 100000 in
set_option maxHeartbeats 2000000 in
theorem slide_in (F R a : Int) (ha : vat F R a) (X : Nat) (hX : X < 18446744073709551616) (ds : List (Int × Int)) (hds : ∀ d ∈ ds, (-2 ≤ d.1 ∧ d.1 ≤ 2 ∧ -2 ≤ d.2 ∧ d.2 ≤ 2) ∧ ¬ (d.1 = 0 ∧ d.2 = 0)) (hl8 : ds.length ≤ 8) (A : Option Addr) (c : Nat) (w : World) (hA : RdS w w.heap.size A ds) :
    CallsIn Fence.wide 6 Tryd.prog 86 #[.agg #[.int .i64 F, .int .i64 R], .int .i64 a, .int .u64 X, .slice A ds.length c] w fun e w' => e = .returned (.int .u64 (ofL (slideL F R a ds X) : Int)) ∧ Below w.heap.size w w' := by
  have hv := ha.1
  have HD := Lib.hid hds
  have HA := Lib.hid hA
  have HAT := Lib.hid ha
  clear hds hA ha
  refine callsIn_of_wp_marks Tryd.func86 rfl trivial ?_ rfl
  simp only [Tryd.ntmps86, List.size_toArray, List.length_cons, List.length_nil, Nat.reduceAdd, Nat.reduceSub, Array.replicate_succ, Array.replicate_zero, List.push_toArray, List.append_toArray, List.nil_append, List.cons_append]
  gi_wp2
  obtain ⟨V0, hV0⟩ : ∃ V0, ((w.alloc (.cells #[.int .i64 F, .int .i64 R] 23)).alloc (.cells #[.int .u64 X] 30)).alloc (.cells #[.int .u64 0] 30) = V0 := ⟨_, rfl⟩
  have hB0 : Below w.heap.size w V0 := by
    rw [← hV0]
    refine (((Below.refl _ _).alloc (by simp) _).alloc (by simp) _).alloc (by simp; omega) _
  have hs0 : V0.heap.size = w.heap.size + 3 := by rw [← hV0]; simp
  have k0 : V0.cell? ⟨w.heap.size, 0, none⟩ = some (.int .i64 F) := by rw [← hV0]; exact alive _ (alive _ (by simp [go_sem]))
  have k1 : V0.cell? ⟨w.heap.size, 1, none⟩ = some (.int .i64 R) := by rw [← hV0]; exact alive _ (alive _ (by simp [go_sem]))
  have k2 : V0.cell? ⟨w.heap.size + 1, 0, none⟩ = some (.int .u64 X) := by rw [← hV0]; exact alive _ (by simp [go_sem])
  have k3 : V0.cell? ⟨w.heap.size + 1 + 1, 0, none⟩ = some (.int .u64 ((ofL (slideL F R a (ds.take 0) X) : Nat) : Int)) := by rw [← hV0]; simp [go_sem, slideL, ofL]
  have k4 : V0.frozen? ⟨w.heap.size + 1 + 1, 0, none⟩ = false := by rw [← hV0]; simp [go_sem]
  rw [hV0]
  clear hV0
  have HA0 := Lib.hid (RdS.but (S := w.heap.size + 1 + 1) (HA.out) (ButS.of hB0) (by omega))
  refine wpIn_loop (fun a' w' => ∃ (k : Nat) (Ds : List Nat) (u11 u16 u17 u18 u19 u20 u21 u22 u23 u24 u25 u34 : Value), k ≤ ds.length ∧ (w'.cell? ⟨w.heap.size + 1 + 1, 0, none⟩ = some (.int .u64 ((ofL (slideL F R a (ds.take k) X) : Nat) : Int)) ∧ w'.frozen? ⟨w.heap.size + 1 + 1, 0, none⟩ = false) ∧ ButS (w.heap.size + 1 + 1) V0 w' ∧ MarksAt (w.heap.size + 1 + 1 + 1) Ds w' ∧
      a' = { tmps := #[Value.agg #[Value.int IntKind.i64 F, Value.int IntKind.i64 R], Value.int IntKind.i64 a, Value.int IntKind.u64 X, Value.slice A ds.length c, Value.pointer (some ⟨w.heap.size, 0, none⟩), undef, Value.pointer (some ⟨w.heap.size + 1, 0, none⟩), undef, Value.int IntKind.u64 0,
          Value.pointer (some ⟨w.heap.size + 1 + 1, 0, none⟩), undef, u11, undef, Value.slice A ds.length c, Value.int IntKind.i64 ds.length, Value.int IntKind.i64 k, u16, u17, u18, u19, u20, u21, u22, u23, u24, u25, undef, undef, undef, undef, undef, undef, undef, undef, u34, undef], defers := marks Ds })
    (fun a' _ => ds.length - (intOf (a'.tmps.getD 15 undef)).toNat) ?start ?round
  case start => exact ⟨0, [], _, _, _, _, _, _, _, _, _, _, _, _, Nat.zero_le _, ⟨k3, k4⟩, ButS.refl _ _, MarksAt.nil _ _, rfl⟩
  case round =>
    rintro _ wr ⟨k, Ds, u11, u16, u17, u18, u19, u20, u21, u22, u23, u24, u25, u34, hk, ⟨hS, hSf⟩, hB, hM, rfl⟩
    have e0 := hB.cell k0 (by simp; omega)
    have e1 := hB.cell k1 (by simp; omega)
    have e2 := hB.cell k2 (by simp)
    have hsz := hB.size
    clear k0 k1 k2 k3 k4
    have hkl : ds.length ≤ 8 := hl8
    by_cases hlt : k < ds.length
    · obtain ⟨ad, rfl, hbl, hc0, hc1⟩ := (HA0.out.but hB (by omega)).at_ hlt
      have hdm : ds[k]?.getD (0, 0) = ds[k] := by rw [List.getElem?_eq_getElem hlt]; rfl
      have hdk := HD.out ds[k] (List.getElem_mem hlt)
      have HTK : Hid (ds.take (k + 1) = ds.take k ++ [ds[k]]) := Lib.hid (by rw [List.take_succ_eq_append_getElem hlt])
      rw [hdm] at hc0 hc1
      generalize ds[k] = d at *
      obtain ⟨f, r⟩ := d
      simp only at hc0 hc1 hdk
      obtain ⟨⟨f0, f1, r0, r1⟩, hfr⟩ := hdk
      clear hdm
      have g0 := alive (.cells #[.int .i64 f, .int .i64 r] 119) e0
      have g1 := alive (.cells #[.int .i64 f, .int .i64 r] 119) e1
      have g2 := alive (.cells #[.int .i64 f, .int .i64 r] 119) e2
      have g3 := alive (.cells #[.int .i64 f, .int .i64 r] 119) hS
      have HFR := Lib.hid hfr
      clear hfr
      gi_wp2_with fail
      refine ⟨trivial, callsIn_wide.2 ((pRay_any F R a f r _).mono ?_)⟩
      rintro e w2 ⟨rfl, rfl⟩
      gi_wp2_with fail
      obtain ⟨V, hV⟩ : ∃ V, ((((wr.alloc (.cells #[.int .i64 f, .int .i64 r] 119)).alloc (.cells #[.int .i64 F, .int .i64 R] 23)).alloc (.cells #[.int .i64 a] 3)).alloc (.cells #[.int .i64 f] 3)).alloc (.cells #[.int .i64 r] 3) = V := ⟨_, rfl⟩
      have v0 : V.cell? ⟨w.heap.size + 1 + 1, 0, none⟩ = some (.int .u64 ((ofL (slideL F R a (ds.take k) X ++ vl ([] : List (El (rayL F R (a % F) (a / F) f r)))) : Nat) : Int)) := by rw [← hV, vl_nil, List.append_nil]; exact alive _ (alive _ (alive _ (alive _ g3)))
      have v2 : V.cell? ⟨w.heap.size + 1, 0, none⟩ = some (.int .u64 X) := by rw [← hV]; exact alive _ (alive _ (alive _ (alive _ g2)))
      have x0 : V.cell? ⟨wr.heap.size + 1, 0, none⟩ = some (.int .i64 F) := by rw [← hV]; simp [go_sem]
      have x1 : V.cell? ⟨wr.heap.size + 1, 1, none⟩ = some (.int .i64 R) := by rw [← hV]; simp [go_sem]
      have x2 : V.cell? ⟨wr.heap.size + 1 + 1, 0, none⟩ = some (.int .i64 a) := by rw [← hV]; simp [go_sem]
      have x3 : V.cell? ⟨wr.heap.size + 1 + 1 + 1, 0, none⟩ = some (.int .i64 f) := by rw [← hV]; simp [go_sem]
      have x4 : V.cell? ⟨wr.heap.size + 1 + 1 + 1 + 1, 0, none⟩ = some (.int .i64 r) := by rw [← hV]; simp [go_sem]
      have hVs : V.heap.size = wr.heap.size + 5 := by rw [← hV]; simp
      have hVB : Below wr.heap.size wr V := by
        rw [← hV]
        refine (((((Below.refl _ _).alloc (by simp) _).alloc (by simp) _).alloc (by simp; omega) _).alloc (by simp; omega) _).alloc (by simp; omega) _
      have v1 : V.frozen? ⟨w.heap.size + 1 + 1, 0, none⟩ = false := (hVB.frozen (p := ⟨w.heap.size + 1 + 1, 0, none⟩) (by simp; omega)).trans hSf
      have hVU : ButS (w.heap.size + 1 + 1) wr V := ButS.of hVB
      rw [hV]
      clear hV g0 g1 g2 g3 e0 e1 e2 hc0 hc1
      have HT64 := Lib.hid (fun (pre : List (El (rayL F R (a % F) (a / F) f r))) => el_64 hv (T := slideL F R a (ds.take k) X ++ vl pre) (fun i hi => by
        rcases List.mem_append.1 hi with h | h
        · exact slide_lt hv h
        · exact vl_lt hv i h))
      have HLT := Lib.hid (fun i hi => rayL_lt (F := F) (R := R) (x := a % F) (y := a / F) (f := f) (r := r) hv i hi)
      have hRI : RayIs F R a f r (rayL F R (a % F) (a / F) f r) := .inl ⟨HAT.out, HFR.out, rfl⟩
      have HSN := Lib.hid (slide_snoc F R a (ds.take k) (f, r) X)
      simp only at HSN
      rw [← HTK.out] at HSN
      generalize rayL F R (a % F) (a / F) f r = L at *
      generalize slideL F R a (ds.take k) X = T at *
      obtain ⟨T2, hT2⟩ : ∃ T2, slideL F R a (ds.take (k + 1)) X = T2 := ⟨_, rfl⟩
      have HT2 := Lib.hid hT2
      rw [hT2] at HSN
      clear hT2
      apply range_ray hRI (by omega) (by omega) (by omega) (by omega) (by omega) rfl (wr.heap.size + 1) (w.heap.size + 1 + 1) (.inl (by omega)) (by omega) rfl x0 x1 x2 x3 x4
        (fun pre => .int .u64 ((ofL (T ++ vl pre) : Nat) : Int)) (fun pre => ∀ i ∈ vl pre, X.testBit i = false) (fun pre => .int .u64 ((ofL (T ++ vl pre) : Nat) : Int)) (fun cc pre => cc = .exit 2 ∧ ∃ q x, pre = q ++ [x] ∧ (∀ i ∈ vl q, X.testBit i = false) ∧ X.testBit x.1 = true)
        v0 v1 (fun i hi => by cases hi)
      case hassign =>
        intro l x W K hK
        gi_wp2
        exact hK
      case hbody =>
        intro l pre x W hS hSf hB hp hlen
        have HP0 := Lib.hid hp
        clear hp hlen
        have hx64 : x.1 < 64 := by have := HLT.out x.1 x.2; have := (vsz_mul hv).2; omega
        have HP := Lib.hid (or_bitN (ofL (T ++ vl pre)) x.1 (HT64.out pre) hx64)
        have hocc := hB.cell v2 (by simp)
        obtain ⟨W1, hW1⟩ : ∃ W1, (W.setCell ⟨w.heap.size + 1 + 1, 0, none⟩ (.int .u64 (bits .or .u64 (ofL (T ++ vl pre)) (bitN x.1)))).drew = W1 := ⟨_, rfl⟩
        have y0 : W1.cell? ⟨w.heap.size + 1 + 1, 0, none⟩ = some (.int .u64 ((ofL (T ++ vl (pre ++ [x])) : Nat) : Int)) := by
          rw [← hW1, vl_snoc, ← List.append_assoc, ofL_snoc, ← HP.out]
          exact World.cell?_setCell_same W ⟨w.heap.size + 1 + 1, 0, none⟩ _ hS
        have y1 : W1.frozen? ⟨w.heap.size + 1 + 1, 0, none⟩ = false := by rw [← hW1]; exact (World.frozen?_setCell ..).trans hSf
        have y2 : ButS (w.heap.size + 1 + 1) W W1 := by rw [← hW1]; exact (ButS.set _ _ _).drew
        have y3 : W1.cell? ⟨w.heap.size + 1, 0, none⟩ = some (.int .u64 X) := y2.cell hocc (by simp)
        have HW1 := Lib.hid hW1
        have HBI := Lib.hid (has_in X x.1 hX (by omega) (by omega))
        have hmx : Tryd.prog.follows .mixedOrders = true := by kernel_rfl
        clear hW1 HP
        gi_wp2
        gi_region_with_o (refine ⟨trivial, ?_⟩; gi_at_call 94; refine (CallsIn.inRound l (callsIn_wide.2 (pSingle_any _ (by omega) (by omega) _))).mono ?_; rintro e w4 ⟨rfl, rfl⟩)
        all_goals
          simp only [Int.toNat_natCast] at *
          rw [HW1.out]
          have hb2 := HBI.out
          cases hbit : X.testBit x.1
          · rw [hbit] at hb2
            have HB2 := Lib.hid hb2
            have HBT := Lib.hid hbit
            clear hb2 hbit
            gi_wp2_with fail
            refine ⟨trivial, CallsIn.inRound l (callsIn_wide.2 ((HB2.out _).mono ?_))⟩
            rintro e w5 ⟨rfl, rfl⟩
            gi_wp2
            refine ⟨⟨y0, y1⟩, y2, fun i hi => ?_⟩
            rw [vl_snoc] at hi
            rcases List.mem_append.1 hi with h | h
            · exact HP0.out i h
            · rw [List.mem_singleton.1 h]; exact HBT.out
          · rw [hbit] at hb2
            have HB2 := Lib.hid hb2
            have HBT := Lib.hid hbit
            clear hb2 hbit
            gi_wp2_with fail
            refine ⟨trivial, CallsIn.inRound l (callsIn_wide.2 ((HB2.out _).mono ?_))⟩
            rintro e w5 ⟨rfl, rfl⟩
            gi_wp2
            exact ⟨⟨y0, y1⟩, y2, rfl, pre, x, rfl, HP0.out, HBT.out⟩
      case hdone =>
        intro D ys W hD hys hS hSf hW hp hK
        have HE : Hid (T ++ vl ys = T2) := Lib.hid (by rw [HSN.out, hys, stop_done (by rw [← hys]; exact hp)])
        rw [HE.out] at hS
        have hM2 := hM.cons (hVU.trans hW) (by omega) (D := D) (by omega) (by omega) hK
        have hB2 : ButS (w.heap.size + 1 + 1) V0 W := hB.trans (hVU.trans hW)
        clear hp hK hM
        gi_wp2
        refine ⟨?_, ?_⟩
        · refine ⟨k + 1, D :: Ds, ?_⟩
          repeat apply Exists.intro
          exact ⟨by omega, ⟨by rw [HT2.out]; exact hS, hSf⟩, hB2, hM2, rfl⟩
        · simp [intOf]; omega
      case hstop =>
        rintro D cc pre W hD hpre hS hSf hW ⟨rfl, q, x, rfl, hq, hx⟩ hK
        have HE : Hid (T ++ vl (q ++ [x]) = T2) := Lib.hid (by
          rw [vl_snoc] at hpre ⊢
          rw [HSN.out, stop_pre hpre hq hx])
        rw [HE.out] at hS
        have hM2 := hM.cons (hVU.trans hW) (by omega) (D := D) (by omega) (by omega) hK
        have hB2 : ButS (w.heap.size + 1 + 1) V0 W := hB.trans (hVU.trans hW)
        clear hpre hK hM hq hx
        gi_wp2
        refine ⟨?_, ?_⟩
        · refine ⟨k + 1, D :: Ds, ?_⟩
          repeat apply Exists.intro
          exact ⟨by omega, ⟨by rw [HT2.out]; exact hS, hSf⟩, hB2, hM2, rfl⟩
        · simp [intOf]; omega
    · have hkl : k = ds.length := by omega
      have HE : Hid (slideL F R a (ds.take k) X = slideL F R a ds X) := Lib.hid (by rw [hkl, List.take_length])
      rw [HE.out] at hS
      clear hkl
      gi_wp2
      refine leaves_marks Ds _ hM (fun w' hw => ?_)
      refine ⟨_, results_tmp rfl _ _ _, rfl, ?_⟩
      exact (hB0.trans (hB.below (by omega) (by omega))).trans (hw.mono (by omega))

end Go.Proofs.YtjnbjegopddhgaaDoor
