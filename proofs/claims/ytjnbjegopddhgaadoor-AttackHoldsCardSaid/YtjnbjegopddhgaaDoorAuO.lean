/- A range over an iterator that itself ranges over a function between two rounds: what the iterator owes to the loop, and the loop's law. The loop's body writes into one box alone where it goes on. -/
import Derived.Test.YtjnbjegopddhgaaDoorRpE
import Derived.RangeFuncNested

namespace Go.Proofs.YtjnbjegopddhgaaDoor
open Go.RowKit Go.Shelf

/-- what an iterator owes: it gives all, or a part and the loop has said no more; the loop's word may hang on whatever lay before, and on cells. -/
def SeqO {α : Type} (n : Nat) (P : Program) (g : Nat) (lb : Array Value) (encs : α → Array Value) (S : Nat) (Sd Sp : List α → Prop) (N : Nat) (w : World) : Prop :=
  ∀ (l : Nat) (J Jx : List α → World → Prop) (W : World), Below w.heap.size w W → OwnFrom W.heap.size J → OwnFrom W.heap.size Jx →
    (∀ pre x W1, J pre W1 → pre.length < N → YieldAt Fence.wide (n - 1) P l (encs x) W1 fun e W' =>
      (e = .returned (.bool true) ∧ J (pre ++ [x]) W' ∧ ButS S W1 W') ∨ (e = .returned (.bool false) ∧ Jx (pre ++ [x]) W' ∧ KeepsFrom W.heap.size W1 W' ∧ W1.heap.size ≤ W'.heap.size)) →
    J [] W →
    CallsIn Fence.wide n P g (#[.func (.yield l) #[] #[]] ++ lb) W fun e W' => (∃ v, e = .returned v) ∧ ((∃ xs, Sd xs ∧ J xs W') ∨ (∃ pre, Sp pre ∧ Jx pre W'))

/-- how a round's body is left. -/
def postO {α : Type} (B S : Nat) (I : List α → World → Prop) (Ix : Code → List α → World → Prop) (xs : List α) (W : World) : Exit → Act → World → Prop
  | .normal, _, W' => ButS S W W' ∧ I xs W'
  | .ret, _, W' => KeepsFrom B W W' ∧ Ix .ret xs W'
  | .exit id, _, W' => KeepsFrom B W W' ∧ Ix (.exit id) xs W'
  | .goto _, _, _ => False
  | .panic _, _, _ => False
  | .outgrown, _, _ => False

theorem putObj_same {W : World} {k : Nat} {o : Obj} (h : W.heap[k]? = some o) (o2 : Obj) : (W.putObj k o2).heap[k]? = some o2 := World.putObj_heap_same (Array.getElem?_eq_some_iff.1 h).1

/-- THE LAW. -/
theorem range_O {α : Type} {n : Nat} (h1 : 1 ≤ n) {P : Program} {g : Operand} {ps : Array Tmp} {assign body : Code} {Q : Exit → Act → World → Prop} {A : Act} {V : World} {gf : Nat} {lb : Array Value} (hg : A.eval g = .func (.func gf) #[] lb)
    (eg : ∀ args w, (callFunc gf args).run P w = .ok (.enter gf args) w) {encs : α → Array Value} {S : Nat} (hS : S < V.heap.size) {Sd Sp : List α → Prop} {N : Nat} {w0 : World} (hseq : SeqO (n - 1) P gf lb encs S Sd Sp N w0) (hb0 : Below w0.heap.size w0 V) (hps : ∀ x, (encs x).size = ps.size)
    (I : List α → World → Prop) (Ix : Code → List α → World → Prop) (hI : OwnFrom V.heap.size I) (hIx : ∀ c, OwnFrom V.heap.size (Ix c)) (h0 : I [] V) (a₁ : α → Act)
    (hassign : ∀ (l : Nat) (x : α) (W : World) (K : Act → World → Prop), K (a₁ x) W → assign.wpIn (Fence.wide.inRound l) (n - 1 - 1) P (Exit.then K (fun _ _ _ => False)) { tmps := (ps.zip (encs x)).foldl (fun t (p, v) => t.setIfInBounds p v) A.tmps, defers := [] } W)
    (hbody : ∀ (l : Nat) (pre : List α) (x : α) (W : World), I pre W → pre.length < N → body.wpIn (Fence.wide.inRound l) (n - 1 - 1) P (postO V.heap.size S I Ix (pre ++ [x]) W) (a₁ x) W)
    (hdone : ∀ (D : Nat) (xs : List α) (W : World), V.heap.size ≤ D → Sd xs → I xs W → W.heap[D]? = some (.deferred (some [])) → Q .normal { A with defers := { target := .collected D, args := #[] } :: A.defers } W)
    (hstop : ∀ (D : Nat) (c : Code) (pre : List α) (W : World), V.heap.size ≤ D → Sp pre → Ix c pre W → W.heap[D]? = some (.deferred (some [])) → c.wpIn Fence.wide n P Q { A with defers := { target := .collected D, args := #[] } :: A.defers } W) :
    (Code.rangeFunc g ps assign body).wpIn Fence.wide n P Q A V := by
  refine wpIn_rangeFunc fun fn hfn => ?_
  -- the two blocks that the loop lays
  let rec0 : LoopState → Option Code → Loop := fun s p => { state := s, pending := p, fn, tmps := A.tmps, params := ps, assign, body, defers := V.heap.size }
  obtain ⟨U, hU⟩ : ∃ U, (V.alloc (.deferred (some []))).alloc (.loop (rec0 .ready none)) = U := ⟨_, rfl⟩
  have uL : U.heap[V.heap.size + 1]? = some (.loop (rec0 .ready none)) := by
    rw [← hU]
    have := World.alloc_heap_new (V.alloc (.deferred (some []))) (.loop (rec0 .ready none))
    rwa [World.size_alloc] at this
  have uD : U.heap[V.heap.size]? = some (.deferred (some [])) := by
    rw [← hU]
    exact (Below.heap_alloc _ _ _ (by simp)).trans (World.alloc_heap_new V _)
  have uS : U.heap.size = V.heap.size + 2 := by rw [← hU]; simp
  have uB : Below V.heap.size V U := by rw [← hU]; exact ((Below.refl _ V).alloc (Nat.le_refl _) _).alloc (by simp) _
  have uI : I [] U := by rw [← hU]; exact hI.alloc _ (hI.alloc _ h0)
  refine ⟨V.heap.size + 1, [{ target := .collected V.heap.size, args := #[] }], U, { target := .fn (.func gf) lb, args := #[.func (.yield (V.heap.size + 1)) #[] #[]] }, U, gf, #[.func (.yield (V.heap.size + 1)) #[] #[]] ++ lb, U, ?_, ?_, ?_, ?_, fun _ => h1, ?_⟩
  · rw [← hU]; exact run_enterLoop_outer _ _ _ _ _
  · simp only [resolve, hg]
    simp [go_sem]
  · intro f' _; trivial
  · simp [invoke, go_sem, eg]
  -- the loop's word to the iterator: its own, its record and its block for deferred calls
  let J : List α → World → Prop := fun pre W => I pre W ∧ W.heap[V.heap.size + 1]? = some (.loop (rec0 .ready none)) ∧ W.heap[V.heap.size]? = some (.deferred (some []))
  let Jx : List α → World → Prop := fun pre W => ∃ c, Ix c pre W ∧ W.heap[V.heap.size + 1]? = some (.loop (rec0 .done (some c))) ∧ W.heap[V.heap.size]? = some (.deferred (some []))
  have low : ∀ {X Y : World} {row : Option Nat}, X.grownBy Y row → (∀ r, row = some r → U.heap.size ≤ r ∧ ∃ o : Obj, X.heap[r]? = some o ∧ o.isCells = false) → ∀ k o, k < U.heap.size → X.heap[k]? = some o → Y.heap[k]? = some o := fun hgr hr k o hk ho =>
    (hgr.block k (Array.getElem?_eq_some_iff.1 ho).1 (fun e => by have := (hr k e.symm).1; omega)).trans ho
  have wk : ∀ {X : World} {row : Option Nat}, (∀ r, row = some r → U.heap.size ≤ r ∧ ∃ o : Obj, X.heap[r]? = some o ∧ o.isCells = false) → (∀ r, row = some r → V.heap.size ≤ r ∧ ∃ o : Obj, X.heap[r]? = some o ∧ o.isCells = false) := fun hr r e => ⟨by have := (hr r e).1; omega, (hr r e).2⟩
  have hJ : OwnFrom U.heap.size J := fun s X Y row hs hgr hr => ⟨hI s X Y row hs.1 hgr (wk hr), low hgr hr _ _ (by omega) hs.2.1, low hgr hr _ _ (by omega) hs.2.2⟩
  have hJx : OwnFrom U.heap.size Jx := fun s X Y row hs hgr hr => by
    obtain ⟨c, hc, h2, h3⟩ := hs
    exact ⟨c, hIx c s X Y row hc hgr (wk hr), low hgr hr _ _ (by omega) h2, low hgr hr _ _ (by omega) h3⟩
  refine (hseq (V.heap.size + 1) J Jx U (hb0.trans (uB.mono hb0.size)) hJ hJx ?_ ⟨uI, uL, uD⟩).mono ?_
  · rintro pre x W ⟨wI, wL, wD⟩ hlen
    have hy := run_yield (P := P) (args := encs x) wL (hps x)
    refine ⟨fn, _, assign, body, hy, roundIn_of_wpIn hfn (hassign _ x W _ ⟨_, run_beginRound wL rfl, ?_⟩)⟩
    obtain ⟨X, hX⟩ : ∃ X, W.putObj (V.heap.size + 1) (.loop { rec0 .ready none with state := .busy }) = X := ⟨_, rfl⟩
    have xL : X.heap[V.heap.size + 1]? = some (.loop { rec0 .ready none with state := .busy }) := by rw [← hX]; exact putObj_same wL _
    have xo : ∀ k, k ≠ V.heap.size + 1 → X.heap[k]? = W.heap[k]? := fun k hk => by rw [← hX]; exact World.putObj_heap_other hk
    have xI : I pre X := by rw [← hX]; exact hI.putObj _ wI (by omega) wL rfl
    have xs : X.heap.size = W.heap.size := by rw [← hX]; simp
    have xe : X.os = W.os ∧ X.tape = W.tape ∧ X.output = W.output := by rw [← hX]; exact ⟨rfl, rfl, rfl⟩
    have hlt : V.heap.size + 1 < W.heap.size := (Array.getElem?_eq_some_iff.1 wL).1
    rw [hX]
    refine wpIn_mono (hbody _ pre x X xI hlen) ?_
    -- behind the body the record is shut or laid open again
    have fin : ∀ (jump : Option Code) (Y : World), Y.heap[V.heap.size + 1]? = some (.loop { rec0 .ready none with state := .busy }) →
        (Instr.endRound (V.heap.size + 1) jump).run P Y = .ok (.bool jump.isNone) (Y.putObj (V.heap.size + 1) (.loop (rec0 (if jump.isNone then .ready else .done) jump))) := fun jump Y hY => run_endRound (P := P) jump hY
    have leave : ∀ (c : Code) (Y : World), KeepsFrom V.heap.size X Y → Ix c (pre ++ [x]) Y → ∃ b Z, (Instr.endRound (V.heap.size + 1) (some c)).run P Y = .ok (.bool b) Z ∧ b = false ∧ Jx (pre ++ [x]) Z ∧ KeepsFrom U.heap.size W Z ∧ W.heap.size ≤ Z.heap.size := fun c Y hk hc => by
      have yL := hk.same _ _ (by omega) xL rfl
      have yD := hk.same _ _ (Nat.le_refl _) ((xo _ (by omega)).trans wD) rfl
      refine ⟨_, _, fin (some c) Y yL, rfl, ⟨c, (hIx c).putObj _ hc (by omega) yL rfl, putObj_same yL _, (World.putObj_heap_other (by omega)).trans yD⟩, ⟨by have := hk.size; simp; omega, fun k o hk2 ho hn => ?_⟩, by have := hk.size; simp; omega⟩
      refine (World.putObj_heap_other (by omega)).trans (hk.same k o (by omega) ((xo k (by omega)).trans ho) hn)
    rintro e a3 Y hp
    cases e with
    | normal =>
      obtain ⟨hB, hIy⟩ := hp
      have yL : Y.heap[V.heap.size + 1]? = some (.loop { rec0 .ready none with state := .busy }) := (hB.2.2.2.2 _ (by omega) (by omega)).trans xL
      have yD : Y.heap[V.heap.size]? = some (.deferred (some [])) := (hB.2.2.2.2 _ (by omega) (by omega)).trans ((xo _ (by omega)).trans wD)
      refine ⟨_, _, fin none Y yL, .inl ⟨rfl, ⟨hI.putObj _ hIy (by omega) yL rfl, putObj_same yL _, (World.putObj_heap_other (by omega)).trans yD⟩, ?_⟩⟩
      refine ⟨hB.1.trans xe.1, hB.2.1.trans xe.2.1, hB.2.2.1.trans xe.2.2, by have := hB.size; simp; omega, fun k hk hn => ?_⟩
      by_cases hkl : k = V.heap.size + 1
      · subst hkl
        rw [wL]
        exact putObj_same yL _
      · exact (World.putObj_heap_other hkl).trans ((hB.2.2.2.2 k (by omega) hn).trans (xo k hkl))
    | ret =>
      obtain ⟨b, Z, hr, rfl, hj⟩ := leave .ret Y hp.1 hp.2
      exact ⟨_, _, hr, .inr ⟨rfl, hj⟩⟩
    | exit id =>
      obtain ⟨b, Z, hr, rfl, hj⟩ := leave (.exit id) Y hp.1 hp.2
      exact ⟨_, _, hr, .inr ⟨rfl, hj⟩⟩
    | goto t => exact hp.elim
    | panic ch => exact hp.elim
    | outgrown => exact hp.elim
  · rintro e Y ⟨⟨v, rfl⟩, ⟨xs, hSd, hIy, yL, yD⟩ | ⟨pre, hSp, c, hc, yL, yD⟩⟩
    · exact ⟨none, _, run_endLoop (P := P) yL (by simp [rec0]), hdone _ xs _ (Nat.le_refl _) hSd (hI.putObj _ hIy (by omega) yL rfl) ((World.putObj_heap_other (by omega)).trans yD)⟩
    · exact ⟨some c, _, run_endLoop (P := P) yL (by simp [rec0]), hstop _ c pre _ (Nat.le_refl _) hSp ((hIx c).putObj _ hc (by omega) yL rfl) ((World.putObj_heap_other (by omega)).trans yD)⟩

end Go.Proofs.YtjnbjegopddhgaaDoor
