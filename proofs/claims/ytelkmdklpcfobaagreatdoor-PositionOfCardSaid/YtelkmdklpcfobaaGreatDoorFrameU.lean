/- What all rows of this seat share: the table out of the row's condition; the last step of a row whose call leaves all that lay before as it was. -/
import Derived.Test.YtelkmdklpcfobaaGreatDoorRows
import Derived.Test.YtelkmdklpcfobaaGreatDoorCards
import Derived.Test.YtelkmdklpcfobaaGreatDoorTie
import Derived.Test.YtelkmdklpcfobaaGreatDoorRpN
import Derived.ProofKit
import Derived.LaidMore
import Derived.OpenShut
import Derived.Stop.Joined
import Derived.Lib.LaidTab
import Derived.Lib.SmallJoins
import Derived.SevenTiedAt
import Derived.Test.YtelkmdklpcfobaaGreatDoorBdA
import Derived.Carry
import Derived.ChangeSlices
import Derived.Test.YtelkmdklpcfobaaGreatDoorBdD
import Derived.Test.YtelkmdklpcfobaaGreatDoorPoA

namespace Go.Proofs.YtelkmdklpcfobaaGreatDoor
open Go.ChangeShapes Go.WideShapes Go.ChangeAt Go.RowKit

theorem own : ownKnob Tryz.prog.godebug = none := by kernel_rfl
theorem gTab : Tryz.prog.globalNamed "math/bits.deBruijn64tab" = some 4 := by kernel_rfl
theorem tTab : (Tryz.prog.globals[4]?).map (·.type) = some 194 := by kernel_rfl

def tabZ : List Int := Lib.deBruijn64tab.map fun n : Nat => (n : Int)
theorem laid_tab : (Rows.laid_math_bits_deBruijn64tab : DataW Unit) = Lib.tabData .u8 tabZ := rfl

/-- The row's condition gives the walks their table. -/
theorem tab_of_laid {W : World} (h : laidMetH Tryz.prog [("math/bits.deBruijn64tab", Rows.laid_math_bits_deBruijn64tab)] W) : Tab W := by
  rw [MakeChecks.laidMetH_plain _ _ _ (by kernel_rfl)] at h
  rw [laid_tab] at h
  have h2 := Lib.tabIs_of_head gTab tTab Tryz.underlying194 Tryz.underlying5 (by kernel_rfl) (by kernel_rfl) h
  have hc : ∀ j, j < Lib.deBruijn64tab.length → W.cell? ⟨4, j, none⟩ = some (.int .u8 (Lib.deBruijn64tab.getD j 0)) := by
    intro j hj
    have := h2.cell gTab j (by simpa [tabZ] using hj)
    rw [this]
    congr 2
    simp [tabZ, List.getD, hj]
  refine ⟨?_, hc⟩
  exact World.block_lt_of_cell? W _ (hc 0 (by decide))

/-- The door's own heap meets the condition. -/
theorem door_met (os : Os) (args : Array Value) : laidMetH Tryz.prog [("math/bits.deBruijn64tab", Rows.laid_math_bits_deBruijn64tab)] ((World.doorLaid Tryz.prog 400 os).forCall (fun _ _ => 0) ⟨#[], args, []⟩).memory :=
  laidMetH_of_parts3 (fuel := 8) (laidMet_of_run' 8 (by kernel_rfl) (by kernel_rfl)) (by kernel_rfl) (by kernel_rfl)

section
variable {H : Type} {enc : TypeId × Value → H} {P : Program}
/-- A row whose arguments read as they did, where the call has changed nothing below its first new block. -/
theorem post_under {f : Func} {s : ChangeSpec} {W W' : World} {args : Array Value} {v : Value} {ds gs : List (DataW H)} {before : List MemPlace} {b1 b2 b3 b4 : Bool}
    (hW : DataW.Whole enc P f.params.toList s.vars b1 W args.toList ds gs before)
    (hres : ∀ (b : Nat) (sp : Nat → Bool) (hd : Bool), DataW.TrodAll enc P W' b sp hd f.resultTypes.toList (v.resultList f.resultTypes.size) (s.fn H (ds ++ gs)).results [])
    (hargs : ∀ sp : Nat → Bool, (∀ p ∈ before, sp p.block = true) → DataW.TrodAll enc P W' 0 sp true f.params.toList args.toList (s.fn H (ds ++ gs)).args before)
    (hvars : ∀ sp : Nat → Bool, DataW.TrodVars enc P W' sp s.vars (s.fn H (ds ++ gs)).vars [])
    (hb : Below W.heap.size W W')
    (hok : ∀ (j : Nat) (t : TypeId) (r : Value), f.resultTypes[j]? = some t → (v.resultList f.resultTypes.size)[j]? = some r → Value.okWide P W' .any 0 t r) :
    s.post enc P f b1 b2 b3 b4 W args v W' := by
  have below : ∀ p ∈ before, p.block < W.heap.size := fun p hp => hW.lt p hp
  refine ⟨ds, gs, before, [], before, [], hW, hres _ _ _, hargs _ (fun p hp => by simpa using below p hp), hvars _, World.keptBut_mono (fun p hp => ⟨hp, Or.inr (by simpa using hp)⟩) (hb.frame (· ∈ before)), fun _ => ?_⟩
  obtain ⟨_, _, _, _, _, hz, hn⟩ := hW
  refine ⟨hok, _, _, ([] ++ before) ++ [], ⟨[] ++ before, [], trodAll_append (hargs _ (fun _ _ => rfl)) (hres _ _ _), hvars _, rfl, ?_, ?_⟩, ?_⟩
  · intro b off hp
    have hin : MemPlace.cell b off ∈ before := by simpa using hp
    rw [hb.frozen (below _ hin)]
    exact hz b off hin
  · intro ha
    simpa using hn ha
  · intro p hp _
    simpa using hp
end

end Go.Proofs.YtelkmdklpcfobaaGreatDoor

/- What the rows share whose arguments read afterwards as they did: an argument of any readable type stays, where the call has changed nothing below its first new block; a row of integers that came in. -/
namespace Go.Proofs.YtelkmdklpcfobaaGreatDoor
open Go.ChangeShapes Go.WideShapes Go.ChangeAt Go.RowKit

section
variable {H : Type} {enc : TypeId × Value → H} {P : Program}

theorem trodAll_stays (hl : laidOutB P = true) {W W' : World} {sp' : Nat → Bool} (hb : Below W.heap.size W W') :
    ∀ {ts : List TypeId} {vs : List Value} {ds : List (DataW H)} {ps : List MemPlace}, (ts.all fun t => P.readableRec t && decide (t < P.types.size)) = true → DataW.TrodAll enc P W 0 (fun _ => true) true ts vs ds ps →
      (∀ x ∈ ps, x.block < W.heap.size) → (∀ x ∈ ps, sp' x.block = true) → DataW.TrodAll enc P W' 0 sp' true ts vs ds ps
  | [], [], [], _, _, h, _, _ => h
  | [], [], _ :: _, _, _, h, _, _ => h.elim
  | [], _ :: _, [], _, _, h, _, _ => h.elim
  | [], _ :: _, _ :: _, _, _, h, _, _ => h.elim
  | _ :: _, [], [], _, _, h, _, _ => h.elim
  | _ :: _, [], _ :: _, _, _, h, _, _ => h.elim
  | _ :: _, _ :: _, [], _, _, h, _, _ => h.elim
  | _ :: _, _ :: _, _ :: _, _, ht, ⟨p, q, h1, h2, e⟩, hlt, hs => by
    simp only [List.all_cons, Bool.and_eq_true, decide_eq_true_iff] at ht
    exact ⟨p, q, WideElems.Trod_stays hl ht.1.1 ht.1.2 h1 (fun x hx => hb.same (hlt x (by rw [e]; exact List.mem_append_left _ hx))) (fun x hx => hs x (by rw [e]; exact List.mem_append_left _ hx)),
      trodAll_stays hl hb ht.2 h2 (fun x hx => hlt x (by rw [e]; exact List.mem_append_right _ hx)) (fun x hx => hs x (by rw [e]; exact List.mem_append_right _ hx)), e⟩

/-- A row whose arguments read as they did, for arguments of any readable types. -/
theorem post_stays {f : Func} {s : ChangeSpec} {W W' : World} {args : Array Value} {v : Value} {ds gs : List (DataW H)} {before : List MemPlace} {b1 b2 b3 b4 : Bool} (hl : laidOutB P = true) (ht : (f.params.toList.all fun t => P.readableRec t && decide (t < P.types.size)) = true)
    (hA : DataW.TrodAll enc P W 0 (fun _ => true) true f.params.toList args.toList ds before) (ha : (s.fn H (ds ++ gs)).args = ds)
    (hW : DataW.Whole enc P f.params.toList s.vars b1 W args.toList ds gs before)
    (hres : ∀ (b : Nat) (sp : Nat → Bool) (hd : Bool), DataW.TrodAll enc P W' b sp hd f.resultTypes.toList (v.resultList f.resultTypes.size) (s.fn H (ds ++ gs)).results [])
    (hvars : ∀ sp : Nat → Bool, DataW.TrodVars enc P W' sp s.vars (s.fn H (ds ++ gs)).vars [])
    (hb : Below W.heap.size W W')
    (hok : ∀ (j : Nat) (t : TypeId) (r : Value), f.resultTypes[j]? = some t → (v.resultList f.resultTypes.size)[j]? = some r → Value.okWide P W' .any 0 t r) :
    s.post enc P f b1 b2 b3 b4 W args v W' :=
  post_under hW hres (fun sp hs => by rw [ha]; exact trodAll_stays hl hb ht hA (fun p hp => hW.lt p hp) hs) hvars hb hok

theorem open_bool {r : Reach} {b0 : Nat} {t : TypeId} {w : World} {v : Value} {d : DataW H} {ps : List MemPlace} (ht : P.underlying t = some .bool) (hval : Value.okWide P w r b0 t v) (hd : DataW.Trod enc P w 0 (fun _ => true) true t v d ps) :
    ∃ b, v = .bool b ∧ d = .lit (.bool b) ∧ ps = [] := by
  obtain ⟨b, rfl⟩ := okWide_bool ht hval
  obtain ⟨fuel, hf⟩ := hd
  obtain ⟨b', h, hx⟩ := DataW.trod_bool ht hf
  simp [Value.cells] at h
  subst h
  simp only [Prod.mk.injEq] at hx
  exact ⟨_, rfl, hx.1, hx.2⟩

/-- A slice of ints that came in, as the walks want it. -/
theorem open_ints_at {r : Reach} {b0 : Nat} {t e : TypeId} {w : World} {v : Value} {d : DataW H} {ps : List MemPlace} (ht : P.underlying t = some (.slice e)) (he : P.underlying e = some (.int .i64)) (hc : P.cellsOf e = 1) (hv : Value.okWide P w r b0 t v)
    (h : DataW.Trod enc P w 0 (fun _ => true) true t v d ps) :
    ∃ (A : Option Addr) (l : List Int) (c : Nat), v = .slice A l.length c ∧ RdI w w.heap.size A l := by
  obtain ⟨a, len, cap, rfl⟩ := okWide_slice ht hv
  obtain ⟨fuel, hf⟩ := h
  rcases open_ints ht he hc hf with ⟨hcs, hx⟩ | ⟨a', len', cap', zs, hcs, _, hle, _, hz, hx, hcell, _⟩
  · simp [Value.cells] at hcs
    obtain ⟨rfl, rfl, rfl⟩ := hcs
    exact ⟨none, [], 0, rfl, fun h => absurd h (by simp)⟩
  · simp [Value.cells] at hcs
    obtain ⟨rfl, rfl, rfl⟩ := hcs
    simp at hz
    have hl : (zs.take len).length = len := by rw [List.length_take]; omega
    refine ⟨some a', zs.take len, cap, by rw [hl], fun h0 => ⟨a', rfl, ?_, ?_⟩⟩
    · have := World.block_lt_of_cell? _ _ (hcell 0 (by omega))
      rwa [blk_add] at this
    · intro j u hu
      have hj : j < len := by
        have := (List.getElem?_eq_some_iff.1 hu).1
        omega
      rw [List.getElem?_take, if_pos hj] at hu
      rw [hcell j (by omega)]
      simp [List.getD, hu]
end

end Go.Proofs.YtelkmdklpcfobaaGreatDoor

/- What the rows share whose arguments are boards: a struct of a size and a row of pieces that came in. -/
namespace Go.Proofs.YtelkmdklpcfobaaGreatDoor
open Go.ChangeShapes Go.WideShapes Go.ChangeAt Go.RowKit

section
variable {H : Type} {enc : TypeId × Value → H} {P : Program}

/-- A slice of pieces that came in, as the walks want it. -/
theorem open_pieces_at {t e : TypeId} {w : World} {fuel : Nat} {cs : List Value} {x : DataW H × List MemPlace} (ht : P.underlying t = some (.slice e)) (he : P.underlying e = some (.int .i8)) (hc : P.cellsOf e = 1)
    (h : DataW.trod enc P w 0 (fun _ => true) true fuel t cs = some x) :
    ∃ (A : Option Addr) (l : List Int) (c : Nat), cs = [.slice A l.length c] ∧ RdP w w.heap.size A l c ∧ l.length ≤ c ∧ ∀ n ∈ l, -128 ≤ n ∧ n ≤ 127 := by
  rcases open_ints ht he hc h with ⟨hcs, hx⟩ | ⟨a', len', cap', zs, hcs, _, hle, _, hz, hx, hcell, hwf⟩
  · exact ⟨none, [], 0, hcs, ⟨fun _ => ⟨rfl, rfl⟩, fun h => absurd h (by simp)⟩, by simp, fun n hn => by simp at hn⟩
  · simp at hz
    have hl : (zs.take len').length = len' := by rw [List.length_take]; omega
    refine ⟨some a', zs.take len', cap', by rw [hl]; exact hcs, ⟨(fun h => by cases h), fun h0 => ⟨a', rfl, ?_, ?_⟩⟩, ?_, ?_⟩
    · have := World.block_lt_of_cell? _ _ (hcell 0 (by omega))
      rwa [blk_add] at this
    · intro j u hu
      have hj : j < len' := by
        have := (List.getElem?_eq_some_iff.1 hu).1
        omega
      rw [List.getElem?_take, if_pos hj] at hu
      rw [hcell j (by omega)]
      simp [List.getD, hu]
    · rw [hl]; omega
    · intro n hn
      exact bounds_i8 (hwf n (List.mem_of_mem_take hn))

/-- A board that came in, as the walks want it. -/
theorem open_board {r : Reach} {b0 : Nat} {t e : TypeId} {f0 f1 g0 g1 : Field} {w : World} {v : Value} {d : DataW H} {ps : List MemPlace} (hs : P.underlying t = some (.struct #[f0, f1])) (hC : P.cellsOf t = 3) (ho0 : f0.offset = 0) (hc0 : P.cellsOf f0.type = 2) (ho1 : f1.offset = 2) (hc1 : P.cellsOf f1.type = 1)
    (hz : P.underlying f0.type = some (.struct #[g0, g1])) (hzo : g0.offset = 0) (hzc : P.cellsOf g0.type = 1) (hzo1 : g1.offset = 1) (hzc1 : P.cellsOf g1.type = 1) (hi0 : P.underlying g0.type = some (.int .i64)) (hi1 : P.underlying g1.type = some (.int .i64))
    (hsl : P.underlying f1.type = some (.slice e)) (he : P.underlying e = some (.int .i8)) (hce : P.cellsOf e = 1) (hv : Value.okWide P w r b0 t v) (h : DataW.Trod enc P w 0 (fun _ => true) true t v d ps) :
    ∃ (F R : Int) (A : Option Addr) (l : List Int) (c : Nat), v = .agg #[.int .i64 F, .int .i64 R, .slice A l.length c] ∧ (Lit.int .i64 F).wf = true ∧ (Lit.int .i64 R).wf = true ∧ RdP w w.heap.size A l c ∧ l.length ≤ c ∧ ∀ n ∈ l, -128 ≤ n ∧ n ≤ 127 := by
  obtain ⟨cs, rfl, hsz⟩ := okWide_struct hs hv
  obtain ⟨c0, c1, c2, rfl⟩ := Joins.array3 (hsz.trans hC)
  obtain ⟨fuel, hf⟩ := h
  obtain ⟨y0, y1, n, hx, _, h0, h1⟩ := trod_struct2 hs hf
  simp only [Value.cells, ho0, hc0, ho1, hc1, List.drop_zero, List.drop_succ_cons, List.take_succ_cons, List.take_zero] at h0 h1
  obtain ⟨z0, z1, n2, hx2, _, k0, k1⟩ := trod_struct2 hz h0
  simp only [hzo, hzc, hzo1, hzc1, List.drop_zero, List.drop_succ_cons, List.take_succ_cons, List.take_zero] at k0 k1
  obtain ⟨F, e0, _, wF⟩ := DataW.trod_int hi0 k0
  obtain ⟨R, e1, _, wR⟩ := DataW.trod_int hi1 k1
  obtain ⟨A, l, c, e2, hA, hcc, hb⟩ := open_pieces_at hsl he hce h1
  simp at e0 e1 e2
  subst e0 e1 e2
  exact ⟨F, R, A, l, c, rfl, wF, wR, hA, hcc, hb⟩
end

end Go.Proofs.YtelkmdklpcfobaaGreatDoor

/- What the rows of package position share: positions that come in. -/
namespace Go.Proofs.YtelkmdklpcfobaaGreatDoor
open Go.ChangeShapes Go.WideShapes Go.ChangeAt Go.RowKit

section
variable {H : Type} {enc : TypeId × Value → H} {P : Program} {base : Nat} {spare : Nat → Bool} {held : Bool} {w : World}

theorem array8 {cs : Array Value} (h : cs.size = 8) : ∃ a0 a1 a2 a3 a4 a5 a6 a7, cs = #[a0, a1, a2, a3, a4, a5, a6, a7] := by
  obtain ⟨l⟩ := cs
  match l, h with
  | [a0, a1, a2, a3, a4, a5, a6, a7], _ => exact ⟨a0, a1, a2, a3, a4, a5, a6, a7, rfl⟩
theorem trod_if {t : TypeId} {ms : Array (String × TypeId)} {fuel : Nat} {cs : List Value} {x : DataW H × List MemPlace} (ht : P.underlying t = some (.interface ms)) (h : DataW.trod enc P w base spare held fuel t cs = some x) : (cs = [.nilIface] ∧ x = (.nil, [])) ∨ ∃ u v, cs = [.iface u v] := by
  cases fuel with
  | zero => simp [DataW.trod] at h
  | succ n =>
    unfold DataW.trod at h
    rw [ht] at h
    split at h <;> simp_all
theorem trod_struct6 {t : TypeId} {f0 f1 f2 f3 f4 f5 : Field} {fuel : Nat} {cs : List Value} {x : DataW H × List MemPlace} (ht : P.underlying t = some (.struct #[f0, f1, f2, f3, f4, f5])) (h : DataW.trod enc P w base spare held fuel t cs = some x) :
    ∃ y0 y1 y2 y3 y4 y5 n, x.1 = .agg [y0.1, y1.1, y2.1, y3.1, y4.1, y5.1] ∧ DataW.trod enc P w base spare held n f0.type ((cs.drop f0.offset).take (P.cellsOf f0.type)) = some y0 ∧
      DataW.trod enc P w base spare held n f1.type ((cs.drop f1.offset).take (P.cellsOf f1.type)) = some y1 ∧ DataW.trod enc P w base spare held n f2.type ((cs.drop f2.offset).take (P.cellsOf f2.type)) = some y2 ∧
      DataW.trod enc P w base spare held n f3.type ((cs.drop f3.offset).take (P.cellsOf f3.type)) = some y3 ∧ DataW.trod enc P w base spare held n f4.type ((cs.drop f4.offset).take (P.cellsOf f4.type)) = some y4 ∧
      DataW.trod enc P w base spare held n f5.type ((cs.drop f5.offset).take (P.cellsOf f5.type)) = some y5 := by
  obtain ⟨xs, n, _, rfl, hl, hlen, hf⟩ := DataW.trod_struct ht h
  match xs, hlen with
  | [y0, y1, y2, y3, y4, y5], _ => exact ⟨y0, y1, y2, y3, y4, y5, n, by simp, by simpa using hf 0 f0 rfl, by simpa using hf 1 f1 rfl, by simpa using hf 2 f2 rfl, by simpa using hf 3 f3 rfl, by simpa using hf 4 f4 rfl, by simpa using hf 5 f5 rfl⟩
theorem trod_struct7 {t : TypeId} {f0 f1 f2 f3 f4 f5 f6 : Field} {fuel : Nat} {cs : List Value} {x : DataW H × List MemPlace} (ht : P.underlying t = some (.struct #[f0, f1, f2, f3, f4, f5, f6])) (h : DataW.trod enc P w base (fun _ => true) true fuel t cs = some x) :
    ∃ y0 y1 y2 y3 y4 y5 y6 n, DataW.trod enc P w base (fun _ => true) true n f0.type ((cs.drop f0.offset).take (P.cellsOf f0.type)) = some y0 ∧
      DataW.trod enc P w base (fun _ => true) true n f1.type ((cs.drop f1.offset).take (P.cellsOf f1.type)) = some y1 ∧ DataW.trod enc P w base (fun _ => true) true n f2.type ((cs.drop f2.offset).take (P.cellsOf f2.type)) = some y2 ∧
      DataW.trod enc P w base (fun _ => true) true n f3.type ((cs.drop f3.offset).take (P.cellsOf f3.type)) = some y3 ∧ DataW.trod enc P w base (fun _ => true) true n f4.type ((cs.drop f4.offset).take (P.cellsOf f4.type)) = some y4 ∧
      DataW.trod enc P w base (fun _ => true) true n f5.type ((cs.drop f5.offset).take (P.cellsOf f5.type)) = some y5 ∧ DataW.trod enc P w base (fun _ => true) true n f6.type ((cs.drop f6.offset).take (P.cellsOf f6.type)) = some y6 := by
  obtain ⟨xs, n, _, rfl, hl, hlen, hf⟩ := DataW.trod_struct ht h
  match xs, hlen with
  | [y0, y1, y2, y3, y4, y5, y6], _ => exact ⟨y0, y1, y2, y3, y4, y5, y6, n, by simpa using hf 0 f0 rfl, by simpa using hf 1 f1 rfl, by simpa using hf 2 f2 rfl, by simpa using hf 3 f3 rfl, by simpa using hf 4 f4 rfl, by simpa using hf 5 f5 rfl, by simpa using hf 6 f6 rfl⟩
/-- A position that came in, as the walks want it. -/
theorem open_pos {r : Reach} {b0 : Nat} {t e : TypeId} {f0 f1 f2 f3 f4 f5 f6 g0 g1 : Field} {v : Value} {d : DataW H} {ps : List MemPlace} (hs : P.underlying t = some (.struct #[f0, f1, f2, f3, f4, f5, f6])) (hC : P.cellsOf t = 8)
    (ho0 : f0.offset = 0) (hc0 : P.cellsOf f0.type = 2) (ho1 : f1.offset = 2) (hc1 : P.cellsOf f1.type = 1) (ho2 : f2.offset = 3) (hc2 : P.cellsOf f2.type = 1) (ho3 : f3.offset = 4) (hc3 : P.cellsOf f3.type = 1) (ho4 : f4.offset = 5) (hc4 : P.cellsOf f4.type = 1) (ho5 : f5.offset = 6) (hc5 : P.cellsOf f5.type = 1) (ho6 : f6.offset = 7) (hc6 : P.cellsOf f6.type = 1)
    (hz : P.underlying f0.type = some (.struct #[g0, g1])) (hzo : g0.offset = 0) (hzc : P.cellsOf g0.type = 1) (hzo1 : g1.offset = 1) (hzc1 : P.cellsOf g1.type = 1) (hi0 : P.underlying g0.type = some (.int .i64)) (hi1 : P.underlying g1.type = some (.int .i64))
    (hsl : P.underlying f1.type = some (.slice e)) (he : P.underlying e = some (.int .i8)) (hce : P.cellsOf e = 1) (h2 : P.underlying f2.type = some .bool) (h3 : P.underlying f3.type = some (.int .u8)) (h4 : P.underlying f4.type = some (.int .i64)) (h5 : P.underlying f5.type = some (.int .i64)) (h6 : P.underlying f6.type = some (.int .i64))
    (hv : Value.okWide P w r b0 t v) (h : DataW.Trod enc P w 0 (fun _ => true) true t v d ps) :
    ∃ (F R : Int) (A : Option Addr) (l : List Int) (c : Nat) (bl : Bool) (ca : Nat) (pp ha fu : Int), v = .agg #[.int .i64 F, .int .i64 R, .slice A l.length c, .bool bl, .int .u8 (ca : Int), .int .i64 pp, .int .i64 ha, .int .i64 fu] ∧ ca < 256 ∧ RdP w w.heap.size A l c ∧ l.length ≤ c := by
  obtain ⟨cs, rfl, hsz⟩ := okWide_struct hs hv
  obtain ⟨c0, c1, c2, c3, c4, c5, c6, c7, rfl⟩ := array8 (hsz.trans hC)
  obtain ⟨fuel, hf⟩ := h
  obtain ⟨y0, y1, y2, y3, y4, y5, y6, n, k0, k1, k2, k3, k4, k5, k6⟩ := trod_struct7 hs hf
  simp only [Value.cells, ho0, hc0, ho1, hc1, ho2, hc2, ho3, hc3, ho4, hc4, ho5, hc5, ho6, hc6, List.drop_zero, List.drop_succ_cons, List.take_succ_cons, List.take_zero] at k0 k1 k2 k3 k4 k5 k6
  obtain ⟨z0, z1, n2, hx2, _, m0, m1⟩ := trod_struct2 hz k0
  simp only [hzo, hzc, hzo1, hzc1, List.drop_zero, List.drop_succ_cons, List.take_succ_cons, List.take_zero] at m0 m1
  obtain ⟨F, e0, _, _⟩ := DataW.trod_int hi0 m0
  obtain ⟨R, e1, _, _⟩ := DataW.trod_int hi1 m1
  obtain ⟨A, l, c, e2, hA, hcc, _⟩ := open_pieces_at hsl he hce k1
  obtain ⟨bl, e3, _⟩ := DataW.trod_bool h2 k2
  obtain ⟨cz, e4, _, w4⟩ := DataW.trod_int h3 k3
  obtain ⟨pp, e5, _, _⟩ := DataW.trod_int h4 k4
  obtain ⟨ha, e6, _, _⟩ := DataW.trod_int h5 k5
  obtain ⟨fu, e7, _, _⟩ := DataW.trod_int h6 k6
  simp at e0 e1 e2 e3 e4 e5 e6 e7
  subst e0 e1 e2 e3 e4 e5 e6 e7
  have hcb : 0 ≤ cz ∧ cz ≤ 255 := bounds_u8 w4
  refine ⟨F, R, A, l, c, bl, cz.toNat, pp, ha, fu, ?_, by omega, hA, hcc⟩
  rw [Int.toNat_of_nonneg hcb.1]
end

end Go.Proofs.YtelkmdklpcfobaaGreatDoor
