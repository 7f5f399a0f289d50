/- Attacks, by the program: attackers. -/
import Derived.Test.YtjnbjegopddhgaaDoorAuF
import Derived.Test.YtjnbjegopddhgaaDoorAuG
import Derived.Test.YtjnbjegopddhgaaDoorAuI
import Derived.Test.YtjnbjegopddhgaaDoorAtN
import Derived.Test.YtjnbjegopddhgaaDoorFrameR
import Derived.Test.YtjnbjegopddhgaaDoorFrameB

namespace Go.Proofs.YtjnbjegopddhgaaDoor
open Go.RowKit

/-- the tables of both libraries lie in their variables. -/
def T5 (w : World) : Prop := Tab w ∧ Tb w
theorem T5.below {w w' : World} (h : T5 w) (hb : Below w.heap.size w w') : T5 w' := ⟨h.1.below hb h.1.1, h.2.below hb⟩
theorem vbd_64 {F R : Int} {l : List Int} (h : vbd F R l) : l.length ≤ 64 := by have := (vsz_mul h.1).2; have := h.2.1; omega

/-- the survey of an orthodox board. -/
theorem surv_yes (F R : Int) (l : List Int) (A : Option Addr) (c : Nat) (h : vbd F R l) (ho : orA l = true) (L : List Value) (hL : fieldC F R (sS l) (kS l) = L) (w : World) (hA : RdP w w.heap.size A l c) :
    Calls Tryd.prog 31 #[.agg #[.int .i64 F, .int .i64 R, .slice A l.length c]] w fun e w' => e = .returned (.tuple #[.agg L.toArray, .int .i64 0]) ∧ Below w.heap.size w w' := by
  subst hL
  exact aSurvey_yes F R l A c h ho w hA
/-- the survey of another board. -/
theorem surv_no (F R : Int) (l : List Int) (A : Option Addr) (c : Nat) (h : ¬ (vbd F R l ∧ orA l = true)) (L : List Value) (hL : fieldC 0 0 zS zK = L) (w : World) (hlen : l.length ≤ 64) (hA : RdP w w.heap.size A l c) :
    Calls Tryd.prog 31 #[.agg #[.int .i64 F, .int .i64 R, .slice A l.length c]] w fun e w' => e = .returned (.tuple #[.agg L.toArray, .int .i64 2]) ∧ Below w.heap.size w w' := by
  subst hL
  by_cases hv : vbd F R l
  · have ho : orA l = false := by
      cases e : orA l
      · rfl
      · exact absurd ⟨hv, e⟩ h
    exact aSurvey_or F R l A c hv ho w hA
  · exact aSurvey_no F R l A c hv w (by omega) hA
theorem putL_size (B : Nat) : ∀ (vs : List Value) (W : World) (o : Nat), (putL B W o vs).heap.size = W.heap.size
  | [], _, _ => rfl
  | v :: vs, W, o => (putL_size B vs _ _).trans (by simp)
/-- a field is laid into a new block. -/
theorem lay18 (w : World) {F R : Int} {S : Bool → Nat} {K : Bool → Nat → Nat} {L : List Value} (hL : fieldC F R S K = L) : ∃ V, (storeCells ⟨w.heap.size, 0, none⟩ L 0).run Tryd.prog (w.alloc (.cells #[.int .i64 0, .int .i64 0, .int .u64 0, .int .u64 0, .int .u64 0, .int .u64 0, .int .u64 0, .int .u64 0, .int .u64 0, .int .u64 0, .int .u64 0, .int .u64 0, .int .u64 0, .int .u64 0, .int .u64 0, .int .u64 0, .int .u64 0, .int .u64 0] 61)) = .ok () V ∧ Fld V w.heap.size F R S K ∧ Below w.heap.size w V ∧ V.heap.size = w.heap.size + 1 := by
  subst hL
  have hz := zero_cells w
  have hst := store18 (W := w.alloc (.cells #[.int .i64 0, .int .i64 0, .int .u64 0, .int .u64 0, .int .u64 0, .int .u64 0, .int .u64 0, .int .u64 0, .int .u64 0, .int .u64 0, .int .u64 0, .int .u64 0, .int .u64 0, .int .u64 0, .int .u64 0, .int .u64 0, .int .u64 0, .int .u64 0] 61)) (T := w.heap.size) (F := F) (R := R) (S := S) (K := K) (fun o ho => (hz o ho).1) (fun o => by simp [go_sem])
  rw [setCells_putL] at hst
  refine ⟨_, hst, fld_put (fun j hj => ⟨_, (hz j hj).1⟩), ?_, ?_⟩
  · have hb := putL_but w.heap.size (fieldC F R S K) (w.alloc (.cells #[.int .i64 0, .int .i64 0, .int .u64 0, .int .u64 0, .int .u64 0, .int .u64 0, .int .u64 0, .int .u64 0, .int .u64 0, .int .u64 0, .int .u64 0, .int .u64 0, .int .u64 0, .int .u64 0, .int .u64 0, .int .u64 0, .int .u64 0, .int .u64 0] 61)) 0
    have h0 : Below w.heap.size w (w.alloc (.cells #[.int .i64 0, .int .i64 0, .int .u64 0, .int .u64 0, .int .u64 0, .int .u64 0, .int .u64 0, .int .u64 0, .int .u64 0, .int .u64 0, .int .u64 0, .int .u64 0, .int .u64 0, .int .u64 0, .int .u64 0, .int .u64 0, .int .u64 0, .int .u64 0] 61)) := box1 _ _
    exact h0.trans (hb.below (Nat.le_refl _) (by simp))
  · rw [putL_size]
    simp
theorem len18 {F R : Int} {S : Bool → Nat} {K : Bool → Nat → Nat} {L : List Value} (hL : fieldC F R S K = L) : L.length = 18 := by subst hL; rfl

set_option maxRecDepth 100000 in
set_option maxHeartbeats 4000000 in
theorem gAttackers (F R : Int) (l : List Int) (A : Option Addr) (c : Nat) (t : Int) (bl : Bool) (w : World) (hb : vbd F R l) (ho : orA l = true) (hA : RdP w w.heap.size A l c) (hT : T5 w) (ht : vat F R t) :
    Calls Tryd.prog 10 #[.agg #[.int .i64 F, .int .i64 R, .slice A l.length c], .int .i64 t, .bool bl] w fun e w' => e = .returned (.tuple #[.int .u64 (ofL (atkL F R l t bl) : Int), .int .i64 0]) ∧ Below w.heap.size w w' := by
  have hL := len18 (F := F) (R := R) (S := sS l) (K := kS l) rfl
  obtain ⟨L, hLL⟩ : ∃ L, fieldC F R (sS l) (kS l) = L := ⟨_, rfl⟩
  rw [hLL] at hL
  have HSV := Lib.hid (fun w hA => surv_yes F R l A c hb ho L hLL w hA)
  have HLY := Lib.hid (fun w => lay18 w hLL)
  have HAT := Lib.hid (fun B w hT hF => aAtk_any F R t l bl B hb ho ht w hT hF)
  have HV := Lib.hid (fun w => valid_yes F R t ht w)
  clear ht
  have HA0 := Lib.hid (rdBo (box1 w (.cells #[.int .i64 F, .int .i64 R, .slice A l.length c] 26)) hA)
  have HT := Lib.hid hT
  clear hA hT hb ho hLL
  go_enter Tryd.func10, Tryd.ntmps10
  go_wp2_with fail
  refine (HSV.out _ HA0.out).mono ?_
  rintro e w1 ⟨rfl, hb1⟩
  obtain ⟨V, hst, hFl, hVb, hVs⟩ := HLY.out w1
  have hs1 := hb1.size
  simp only [World.size_alloc] at hs1
  have c0 := hb1.cell (p := ⟨w.heap.size, 0, none⟩) (by simp)
  have c1 := hb1.cell (p := ⟨w.heap.size, 1, none⟩) (by simp)
  simp [go_sem] at c0 c1
  have hB1 := after1 hb1
  have hBv := chain hB1 hVb
  have d0 := (hVb.cell (World.block_lt_of_cell? _ _ c0)).trans c0
  have d1 := (hVb.cell (World.block_lt_of_cell? _ _ c1)).trans c1
  have HFL := Lib.hid hFl
  have hBV := Lib.hid hBv
  clear hb1 HA0 c0 c1 hVb hB1 HLY hVs hFl hBv
  go_wp2_with fail
  refine (HV.out _).mono ?_
  rintro e w2 ⟨rfl, hb2⟩
  have hB2 := chain hBV.out hb2
  have hF2 := HFL.out.below hb2
  have hT2 := HT.out.below hB2
  clear d0 d1 hb2 HFL hBV hst
  go_wp2_with fail
  refine (HAT.out _ _ hT2.2 hF2).mono ?_
  rintro e w3 ⟨rfl, hb3⟩
  go_wp2
  go_ret2
  exact ⟨rfl, chain hB2 hb3⟩
set_option maxRecDepth 100000 in
set_option maxHeartbeats 4000000 in
theorem gAttackersV (F R : Int) (l : List Int) (A : Option Addr) (c : Nat) (t : Int) (bl : Bool) (w : World) (hb : vbd F R l) (ho : orA l = true) (hA : RdP w w.heap.size A l c) (hT : T5 w) (ht : ¬ vat F R t) :
    Calls Tryd.prog 10 #[.agg #[.int .i64 F, .int .i64 R, .slice A l.length c], .int .i64 t, .bool bl] w fun e w' => e = .returned (.tuple #[.int .u64 0, .int .i64 2]) ∧ Below w.heap.size w w' := by
  have hL := len18 (F := F) (R := R) (S := sS l) (K := kS l) rfl
  obtain ⟨L, hLL⟩ : ∃ L, fieldC F R (sS l) (kS l) = L := ⟨_, rfl⟩
  rw [hLL] at hL
  have HSV := Lib.hid (fun w hA => surv_yes F R l A c hb ho L hLL w hA)
  have HLY := Lib.hid (fun w => lay18 w hLL)
  have HV := Lib.hid (fun w => valid_no F R t ht w)
  clear ht
  have HA0 := Lib.hid (rdBo (box1 w (.cells #[.int .i64 F, .int .i64 R, .slice A l.length c] 26)) hA)
  have HT := Lib.hid hT
  clear hA hT hb ho hLL
  go_enter Tryd.func10, Tryd.ntmps10
  go_wp2_with fail
  refine (HSV.out _ HA0.out).mono ?_
  rintro e w1 ⟨rfl, hb1⟩
  obtain ⟨V, hst, hFl, hVb, hVs⟩ := HLY.out w1
  have hs1 := hb1.size
  simp only [World.size_alloc] at hs1
  have c0 := hb1.cell (p := ⟨w.heap.size, 0, none⟩) (by simp)
  have c1 := hb1.cell (p := ⟨w.heap.size, 1, none⟩) (by simp)
  simp [go_sem] at c0 c1
  have hB1 := after1 hb1
  have hBv := chain hB1 hVb
  have d0 := (hVb.cell (World.block_lt_of_cell? _ _ c0)).trans c0
  have d1 := (hVb.cell (World.block_lt_of_cell? _ _ c1)).trans c1
  have HFL := Lib.hid hFl
  have hBV := Lib.hid hBv
  clear hb1 HA0 c0 c1 hVb hB1 HLY hVs hFl hBv
  go_wp2_with fail
  refine (HV.out _).mono ?_
  rintro e w2 ⟨rfl, hb2⟩
  have hB2 := chain hBV.out hb2
  clear d0 d1 hb2 HFL hBV hst
  go_wp2
  go_ret2
  exact ⟨rfl, hB2⟩
set_option maxRecDepth 100000 in
set_option maxHeartbeats 4000000 in
theorem gAttackersE (F R : Int) (l : List Int) (A : Option Addr) (c : Nat) (t : Int) (bl : Bool) (w : World) (hlen : l.length ≤ 64) (hA : RdP w w.heap.size A l c) (hg : ¬ (vbd F R l ∧ orA l = true)) :
    Calls Tryd.prog 10 #[.agg #[.int .i64 F, .int .i64 R, .slice A l.length c], .int .i64 t, .bool bl] w fun e w' => e = .returned (.tuple #[.int .u64 0, .int .i64 2]) ∧ Below w.heap.size w w' := by
  have hL := len18 (F := 0) (R := 0) (S := zS) (K := zK) rfl
  obtain ⟨L, hLL⟩ : ∃ L, fieldC 0 0 zS zK = L := ⟨_, rfl⟩
  rw [hLL] at hL
  have HSV := Lib.hid (fun w hA => surv_no F R l A c hg L hLL w hlen hA)
  have HLY := Lib.hid (fun w => lay18 w hLL)
  have HA0 := Lib.hid (rdBo (box1 w (.cells #[.int .i64 F, .int .i64 R, .slice A l.length c] 26)) hA)
  clear hA hg hLL hlen
  go_enter Tryd.func10, Tryd.ntmps10
  go_wp2_with fail
  refine (HSV.out _ HA0.out).mono ?_
  rintro e w1 ⟨rfl, hb1⟩
  obtain ⟨V, hst, _, hVb, _⟩ := HLY.out w1
  have hBV := Lib.hid (chain (after1 hb1) hVb)
  clear hb1 HA0 HLY hVb
  go_wp2
  go_ret2
  exact ⟨rfl, hBV.out⟩

end Go.Proofs.YtjnbjegopddhgaaDoor

/- What the rows of package attack share: the three tables out of the row's condition. -/
namespace Go.Proofs.YtjnbjegopddhgaaDoor
open Go.ChangeShapes Go.WideShapes Go.ChangeAt Go.RowKit

def laid5 : List (String × DataW Unit) := [("math/bits.deBruijn64tab", Rows.laid_math_bits_deBruijn64tab), ("caissa/ray.lines", Rows.laid_caissa_ray_lines), ("caissa/ray.jumps", Rows.laid_caissa_ray_jumps)]
/-- A heap in which all three lie meets the condition. -/
theorem t5_met (os : Os) (args : Array Value) : laidMetH Tryd.prog laid5 ((World.doorLaid Tryd.prog 400 os).forCall (fun _ _ => 0) ⟨#[], args, []⟩).memory :=
  laidMetH_of_parts3 (fuel := 8) (laidMet_of_run' 8 (by kernel_rfl) (by kernel_rfl)) (by kernel_rfl) (by kernel_rfl)
/-- The row's condition gives the walks their tables. -/
theorem t5_of_laid {W : World} (h : laidMetH Tryd.prog laid5 W) : T5 W := by
  unfold laid5 at h
  rw [MakeChecks.laidMetH_plain _ _ _ (by kernel_rfl)] at h
  rw [laid_tab, laid_lines, laid_jumps] at h
  have h2 := Lib.tabIs_of_head gTab tTab Tryd.underlying116 Tryd.underlying5 (by kernel_rfl) (by kernel_rfl) h
  have hc : ∀ j, j < Lib.deBruijn64tab.length → W.cell? ⟨0, j, none⟩ = some (.int .u8 (Lib.deBruijn64tab.getD j 0)) := by
    intro j hj
    have := h2.cell gTab j (by simpa [tabZ] using hj)
    rw [this]
    congr 2
    simp [tabZ, List.getD, hj]
  obtain ⟨ps, ⟨g', t', cs, fuel, p, q, hg', ht', hvar, hd, hr, _⟩, _⟩ := h
  obtain ⟨h1, ps2, h2⟩ := tb_one gLin tLin hr
  obtain ⟨h3, _⟩ := tb_one gJum tJum h2
  exact ⟨⟨World.block_lt_of_cell? W _ (hc 0 (by decide)), hc⟩, h1, h3⟩

end Go.Proofs.YtjnbjegopddhgaaDoor
