/- Texts of boards: the program's text. -/
import Derived.Test.YtolohfkenglpcaaDoorBpH
import Derived.Test.YtolohfkenglpcaaDoorBpL
namespace Go.Proofs.YtolohfkenglpcaaDoor
open Go.RowKit Go.Shelf
attribute [local go_sem] Oper.semAt_some

/-- the ranks' texts, from the first on. -/
def upT (F : Nat) (l : List Int) {R : Nat} (pre : List (Fin R)) : List ByteArray := pre.map fun r => bsL (rowT (rk F l r.1))
def vsL (xs : List ByteArray) : List Value := xs.map Value.string
theorem upT_snoc (F : Nat) (l : List Int) {R : Nat} (pre : List (Fin R)) (x : Fin R) : upT F l (pre ++ [x]) = upT F l pre ++ [bsL (rowT (rk F l x.1))] := by simp [upT]

set_option maxRecDepth 100000 in
set_option maxHeartbeats 2000000 in
theorem text_in (F R : Nat) (l : List Int) (A : Option Addr) (c : Nat) (w : World) (hv : vbd F R l) (hcap : l.length ≤ c) (hA : RdP w w.heap.size A l c) (hK : Kinds w) :
    CallsIn Fence.wide 6 Tryd.prog 31 #[.agg #[.int .i64 F, .int .i64 R, .slice A l.length c]] w fun e w' => e = .returned (.tuple #[.string (textB F R l), .int .i64 0]) ∧ Below w.heap.size w w' := by
  obtain ⟨i0, hi, hz0, hz1, hz2⟩ := info_parts infoStr2
  obtain ⟨m0, m1⟩ := vsz_mul hv.1
  have W0 : Below w.heap.size w (w.alloc (.cells #[.int .i64 F, .int .i64 R, .slice A l.length c] 26)) := box1 _ _
  have A1 := (hA.below W0).grow W0.size
  refine callsIn_of_wp_marks Tryd.func31 rfl trivial ?_ rfl
  simp only [Tryd.ntmps31, List.size_toArray, List.length_cons, List.length_nil, Nat.reduceAdd, Nat.reduceSub, Array.replicate_succ, Array.replicate_zero, List.push_toArray, List.append_toArray, List.nil_append, List.cons_append]
  gi_wp2_with fail
  refine ⟨trivial, callsIn_wide.2 ((bValid_yes F R l A c hv _ A1).mono ?_)⟩
  rintro e w1 ⟨rfl, hb1⟩
  have s1 := hb1.size
  simp at s1
  have c0 := hb1.cell (p := ⟨w.heap.size, 0, none⟩) (by simp)
  have c1 := hb1.cell (p := ⟨w.heap.size, 1, none⟩) (by simp)
  have c2 := hb1.cell (p := ⟨w.heap.size, 2, none⟩) (by simp)
  simp [go_sem] at c0 c1 c2
  have d0 : ∀ o, (w1.alloc o).cell? ⟨w.heap.size, 0, none⟩ = some (.int .i64 F) := fun o => liv o c0
  have d2 : ∀ o, (w1.alloc o).cell? ⟨w.heap.size, 2, none⟩ = some (.slice A l.length c) := fun o => liv o c2
  gi_wp2_with fail
  refine ⟨trivial, callsIn_wide.2 ((chunk_any A l.length c F (by have := hv.1.1; omega) _).mono ?_)⟩
  rintro e w2 ⟨rfl, rfl⟩
  gi_wp2_with fail
  have hsz : l.length = R * F := by have := hv.2.1; rw [Int.mul_comm] at this; exact_mod_cast this
  have hl0 : 0 < l.length := by have := hv.2.1; omega
  have HS := Lib.hid hsz
  clear hsz
  obtain ⟨ad, rfl, hadB, hadC⟩ := hA.2 hl0
  obtain ⟨f3, f8, r3, r8⟩ : 3 ≤ F ∧ F ≤ 8 ∧ 3 ≤ R ∧ R ≤ 8 := by obtain ⟨a, b, c, d⟩ := hv.1; omega
  have bO := Boxed.new w1 66 (.slice none 0 0)
  have bS := Boxed.new (w1.alloc (.cells #[.slice none 0 0] 66)) 24 (.slice (some ad) l.length c)
  have bN := Boxed.new ((w1.alloc (.cells #[.slice none 0 0] 66)).alloc (.cells #[.slice (some ad) l.length c] 24)) 3 (.int .i64 F)
  simp only [World.size_alloc] at bS bN
  have hB1 : Below w.heap.size w w1 := chain W0 hb1
  have hB3 : Below w.heap.size w (((w1.alloc (.cells #[.slice none 0 0] 66)).alloc (.cells #[.slice (some ad) l.length c] 24)).alloc (.cells #[.int .i64 F] 3)) :=
    ((hB1.alloc hB1.size _).alloc (by have := hB1.size; simp; omega) _).alloc (by have := hB1.size; simp; omega) _
  refine wpIn_rangeFunc_ownF rfl (by omega) (gf := 60) (lb := #[.pointer (some ⟨w1.heap.size + 1, 0, none⟩), .pointer (some ⟨w1.heap.size + 1 + 1, 0, none⟩)]) rfl trivial (enters_of Tryd.func60 (by kernel_rfl) rfl)
    (chunk_stops (6 - 1) (w1.heap.size + 1) (w1.heap.size + 1 + 1) w.heap.size F R l.length c ad (by omega) (by omega) f8 r8 HS.out hcap (((w1.alloc (.cells #[.slice none 0 0] 66)).alloc (.cells #[.slice (some ad) l.length c] 24)).alloc (.cells #[.int .i64 F] 3)) (by simp) (by simp) (bS.alloc _).cell bN.cell)
    (fun h k => h.trans k)
    (fun W l' o o' hl ho hc hw => ⟨belowK_b (by simp; omega) W l' o o' hl ho hc hw, World.putObj_heap_other (by simp at hl; omega), World.putObj_heap_other (by simp at hl; omega)⟩)
    (Below.refl _ _) (fun _ => rfl)
    (fun pre W => (∃ v, Boxed W w1.heap.size 66 v ∧ W.ownsRow w.heap.size 9 1 v (upT F l pre).length (vsL (upT F l pre)) ∧ True) ∧ (Boxed W (w1.heap.size + 1) 24 (.slice (some ad) l.length c) ∧ Boxed W (w1.heap.size + 1 + 1) 3 (.int .i64 F)) ∧ (w1.heap.size + 2 < W.heap.size ∧ Below w.heap.size w W))
    (fun _ _ _ => False)
    (OwnFrom.and (Own.from (holdsRow_own w.heap.size w1.heap.size 66 9 1 (fun pre => (upT F l pre).length) (fun pre => vsL (upT F l pre)) (fun _ _ => True)) _) (OwnFrom.and (OwnFrom.and (Own.from (boxed_own _ _ _) _) (Own.from (boxed_own _ _ _) _)) (OwnFrom.and (Own.from (fun s A B row hs hg hr => Nat.lt_of_lt_of_le hs hg.size) _) (ownFrom_below (Nat.le_refl _) (by simp; omega)))))
    (fun _ _ _ _ _ hs _ _ => hs)
    ⟨⟨_, (bO.alloc _).alloc _, World.ownsRow_nil _ _ _ _, trivial⟩, ⟨bS.alloc _, bN⟩, by simp, hB3⟩
    (fun x => { tmps := #[.agg #[.int .i64 F, .int .i64 R, .slice (some ad) l.length c], .pointer (some ⟨w.heap.size, 0, none⟩), .string ⟨#[]⟩, .int .i64 0, .pointer (some ⟨w1.heap.size, 0, none⟩), .slice (some (ad.add (x.1 * F))) F F, .agg #[.int .i64 F, .int .i64 R, .slice (some ad) l.length c], .bool true, .bool false, .pointer (some ⟨w.heap.size, 2, none⟩), .slice (some ad) l.length c, .pointer (some ⟨w.heap.size, 0, none⟩), .pointer (some ⟨w.heap.size, 0, none⟩), .int .i64 F, .func (.func 60) #[] #[.pointer (some ⟨w1.heap.size + 1, 0, none⟩), .pointer (some ⟨w1.heap.size + 1 + 1, 0, none⟩)], .slice (some (ad.add (x.1 * F))) F F, undef, undef, undef, undef, undef, undef, undef, undef, undef], defers := [] }) ?assign ?body ?done ?stop
  case assign =>
    intro l x W K hK
    gi_wp2
    exact hK
  case body =>
    rintro ll pre x W ⟨⟨v, hv1, hrow, _⟩, ⟨hbs, hbn⟩, hgt, hB⟩ hlen
    have hrl : (rk F l x.1).length = F := rk_len HS.out x.2
    have hRd : RdP W W.heap.size (some (ad.add (x.1 * F))) (rk F l x.1) F := ⟨(fun h => by cases h), fun _ => ⟨_, rfl, by rw [blk_add]; exact Nat.lt_of_lt_of_le hadB hB.size, fun j u hu => by
      have hj : j < F := by have := (List.getElem?_eq_some_iff.1 hu).1; omega
      have e := rk_at HS.out x.2 hj
      rw [hu] at e
      have hin := rk_in HS.out x.2 hj
      rw [Addr.add_add, (hB.cell (by rw [blk_add]; exact hadB)).trans (hadC (x.1 * F + j) _ (by rw [List.getElem?_eq_getElem hin]))]
      rw [List.getElem?_eq_getElem hin] at e
      simp at e
      rw [e]⟩⟩
    have hok : ∀ j, j < (rk F l x.1).length → okP ((rk F l x.1)[j]?.getD 0) := fun j hj => by
      rw [rk_at HS.out x.2 (by omega)]
      exact hv.2.2 _ (rk_in HS.out x.2 (by omega))
    have hcall := rankText_any (rk F l x.1) (some (ad.add (x.1 * F))) F W.drew (by omega) (by omega) hok ((hRd.below ((Below.refl _ _).drew)).grow (Nat.le_refl _)) (hK.below hB.drew hK.1)
    rw [hrl] at hcall
    have hnr := hbs.not_row (by decide) hrow
    have hnr2 := hbn.not_row (by decide) hrow
    have hsl := hbs.lt
    have hnl := hbn.lt
    clear hRd hok
    gi_wp2_with fail
    refine collect_rank ll (6 - 1 - 1) w1.heap.size w.heap.size (upT F l pre).length _ _ _ _ _ _ _ _ _ _ _ _ _ _ _ v (bsL (rowT (rk F l x.1))) (vsL (upT F l pre)) W _ hv1 hrow hB.size (Nat.le_trans W0.size (Nat.le_trans (by simp; omega) (Nat.le_refl _))) (by simp [upT]; omega) hcall ?_
    intro a w' hko hbl hhp hex
    obtain ⟨v', hv', hr'⟩ := hex
    refine ⟨hko, ⟨hbl, hhp _ hsl (by omega) hnr, hhp _ hnl (by omega) hnr2⟩, ⟨v', hv', ?_, trivial⟩, ⟨(hhp _ hsl (by omega) hnr).trans hbs, (hhp _ hnl (by omega) hnr2).trans hbn⟩, Nat.lt_of_lt_of_le hgt hko.1, hB.trans hbl⟩
    rw [upT_snoc]
    simpa [vsL] using hr'
  case done =>
    rintro D ys W hD hys ⟨⟨v, hv1, hrow, _⟩, _, hgt, hB⟩ hKD
    have hyl : ys.length = R := by have := congrArg List.length hys; simpa [nums] using this
    obtain ⟨g, cap, rfl⟩ := Joins.ownsRow_form hrow (by simp [upT]; omega)
    obtain ⟨hg0, hg1⟩ := World.ownsRow.lt hrow g rfl
    have hne : w1.heap.size ≠ g := fun e => hv1.not_row (by decide) hrow (by simp [Value.ownBlock, e])
    have hrd : RdS W g (upT F l ys) := fun j x hx => by
      have hj := (List.getElem?_eq_some_iff.1 hx).1
      rw [hrow.cellAt j (by omega)]
      simp [vsL, hx]
    have hup : (upT F l ys).map (·.data.toList) = (rks F R l).reverse := by
      apply List.ext_getElem
      · simp [upT, rks, hyl]
      · intro j h1 h2
        simp only [List.length_map, upT] at h1
        have hj : j < R := by omega
        have hyj : (ys[j]'(by omega)).1 = j := by
          have := congrArg (·[j]?) hys
          simp [nums, hj] at this
          rw [List.getElem?_eq_getElem (by omega)] at this
          simpa using this
        simp only [upT, List.getElem_map, List.getElem_reverse, rks, List.getElem_range, List.length_map, List.length_range, bsL_toList, hyj]
        congr 2
        omega
    have hrf := fun j => hrow.frozenAt j
    have hDg : D ≠ g := fun e => by
      subst e
      obtain ⟨_, ⟨h, _⟩ | ⟨g2, c2, cur, he, _, hcl, _⟩⟩ := hrow
      · cases h
      · cases he
        rw [hKD] at hcl
        cases hcl
    have hDl : D < W.heap.size := (Array.getElem?_eq_some_iff.1 hKD).1
    have HC : Hid ((upT F l ys).length ≤ cap) := Lib.hid (by
      obtain ⟨_, ⟨h, _⟩ | ⟨g2, c2, cur, he, _, _, hn, _⟩⟩ := hrow
      · cases h
      · cases he; exact hn)
    have hc1 := hv1.cell
    have hul : (upT F l ys).length = R := by simp [upT, hyl]
    have HB := Lib.hid hB
    have HU := Lib.hid hul
    have hwl := hv1.lt
    clear hrow hB hys hul
    gi_wp2_with fail
    refine ⟨trivial, callsIn_wide.2 ((reverse_any g cap w.heap.size (upT F l ys) W hg0 (by have := HU.out; omega) hrd hrf).mono ?_)⟩
    rintro e w4 ⟨rfl, hrd4, hbl4, hhp4⟩
    have hc4 : w4.cell? ⟨w1.heap.size, 0, none⟩ = some (.slice (some ⟨g, 0, none⟩) (upT F l ys).length cap) := (World.cell?_of_block (hhp4 _ hwl hne)).trans hc1
    have hK4 := (hhp4 D hDl hDg).trans hKD
    have hj := join_any g cap (upT F l ys).reverse w4 (Nat.lt_of_lt_of_le hg1 hbl4.size) (by rw [List.length_reverse]; have := HU.out; omega) (by rw [List.length_reverse]; exact HC.out) hrd4 (by rw [List.map_reverse, hup, List.reverse_reverse, ← text_jn]; have := accT_bd F R l R; have : R * (2 * F + 2) ≤ 8 * (2 * 8 + 2) := Nat.mul_le_mul r8 (by omega); omega)
    rw [List.length_reverse, List.map_reverse, hup, List.reverse_reverse, ← text_jn] at hj
    gi_wp2_with fail
    refine ⟨trivial, callsIn_wide.2 (hj.mono ?_)⟩
    rintro e w5 ⟨rfl, hb5⟩
    have hK5 := (hb5.block D (Nat.lt_of_lt_of_le hDl hbl4.size)).trans hK4
    gi_wp2
    refine ⟨by simp, .inl ⟨_, _, rfl, run_takeDeferred hK5, ?_⟩⟩
    exact ⟨_, results_tmp2 rfl _ _ _, rfl, (HB.out.trans (hbl4.trans (hb5.mono (Nat.le_trans HB.out.size hbl4.size)))).trans (belowK_b (w := w) (Nat.le_refl _) w5 D _ _ (by simp at hD; omega) hK5 rfl rfl)⟩
  case stop =>
    rintro D c pre W _ _ h _
    exact h.elim

/-- the program's text of a valid board. -/
theorem text_yes (F R : Nat) (l : List Int) (A : Option Addr) (c : Nat) (w : World) (hv : vbd F R l) (hcap : l.length ≤ c) (hA : RdP w w.heap.size A l c) (hK : Kinds w) :
    Calls Tryd.prog 31 #[.agg #[.int .i64 F, .int .i64 R, .slice A l.length c]] w fun e w' => e = .returned (.tuple #[.string (textB F R l), .int .i64 0]) ∧ Below w.heap.size w w' :=
  callsIn_wide.1 (text_in F R l A c w hv hcap hA hK)

set_option maxRecDepth 100000 in
set_option maxHeartbeats 1000000 in
theorem text_no (F R : Int) (l : List Int) (A : Option Addr) (c : Nat) (w : World) (hlen : l.length ≤ 100000) (hv : ¬ vbd F R l) (hA : RdP w w.heap.size A l c) :
    Calls Tryd.prog 31 #[.agg #[.int .i64 F, .int .i64 R, .slice A l.length c]] w fun e w' => e = .returned (.tuple #[.string ⟨#[]⟩, .int .i64 2]) ∧ Below w.heap.size w w' := by
  have W0 : Below w.heap.size w (w.alloc (.cells #[.int .i64 F, .int .i64 R, .slice A l.length c] 26)) := box1 _ _
  have A1 := (hA.below W0).grow W0.size
  clear hA
  go_enter Tryd.func31, Tryd.ntmps31
  go_wp2_with fail
  refine (bValid_no F R l A c hv _ hlen A1).mono ?_
  rintro e w1 ⟨rfl, hb1⟩
  have hB := Lib.hid (chain W0 hb1)
  clear hb1 W0 A1
  go_wp2
  go_ret2
  exact ⟨rfl, hB.out⟩

end Go.Proofs.YtolohfkenglpcaaDoor
