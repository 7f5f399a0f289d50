/- Texts of boards: the board with a text, as the program reads it. -/
import Derived.Test.YtelkmdklpcfobaaGreatDoorBpP
import Derived.Laws.AppendOwnNone
import Derived.Test.YtelkmdklpcfobaaGreatDoorBpC
import Derived.Test.YtelkmdklpcfobaaGreatDoorBdD

namespace Go.Proofs.YtelkmdklpcfobaaGreatDoor
open Go.RowKit

/-- what the program's reading gives. -/
def ParsedP (w : World) (o : Option (Nat × Nat × List Int)) (e : Ending) (w' : World) : Prop :=
  match o with
  | none => e = .returned (.tuple #[.agg #[.int .i64 0, .int .i64 0, .slice none 0 0], .int .i64 6]) ∧ Below w.heap.size w w'
  | some (f, r, ps) => ∃ v, e = .returned (.tuple #[.agg #[.int .i64 (f : Int), .int .i64 (r : Int), v], .int .i64 0]) ∧ w'.ownsRow w.heap.size 41 1 v ps.length (vpcs ps) ∧ Below w.heap.size w w'
theorem ParsedP.no {w w' : World} {o : Option (Nat × Nat × List Int)} (h : o = none) (hb : Below w.heap.size w w') : ParsedP w o (.returned (.tuple #[.agg #[.int .i64 0, .int .i64 0, .slice none 0 0], .int .i64 6])) w' := by
  subst h
  exact ⟨rfl, hb⟩
theorem ParsedP.yes {w w' : World} {o : Option (Nat × Nat × List Int)} {f r : Nat} {ps : List Int} {v : Value} (h : o = some (f, r, ps)) (ho : w'.ownsRow w.heap.size 41 1 v ps.length (vpcs ps)) (hb : Below w.heap.size w w') : ParsedP w o (.returned (.tuple #[.agg #[.int .i64 (f : Int), .int .i64 (r : Int), v], .int .i64 0])) w' := by
  subst h
  exact ⟨_, rfl, ho, hb⟩

set_option maxRecDepth 100000 in
set_option maxHeartbeats 2000000 in
theorem parse_bd (s : ByteArray) (w : World) (hs : s.size ≤ 200) (hK : Kinds w) :
    Calls Tryz.prog 63 #[.string s] w (ParsedP w (pgParse s.data.toList)) := by
  obtain ⟨i0, hi, hz0, hz1, hz2⟩ := info_parts infoPc
  have hls : s.data.toList.length = s.size := by rw [Array.length_toList]; rfl
  obtain ⟨_, hp1, hp9⟩ := parts9_or s.data.toList
  have hp1 := Lib.hid hp1
  have hp9 := Lib.hid hp9
  have hls := Lib.hid hls
  go_enter Tryz.func63, Tryz.ntmps63
  go_wp2_with fail
  refine (splitN_any s (by omega) _).mono ?_
  rintro e w1 ⟨xs, c, rfl, hxc, hxs, hrd, hfz, hsz, hb1⟩
  have hB1 : Below w.heap.size w w1 := after1 hb1
  simp only [World.size_alloc] at hrd hfz hsz hb1 ⊢
  have hxl : xs.length = (parts9 s.data.toList).length := by rw [← hxs, List.length_map]
  have hx9 : xs.length ≤ 9 := by have := hp9.out; omega
  have hx1 : 1 ≤ xs.length := by have := hp1.out; omega
  have HXS := Lib.hid hxs
  have HXL := Lib.hid hxl
  clear hxs hxl
  have HEach : Hid (∀ t ∈ xs, t.size ≤ 1000) := Lib.hid fun t ht => by
    have := parts9_each s.data.toList t.data.toList (by rw [← HXS.out]; exact List.mem_map.2 ⟨t, ht, rfl⟩)
    rw [hls.out, Array.length_toList] at this
    have e : t.data.size = t.size := rfl
    omega
  go_wp2_with fail
  refine (reverse_any (w.heap.size + 1) c w.heap.size xs w1 (by omega) (by omega) hrd hfz).mono ?_
  rintro e w2 ⟨rfl, hrd2, hb2, hh2⟩
  have s2 := hb2.size
  have z0 := hb1.cell (p := ⟨w.heap.size, 0, none⟩) (by simp)
  have z1 := hb1.cell (p := ⟨w.heap.size, 1, none⟩) (by simp)
  have z2 := hb1.cell (p := ⟨w.heap.size, 2, none⟩) (by simp)
  have zf : ∀ o, w1.frozen? ⟨w.heap.size, o, none⟩ = false := fun o => (hb1.frozen (p := ⟨w.heap.size, o, none⟩) (by simp)).trans (by simp [go_sem])
  simp [go_sem] at z0 z1 z2
  have hhr := hh2 w.heap.size (by omega) (by omega)
  have y0 : w2.cell? ⟨w.heap.size, 0, none⟩ = some (.int .i64 0) := (World.cell?_of_block hhr).trans z0
  have y1 : w2.cell? ⟨w.heap.size, 1, none⟩ = some (.int .i64 0) := (World.cell?_of_block hhr).trans z1
  have y2 : w2.cell? ⟨w.heap.size, 2, none⟩ = some (.slice none 0 0) := (World.cell?_of_block hhr).trans z2
  have yf : ∀ o, w2.frozen? ⟨w.heap.size, o, none⟩ = false := fun o => (World.frozen?_of_block hhr).trans (zf o)
  have hB2 : Below w.heap.size w w2 := hB1.trans hb2
  have hs2 : w.heap.size + 1 < w2.heap.size := by omega
  clear z0 z1 z2 zf hhr hh2 hb2 hb1 hrd hfz
  go_wp2_with fail
  have hB3 : Below w.heap.size w (w2.alloc (.cells #[.int .i64 0, .int .i64 xs.length, .slice none 0 0] 30)) := hB2.alloc hB2.size _
  have x0 : (w2.alloc (.cells #[.int .i64 0, .int .i64 xs.length, .slice none 0 0] 30)).cell? ⟨w2.heap.size, 0, none⟩ = some (.int .i64 0) := by simp [go_sem]
  have x1 : (w2.alloc (.cells #[.int .i64 0, .int .i64 xs.length, .slice none 0 0] 30)).cell? ⟨w2.heap.size, 1, none⟩ = some (.int .i64 xs.length) := by simp [go_sem]
  have x2 : (w2.alloc (.cells #[.int .i64 0, .int .i64 xs.length, .slice none 0 0] 30)).cell? ⟨w2.heap.size, 2, none⟩ = some (.slice none 0 0) := by simp [go_sem]
  have xf : ∀ o, (w2.alloc (.cells #[.int .i64 0, .int .i64 xs.length, .slice none 0 0] 30)).frozen? ⟨w2.heap.size, o, none⟩ = false := fun o => by simp [go_sem]
  have v0 := liv (.cells #[.int .i64 0, .int .i64 xs.length, .slice none 0 0] 30) y0
  have v1 := liv (.cells #[.int .i64 0, .int .i64 xs.length, .slice none 0 0] 30) y1
  have v2 := liv (.cells #[.int .i64 0, .int .i64 xs.length, .slice none 0 0] 30) y2
  have vf : ∀ o, (w2.alloc (.cells #[.int .i64 0, .int .i64 xs.length, .slice none 0 0] 30)).frozen? ⟨w.heap.size, o, none⟩ = false := fun o => ((box1 _ _).frozen (p := ⟨w.heap.size, o, none⟩) (show w.heap.size < w2.heap.size by omega)).trans (yf o)
  have hrd3 : RdSt (w2.alloc (.cells #[.int .i64 0, .int .i64 xs.length, .slice none 0 0] 30)) (w.heap.size + 1) xs.reverse := hrd2.below (box1 _ _) hs2
  have hsz3 : (w2.alloc (.cells #[.int .i64 0, .int .i64 xs.length, .slice none 0 0] 30)).heap.size = w2.heap.size + 1 := by simp
  generalize (w2.alloc (.cells #[.int .i64 0, .int .i64 xs.length, .slice none 0 0] 30)) = W3 at *
  clear y0 y1 y2 yf hrd2 hB1
  go_loopw [6, 7, 8, 9, 20] (fun _ _ _ _ i wr => ∃ (k f : Nat) (ps : List Int) (v : Value), k ≤ xs.length ∧ i = .int .i64 k ∧ pgT (parts9 s.data.toList) k = some (f, ps) ∧ f ≤ 8 ∧ ps.length ≤ 8 * k ∧
    (wr.cell? ⟨w2.heap.size, 0, none⟩ = some (.int .i64 f) ∧ wr.cell? ⟨w2.heap.size, 1, none⟩ = some (.int .i64 xs.length) ∧ wr.cell? ⟨w2.heap.size, 2, none⟩ = some v ∧ ∀ o, wr.frozen? ⟨w2.heap.size, o, none⟩ = false) ∧
    wr.ownsRow (w2.heap.size + 1) 41 1 v ps.length (vpcs ps) ∧ Below w2.heap.size W3 wr ∧ w2.heap.size < wr.heap.size) (fun _ _ _ _ i _ => xs.length - (intOf i).toNat)
  case atStart => exact ⟨0, 0, [], _, by omega, rfl, rfl, by omega, by simp, ⟨x0, x1, x2, xf⟩, World.ownsRow_nil _ _ _ _, Below.refl _ _, by omega⟩
  case round =>
    obtain ⟨k, f, ps, v, hk, rfl, hpg, hf8, hps, ⟨b0, b1, b2, bf⟩, hown, hB, hBB⟩ := hrel
    by_cases hlt : k < xs.length
    · have hrk : RdSt wr (w.heap.size + 1) xs.reverse := hrd3.below hB hs2
      have hcell := hrk.at_ (k := k) (by simpa using hlt)
      have htx : xs.reverse[k]?.getD ByteArray.empty = xs[xs.length - 1 - k]?.getD ByteArray.empty := by rw [List.getElem?_reverse hlt]
      rw [htx] at hcell
      obtain ⟨t, ht⟩ : ∃ t, t = xs[xs.length - 1 - k]?.getD ByteArray.empty := ⟨_, rfl⟩
      rw [← ht] at hcell
      have htm : t ∈ xs := by rw [ht, List.getElem?_eq_getElem (by omega)]; exact List.getElem_mem _
      have htl : (parts9 s.data.toList)[(parts9 s.data.toList).length - 1 - k]?.getD [] = t.data.toList := by
        rw [← HXL.out, ← HXS.out, List.getElem?_map, ht, List.getElem?_eq_getElem (show xs.length - 1 - k < xs.length by omega)]
        rfl
      have ht1 := HEach.out t htm
      have HPG := Lib.hid hpg
      have HTL := Lib.hid htl
      clear htl ht htm htx hpg
      have hW3 := hB3.trans (hB.mono hB2.size)
      have r0 := (hB.cell (p := ⟨w.heap.size, 0, none⟩) (show w.heap.size < w2.heap.size by omega)).trans v0
      have r1 := (hB.cell (p := ⟨w.heap.size, 1, none⟩) (show w.heap.size < w2.heap.size by omega)).trans v1
      have r2 := (hB.cell (p := ⟨w.heap.size, 2, none⟩) (show w.heap.size < w2.heap.size by omega)).trans v2
      have rf : ∀ o, wr.frozen? ⟨w.heap.size, o, none⟩ = false := fun o => (hB.frozen (p := ⟨w.heap.size, o, none⟩) (show w.heap.size < w2.heap.size by omega)).trans (vf o)
      clear v0 v1 v2 vf hrk hrd3
      go_wp2_with fail
      refine (parseRank_any t wr ht1 (hK.below hW3 hK.1)).mono ?_
      intro e w3 hR
      have hNext : Hid (∀ o, prow8 t.data.toList = o → pgT (parts9 s.data.toList) (k + 1) = match o with | none => none | some row => if 0 < k ∧ row.length ≠ f then none else some (row.length, ps ++ row)) := Lib.hid fun o ho => by
        show (match pgT (parts9 s.data.toList) k with | none => none | some (f, ps) => match prow8 ((parts9 s.data.toList)[(parts9 s.data.toList).length - 1 - k]?.getD []) with | none => none | some row => if 0 < k ∧ row.length ≠ f then none else some (row.length, ps ++ row)) = _
        rw [HPG.out, HTL.out, ho]
      have hDead : Hid (pgT (parts9 s.data.toList) (k + 1) = none → pgParse s.data.toList = none) := Lib.hid fun h => by
        unfold pgParse
        rw [pgT_end _ (k + 1) (by rw [← HXL.out]; omega) h]
        rfl
      cases hq : prow8 t.data.toList with
      | none =>
        rw [hq] at hR
        obtain ⟨rfl, hb3⟩ := hR
        have hN : Hid (pgParse s.data.toList = none) := Lib.hid (hDead.out (hNext.out none hq))
        have q0 := (hb3.cell (p := ⟨w.heap.size, 0, none⟩) (show w.heap.size < wr.heap.size by omega)).trans r0
        have q1 := (hb3.cell (p := ⟨w.heap.size, 1, none⟩) (show w.heap.size < wr.heap.size by omega)).trans r1
        have q2 := (hb3.cell (p := ⟨w.heap.size, 2, none⟩) (show w.heap.size < wr.heap.size by omega)).trans r2
        have qf : ∀ o, w3.frozen? ⟨w.heap.size, o, none⟩ = false := fun o => (hb3.frozen (p := ⟨w.heap.size, o, none⟩) (show w.heap.size < wr.heap.size by omega)).trans (rf o)
        have HB := Lib.hid (chain hW3 hb3)
        clear hb3 hB hown hW3 hB3 hB2
        go_wp2
        refine bodyPost_ret (v := .tuple #[.agg #[.int .i64 0, .int .i64 0, .slice none 0 0], .int .i64 6]) ?_ rfl (ParsedP.no hN.out ?_)
        · simp [results, Tryz.results63, go_sem, q0, q1, q2]
        · exact ((HB.out.setCell (p := ⟨w.heap.size, 0, none⟩) (by simp) _).setCell (p := ⟨w.heap.size, 1, none⟩) (by simp) _).setCell (p := ⟨w.heap.size, 2, none⟩) (by simp) _
      | some row =>
        rw [hq] at hR
        obtain ⟨v2, rfl, hown2, hb3⟩ := hR
        obtain ⟨A2, c2, rfl, hc2, hRd2⟩ := RdP.own hown2
        have hr8 := prow8_len hq
        have d0 := (hb3.cell (p := ⟨w2.heap.size, 0, none⟩) (show w2.heap.size < wr.heap.size by omega)).trans b0
        have d1 := (hb3.cell (p := ⟨w2.heap.size, 1, none⟩) (show w2.heap.size < wr.heap.size by omega)).trans b1
        have d2 := (hb3.cell (p := ⟨w2.heap.size, 2, none⟩) (show w2.heap.size < wr.heap.size by omega)).trans b2
        have df : ∀ o, w3.frozen? ⟨w2.heap.size, o, none⟩ = false := fun o => (hb3.frozen (p := ⟨w2.heap.size, o, none⟩) (show w2.heap.size < wr.heap.size by omega)).trans (bf o)
        by_cases hbad : 0 < k ∧ row.length ≠ f
        · have hN : Hid (pgParse s.data.toList = none) := Lib.hid (hDead.out (by rw [hNext.out _ hq]; simp only; rw [if_pos hbad]))
          have hk0 : 0 < k := hbad.1
          have hne : ((row.length : Int) != (f : Int)) = true := bne_iff_ne.2 (by omega)
          have q0 := (hb3.cell (p := ⟨w.heap.size, 0, none⟩) (show w.heap.size < wr.heap.size by omega)).trans r0
          have q1 := (hb3.cell (p := ⟨w.heap.size, 1, none⟩) (show w.heap.size < wr.heap.size by omega)).trans r1
          have q2 := (hb3.cell (p := ⟨w.heap.size, 2, none⟩) (show w.heap.size < wr.heap.size by omega)).trans r2
          have qf : ∀ o, w3.frozen? ⟨w.heap.size, o, none⟩ = false := fun o => (hb3.frozen (p := ⟨w.heap.size, o, none⟩) (show w.heap.size < wr.heap.size by omega)).trans (rf o)
          have HB := Lib.hid (chain hW3 hb3)
          clear hb3 hB hown hW3 hB3 hB2 hbad hown2 hRd2 hq
          go_wp2
          refine bodyPost_ret (v := .tuple #[.agg #[.int .i64 0, .int .i64 0, .slice none 0 0], .int .i64 6]) ?_ rfl (ParsedP.no hN.out ?_)
          · simp [results, Tryz.results63, go_sem, q0, q1, q2]
          · exact ((HB.out.setCell (p := ⟨w.heap.size, 0, none⟩) (by simp) _).setCell (p := ⟨w.heap.size, 1, none⟩) (by simp) _).setCell (p := ⟨w.heap.size, 2, none⟩) (by simp) _
        · have hGood : Hid (pgT (parts9 s.data.toList) (k + 1) = some (row.length, ps ++ row)) := Lib.hid (by rw [hNext.out _ hq]; simp only; rw [if_neg hbad])
          have hown3 := own_below hown hb3
          have hownB : (w3.setCell ⟨w2.heap.size, 0, none⟩ (.int .i64 (row.length : Int))).ownsRow (w2.heap.size + 1) 41 1 v ps.length (vpcs ps) := ownsRow_setCell_below hown3 (a := ⟨w2.heap.size, 0, none⟩) (by simp) _
          have HB3 : Hid (Below w2.heap.size W3 (w3.setCell ⟨w2.heap.size, 0, none⟩ (.int .i64 (row.length : Int)))) := Lib.hid ((hB.trans (hb3.mono (Nat.le_of_lt hBB))).setCell (p := ⟨w2.heap.size, 0, none⟩) (Nat.le_refl _) _)
          have g0 : (w3.setCell ⟨w2.heap.size, 0, none⟩ (.int .i64 (row.length : Int))).cell? ⟨w2.heap.size, 0, none⟩ = some (.int .i64 (row.length : Int)) := World.cell?_setCell_same _ _ _ d0
          have g1 : (w3.setCell ⟨w2.heap.size, 0, none⟩ (.int .i64 (row.length : Int))).cell? ⟨w2.heap.size, 1, none⟩ = some (.int .i64 xs.length) := (World.cell?_setCell_other _ _ _ _ (by simp)).trans d1
          have g2 : (w3.setCell ⟨w2.heap.size, 0, none⟩ (.int .i64 (row.length : Int))).cell? ⟨w2.heap.size, 2, none⟩ = some v := (World.cell?_setCell_other _ _ _ _ (by simp)).trans d2
          have gf : ∀ o, (w3.setCell ⟨w2.heap.size, 0, none⟩ (.int .i64 (row.length : Int))).frozen? ⟨w2.heap.size, o, none⟩ = false := fun o => (World.frozen?_setCell ..).trans (df o)
          have hk' : k = 0 ∨ (0 < k ∧ f = row.length) := by
            by_cases h0 : 0 < k
            · exact .inr ⟨h0, Classical.byContradiction fun hc => hbad ⟨h0, fun e => hc e.symm⟩⟩
            · exact .inl (by omega)
          have hs3 := hb3.size
          have hb3' := Lib.hid hb3
          have hlv : ps.length + row.length ≤ 200 := by omega
          clear hbad hq hown hB hW3 hB3 hB2 r0 r1 r2 rf b0 b1 b2 bf
          cases A2 with
          | none =>
            obtain ⟨hz, rfl⟩ := hRd2.1 rfl
            have hrn : row = [] := List.eq_nil_of_length_eq_zero hz
            subst hrn
            clear hRd2 hown2 hz
            have hownC : (w3.setCell ⟨w2.heap.size, 0, none⟩ (.int .i64 0)).ownsRow (w2.heap.size + 1) 41 1 v ps.length (vpcs ps) := hownB
            have HB4 : Hid (Below w2.heap.size W3 (w3.setCell ⟨w2.heap.size, 0, none⟩ (.int .i64 0))) := Lib.hid HB3.out
            have e0 : (w3.setCell ⟨w2.heap.size, 0, none⟩ (.int .i64 0)).cell? ⟨w2.heap.size, 0, none⟩ = some (.int .i64 0) := g0
            have e1 : (w3.setCell ⟨w2.heap.size, 0, none⟩ (.int .i64 0)).cell? ⟨w2.heap.size, 1, none⟩ = some (.int .i64 xs.length) := g1
            have e2 : (w3.setCell ⟨w2.heap.size, 0, none⟩ (.int .i64 0)).cell? ⟨w2.heap.size, 2, none⟩ = some v := g2
            have ef : ∀ o, (w3.setCell ⟨w2.heap.size, 0, none⟩ (.int .i64 0)).frozen? ⟨w2.heap.size, o, none⟩ = false := gf
            have hPG : Hid (pgT (parts9 s.data.toList) (k + 1) = some (0, ps)) := Lib.hid (by have := hGood.out; rwa [List.append_nil] at this)
            obtain ⟨Av, cv, rfl, _, _⟩ := RdP.own hownC
            have hlt4 := Nat.lt_of_lt_of_le hBB hs3
            clear hownB HB3 g0 g1 g2 gf hGood hNext
            have hownC := Lib.hid hownC
            rcases hk' with rfl | ⟨hk0, hf0⟩
            · go_wp2_with (at_builtin; (refine wpList_append_own_none rfl _ _ 24 rfl (w2.heap.size + 1) 41 i0 1 Tryz.underlying24 hi (.slice Av ps.length cv) ps.length (vpcs ps) rfl hownC.out rfl ?_))
              go_roundw
              case rel =>
                refine ⟨0 + 1, 0, ps, .slice Av ps.length cv, by omega, by go_num, hPG.out, by omega, by omega, ⟨?_, ?_, ?_, ?_⟩, ?_, ?_, ?_⟩
                · exact (World.cell?_setCell_other _ _ _ _ (by simp)).trans e0
                · exact (World.cell?_setCell_other _ _ _ _ (by simp)).trans e1
                · exact World.cell?_setCell_same _ _ _ e2
                · exact fun o => (World.frozen?_setCell ..).trans (ef o)
                · exact ownsRow_setCell_below hownC.out (a := ⟨w2.heap.size, 2, none⟩) (by simp) _
                · exact HB4.out.setCell (p := ⟨w2.heap.size, 2, none⟩) (Nat.le_refl _) _
                · simpa using hlt4
              case measure => simp [intOf]; omega
            · simp only [List.length_nil] at hf0
              subst hf0
              go_wp2_with (at_builtin; (refine wpList_append_own_none rfl _ _ 24 rfl (w2.heap.size + 1) 41 i0 1 Tryz.underlying24 hi (.slice Av ps.length cv) ps.length (vpcs ps) rfl hownC.out rfl ?_))
              go_roundw
              case rel =>
                refine ⟨k + 1, 0, ps, .slice Av ps.length cv, by omega, by go_num, hPG.out, by omega, by omega, ⟨?_, ?_, ?_, ?_⟩, ?_, ?_, ?_⟩
                · exact (World.cell?_setCell_other _ _ _ _ (by simp)).trans e0
                · exact (World.cell?_setCell_other _ _ _ _ (by simp)).trans e1
                · exact World.cell?_setCell_same _ _ _ e2
                · exact fun o => (World.frozen?_setCell ..).trans (ef o)
                · exact ownsRow_setCell_below hownC.out (a := ⟨w2.heap.size, 2, none⟩) (by simp) _
                · exact HB4.out.setCell (p := ⟨w2.heap.size, 2, none⟩) (Nat.le_refl _) _
                · simpa using hlt4
              case measure => simp [intOf]; omega
          | some ad2 =>
            have hg2 := (World.ownsRow.lt hown2 ad2.block rfl).1
            have hc3 : Hid (∀ j u, (vpcs row)[j]? = some u → (w3.setCell ⟨w2.heap.size, 0, none⟩ (.int .i64 (row.length : Int))).cell? (ad2.add j) = some u) := Lib.hid fun j u hu =>
              (World.cell?_setCell_other _ _ _ _ (fun e => by
                have := congrArg Addr.block e
                rw [blk_add] at this
                simp at this
                omega)).trans (hRd2.cells ad2 rfl j u hu)
            obtain ⟨Av, cv, rfl, _, _⟩ := RdP.own hownB
            have hownB := Lib.hid hownB
            clear hRd2 hown2 hNext
            rcases hk' with rfl | ⟨hk0, rfl⟩
            · go_wp2_with (at_builtin; (refine wpList_append_own _ rfl _ _ 24 rfl (w2.heap.size + 1) 41 i0 (.int .i8 0) 1 1 Tryz.underlying24 hi hz0 hz1 hz2 rfl (by decide) _ _ _ rfl hownB.out ad2 row.length c2 (vpcs row) rfl (by simp [vpcs_len]) hc3.out vpcs_one ?c3 ?c4 ?c5 ?_))
              case c3 => unfold maxLen; omega
              case c4 => omega
              case c5 => simp; omega
              intro v' w4 hown4 hgrow _
              have hown5 : w4.ownsRow (w2.heap.size + 1) 41 1 v' (ps ++ row).length (vpcs (ps ++ row)) := by
                rw [List.length_append]
                have e : vpcs (ps ++ row) = vpcs ps ++ vpcs row := by simp [vpcs]
                rw [e]
                exact hown4
              obtain ⟨A4, c4, rfl, _, _⟩ := RdP.own hown5
              have hno : some w2.heap.size ≠ (Value.slice Av ps.length cv).ownBlock := fun e => by have := (World.ownsRow.lt hownB.out _ e.symm).1; omega
              have e0 := hgrow.cell g0 hno
              have e1 := hgrow.cell g1 hno
              have e2 := hgrow.cell g2 hno
              have ef : ∀ o, w4.frozen? ⟨w2.heap.size, o, none⟩ = false := fun o => (World.frozen?_of_block (hgrow.block w2.heap.size (by simp; omega) hno)).trans (gf o)
              have HB4 := Lib.hid (HB3.out.grown hgrow (by simp; omega) (fun r e => by have := (World.ownsRow.lt hownB.out r e).1; omega))
              have hlt4 : w2.heap.size < w4.heap.size := Nat.lt_of_lt_of_le hBB (Nat.le_trans hs3 (by have := hgrow.size; simpa using this))
              have hown5 : Hid (w4.ownsRow (w2.heap.size + 1) 41 1 (.slice A4 (ps.length + row.length) c4) (ps ++ row).length (vpcs (ps ++ row))) := Lib.hid (by rw [← List.length_append]; exact hown5)
              clear hown4 hgrow g0 g1 g2 gf
              go_wp2
              go_roundw
              case rel =>
                refine ⟨0 + 1, row.length, ps ++ row, .slice A4 (ps.length + row.length) c4, by omega, by go_num, hGood.out, hr8, by rw [List.length_append]; omega, ⟨?_, ?_, ?_, ?_⟩, ?_, ?_, ?_⟩
                · exact (World.cell?_setCell_other _ _ _ _ (by simp)).trans e0
                · exact (World.cell?_setCell_other _ _ _ _ (by simp)).trans e1
                · exact World.cell?_setCell_same' _ _ _ (by rw [e2]; rfl)
                · exact fun o => (World.frozen?_setCell ..).trans (ef o)
                · exact ownsRow_setCell_below hown5.out (a := ⟨w2.heap.size, 2, none⟩) (by simp) _
                · exact HB4.out.setCell (p := ⟨w2.heap.size, 2, none⟩) (Nat.le_refl _) _
                · simpa using hlt4
              case measure => simp [intOf]; omega
            · go_wp2_with (at_builtin; (refine wpList_append_own _ rfl _ _ 24 rfl (w2.heap.size + 1) 41 i0 (.int .i8 0) 1 1 Tryz.underlying24 hi hz0 hz1 hz2 rfl (by decide) _ _ _ rfl hownB.out ad2 row.length c2 (vpcs row) rfl (by simp [vpcs_len]) hc3.out vpcs_one ?c3 ?c4 ?c5 ?_))
              case c3 => unfold maxLen; omega
              case c4 => omega
              case c5 => simp; omega
              intro v' w4 hown4 hgrow _
              have hown5 : w4.ownsRow (w2.heap.size + 1) 41 1 v' (ps ++ row).length (vpcs (ps ++ row)) := by
                rw [List.length_append]
                have e : vpcs (ps ++ row) = vpcs ps ++ vpcs row := by simp [vpcs]
                rw [e]
                exact hown4
              obtain ⟨A4, c4, rfl, _, _⟩ := RdP.own hown5
              have hno : some w2.heap.size ≠ (Value.slice Av ps.length cv).ownBlock := fun e => by have := (World.ownsRow.lt hownB.out _ e.symm).1; omega
              have e0 := hgrow.cell g0 hno
              have e1 := hgrow.cell g1 hno
              have e2 := hgrow.cell g2 hno
              have ef : ∀ o, w4.frozen? ⟨w2.heap.size, o, none⟩ = false := fun o => (World.frozen?_of_block (hgrow.block w2.heap.size (by simp; omega) hno)).trans (gf o)
              have HB4 := Lib.hid (HB3.out.grown hgrow (by simp; omega) (fun r e => by have := (World.ownsRow.lt hownB.out r e).1; omega))
              have hlt4 : w2.heap.size < w4.heap.size := Nat.lt_of_lt_of_le hBB (Nat.le_trans hs3 (by have := hgrow.size; simpa using this))
              have hown5 : Hid (w4.ownsRow (w2.heap.size + 1) 41 1 (.slice A4 (ps.length + row.length) c4) (ps ++ row).length (vpcs (ps ++ row))) := Lib.hid (by rw [← List.length_append]; exact hown5)
              clear hown4 hgrow g0 g1 g2 gf
              go_wp2
              go_roundw
              case rel =>
                refine ⟨k + 1, row.length, ps ++ row, .slice A4 (ps.length + row.length) c4, by omega, by go_num, hGood.out, hr8, by rw [List.length_append]; omega, ⟨?_, ?_, ?_, ?_⟩, ?_, ?_, ?_⟩
                · exact (World.cell?_setCell_other _ _ _ _ (by simp)).trans e0
                · exact (World.cell?_setCell_other _ _ _ _ (by simp)).trans e1
                · exact World.cell?_setCell_same' _ _ _ (by rw [e2]; rfl)
                · exact fun o => (World.frozen?_setCell ..).trans (ef o)
                · exact ownsRow_setCell_below hown5.out (a := ⟨w2.heap.size, 2, none⟩) (by simp) _
                · exact HB4.out.setCell (p := ⟨w2.heap.size, 2, none⟩) (Nat.le_refl _) _
                · simpa using hlt4
              case measure => simp [intOf]; omega
    · have hkl : k = xs.length := by omega
      subst hkl
      have r0 := (hB.cell (p := ⟨w.heap.size, 0, none⟩) (show w.heap.size < w2.heap.size by omega)).trans v0
      have r1 := (hB.cell (p := ⟨w.heap.size, 1, none⟩) (show w.heap.size < w2.heap.size by omega)).trans v1
      have r2 := (hB.cell (p := ⟨w.heap.size, 2, none⟩) (show w.heap.size < w2.heap.size by omega)).trans v2
      have rf : ∀ o, wr.frozen? ⟨w.heap.size, o, none⟩ = false := fun o => (hB.frozen (p := ⟨w.heap.size, o, none⟩) (show w.heap.size < w2.heap.size by omega)).trans (vf o)
      have hW3 := hB3.trans (hB.mono hB2.size)
      obtain ⟨Av, cv, rfl, _, _⟩ := RdP.own hown
      by_cases hv : vsz f xs.length
      · have hP : Hid (pgParse s.data.toList = some (f, xs.length, ps)) := Lib.hid (by
          unfold pgParse
          rw [← HXL.out, hpg]
          unfold pgFin
          show (if 3 ≤ f ∧ f ≤ 8 ∧ 3 ≤ xs.length ∧ xs.length ≤ 8 then some (f, xs.length, ps) else none) = _
          rw [if_pos (by obtain ⟨a, b, c, d⟩ := hv; omega)])
        clear v0 v1 v2 vf hrd3 hpg
        go_wp2_with fail
        refine (validSize_yes f xs.length hv _).mono ?_
        rintro e w4 ⟨rfl, hb4⟩
        have q0 := (hb4.cell (p := ⟨w.heap.size, 0, none⟩) (show w.heap.size < wr.heap.size by omega)).trans r0
        have q1 := (hb4.cell (p := ⟨w.heap.size, 1, none⟩) (show w.heap.size < wr.heap.size by omega)).trans r1
        have q2 := (hb4.cell (p := ⟨w.heap.size, 2, none⟩) (show w.heap.size < wr.heap.size by omega)).trans r2
        have qf : ∀ o, w4.frozen? ⟨w.heap.size, o, none⟩ = false := fun o => (hb4.frozen (p := ⟨w.heap.size, o, none⟩) (show w.heap.size < wr.heap.size by omega)).trans (rf o)
        have d0 := (hb4.cell (p := ⟨w2.heap.size, 0, none⟩) (show w2.heap.size < wr.heap.size by omega)).trans b0
        have d1 := (hb4.cell (p := ⟨w2.heap.size, 1, none⟩) (show w2.heap.size < wr.heap.size by omega)).trans b1
        have d2 := (hb4.cell (p := ⟨w2.heap.size, 2, none⟩) (show w2.heap.size < wr.heap.size by omega)).trans b2
        have hownE := Lib.hid (World.ownsRow.mono (ownsRow_setCell_below (ownsRow_setCell_below (ownsRow_setCell_below (own_below hown hb4) (a := ⟨w.heap.size, 0, none⟩) (show w.heap.size < w2.heap.size + 1 by omega) (.int .i64 (f : Int))) (a := ⟨w.heap.size, 1, none⟩) (show w.heap.size < w2.heap.size + 1 by omega) (.int .i64 (xs.length : Int))) (a := ⟨w.heap.size, 2, none⟩) (show w.heap.size < w2.heap.size + 1 by omega) (.slice Av ps.length cv)) (base' := w.heap.size) (by omega))
        have HB := Lib.hid (((((hW3.trans (hb4.mono (by omega))).setCell (p := ⟨w.heap.size, 0, none⟩) (by simp) (.int .i64 (f : Int))).setCell (p := ⟨w.heap.size, 1, none⟩) (by simp) (.int .i64 (xs.length : Int))).setCell (p := ⟨w.heap.size, 2, none⟩) (by simp) (.slice Av ps.length cv)))
        clear hb4 hB hown hW3 hB3 hB2
        go_wp2
        refine bodyPost_ret (v := .tuple #[.agg #[.int .i64 (f : Int), .int .i64 (xs.length : Int), .slice Av ps.length cv], .int .i64 0]) ?_ rfl (ParsedP.yes hP.out hownE.out HB.out)
        simp [results, Tryz.results63, go_sem, q0, q1, q2]
      · have hP : Hid (pgParse s.data.toList = none) := Lib.hid (by
          unfold pgParse
          rw [← HXL.out, hpg]
          unfold pgFin
          show (if 3 ≤ f ∧ f ≤ 8 ∧ 3 ≤ xs.length ∧ xs.length ≤ 8 then some (f, xs.length, ps) else none) = _
          rw [if_neg (fun hc => hv ⟨by omega, by omega, by omega, by omega⟩)])
        clear v0 v1 v2 vf hrd3 hpg
        go_wp2_with fail
        refine (validSize_no f xs.length hv _).mono ?_
        rintro e w4 ⟨rfl, hb4⟩
        have q0 := (hb4.cell (p := ⟨w.heap.size, 0, none⟩) (show w.heap.size < wr.heap.size by omega)).trans r0
        have q1 := (hb4.cell (p := ⟨w.heap.size, 1, none⟩) (show w.heap.size < wr.heap.size by omega)).trans r1
        have q2 := (hb4.cell (p := ⟨w.heap.size, 2, none⟩) (show w.heap.size < wr.heap.size by omega)).trans r2
        have qf : ∀ o, w4.frozen? ⟨w.heap.size, o, none⟩ = false := fun o => (hb4.frozen (p := ⟨w.heap.size, o, none⟩) (show w.heap.size < wr.heap.size by omega)).trans (rf o)
        have HB := Lib.hid (hW3.trans (hb4.mono (by omega)))
        clear hb4 hB hown hW3 hB3 hB2
        go_wp2
        refine bodyPost_ret (v := .tuple #[.agg #[.int .i64 0, .int .i64 0, .slice none 0 0], .int .i64 6]) ?_ rfl (ParsedP.no hP.out ?_)
        · simp [results, Tryz.results63, go_sem, q0, q1, q2]
        · exact ((HB.out.setCell (p := ⟨w.heap.size, 0, none⟩) (by simp) _).setCell (p := ⟨w.heap.size, 1, none⟩) (by simp) _).setCell (p := ⟨w.heap.size, 2, none⟩) (by simp) _

end Go.Proofs.YtelkmdklpcfobaaGreatDoor

/- Boards: the program's sets of squares and sums of values. -/
namespace Go.Proofs.YtelkmdklpcfobaaGreatDoor
open Go.RowKit

theorem sumV_snoc (l : List Int) (q : List Nat) (k : Nat) : sumV l (q ++ [k]) = sumV l q + valP (l[k]?.getD 0) := by
  unfold sumV; simp
theorem sumV_all (l : List Int) (q : List Nat) : 0 ≤ sumV l q ∧ sumV l q ≤ 9 * q.length := by
  have := sumV_bd l q q.length (Nat.le_refl _)
  rwa [List.take_length] at this

theorem idx_white (l : List Int) : idx (fun p => decide (0 < p)) l = idx (sdP 1) l := by
  congr 1
  funext p
  unfold sdP sgnP
  by_cases h : p < 0
  · rw [if_pos h]; simp; omega
  · by_cases h2 : 0 < p
    · rw [if_neg h, if_pos h2]; simp [h2]
    · rw [if_neg h, if_neg h2]; simp; omega
theorem idx_black (l : List Int) : idx (fun p => decide (p < 0)) l = idx (sdP (-1)) l := by
  congr 1
  funext p
  unfold sdP sgnP
  by_cases h : p < 0
  · rw [if_pos h]; simp [h]
  · by_cases h2 : 0 < p
    · rw [if_neg h, if_pos h2]; simp; omega
    · rw [if_neg h, if_neg h2]; simp; omega

/-- the set of the squares of the pieces that are such. -/
def setP (P : Int → Bool) (l : List Int) : Nat := ofL (idx P l)
theorem vbd_len {F R : Int} {l : List Int} (h : vbd F R l) : l.length ≤ 64 := by have := vsz_mul h.1; have := h.2.1; omega

end Go.Proofs.YtelkmdklpcfobaaGreatDoor

/- The examples of the chapter of boards: what each call gives. -/
namespace Go.Proofs.YtelkmdklpcfobaaGreatDoor
open Go.RowKit

theorem parse_any' (s : ByteArray) (w : World) (hs : s.size ≤ 200) (hK : Kinds w) :
    Calls Tryz.prog 63 #[.string s] w (ParsedP w (parseB s.data.toList)) := by
  rw [← pgParse_eq]
  exact parse_bd s w hs hK

def zB : List Int := [0, 0, 0, 0, 0, 0, 0, 0, 0, 0, 0, 0]
def pB : List Int := [0, 0, 0, 0, -6, 0, 0, 0, 0, 0, 0, 0]
def cB : List Int := [0, 0, 6, 0, 0, 0, -6, 0, 0]
def dB : List Int := [4, 2, 3, 5, 6, 1, 1, 1, 1, 1, 0, 0, 0, 0, 0, -4, -2, -3, -5, -6]
theorem okL_of {l : List Int} (h : (l.all fun n => decide (-15 ≤ n) && decide (n ≤ 15)) = true) : ∀ j, j < l.length → okP (l[j]?.getD 0) := by
  intro j hj
  rw [List.getElem?_eq_getElem hj]
  have := List.all_eq_true.1 h _ (List.getElem_mem hj)
  simp at this
  exact this
theorem zB_v : vbd 3 4 zB := ⟨⟨by omega, by omega, by omega, by omega⟩, rfl, okL_of (by decide)⟩
theorem pB_v : vbd 3 4 pB := ⟨⟨by omega, by omega, by omega, by omega⟩, rfl, okL_of (by decide)⟩
theorem cB_v : vbd 3 3 cB := ⟨⟨by omega, by omega, by omega, by omega⟩, rfl, okL_of (by decide)⟩
theorem dB_v : vbd 5 4 dB := ⟨⟨by omega, by omega, by omega, by omega⟩, rfl, okL_of (by decide)⟩

theorem kb_text1 (A : Option Addr) (c : Nat) (w : World) (hc : 12 ≤ c) (hA : RdP w w.heap.size A zB c) (hK : Kinds w) : Calls Tryz.prog 52 #[.agg #[.int .i64 3, .int .i64 4, .slice A 12 c]] w fun e w' => e = .returned (.tuple #[.string ⟨#[51, 47, 51, 47, 51, 47, 51]⟩, .int .i64 0]) ∧ Below w.heap.size w w' :=
  (text_yes 3 4 zB A c w zB_v hc hA hK).mono fun e w' h => ⟨by rw [h.1, show textB 3 4 zB = ⟨#[51, 47, 51, 47, 51, 47, 51]⟩ by decide +kernel], h.2⟩
theorem kb_text2 (A : Option Addr) (c : Nat) (w : World) (hc : 12 ≤ c) (hA : RdP w w.heap.size A pB c) (hK : Kinds w) : Calls Tryz.prog 52 #[.agg #[.int .i64 3, .int .i64 4, .slice A 12 c]] w fun e w' => e = .returned (.tuple #[.string ⟨#[51, 47, 51, 47, 49, 107, 49, 47, 51]⟩, .int .i64 0]) ∧ Below w.heap.size w w' :=
  (text_yes 3 4 pB A c w pB_v hc hA hK).mono fun e w' h => ⟨by rw [h.1, show textB 3 4 pB = ⟨#[51, 47, 51, 47, 49, 107, 49, 47, 51]⟩ by decide +kernel], h.2⟩
theorem kb_parse1 (w : World) (hK : Kinds w) : Calls Tryz.prog 63 #[.string ⟨#[107, 50, 47, 51, 47, 50, 75]⟩] w fun e w' => ∃ A c, e = .returned (.tuple #[.agg #[.int .i64 3, .int .i64 3, .slice A 9 c], .int .i64 0]) ∧ 9 ≤ c ∧ RdP w' w'.heap.size A cB c ∧ Below w.heap.size w w' :=
  (parse_any' ⟨#[107, 50, 47, 51, 47, 50, 75]⟩ w (by decide) hK).mono fun e w' h => by
    rw [show parseB (ByteArray.mk #[107, 50, 47, 51, 47, 50, 75]).data.toList = some (3, 3, cB) by decide +kernel] at h
    obtain ⟨v, rfl, ho, hb⟩ := h
    obtain ⟨A, c, rfl, hc, hr⟩ := RdP.own ho
    exact ⟨A, c, rfl, hc, hr, hb⟩
theorem kb_parse2 (w : World) (hK : Kinds w) : Calls Tryz.prog 63 #[.string ⟨#[114, 110, 98, 113, 107, 47, 53, 47, 80, 80, 80, 80, 80, 47, 82, 78, 66, 81, 75]⟩] w fun e w' => ∃ A c, e = .returned (.tuple #[.agg #[.int .i64 5, .int .i64 4, .slice A 20 c], .int .i64 0]) ∧ 20 ≤ c ∧ RdP w' w'.heap.size A dB c ∧ Below w.heap.size w w' :=
  (parse_any' ⟨#[114, 110, 98, 113, 107, 47, 53, 47, 80, 80, 80, 80, 80, 47, 82, 78, 66, 81, 75]⟩ w (by decide) hK).mono fun e w' h => by
    rw [show parseB (ByteArray.mk #[114, 110, 98, 113, 107, 47, 53, 47, 80, 80, 80, 80, 80, 47, 82, 78, 66, 81, 75]).data.toList = some (5, 4, dB) by decide +kernel] at h
    obtain ⟨v, rfl, ho, hb⟩ := h
    obtain ⟨A, c, rfl, hc, hr⟩ := RdP.own ho
    exact ⟨A, c, rfl, hc, hr, hb⟩
/-- the texts that are none. -/
def badT : List ByteArray := [⟨#[107, 50, 47, 49, 49, 49, 47, 50, 75]⟩, ⟨#[107, 50, 47, 51, 47, 51, 75]⟩, ⟨#[107, 50, 47, 50, 75]⟩, ⟨#[107, 50, 47, 52, 47, 50, 75]⟩, ⟨#[120, 50, 47, 51, 47, 50, 75]⟩]
theorem badT_all : (badT.all fun t => decide (parseB t.data.toList = none) && decide (t.size ≤ 200)) = true := by decide +kernel
theorem kb_bad (t : ByteArray) (ht : t ∈ badT) (w : World) (hK : Kinds w) : Calls Tryz.prog 63 #[.string t] w fun e w' => e = .returned (.tuple #[.agg #[.int .i64 0, .int .i64 0, .slice none 0 0], .int .i64 6]) ∧ Below w.heap.size w w' := by
  have h := List.all_eq_true.1 badT_all t ht
  simp at h
  refine (parse_any' t w (by have := h.2; omega) hK).mono fun e w' hp => ?_
  rw [h.1] at hp
  exact hp
end Go.Proofs.YtelkmdklpcfobaaGreatDoor
