/- The examples of the chapter: the usual board, a square with a name, a set of squares with names. -/
import Derived.Deep.AppendLies
import Derived.Deep.RegionLaw
import Derived.Deep.RegionHeld3
import Derived.Deep.DrawnRows
import Derived.Test.YtejlbjbmpdddkaaDoorRyA
import Derived.Test.YtejlbjbmpdddkaaDoorSqZ
namespace Go.Proofs.YtejlbjbmpdddkaaDoor
open Go.RowKit

theorem full_any (w : World) : Calls Tryd.prog 29 #[] w fun e w' => e = .returned (.agg #[.int .i64 8, .int .i64 8]) ∧ Below w.heap.size w w' := by
  go_enter Tryd.func29, Tryd.ntmps29
  go_wp2
  exact bodyPost_ret (v := .agg #[.int .i64 8, .int .i64 8]) (by simp [results, Tryd.results29, go_sem]) rfl ⟨rfl, by go_grown⟩

set_option maxRecDepth 100000 in
set_option maxHeartbeats 1000000 in
theorem at_sq (s : ByteArray) (a : Int) (ha : vat 8 8 a) (hs : nameB 8 a = s) (w : World) : Calls Tryd.prog 30 #[.string s] w fun e w' => e = .returned (.int .i64 a) ∧ Below w.heap.size w w' := by
  have H := Lib.hid (refParse_yes 8 8 a s ha hs)
  clear ha hs
  go_enter Tryd.func30, Tryd.ntmps30
  go_wp2_with fail
  refine (full_any _).mono ?_
  rintro e w1 ⟨rfl, h1⟩
  go_wp2_with fail
  refine (H.out _).mono ?_
  rintro e w2 ⟨rfl, h2⟩
  go_wp2
  go_ret
  exact ⟨rfl, chain h1 h2⟩

/-- a string holds the names of these squares, one behind the other. -/
def Names (s : ByteArray) (l : List Nat) : Prop := s.size = 2 * l.length ∧ ∀ k, k < l.length → vat 8 8 ((l[k]?.getD 0 : Nat) : Int) ∧ nameB 8 ((l[k]?.getD 0 : Nat) : Int) = s.extract (2 * k) (2 * k + 2)

set_option maxRecDepth 100000 in
set_option maxHeartbeats 2000000 in
theorem set_sq (s : ByteArray) (l : List Nat) (hl : l.length ≤ 8) (hs : Names s l) (w : World) : Calls Tryd.prog 31 #[.string s] w fun e w' => e = .returned (.int .u64 (ofL l : Int)) ∧ Below w.heap.size w w' := by
  obtain ⟨i0, hi, hz0, hz1, hz2⟩ := info_parts ints3
  obtain ⟨hsz, hnm⟩ := hs
  have HZ := Lib.hid hsz
  have HN := Lib.hid hnm
  clear hsz hnm
  go_enter Tryd.func31, Tryd.ntmps31
  go_wp2
  go_loopg [3, 4] 8 (fun gn v i wr => ∃ (k j : Nat), gn = 8 - k ∧ k ≤ l.length ∧ j = 2 * k ∧ i = .int .i64 j ∧ wr.ownsRow w.heap.size 3 1 v k (vnats (l.take k)) ∧ Below w.heap.size w wr)
  case atStart => exact ⟨0, 0, rfl, by omega, rfl, rfl, World.ownsRow_nil _ _ _ _, Below.refl _ _⟩
  case round =>
    obtain ⟨k, j, hgk, hk, hj, rfl, hown, hB⟩ := hrel
    have hsz := HZ.out
    by_cases hlt : k < l.length
    · have hlt2 : (j : Int) + 1 < (s.size : Int) := by omega
      have b0 : (0 : Int) ≤ (j : Int) := by omega
      have b1 : (j : Int) ≤ (j : Int) + 2 := by omega
      have b2 : (j : Int) + 2 ≤ (s.size : Int) := by omega
      have hs16 : s.size ≤ 16 := by omega
      obtain ⟨hv, hn⟩ := HN.out k hlt
      have HT : Hid (vnats (l.take (k + 1)) = vnats (l.take k) ++ [.int .i64 ((l[k]?.getD 0 : Nat) : Int)]) := Lib.hid (by
        rw [List.take_succ_eq_append_getElem hlt, vnats_snoc, List.getElem?_eq_getElem hlt]; rfl)
      have hn2 : nameB 8 ((l[k]?.getD 0 : Nat) : Int) = s.extract j (j + 2) := by rw [hj]; exact hn
      have HP := Lib.hid (refParse_yes 8 8 _ _ hv hn2)
      clear hv hn hn2
      generalize l[k]?.getD 0 = q at *
      have HJ := Lib.hid hj
      have HGK := Lib.hid hgk
      clear hj hsz hgk
      go_wp2
      have hs1 := hB.size
      have hw2 : IntKind.i64.wrap ((j : Int) + 2) = (j : Int) + 2 := IntWalk.i64_in _ (by omega)
      have b3 : (0 : Int) ≤ (j : Int) + 2 := by omega
      have b4 : ((j : Int) + 2).toNat = j + 2 := by omega
      go_region_held3 (fun _ => True) (trivial)
       (first
        | (go_at_call 29; refine (full_any _).mono ?_; rintro e w1 ⟨rfl, hb1⟩; have hown1 := own_below hown.drew hb1; have hB1 := hB.drew.trans (hb1.mono hs1); have hs2 := hb1.size)
        | (go_at_call 52; refine (HP.out _).mono ?_; rintro e w2 ⟨rfl, hb2⟩; have hown2 := own_below hown1 hb2; have hB2 := hB1.trans (hb2.mono (Nat.le_trans hs1 hs2)); have hs3 := hb2.size)
        | (refine step_append_lies _ (by rfl) _ _ _ (by rfl) w.heap.size 3 i0 (.int .i64 0) 1 8 Tryd.underlying24 hi hz0 hz1 hz2 rfl (by decide) _ k _ (by rfl) (hown2.alloc _)
            ⟨w2.heap.size, 0, none⟩ 1 1 [.int .i64 (q : Int)] (by rfl) rfl (World.news_of_block (cs := #[.int .i64 (q : Int)]) (t := 3) (fr := (0, 0)) (heap_alloc_new _ _)) (by intro u hu; simp at hu; subst hu; rfl) (by omega) (by unfold maxLen; omega) (by omega) (Nat.le_trans hB2.size (by simp)) (w2.heap.size + 1) (by simp) ?_; intro g cap w3 hown3 hgrow hat hlt))
      clear hw2 b3 b4
      go_wp2
      go_roundg (8 - (k + 1))
      case measure => have := HGK.out; omega
      case rel =>
        have hj := HJ.out
        refine ⟨k + 1, j + 2, rfl, by omega, by omega, by go_num, by rw [HT.out]; exact hown3, ?_⟩
        exact (hB2.alloc hB2.size _).grown hgrow (Nat.le_trans hB2.size (by simp)) (fun r e => (World.ownsRow.lt hown2 r e).1)
    · have hkl : k = l.length := by omega
      have HL : Hid (sqs ((l.take k).map fun i : Nat => (i : Int)) = l) := Lib.hid (by rw [sqs_nat, hkl, List.take_length])
      have hm : (l.take k).length = k := by rw [List.length_take]; omega
      have hown2 : wr.ownsRow w.heap.size 3 1 u3 (l.take k).length (vnats (l.take k)) := by rw [hm]; exact hown
      obtain ⟨A, c, rfl, hc, hA⟩ := RdI.own' hown2
      have hlt2 : ¬ ((j : Int) + 1 < (s.size : Int)) := by omega
      have hs16 : s.size ≤ 16 := by omega
      have hj16 : j ≤ 16 := by omega
      have HM : Hid (∀ i, i < ((l.take k).map fun i : Nat => (i : Int)).length → 0 ≤ ((l.take k).map fun i : Nat => (i : Int))[i]?.getD 0 ∧ ((l.take k).map fun i : Nat => (i : Int))[i]?.getD 0 < 64) := Lib.hid (by
        intro i hi
        simp at hi
        have h1 := (HN.out i (by omega)).1
        have h2 : ((l.take k).map fun i : Nat => (i : Int))[i]?.getD 0 = ((l[i]?.getD 0 : Nat) : Int) := by
          rw [List.getElem?_map, List.getElem?_take, if_pos (by omega), List.getElem?_eq_getElem (show i < l.length by omega)]; rfl
        rw [h2]
        have := h1.2.1
        have := h1.2.2
        omega)
      have hlen : ((l.take k).map fun i : Nat => (i : Int)).length = (l.take k).length := by simp
      rw [← hlen]
      have hl2 : ((l.take k).map fun i : Nat => (i : Int)).length ≤ 1000000 := by rw [hlen, hm]; omega
      clear hown hown2 hlen hm hsz hj hgk hkl
      generalize ((l.take k).map fun i : Nat => (i : Int)) = z at *
      go_wp2_with fail
      refine (refOf_any z A c _ hl2 hA HM.out).mono ?_
      rintro e w1 ⟨rfl, rfl⟩
      go_wp2
      go_ret
      exact ⟨ret_int (by rw [HL.out]), hB⟩

end Go.Proofs.YtejlbjbmpdddkaaDoor
