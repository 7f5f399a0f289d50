/- Moves, by the program: the text of a move. -/
import Derived.Test.YtpcfgeggjfbfjaaDoorMwA
namespace Go.Proofs.YtpcfgeggjfbfjaaDoor
open Go.RowKit Go.Sort

/-- the string of one byte. -/
def b1 (x : Int) : ByteArray := ByteArray.empty.push (UInt8.ofNat x.toNat)
theorem conv1 (W : World) (x : Int) : (convert 71 9 (.slice (some ⟨W.heap.size, 0, none⟩) 1 1)).run Tryd.prog (W.alloc (.cells #[.int .u8 x] 5)) = .ok (.string (b1 x)) (W.alloc (.cells #[.int .u8 x] 5)) := by
  rw [run_convert_bytes_string _ _ _ _ _ _ _ Tryd.underlying71 Tryd.underlying5 Tryd.underlying9, run_bytesToString _ _ _ _ [x] (by simp [go_sem, loadCells])]
  rfl
theorem b1_data (x : Int) : (b1 x).data.toList = [UInt8.ofNat x.toNat] := rfl

theorem letterM (p : Int) (h0 : 1 ≤ p) (h1 : p ≤ 15) (w : World) (hK : Kinds w) : Calls Tryd.prog 43 #[.int .i8 p] w fun e w' => e = .returned (.tuple #[.int .u8 (lt p : Int), .int .i64 0]) ∧ w = w' := by
  obtain ⟨i, rfl⟩ : ∃ i : Nat, p = (i : Int) := ⟨p.toNat, by omega⟩
  rw [lt_pos (by omega)]
  exact letter_pos i (by omega) (by omega) w hK

set_option maxRecDepth 100000 in
set_option maxHeartbeats 1000000 in
theorem proT_any (p : Int) (h : okPr p) (w : World) (hK : Kinds w) :
    Calls Tryd.prog 32 #[.int .i8 p] w fun e w' => e = .returned (.string (bsL (prL p))) ∧ Below w.heap.size w w' := by
  by_cases h0 : p = 0
  · subst h0
    have E : Hid ((⟨#[]⟩ : ByteArray) = bsL (prL 0)) := Lib.hid rfl
    clear h hK
    go_enter Tryd.func32, Tryd.ntmps32
    go_wp2
    go_ret
    exact ⟨ret_str E.out, Below.refl _ _⟩
  · have hz : (p == 0) = false := beq_eq_false_iff_ne.2 h0
    have h2 : 2 ≤ p ∧ p ≤ 5 := h.resolve_left h0
    have HL := Lib.hid (letterM p (by omega) (by omega) w hK)
    have hl := lt_rng (p := p) ⟨by omega, by omega⟩ h0
    have E : Hid (b1 (lt p : Int) = bsL (prL p)) := Lib.hid (by
      apply bytes_eq
      rw [b1_data, bsL_toList]
      unfold prL
      rw [if_neg h0, Int.toNat_natCast])
    have hcv := fun W => conv1 W (lt p : Int)
    clear h hK h2
    generalize lt p = c at *
    go_enter Tryd.func32, Tryd.ntmps32
    go_wp2_with fail
    refine (HL.out).mono ?_
    rintro e w1 ⟨rfl, rfl⟩
    go_wp2
    go_ret
    exact ⟨ret_str E.out, box1 _ _⟩

set_option maxRecDepth 100000 in
set_option maxHeartbeats 2000000 in
theorem mvText_yes (F R x y p : Int) (h : okM F R ⟨x, y, p⟩) (w : World) (hK : Kinds w) :
    Calls Tryd.prog 14 #[.agg #[.int .i64 F, .int .i64 R], .agg #[.int .i64 x, .int .i64 y, .int .i8 p]] w fun e w' => e = .returned (.tuple #[.string (bsL (mvT F ⟨x, y, p⟩)), .int .i64 0]) ∧ Below w.heap.size w w' := by
  have hs := box2 w F R
  have hm := box3 (w.alloc (.cells #[.int .i64 F, .int .i64 R] 23)) x y p
  rw [World.size_alloc] at hm
  have b0 := box1 w (.cells #[.int .i64 F, .int .i64 R] 23)
  have b1 := box1 (w.alloc (.cells #[.int .i64 F, .int .i64 R] 23)) (.cells #[.int .i64 x, .int .i64 y, .int .i8 p] 27)
  replace hs := hs.below b1 hs.lt
  have hB := chain b0 b1
  have hk := hK.1
  replace hK := hK.below hB hk
  clear b0 b1
  have HV := Lib.hid (fun w => mvValid_any F R x y p true (by simp [h]) w)
  have HX := Lib.hid (fun w => name_yes F R x h.1 w)
  have HY := Lib.hid (fun w => name_yes F R y h.2.1 w)
  have HP := Lib.hid (fun w hK => proT_any p h.2.2.2 w hK)
  have E : Hid (nameB F x ++ nameB F y ++ bsL (prL p) = bsL (mvT F ⟨x, y, p⟩)) := Lib.hid (by
    apply bytes_eq
    rw [bsL_toList]
    unfold mvT
    have e : nameB F x ++ nameB F y ++ bsL (prL p) = bsL ((nameB F x).data.toList ++ (nameB F y).data.toList ++ prL p) := by
      rw [← bsL_append, ← bsL_append, bsL_of, bsL_of]
    rw [e, bsL_toList, List.append_assoc])
  have z1 : (nameB F x).size = 2 := nm_size _ _
  have z2 : (nameB F y).size = 2 := nm_size _ _
  have z3 : (bsL (prL p)).size ≤ 1 := by rw [bsL_size]; unfold prL; split <;> simp
  clear h
  generalize nameB F x = t1 at *
  generalize nameB F y = t2 at *
  generalize bsL (prL p) = t3 at *
  go_enter Tryd.func14, Tryd.ntmps14
  obtain ⟨s0, s1⟩ := id hs
  obtain ⟨⟨m0, m1, m2⟩, mf⟩ := id hm
  go_wp2_with fail
  refine (HV.out _).mono ?_
  rintro e w1 ⟨rfl, b1⟩
  clear s0 s1 m0 m1 m2 mf
  replace hs := hs.below b1 hs.lt
  replace hm := hm.below b1 hm.lt
  replace hK := hK.below b1 hK.1
  replace hB := chain hB b1
  clear b1
  obtain ⟨s0, s1⟩ := id hs
  obtain ⟨⟨m0, m1, m2⟩, mf⟩ := id hm
  go_wp2_with fail
  refine (HX.out _).mono ?_
  rintro e w2 ⟨rfl, b2⟩
  clear s0 s1 m0 m1 m2 mf
  replace hs := hs.below b2 hs.lt
  replace hm := hm.below b2 hm.lt
  replace hK := hK.below b2 hK.1
  replace hB := chain hB b2
  clear b2
  obtain ⟨s0, s1⟩ := id hs
  obtain ⟨⟨m0, m1, m2⟩, mf⟩ := id hm
  go_wp2_with fail
  refine (HY.out _).mono ?_
  rintro e w3 ⟨rfl, b3⟩
  clear s0 s1 m0 m1 m2 mf
  replace hs := hs.below b3 hs.lt
  replace hm := hm.below b3 hm.lt
  replace hK := hK.below b3 hK.1
  replace hB := chain hB b3
  clear b3
  obtain ⟨s0, s1⟩ := id hs
  obtain ⟨⟨m0, m1, m2⟩, mf⟩ := id hm
  have z4 : (t1 ++ t2).size = 4 := by rw [ByteArray.size_append]; omega
  go_wp2_with fail
  refine (HP.out _ hK).mono ?_
  rintro e w4 ⟨rfl, b4⟩
  replace hB := chain hB b4
  clear s0 s1 m0 m1 m2 mf
  go_wp2
  go_ret2
  exact ⟨ret2 (by rw [← E.out]; rfl) rfl, hB⟩

set_option maxRecDepth 100000 in
set_option maxHeartbeats 2000000 in
theorem mvText_no (F R x y p : Int) (h : ¬ okM F R ⟨x, y, p⟩) (w : World) :
    Calls Tryd.prog 14 #[.agg #[.int .i64 F, .int .i64 R], .agg #[.int .i64 x, .int .i64 y, .int .i8 p]] w fun e w' => e = .returned (.tuple #[.string ⟨#[]⟩, .int .i64 2]) ∧ Below w.heap.size w w' := by
  have HV := Lib.hid (fun w => mvValid_any F R x y p false (by simp [h]) w)
  clear h
  go_enter Tryd.func14, Tryd.ntmps14
  go_wp2_with fail
  refine (HV.out _).mono ?_
  rintro e w1 ⟨rfl, b1⟩
  go_wp2
  go_ret2
  exact ⟨rfl, after2 b1⟩

end Go.Proofs.YtpcfgeggjfbfjaaDoor
