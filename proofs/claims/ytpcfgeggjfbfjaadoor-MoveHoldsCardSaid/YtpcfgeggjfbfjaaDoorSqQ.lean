/- Reading the names of squares: the program's Parse and the reference's. -/
import Derived.Test.YtpcfgeggjfbfjaaDoorSqM
namespace Go.Proofs.YtpcfgeggjfbfjaaDoor
open Go.RowKit

theorem nm_data (x y : Int) : (nm x y).data.toList = [UInt8.ofNat x.toNat, UInt8.ofNat y.toNat] := rfl
theorem nm_size (x y : Int) : (nm x y).size = 2 := by
  show (nm x y).data.size = 2
  rw [← Array.length_toList, nm_data]
  rfl
theorem bytes_eq {a b : ByteArray} (h : a.data.toList = b.data.toList) : a = b := by
  cases a with | mk x => cases b with | mk y => cases x with | mk l => cases y with | mk m => simp at h; rw [h]
theorem toList_ne {a b : ByteArray} (h : a ≠ b) : (a.toList == b.toList) = false := by
  rw [beq_eq_false_iff_ne, ByteArray.toList_eq, ByteArray.toList_eq]
  exact fun e => h (bytes_eq e)
theorem u8_of (x : Int) (h0 : 0 ≤ x) (h1 : x < 256) : ((UInt8.ofNat x.toNat).toNat : Int) = x := by
  have : (UInt8.ofNat x.toNat).toNat = x.toNat := by simp; omega
  omega
theorem nm_inj {x y x' y' : Int} (hx : 0 ≤ x ∧ x < 256) (hy : 0 ≤ y ∧ y < 256) (hx' : 0 ≤ x' ∧ x' < 256) (hy' : 0 ≤ y' ∧ y' < 256) (h : nm x y = nm x' y') : x = x' ∧ y = y' := by
  have h2 := congrArg (fun s : ByteArray => s.data.toList) h
  simp only [nm_data, List.cons.injEq] at h2
  have e1 := congrArg (fun b : UInt8 => (b.toNat : Int)) h2.1
  have e2 := congrArg (fun b : UInt8 => (b.toNat : Int)) h2.2.1
  try dsimp only at e1 e2
  rw [u8_of x hx.1 hx.2, u8_of x' hx'.1 hx'.2] at e1
  rw [u8_of y hy.1 hy.2, u8_of y' hy'.1 hy'.2] at e2
  exact ⟨e1, e2⟩
theorem nm_get (x y : Int) (hx : 0 ≤ x ∧ x < 256) (hy : 0 ≤ y ∧ y < 256) (n0 : 0 < (nm x y).size) (n1 : 1 < (nm x y).size) : (((nm x y)[0]'n0).toNat : Int) = x ∧ (((nm x y)[1]'n1).toNat : Int) = y := by
  have h0 : ((nm x y)[0]'n0) = UInt8.ofNat x.toNat := rfl
  have h1 : ((nm x y)[1]'n1) = UInt8.ofNat y.toNat := rfl
  rw [h0, h1]
  exact ⟨u8_of x hx.1 hx.2, u8_of y hy.1 hy.2⟩
theorem eq_nm (s : ByteArray) (h : s.size = 2) (n0 : 0 < s.size) (n1 : 1 < s.size) : s = nm ((s[0]'n0).toNat : Int) ((s[1]'n1).toNat : Int) := by
  apply bytes_eq
  rw [nm_data]
  have hl : s.data.toList.length = 2 := by simpa using h
  obtain ⟨⟨l⟩⟩ := s
  match l, hl with
  | [a, b], _ =>
    have e0 : (ByteArray.mk #[a, b])[0]'n0 = a := rfl
    have e1 : (ByteArray.mk #[a, b])[1]'n1 = b := rfl
    simp [e0, e1]

theorem name_bd {F R a : Int} (h : vat F R a) : (0 ≤ 97 + a % F ∧ 97 + a % F < 256) ∧ (0 ≤ 49 + a / F ∧ 49 + a / F < 256) := by
  obtain ⟨p0, p1, p2, p3⟩ := place_bd h.1 h.2.1 h.2.2
  have f2 := h.1.2.1
  have r2 := h.1.2.2.2
  omega
theorem nameB_inj {F R a b : Int} (ha : vat F R a) (hb : vat F R b) (h : nameB F a = nameB F b) : a = b := by
  obtain ⟨x, y⟩ := name_bd ha
  obtain ⟨x', y'⟩ := name_bd hb
  obtain ⟨e1, e2⟩ := nm_inj x y x' y' h
  have := place_eq (a := a) ha.1
  have := place_eq (a := b) hb.1
  rw [← place_eq (a := a) ha.1, ← place_eq (a := b) hb.1, show a % F = b % F from by omega, show a / F = b / F from by omega]

set_option maxRecDepth 100000 in
set_option maxHeartbeats 1000000 in
theorem parse_in (F R x y : Int) (s : ByteArray) (hv : vsz F R) (n0 : 0 < s.size) (n1 : 1 < s.size) (h2 : s.size = 2) (hx : ((s[0]'n0).toNat : Int) = x) (hy : ((s[1]'n1).toNat : Int) = y) (h : onb F R (x - 97) (y - 49)) (w : World) :
    Calls Tryd.prog 35 #[.agg #[.int .i64 F, .int .i64 R], .string s] w fun e w' => e = .returned (.tuple #[.int .i64 (x - 97 + (y - 49) * F), .int .i64 0]) ∧ Below w.heap.size w w' := by
  have g0 : (0 : Int) < (s.size : Int) := by omega
  have g1 : (1 : Int) < (s.size : Int) := by omega
  have hd : ((s.size : Int) != 2) = false := by simp; omega
  have x0 : 0 ≤ x ∧ x < 256 := by have := (s[0]'n0).toNat_lt; omega
  have y0 : 0 ≤ y ∧ y < 256 := by have := (s[1]'n1).toNat_lt; omega
  clear h2
  go_enter Tryd.func35, Tryd.ntmps35
  go_wp2_with fail
  refine (validSize_yes _ _ hv _).mono ?_
  rintro e w1 ⟨rfl, hb⟩
  have s1 := hb.size
  simp at s1
  have hc0 := hb.cell (p := ⟨w.heap.size, 0, none⟩) (by simp)
  have hc1 := hb.cell (p := ⟨w.heap.size, 1, none⟩) (by simp)
  simp [go_sem] at hc0 hc1
  go_wp2
  go_quiet (fail)
  go_wp2_with fail
  refine (onBoard_yes _ _ _ _ h _).mono ?_
  rintro e w2 ⟨rfl, hb2⟩
  have hd0 := (hb2.cell (p := ⟨w.heap.size, 0, none⟩) (by simp; omega)).trans hc0
  have hd1 := (hb2.cell (p := ⟨w.heap.size, 1, none⟩) (by simp; omega)).trans hc1
  go_wp2_with fail
  refine (number_any _ _ _ _ hv h _).mono ?_
  rintro e w3 ⟨rfl, hb3⟩
  go_wp2
  go_ret2
  exact ⟨rfl, after1 (chain (chain (drawn hb _) hb2) hb3)⟩

set_option maxRecDepth 100000 in
set_option maxHeartbeats 1000000 in
theorem parse_off (F R x y : Int) (s : ByteArray) (hv : vsz F R) (n0 : 0 < s.size) (n1 : 1 < s.size) (h2 : s.size = 2) (hx : ((s[0]'n0).toNat : Int) = x) (hy : ((s[1]'n1).toNat : Int) = y) (h : ¬ onb F R (x - 97) (y - 49)) (w : World) :
    Calls Tryd.prog 35 #[.agg #[.int .i64 F, .int .i64 R], .string s] w fun e w' => e = .returned (.tuple #[.int .i64 0, .int .i64 6]) ∧ Below w.heap.size w w' := by
  have g0 : (0 : Int) < (s.size : Int) := by omega
  have g1 : (1 : Int) < (s.size : Int) := by omega
  have hd : ((s.size : Int) != 2) = false := by simp; omega
  have x0 : 0 ≤ x ∧ x < 256 := by have := (s[0]'n0).toNat_lt; omega
  have y0 : 0 ≤ y ∧ y < 256 := by have := (s[1]'n1).toNat_lt; omega
  have H := Lib.hid h
  clear h2 h
  go_enter Tryd.func35, Tryd.ntmps35
  go_wp2_with fail
  refine (validSize_yes _ _ hv _).mono ?_
  rintro e w1 ⟨rfl, hb⟩
  have hc0 := hb.cell (p := ⟨w.heap.size, 0, none⟩) (by simp)
  have hc1 := hb.cell (p := ⟨w.heap.size, 1, none⟩) (by simp)
  simp [go_sem] at hc0 hc1
  go_wp2
  go_quiet (fail)
  go_wp2_with fail
  refine (onBoard_no _ _ _ _ H.out _).mono ?_
  rintro e w2 ⟨rfl, hb2⟩
  go_wp2
  go_ret2
  exact ⟨rfl, after1 (chain (drawn hb _) hb2)⟩

set_option maxRecDepth 100000 in
set_option maxHeartbeats 1000000 in
theorem parse_len (F R : Int) (s : ByteArray) (hv : vsz F R) (h : s.size ≠ 2) (w : World) :
    Calls Tryd.prog 35 #[.agg #[.int .i64 F, .int .i64 R], .string s] w fun e w' => e = .returned (.tuple #[.int .i64 0, .int .i64 6]) ∧ Below w.heap.size w w' := by
  have hd : ((s.size : Int) != 2) = true := by rw [bne_iff_ne]; omega
  go_enter Tryd.func35, Tryd.ntmps35
  go_wp2_with fail
  refine (validSize_yes _ _ hv _).mono ?_
  rintro e w1 ⟨rfl, hb⟩
  go_wp2
  go_ret2
  exact ⟨rfl, after1 hb⟩

set_option maxRecDepth 100000 in
set_option maxHeartbeats 1000000 in
theorem parse_no (F R : Int) (s : ByteArray) (hv : ¬ vsz F R) (w : World) :
    Calls Tryd.prog 35 #[.agg #[.int .i64 F, .int .i64 R], .string s] w fun e w' => e = .returned (.tuple #[.int .i64 0, .int .i64 2]) ∧ Below w.heap.size w w' := by
  go_enter Tryd.func35, Tryd.ntmps35
  go_wp2_with fail
  refine (validSize_no _ _ hv _).mono ?_
  rintro e w1 ⟨rfl, hb⟩
  go_wp2
  go_ret2
  exact ⟨rfl, after1 hb⟩

/-- The name of a square is read. -/
theorem parse_name (F R a : Int) (ha : vat F R a) (w : World) :
    Calls Tryd.prog 35 #[.agg #[.int .i64 F, .int .i64 R], .string (nameB F a)] w fun e w' => e = .returned (.tuple #[.int .i64 a, .int .i64 0]) ∧ Below w.heap.size w w' := by
  obtain ⟨bx, b_y⟩ := name_bd ha
  have hs : (nameB F a).size = 2 := nm_size _ _
  have n0 : 0 < (nameB F a).size := by omega
  have n1 : 1 < (nameB F a).size := by omega
  obtain ⟨e0, e1⟩ := nm_get (97 + a % F) (49 + a / F) bx b_y n0 n1
  obtain ⟨p0, p1, p2, p3⟩ := place_bd ha.1 ha.2.1 ha.2.2
  have := parse_in F R (97 + a % F) (49 + a / F) (nameB F a) ha.1 n0 n1 hs e0 e1 ⟨by omega, by omega, by omega, by omega⟩ w
  rw [show 97 + a % F - 97 = a % F from by omega, show 49 + a / F - 49 = a / F from by omega, place_eq ha.1] at this
  exact this

/-- What is not the name of a square is not read. -/
theorem parse_none (F R : Int) (s : ByteArray) (hv : vsz F R) (h : ∀ a, vat F R a → nameB F a ≠ s) (w : World) :
    Calls Tryd.prog 35 #[.agg #[.int .i64 F, .int .i64 R], .string s] w fun e w' => e = .returned (.tuple #[.int .i64 0, .int .i64 6]) ∧ Below w.heap.size w w' := by
  by_cases h2 : s.size = 2
  · have n0 : 0 < s.size := by omega
    have n1 : 1 < s.size := by omega
    refine parse_off F R _ _ s hv n0 n1 h2 rfl rfl ?_ w
    rintro ⟨a0, a1, b0, b1⟩
    obtain ⟨c0, c1, c2, c3, c4⟩ := number_bd hv a0 a1 b0 b1
    refine h _ ⟨hv, ?_, c2⟩ ?_
    · omega
    · unfold nameB
      rw [c3, c4]
      conv => rhs; rw [eq_nm s h2 n0 n1]
      congr 1 <;> omega
  · exact parse_len F R s hv h2 w

set_option maxRecDepth 100000 in
set_option maxHeartbeats 1000000 in
theorem refParse_yes (F R a : Int) (s : ByteArray) (ha : vat F R a) (hs : nameB F a = s) (w : World) :
    Calls Tryd.prog 37 #[.agg #[.int .i64 F, .int .i64 R], .string s] w fun e w' => e = .returned (.int .i64 a) ∧ Below w.heap.size w w' := by
  obtain ⟨m0, m1⟩ := vsz_mul ha.1
  have HS := Lib.hid hs
  clear hs
  obtain ⟨hv, a0, a1⟩ := id ha
  go_enter Tryd.func37, Tryd.ntmps37
  go_wp2
  go_loopw [5] (fun i wr => ∃ k : Nat, (k : Int) ≤ a ∧ i = .int .i64 k ∧ Below (w.alloc (.cells #[.int .i64 F, .int .i64 R] 23)).heap.size (w.alloc (.cells #[.int .i64 F, .int .i64 R] 23)) wr) (fun i _ => 64 - (intOf i).toNat)
  case atStart => exact ⟨0, by omega, rfl, Below.refl _ _⟩
  case round =>
    obtain ⟨k, hk, rfl, hB⟩ := hrel
    have s1 := hB.size
    simp at s1
    have hc0 := hB.cell (p := ⟨w.heap.size, 0, none⟩) (by simp)
    have hc1 := hB.cell (p := ⟨w.heap.size, 1, none⟩) (by simp)
    simp [go_sem] at hc0 hc1
    have hkv : vat F R k := ⟨hv, by omega, by omega⟩
    have hlt : (k : Int) < F * R := by omega
    by_cases e : (k : Int) = a
    · have HE : Hid (nameB F k = s) := Lib.hid (by rw [e]; exact HS.out)
      have HK := Lib.hid e
      clear e
      go_wp2_with fail
      refine (refName_any _ _ _ hkv _).mono ?_
      rintro e w1 ⟨rfl, hb⟩
      rw [HE.out]
      go_wp2
      go_ret
      exact ⟨ret_int HK.out, after1 (chain hB hb)⟩
    · have hne : ((nameB F k).toList == s.toList) = false := toList_ne fun h => e (nameB_inj hkv ha (h.trans HS.out.symm))
      go_wp2_with fail
      refine (refName_any _ _ _ hkv _).mono ?_
      rintro e w1 ⟨rfl, hb⟩
      generalize hnm : nameB F k = t at *
      clear hnm
      go_wp2
      go_roundw
      case rel => exact ⟨k + 1, by omega, by go_num, chain hB hb⟩
      case measure => simp [intOf]; omega

set_option maxRecDepth 100000 in
set_option maxHeartbeats 1000000 in
theorem refParse_no (F R : Int) (s : ByteArray) (hv : vsz F R) (h : ∀ a, vat F R a → nameB F a ≠ s) (w : World) :
    Calls Tryd.prog 37 #[.agg #[.int .i64 F, .int .i64 R], .string s] w fun e w' => e = .returned (.int .i64 (-1)) ∧ Below w.heap.size w w' := by
  obtain ⟨m0, m1⟩ := vsz_mul hv
  have H := Lib.hid h
  clear h
  go_enter Tryd.func37, Tryd.ntmps37
  go_wp2
  go_loopw [5] (fun i wr => ∃ k : Nat, (k : Int) ≤ F * R ∧ i = .int .i64 k ∧ Below (w.alloc (.cells #[.int .i64 F, .int .i64 R] 23)).heap.size (w.alloc (.cells #[.int .i64 F, .int .i64 R] 23)) wr) (fun i _ => 64 - (intOf i).toNat)
  case atStart => exact ⟨0, by omega, rfl, Below.refl _ _⟩
  case round =>
    obtain ⟨k, hk, rfl, hB⟩ := hrel
    have s1 := hB.size
    simp at s1
    have hc0 := hB.cell (p := ⟨w.heap.size, 0, none⟩) (by simp)
    have hc1 := hB.cell (p := ⟨w.heap.size, 1, none⟩) (by simp)
    simp [go_sem] at hc0 hc1
    by_cases hlt : (k : Int) < F * R
    · have hkv : vat F R k := ⟨hv, by omega, hlt⟩
      have hne : ((nameB F k).toList == s.toList) = false := toList_ne (H.out _ hkv)
      go_wp2_with fail
      refine (refName_any _ _ _ hkv _).mono ?_
      rintro e w1 ⟨rfl, hb⟩
      generalize hnm : nameB F k = t at *
      clear hnm
      go_wp2
      go_roundw
      case rel => exact ⟨k + 1, by omega, by go_num, chain hB hb⟩
      case measure => simp [intOf]; omega
    · go_wp2
      go_ret
      exact ⟨rfl, after1 hB⟩

end Go.Proofs.YtpcfgeggjfbfjaaDoor
