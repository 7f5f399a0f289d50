/- The names of squares: the program's and the reference's. -/
import Derived.Test.YtelkmdklpcfobaaGreatDoorSqC
import Derived.Laws.BytesString
import Derived.Lib.Hide
import Derived.Test.YtelkmdklpcfobaaGreatDoorPoW
import Derived.Test.YtelkmdklpcfobaaGreatDoorAtF
import Derived.Lib.ItoaNum
import Derived.Lib.AtoiAll

namespace Go.Proofs.YtelkmdklpcfobaaGreatDoor
open Go.RowKit

/-- the string of two bytes. -/
def nm (x y : Int) : ByteArray := (ByteArray.empty.push (UInt8.ofNat x.toNat)).push (UInt8.ofNat y.toNat)

theorem conv2 (W : World) (x y : Int) : (convert 100 9 (.slice (some ⟨W.heap.size, 0, none⟩) 2 2)).run Tryz.prog (W.alloc (.cells #[.int .u8 x, .int .u8 y] 5)) = .ok (.string (nm x y)) (W.alloc (.cells #[.int .u8 x, .int .u8 y] 5)) := by
  rw [run_convert_bytes_string _ _ _ _ _ _ _ Tryz.underlying100 Tryz.underlying5 Tryz.underlying9, run_bytesToString _ _ _ _ [x, y] (by simp [go_sem, loadCells])]
  rfl

theorem nm_ref : ∀ f, f < 8 → ∀ r, r < 8 → (ByteArray.mk #[97, 98, 99, 100, 101, 102, 103, 104]).extract f (f + 1) ++ (ByteArray.mk #[49, 50, 51, 52, 53, 54, 55, 56]).extract r (r + 1) = nm (97 + (f : Int)) (49 + (r : Int)) := by decide +kernel

theorem ret_str {a b : ByteArray} (h : a = b) : Ending.returned (.string a) = .returned (.string b) := by rw [h]

/-- the name of a square. -/
def nameB (F a : Int) : ByteArray := nm (97 + a % F) (49 + a / F)

set_option maxRecDepth 100000 in
set_option maxHeartbeats 400000 in
theorem name_yes (F R a : Int) (h : vat F R a) (w : World) :
    Calls Tryz.prog 92 #[.agg #[.int .i64 F, .int .i64 R], .int .i64 a] w fun e w' => e = .returned (.tuple #[.string (nameB F a), .int .i64 0]) ∧ Below w.heap.size w w' := by
  obtain ⟨p0, p1, p2, p3⟩ := place_bd h.1 h.2.1 h.2.2
  have f2 := h.1.2.1
  have r2 := h.1.2.2.2
  have hcv := fun W => conv2 W (97 + a % F) (49 + a / F)
  have E : Hid (nameB F a = nm (97 + a % F) (49 + a / F)) := Lib.hid rfl
  go_enter Tryz.func92, Tryz.ntmps92
  go_wp2_with fail
  refine (valid_yes _ _ _ h _).mono ?_
  rintro e w1 ⟨rfl, hb⟩
  have hc0 := hb.cell (p := ⟨w.heap.size, 0, none⟩) (by simp)
  have hc1 := hb.cell (p := ⟨w.heap.size, 1, none⟩) (by simp)
  go_wp2_with fail
  refine (place_any _ _ _ h _).mono ?_
  rintro e w2 ⟨rfl, hb2⟩
  go_wp2
  go_ret2
  exact ⟨ret2 (by rw [E.out]; rfl) rfl, after1 ((chain hb hb2).alloc (chain hb hb2).size _)⟩

set_option maxRecDepth 100000 in
set_option maxHeartbeats 400000 in
theorem name_no (F R a : Int) (h : ¬ vat F R a) (w : World) :
    Calls Tryz.prog 92 #[.agg #[.int .i64 F, .int .i64 R], .int .i64 a] w fun e w' => e = .returned (.tuple #[.string ⟨#[]⟩, .int .i64 2]) ∧ Below w.heap.size w w' := by
  go_enter Tryz.func92, Tryz.ntmps92
  go_wp2_with fail
  refine (valid_no _ _ _ h _).mono ?_
  rintro e w1 ⟨rfl, hb⟩
  go_wp2
  go_ret2
  exact ⟨rfl, after1 hb⟩

set_option maxRecDepth 100000 in
set_option maxHeartbeats 400000 in
theorem refName_any (F R a : Int) (h : vat F R a) (w : World) :
    Calls Tryz.prog 61 #[.agg #[.int .i64 F, .int .i64 R], .int .i64 a] w fun e w' => e = .returned (.string (nameB F a)) ∧ Below w.heap.size w w' := by
  obtain ⟨p0, p1, p2, p3⟩ := place_bd h.1 h.2.1 h.2.2
  have f2 := h.1.2.1
  have r2 := h.1.2.2.2
  have E : Hid ((ByteArray.mk #[97, 98, 99, 100, 101, 102, 103, 104]).extract (a % F).toNat (a % F + 1).toNat ++ (ByteArray.mk #[49, 50, 51, 52, 53, 54, 55, 56]).extract (a / F).toNat (a / F + 1).toNat = nameB F a) := Lib.hid (by
    have := nm_ref (a % F).toNat (by omega) (a / F).toNat (by omega)
    rw [show (a % F + 1).toNat = (a % F).toNat + 1 from by omega, show (a / F + 1).toNat = (a / F).toNat + 1 from by omega, this]
    unfold nameB
    rw [Int.toNat_of_nonneg p0, Int.toNat_of_nonneg p2])
  go_enter Tryz.func61, Tryz.ntmps61
  go_wp2_with fail
  refine (refPlace_any _ _ _ h _).mono ?_
  rintro e w1 ⟨rfl, hb⟩
  go_wp2
  go_quiet (fail)
  go_wp2
  go_ret
  exact ⟨ret_str E.out, drawn (after1 (hb.alloc hb.size _)) _⟩
end Go.Proofs.YtelkmdklpcfobaaGreatDoor

/- Reading the names of squares: the program's Parse and the reference's. -/
namespace Go.Proofs.YtelkmdklpcfobaaGreatDoor
open Go.RowKit

theorem nm_data (x y : Int) : (nm x y).data.toList = [UInt8.ofNat x.toNat, UInt8.ofNat y.toNat] := rfl
theorem nm_size (x y : Int) : (nm x y).size = 2 := by
  show (nm x y).data.size = 2
  rw [← Array.length_toList, nm_data]
  rfl
theorem bytes_eq {a b : ByteArray} (h : a.data.toList = b.data.toList) : a = b := by
  cases a with | mk x => cases b with | mk y => cases x with | mk l => cases y with | mk m => simp at h; rw [h]
theorem toList_ne {a b : ByteArray} (h : a ≠ b) : (a.toList == b.toList) = false := by
  rw [beq_eq_false_iff_ne, ByteArray.toList_eq, ByteArray.toList_eq]
  exact fun e => h (bytes_eq e)
theorem u8_of (x : Int) (h0 : 0 ≤ x) (h1 : x < 256) : ((UInt8.ofNat x.toNat).toNat : Int) = x := by
  have : (UInt8.ofNat x.toNat).toNat = x.toNat := by simp; omega
  omega
theorem nm_inj {x y x' y' : Int} (hx : 0 ≤ x ∧ x < 256) (hy : 0 ≤ y ∧ y < 256) (hx' : 0 ≤ x' ∧ x' < 256) (hy' : 0 ≤ y' ∧ y' < 256) (h : nm x y = nm x' y') : x = x' ∧ y = y' := by
  have h2 := congrArg (fun s : ByteArray => s.data.toList) h
  simp only [nm_data, List.cons.injEq] at h2
  have e1 := congrArg (fun b : UInt8 => (b.toNat : Int)) h2.1
  have e2 := congrArg (fun b : UInt8 => (b.toNat : Int)) h2.2.1
  try dsimp only at e1 e2
  rw [u8_of x hx.1 hx.2, u8_of x' hx'.1 hx'.2] at e1
  rw [u8_of y hy.1 hy.2, u8_of y' hy'.1 hy'.2] at e2
  exact ⟨e1, e2⟩
theorem nm_get (x y : Int) (hx : 0 ≤ x ∧ x < 256) (hy : 0 ≤ y ∧ y < 256) (n0 : 0 < (nm x y).size) (n1 : 1 < (nm x y).size) : (((nm x y)[0]'n0).toNat : Int) = x ∧ (((nm x y)[1]'n1).toNat : Int) = y := by
  have h0 : ((nm x y)[0]'n0) = UInt8.ofNat x.toNat := rfl
  have h1 : ((nm x y)[1]'n1) = UInt8.ofNat y.toNat := rfl
  rw [h0, h1]
  exact ⟨u8_of x hx.1 hx.2, u8_of y hy.1 hy.2⟩
theorem eq_nm (s : ByteArray) (h : s.size = 2) (n0 : 0 < s.size) (n1 : 1 < s.size) : s = nm ((s[0]'n0).toNat : Int) ((s[1]'n1).toNat : Int) := by
  apply bytes_eq
  rw [nm_data]
  have hl : s.data.toList.length = 2 := by simpa using h
  obtain ⟨⟨l⟩⟩ := s
  match l, hl with
  | [a, b], _ =>
    have e0 : (ByteArray.mk #[a, b])[0]'n0 = a := rfl
    have e1 : (ByteArray.mk #[a, b])[1]'n1 = b := rfl
    simp [e0, e1]

theorem name_bd {F R a : Int} (h : vat F R a) : (0 ≤ 97 + a % F ∧ 97 + a % F < 256) ∧ (0 ≤ 49 + a / F ∧ 49 + a / F < 256) := by
  obtain ⟨p0, p1, p2, p3⟩ := place_bd h.1 h.2.1 h.2.2
  have f2 := h.1.2.1
  have r2 := h.1.2.2.2
  omega
theorem nameB_inj {F R a b : Int} (ha : vat F R a) (hb : vat F R b) (h : nameB F a = nameB F b) : a = b := by
  obtain ⟨x, y⟩ := name_bd ha
  obtain ⟨x', y'⟩ := name_bd hb
  obtain ⟨e1, e2⟩ := nm_inj x y x' y' h
  have := place_eq (a := a) ha.1
  have := place_eq (a := b) hb.1
  rw [← place_eq (a := a) ha.1, ← place_eq (a := b) hb.1, show a % F = b % F from by omega, show a / F = b / F from by omega]

set_option maxRecDepth 100000 in
set_option maxHeartbeats 1000000 in
theorem parse_in (F R x y : Int) (s : ByteArray) (hv : vsz F R) (n0 : 0 < s.size) (n1 : 1 < s.size) (h2 : s.size = 2) (hx : ((s[0]'n0).toNat : Int) = x) (hy : ((s[1]'n1).toNat : Int) = y) (h : onb F R (x - 97) (y - 49)) (w : World) :
    Calls Tryz.prog 101 #[.agg #[.int .i64 F, .int .i64 R], .string s] w fun e w' => e = .returned (.tuple #[.int .i64 (x - 97 + (y - 49) * F), .int .i64 0]) ∧ Below w.heap.size w w' := by
  have g0 : (0 : Int) < (s.size : Int) := by omega
  have g1 : (1 : Int) < (s.size : Int) := by omega
  have hd : ((s.size : Int) != 2) = false := by simp; omega
  have x0 : 0 ≤ x ∧ x < 256 := by have := (s[0]'n0).toNat_lt; omega
  have y0 : 0 ≤ y ∧ y < 256 := by have := (s[1]'n1).toNat_lt; omega
  clear h2
  go_enter Tryz.func101, Tryz.ntmps101
  go_wp2_with fail
  refine (validSize_yes _ _ hv _).mono ?_
  rintro e w1 ⟨rfl, hb⟩
  have s1 := hb.size
  simp at s1
  have hc0 := hb.cell (p := ⟨w.heap.size, 0, none⟩) (by simp)
  have hc1 := hb.cell (p := ⟨w.heap.size, 1, none⟩) (by simp)
  simp [go_sem] at hc0 hc1
  go_wp2
  go_quiet (fail)
  go_wp2_with fail
  refine (onBoard_yes _ _ _ _ h _).mono ?_
  rintro e w2 ⟨rfl, hb2⟩
  have hd0 := (hb2.cell (p := ⟨w.heap.size, 0, none⟩) (by simp; omega)).trans hc0
  have hd1 := (hb2.cell (p := ⟨w.heap.size, 1, none⟩) (by simp; omega)).trans hc1
  go_wp2_with fail
  refine (number_any _ _ _ _ hv h _).mono ?_
  rintro e w3 ⟨rfl, hb3⟩
  go_wp2
  go_ret2
  exact ⟨rfl, after1 (chain (chain (drawn hb _) hb2) hb3)⟩

set_option maxRecDepth 100000 in
set_option maxHeartbeats 1000000 in
theorem parse_off (F R x y : Int) (s : ByteArray) (hv : vsz F R) (n0 : 0 < s.size) (n1 : 1 < s.size) (h2 : s.size = 2) (hx : ((s[0]'n0).toNat : Int) = x) (hy : ((s[1]'n1).toNat : Int) = y) (h : ¬ onb F R (x - 97) (y - 49)) (w : World) :
    Calls Tryz.prog 101 #[.agg #[.int .i64 F, .int .i64 R], .string s] w fun e w' => e = .returned (.tuple #[.int .i64 0, .int .i64 6]) ∧ Below w.heap.size w w' := by
  have g0 : (0 : Int) < (s.size : Int) := by omega
  have g1 : (1 : Int) < (s.size : Int) := by omega
  have hd : ((s.size : Int) != 2) = false := by simp; omega
  have x0 : 0 ≤ x ∧ x < 256 := by have := (s[0]'n0).toNat_lt; omega
  have y0 : 0 ≤ y ∧ y < 256 := by have := (s[1]'n1).toNat_lt; omega
  have H := Lib.hid h
  clear h2 h
  go_enter Tryz.func101, Tryz.ntmps101
  go_wp2_with fail
  refine (validSize_yes _ _ hv _).mono ?_
  rintro e w1 ⟨rfl, hb⟩
  have hc0 := hb.cell (p := ⟨w.heap.size, 0, none⟩) (by simp)
  have hc1 := hb.cell (p := ⟨w.heap.size, 1, none⟩) (by simp)
  simp [go_sem] at hc0 hc1
  go_wp2
  go_quiet (fail)
  go_wp2_with fail
  refine (onBoard_no _ _ _ _ H.out _).mono ?_
  rintro e w2 ⟨rfl, hb2⟩
  go_wp2
  go_ret2
  exact ⟨rfl, after1 (chain (drawn hb _) hb2)⟩

set_option maxRecDepth 100000 in
set_option maxHeartbeats 1000000 in
theorem parse_len (F R : Int) (s : ByteArray) (hv : vsz F R) (h : s.size ≠ 2) (w : World) :
    Calls Tryz.prog 101 #[.agg #[.int .i64 F, .int .i64 R], .string s] w fun e w' => e = .returned (.tuple #[.int .i64 0, .int .i64 6]) ∧ Below w.heap.size w w' := by
  have hd : ((s.size : Int) != 2) = true := by rw [bne_iff_ne]; omega
  go_enter Tryz.func101, Tryz.ntmps101
  go_wp2_with fail
  refine (validSize_yes _ _ hv _).mono ?_
  rintro e w1 ⟨rfl, hb⟩
  go_wp2
  go_ret2
  exact ⟨rfl, after1 hb⟩

set_option maxRecDepth 100000 in
set_option maxHeartbeats 1000000 in
theorem parse_no (F R : Int) (s : ByteArray) (hv : ¬ vsz F R) (w : World) :
    Calls Tryz.prog 101 #[.agg #[.int .i64 F, .int .i64 R], .string s] w fun e w' => e = .returned (.tuple #[.int .i64 0, .int .i64 2]) ∧ Below w.heap.size w w' := by
  go_enter Tryz.func101, Tryz.ntmps101
  go_wp2_with fail
  refine (validSize_no _ _ hv _).mono ?_
  rintro e w1 ⟨rfl, hb⟩
  go_wp2
  go_ret2
  exact ⟨rfl, after1 hb⟩

/-- The name of a square is read. -/
theorem parse_name (F R a : Int) (ha : vat F R a) (w : World) :
    Calls Tryz.prog 101 #[.agg #[.int .i64 F, .int .i64 R], .string (nameB F a)] w fun e w' => e = .returned (.tuple #[.int .i64 a, .int .i64 0]) ∧ Below w.heap.size w w' := by
  obtain ⟨bx, b_y⟩ := name_bd ha
  have hs : (nameB F a).size = 2 := nm_size _ _
  have n0 : 0 < (nameB F a).size := by omega
  have n1 : 1 < (nameB F a).size := by omega
  obtain ⟨e0, e1⟩ := nm_get (97 + a % F) (49 + a / F) bx b_y n0 n1
  obtain ⟨p0, p1, p2, p3⟩ := place_bd ha.1 ha.2.1 ha.2.2
  have := parse_in F R (97 + a % F) (49 + a / F) (nameB F a) ha.1 n0 n1 hs e0 e1 ⟨by omega, by omega, by omega, by omega⟩ w
  rw [show 97 + a % F - 97 = a % F from by omega, show 49 + a / F - 49 = a / F from by omega, place_eq ha.1] at this
  exact this

/-- What is not the name of a square is not read. -/
theorem parse_none (F R : Int) (s : ByteArray) (hv : vsz F R) (h : ∀ a, vat F R a → nameB F a ≠ s) (w : World) :
    Calls Tryz.prog 101 #[.agg #[.int .i64 F, .int .i64 R], .string s] w fun e w' => e = .returned (.tuple #[.int .i64 0, .int .i64 6]) ∧ Below w.heap.size w w' := by
  by_cases h2 : s.size = 2
  · have n0 : 0 < s.size := by omega
    have n1 : 1 < s.size := by omega
    refine parse_off F R _ _ s hv n0 n1 h2 rfl rfl ?_ w
    rintro ⟨a0, a1, b0, b1⟩
    obtain ⟨c0, c1, c2, c3, c4⟩ := number_bd hv a0 a1 b0 b1
    refine h _ ⟨hv, ?_, c2⟩ ?_
    · omega
    · unfold nameB
      rw [c3, c4]
      conv => rhs; rw [eq_nm s h2 n0 n1]
      congr 1 <;> omega
  · exact parse_len F R s hv h2 w

set_option maxRecDepth 100000 in
set_option maxHeartbeats 1000000 in
theorem refParse_yes (F R a : Int) (s : ByteArray) (ha : vat F R a) (hs : nameB F a = s) (w : World) :
    Calls Tryz.prog 71 #[.agg #[.int .i64 F, .int .i64 R], .string s] w fun e w' => e = .returned (.int .i64 a) ∧ Below w.heap.size w w' := by
  obtain ⟨m0, m1⟩ := vsz_mul ha.1
  have HS := Lib.hid hs
  clear hs
  obtain ⟨hv, a0, a1⟩ := id ha
  go_enter Tryz.func71, Tryz.ntmps71
  go_wp2
  go_loopw [5] (fun i wr => ∃ k : Nat, (k : Int) ≤ a ∧ i = .int .i64 k ∧ Below (w.alloc (.cells #[.int .i64 F, .int .i64 R] 23)).heap.size (w.alloc (.cells #[.int .i64 F, .int .i64 R] 23)) wr) (fun i _ => 64 - (intOf i).toNat)
  case atStart => exact ⟨0, by omega, rfl, Below.refl _ _⟩
  case round =>
    obtain ⟨k, hk, rfl, hB⟩ := hrel
    have s1 := hB.size
    simp at s1
    have hc0 := hB.cell (p := ⟨w.heap.size, 0, none⟩) (by simp)
    have hc1 := hB.cell (p := ⟨w.heap.size, 1, none⟩) (by simp)
    simp [go_sem] at hc0 hc1
    have hkv : vat F R k := ⟨hv, by omega, by omega⟩
    have hlt : (k : Int) < F * R := by omega
    by_cases e : (k : Int) = a
    · have HE : Hid (nameB F k = s) := Lib.hid (by rw [e]; exact HS.out)
      have HK := Lib.hid e
      clear e
      go_wp2_with fail
      refine (refName_any _ _ _ hkv _).mono ?_
      rintro e w1 ⟨rfl, hb⟩
      rw [HE.out]
      go_wp2
      go_ret
      exact ⟨ret_int HK.out, after1 (chain hB hb)⟩
    · have hne : ((nameB F k).toList == s.toList) = false := toList_ne fun h => e (nameB_inj hkv ha (h.trans HS.out.symm))
      go_wp2_with fail
      refine (refName_any _ _ _ hkv _).mono ?_
      rintro e w1 ⟨rfl, hb⟩
      generalize hnm : nameB F k = t at *
      clear hnm
      go_wp2
      go_roundw
      case rel => exact ⟨k + 1, by omega, by go_num, chain hB hb⟩
      case measure => simp [intOf]; omega

set_option maxRecDepth 100000 in
set_option maxHeartbeats 1000000 in
theorem refParse_no (F R : Int) (s : ByteArray) (hv : vsz F R) (h : ∀ a, vat F R a → nameB F a ≠ s) (w : World) :
    Calls Tryz.prog 71 #[.agg #[.int .i64 F, .int .i64 R], .string s] w fun e w' => e = .returned (.int .i64 (-1)) ∧ Below w.heap.size w w' := by
  obtain ⟨m0, m1⟩ := vsz_mul hv
  have H := Lib.hid h
  clear h
  go_enter Tryz.func71, Tryz.ntmps71
  go_wp2
  go_loopw [5] (fun i wr => ∃ k : Nat, (k : Int) ≤ F * R ∧ i = .int .i64 k ∧ Below (w.alloc (.cells #[.int .i64 F, .int .i64 R] 23)).heap.size (w.alloc (.cells #[.int .i64 F, .int .i64 R] 23)) wr) (fun i _ => 64 - (intOf i).toNat)
  case atStart => exact ⟨0, by omega, rfl, Below.refl _ _⟩
  case round =>
    obtain ⟨k, hk, rfl, hB⟩ := hrel
    have s1 := hB.size
    simp at s1
    have hc0 := hB.cell (p := ⟨w.heap.size, 0, none⟩) (by simp)
    have hc1 := hB.cell (p := ⟨w.heap.size, 1, none⟩) (by simp)
    simp [go_sem] at hc0 hc1
    by_cases hlt : (k : Int) < F * R
    · have hkv : vat F R k := ⟨hv, by omega, hlt⟩
      have hne : ((nameB F k).toList == s.toList) = false := toList_ne (H.out _ hkv)
      go_wp2_with fail
      refine (refName_any _ _ _ hkv _).mono ?_
      rintro e w1 ⟨rfl, hb⟩
      generalize hnm : nameB F k = t at *
      clear hnm
      go_wp2
      go_roundw
      case rel => exact ⟨k + 1, by omega, by go_num, chain hB hb⟩
      case measure => simp [intOf]; omega
    · go_wp2
      go_ret
      exact ⟨rfl, after1 hB⟩

end Go.Proofs.YtelkmdklpcfobaaGreatDoor

/- Positions: which are valid, what their text is, and what reading it is: functions on numbers and lists; no program in them. -/
namespace Go.Proofs.YtelkmdklpcfobaaGreatDoor
open Go.RowKit

/-- a position without its memory. -/
structure Po where
  F : Int
  R : Int
  l : List Int
  bl : Bool
  ca : Nat
  ps : Int
  ha : Int
  fu : Int
  deriving DecidableEq

def vszB (F R : Int) : Bool := decide (3 ≤ F) && decide (F ≤ 8) && decide (3 ≤ R) && decide (R ≤ 8)
theorem vszB_iff {F R : Int} : vszB F R = true ↔ vsz F R := by unfold vszB vsz; simp [and_assoc]
def vbdB (F R : Int) (l : List Int) : Bool := vszB F R && decide ((l.length : Int) = F * R) && l.all fun n => decide (-15 ≤ n) && decide (n ≤ 15)
theorem all_at {l : List Int} {P : Int → Bool} : l.all P = true ↔ ∀ j, j < l.length → P (l[j]?.getD 0) = true := by
  rw [List.all_eq_true]
  constructor
  · intro h j hj
    rw [List.getElem?_eq_getElem hj]
    exact h _ (List.getElem_mem hj)
  · intro h x hx
    obtain ⟨j, hj, rfl⟩ := List.mem_iff_getElem.1 hx
    have := h j hj
    rw [List.getElem?_eq_getElem hj] at this
    exact this
theorem vbdB_iff {F R : Int} {l : List Int} : vbdB F R l = true ↔ vbd F R l := by
  unfold vbdB vbd
  rw [Bool.and_eq_true, Bool.and_eq_true, vszB_iff, all_at, decide_eq_true_iff, and_assoc]
  refine and_congr_right fun _ => and_congr_right fun _ => ?_
  refine forall_congr' fun j => forall_congr' fun _ => ?_
  unfold okP
  simp

def lastR (R : Int) (b : Bool) : Int := if b then 0 else R - 1
def rkA (R : Int) (b : Bool) (k : Int) : Int := if b then R - k else k - 1
/-- the side that is not to move is not in check, and both have one king. -/
def poBrd (F R : Int) (l : List Int) (bl : Bool) : Bool :=
  vbdB F R l && orA l && decide (0 ≤ kingV l false) && decide (0 ≤ kingV l true) && decide ((atkL F R l (kingV l (!bl)) bl).length = 0)
def poPw (F R : Int) (l : List Int) (i : Nat) : Bool := kdP (l[i]?.getD 0) == 1 && (i : Int) / F == lastR R (decide (l[i]?.getD 0 < 0))
def poPwn (F R : Int) (l : List Int) : Bool := (List.range l.length).all fun i => !poPw F R l i
def two (l : List Int) (i : Nat) (a : Int) (j : Nat) (b : Int) : Bool := l[i]?.getD 0 == a && l[j]?.getD 0 == b
def poHom (l : List Int) (bit : Nat) : Bool := if bit = 1 then two l 4 6 7 4 else if bit = 2 then two l 4 6 0 4 else if bit = 4 then two l 60 (-6) 63 (-4) else two l 60 (-6) 56 (-4)
def poHm (F R : Int) (l : List Int) (bit : Nat) : Bool := F == 8 && R == 8 && poHom l bit
def poBit (ca bit : Nat) : Bool := ca / bit % 2 == 1
def poCas (F R : Int) (l : List Int) (ca : Nat) : Bool := decide (ca ≤ 15) && [1, 2, 4, 8].all fun bit => !poBit ca bit || poHm F R l bit
def pcS (b : Bool) : Int := if b then -1 else 1
def poPas (F R : Int) (l : List Int) (bl : Bool) (ps ha : Int) : Bool :=
  ps == -1 || (decide (6 ≤ R) && ha == 0 && (decide (0 ≤ ps) && decide (ps < F * R)) && 2 * (ps / F) == rkA R (!bl) 2 + rkA R (!bl) 4
    && l[ps.toNat]?.getD 0 == 0 && l[(rkA R (!bl) 2 * F + ps % F).toNat]?.getD 0 == 0 && l[(rkA R (!bl) 4 * F + ps % F).toNat]?.getD 0 == pcS (!bl))
def poCnt (ha fu : Int) : Bool := decide (0 ≤ ha) && decide (ha ≤ 10000) && decide (1 ≤ fu) && decide (fu ≤ 10000)
/-- which positions are valid. -/
def okPo (p : Po) : Bool := poBrd p.F p.R p.l p.bl && poPwn p.F p.R p.l && poCas p.F p.R p.l p.ca && poPas p.F p.R p.l p.bl p.ps p.ha && poCnt p.ha p.fu

/-- decimal digits. -/
def dcF : Nat → Nat → List UInt8
  | 0, _ => []
  | k + 1, n => if n < 10 then [UInt8.ofNat (48 + n)] else dcF k (n / 10) ++ [UInt8.ofNat (48 + n % 10)]
def dec (n : Nat) : List UInt8 := dcF 20 n
theorem dcF_eq : ∀ (k n : Nat), n < 10 ^ k → 0 < k → dcF k n = Lib.decDigits n
  | 0, _, _, h => absurd h (by omega)
  | k + 1, n, h, _ => by
    unfold dcF
    rw [Lib.decDigits]
    by_cases hn : n < 10
    · rw [if_pos hn, dif_pos hn]
    · rw [if_neg hn, dif_neg hn]
      have hk : 0 < k := by
        rcases Nat.eq_zero_or_pos k with h0 | h0
        · subst h0; simp at h; omega
        · exact h0
      rw [dcF_eq k (n / 10) (by rw [Nat.pow_succ] at h; omega) hk]
theorem dec_eq {n : Nat} (h : n < 100000000000000000000) : dec n = Lib.decDigits n := dcF_eq 20 n (by simpa using h) (by decide)

def caL (ca : Nat) : List UInt8 := if ca = 0 then [45] else (List.range 4).flatMap fun i => if ca / 2 ^ i % 2 = 1 then [[75, 81, 107, 113].getD i 0] else []
def psL (F ps : Int) : List UInt8 := if ps < 0 then [45] else (nameB F ps).data.toList
def sdL (b : Bool) : List UInt8 := if b then [98] else [119]
def szL (F R : Int) : List UInt8 := dec F.toNat ++ 120 :: dec R.toNat
/-- the seven words. -/
def wrdL (p : Po) : List (List UInt8) := [szL p.F p.R, accT p.F.toNat p.R.toNat p.l p.R.toNat, sdL p.bl, caL p.ca, psL p.F p.ps, dec p.ha.toNat, dec p.fu.toNat]
def posT (p : Po) : List UInt8 := jw (wrdL p)

/-- the number with a text, if it has at most five digits. -/
def valF (w : List UInt8) : Nat := w.foldl (fun n c => n * 10 + (c.toNat - 48)) 0
def isDg (c : UInt8) : Bool := decide (48 ≤ c.toNat) && decide (c.toNat ≤ 57)
def nmbV (w : List UInt8) : Int := if decide (w.length ≤ 5) && w.all isDg && !(w == []) && dec (valF w) == w then (valF w : Int) else -1
def casV (w : List UInt8) : Option Nat := (List.range 16).find? fun n => caL n == w
def sqV (F R : Int) (w : List UInt8) : Option Int := ((List.range (F * R).toNat).find? fun n : Nat => (nameB F (n : Int)).data.toList == w).map fun n : Nat => (n : Int)
def psV (F R : Int) (w : List UInt8) : Option Int := if w = [45] then some (-1) else sqV F R w
/-- the position with a text. -/
def rdPo (L : List UInt8) : Option Po :=
  match wds L with
  | [w0, w1, w2, w3, w4, w5, w6] =>
    if w2 ≠ [119] ∧ w2 ≠ [98] then none else
    match parseB w1 with
    | none => none
    | some (f, r, l) =>
      if w0 ≠ szL (f : Int) (r : Int) then none else
      match casV w3 with
      | none => none
      | some ca =>
        match psV (f : Int) (r : Int) w4 with
        | none => none
        | some ps => if okPo ⟨f, r, l, w2 == [98], ca, ps, nmbV w5, nmbV w6⟩ then some ⟨f, r, l, w2 == [98], ca, ps, nmbV w5, nmbV w6⟩ else none
  | _ => none

theorem okPo_parts {p : Po} (h : okPo p = true) : poBrd p.F p.R p.l p.bl = true ∧ poPwn p.F p.R p.l = true ∧ poCas p.F p.R p.l p.ca = true ∧ poPas p.F p.R p.l p.bl p.ps p.ha = true ∧ poCnt p.ha p.fu = true := by
  unfold okPo at h
  simp only [Bool.and_eq_true] at h
  exact ⟨h.1.1.1.1, h.1.1.1.2, h.1.1.2, h.1.2, h.2⟩
theorem poBrd_vbd {F R : Int} {l : List Int} {bl : Bool} (h : poBrd F R l bl = true) : vbd F R l ∧ orA l = true := by
  unfold poBrd at h
  simp only [Bool.and_eq_true] at h
  exact ⟨vbdB_iff.1 h.1.1.1.1, h.1.1.1.2⟩
theorem poCas_le {F R : Int} {l : List Int} {ca : Nat} (h : poCas F R l ca = true) : ca ≤ 15 := by
  unfold poCas at h
  rw [Bool.and_eq_true] at h
  simpa using h.1
theorem poCnt_bd {ha fu : Int} (h : poCnt ha fu = true) : 0 ≤ ha ∧ ha ≤ 10000 ∧ 1 ≤ fu ∧ fu ≤ 10000 := by
  unfold poCnt at h
  simp at h
  omega
theorem poPas_at {F R : Int} {l : List Int} {bl : Bool} {ps ha : Int} (hv : vsz F R) (h : poPas F R l bl ps ha = true) : ps = -1 ∨ vat F R ps := by
  unfold poPas at h
  rw [Bool.or_eq_true] at h
  rcases h with h | h
  · exact .inl (by simpa using h)
  · simp only [Bool.and_eq_true, decide_eq_true_eq] at h
    exact .inr ⟨hv, h.1.1.1.1.2.1, h.1.1.1.1.2.2⟩

theorem u8_toNat {n : Nat} (h : n < 256) : (UInt8.ofNat n).toNat = n := by simp; omega
theorem dcF_dig : ∀ (k n : Nat), ∀ c ∈ dcF k n, isDg c = true
  | 0, _, c, hc => by simp [dcF] at hc
  | k + 1, n, c, hc => by
    unfold dcF at hc
    split at hc
    · rename_i hn
      rw [List.mem_singleton] at hc
      subst hc
      unfold isDg
      rw [u8_toNat (by omega)]
      simp; omega
    · rw [List.mem_append, List.mem_singleton] at hc
      rcases hc with hc | rfl
      · exact dcF_dig k _ c hc
      · unfold isDg
        rw [u8_toNat (by omega)]
        simp; omega
theorem dec_dig {n : Nat} : ∀ c ∈ dec n, isDg c = true := dcF_dig 20 n
theorem dg_cleanW {w : List UInt8} (h : ∀ c ∈ w, isDg c = true) : cleanW w := fun c hc e => by
  have := h c hc
  subst e
  exact absurd this (by decide)
theorem valF_snoc (w : List UInt8) (c : UInt8) : valF (w ++ [c]) = valF w * 10 + (c.toNat - 48) := by simp [valF]
theorem dcF_val : ∀ (k n : Nat), n < 10 ^ k → 0 < k → valF (dcF k n) = n
  | 0, _, _, h => absurd h (by omega)
  | k + 1, n, h, _ => by
    unfold dcF
    split
    · rename_i hn
      simp only [valF, List.foldl_cons, List.foldl_nil]
      rw [u8_toNat (by omega)]
      omega
    · have hk : 0 < k := by
        rcases Nat.eq_zero_or_pos k with h0 | h0
        · subst h0; simp at h; omega
        · exact h0
      rw [valF_snoc, dcF_val k (n / 10) (by rw [Nat.pow_succ] at h; omega) hk, u8_toNat (by omega)]
      omega
theorem dec_val {n : Nat} (h : n < 100000000000000000000) : valF (dec n) = n := dcF_val 20 n (by simpa using h) (by decide)
theorem dcF_len : ∀ (j k n : Nat), n < 10 ^ j → 0 < j → j ≤ k → (dcF k n).length ≤ j ∧ 1 ≤ (dcF k n).length
  | 0, _, _, _, h, _ => absurd h (by omega)
  | _ + 1, 0, _, _, _, h => absurd h (by omega)
  | j + 1, k + 1, n, h, _, hk => by
    unfold dcF
    split
    · simp
    · have hj : 0 < j := by
        rcases Nat.eq_zero_or_pos j with h0 | h0
        · subst h0; simp at h; omega
        · exact h0
      have := dcF_len j k (n / 10) (by rw [Nat.pow_succ] at h; omega) hj (by omega)
      rw [List.length_append, List.length_singleton]
      omega
theorem dec_len {n : Nat} (h : n ≤ 99999) : (dec n).length ≤ 5 ∧ 1 ≤ (dec n).length := dcF_len 5 20 n (by simp; omega) (by decide) (by decide)
theorem nmbV_dec {n : Nat} (h : n ≤ 99999) : nmbV (dec n) = n := by
  unfold nmbV
  rw [dec_val (by omega)]
  have h1 := dec_len h
  have hne : (dec n == ([] : List UInt8)) = false := by
    cases e : dec n with
    | nil => rw [e] at h1; simp at h1
    | cons => rfl
  rw [if_pos]
  simp only [Bool.and_eq_true, decide_eq_true_eq, hne, Bool.not_false, and_true, beq_self_eq_true]
  exact ⟨h1.1, List.all_eq_true.2 fun c hc => dec_dig c hc⟩
theorem nmbV_yes {w : List UInt8} (h : 0 ≤ nmbV w) : dec (nmbV w).toNat = w := by
  unfold nmbV at h ⊢
  split at h
  · rename_i hc
    rw [if_pos hc]
    simp only [Bool.and_eq_true] at hc
    simpa using hc.2
  · simp at h
theorem nmbV_ge (w : List UInt8) : -1 ≤ nmbV w ∧ nmbV w < 100000000000000000000000 ∨ nmbV w = -1 ∨ 0 ≤ nmbV w := by
  unfold nmbV
  split
  · exact .inr (.inr (by omega))
  · exact .inr (.inl rfl)
theorem casV_caL {ca : Nat} (h : ca ≤ 15) : casV (caL ca) = some ca := by
  have : ∀ c, c < 16 → casV (caL c) = some c := by decide +kernel
  exact this ca (by omega)
theorem casV_yes {w : List UInt8} {ca : Nat} (h : casV w = some ca) : ca ≤ 15 ∧ caL ca = w := by
  unfold casV at h
  have h1 := List.find?_some h
  have h2 := List.mem_of_find?_eq_some h
  simp at h1 h2
  exact ⟨by omega, h1⟩
theorem caL_cleanW {ca : Nat} (h : ca ≤ 15) : cleanW (caL ca) := by
  have : ∀ c, c < 16 → (caL c).all (fun x => x != 32) = true := by decide +kernel
  intro c hc e
  have := List.all_eq_true.1 (this ca (by omega)) c hc
  simp [e] at this

theorem find_first {P : Nat → Bool} {n a : Nat} (ha : a < n) (hp : P a = true) (hu : ∀ b, b < n → P b = true → b = a) : (List.range n).find? P = some a := by
  cases h : (List.range n).find? P with
  | none =>
    have := List.find?_eq_none.1 h a (List.mem_range.2 ha)
    exact absurd hp this
  | some b =>
    have h1 := List.find?_some h
    have h2 := List.mem_of_find?_eq_some h
    rw [hu b (List.mem_range.1 h2) h1]
theorem vat_nat {F R a : Int} (h : vat F R a) : ∃ n : Nat, a = (n : Int) ∧ n < (F * R).toNat := by
  obtain ⟨_, h0, h1⟩ := h
  exact ⟨a.toNat, by omega, by omega⟩
theorem vat_of {F R : Int} {n : Nat} (hv : vsz F R) (h : n < (F * R).toNat) : vat F R (n : Int) := ⟨hv, by omega, by omega⟩
theorem sqV_name {F R a : Int} (h : vat F R a) : sqV F R (nameB F a).data.toList = some a := by
  obtain ⟨n, rfl, hn⟩ := vat_nat h
  unfold sqV
  rw [find_first hn (by simp) fun b hb he => ?_]
  · rfl
  · have := nameB_inj (vat_of h.1 hb) h (bytes_eq (by simpa using he))
    omega
theorem sqV_yes {F R a : Int} {w : List UInt8} (hv : vsz F R) (h : sqV F R w = some a) : vat F R a ∧ (nameB F a).data.toList = w := by
  unfold sqV at h
  cases e : (List.range (F * R).toNat).find? (fun n : Nat => (nameB F (n : Int)).data.toList == w) with
  | none => rw [e] at h; simp at h
  | some n =>
    rw [e] at h
    have h1 := List.find?_some e
    have h2 := List.mem_range.1 (List.mem_of_find?_eq_some e)
    simp only [Option.map_some, Option.some.injEq] at h
    subst h
    exact ⟨vat_of hv h2, by simpa using h1⟩
theorem sqV_no {F R : Int} {w : List UInt8} (h : sqV F R w = none) : ∀ a, vat F R a → (nameB F a).data.toList ≠ w := fun a ha e => by
  subst e
  rw [sqV_name ha] at h
  simp at h
theorem nameB_list (F a : Int) : (nameB F a).data.toList = [UInt8.ofNat (97 + a % F).toNat, UInt8.ofNat (49 + a / F).toNat] := rfl
theorem name_ne45 (F a : Int) : (nameB F a).data.toList ≠ [45] := by rw [nameB_list]; simp
theorem psV_psL {F R ps : Int} (h : ps = -1 ∨ vat F R ps) : psV F R (psL F ps) = some ps := by
  unfold psV psL
  rcases h with rfl | h
  · rfl
  · have h0 := h.2.1
    rw [if_neg (by omega : ¬ ps < 0), if_neg (name_ne45 F ps), sqV_name h]
theorem psV_yes {F R ps : Int} {w : List UInt8} (hv : vsz F R) (h : psV F R w = some ps) : (ps = -1 ∨ vat F R ps) ∧ psL F ps = w := by
  unfold psV at h
  split at h
  · rename_i hw
    simp only [Option.some.injEq] at h
    subst h
    exact ⟨.inl rfl, hw.symm⟩
  · obtain ⟨h1, h2⟩ := sqV_yes hv h
    refine ⟨.inr h1, ?_⟩
    unfold psL
    rw [if_neg (by have := h1.2.1; omega), h2]
theorem psL_cleanW {F R ps : Int} (h : ps = -1 ∨ vat F R ps) : cleanW (psL F ps) := by
  unfold psL
  rcases h with rfl | h
  · intro c hc e
    simp at hc
    subst hc
    exact absurd e (by decide)
  · rw [if_neg (by have := h.2.1; omega), nameB_list]
    obtain ⟨b1, b2⟩ := name_bd h
    have p1 := place_bd h.1 h.2.1 h.2.2
    have hv := h.1
    unfold vsz at hv
    intro c hc e
    simp only [List.mem_cons, List.not_mem_nil, or_false] at hc
    rcases hc with rfl | rfl
    · have := congrArg UInt8.toNat e
      rw [u8_toNat (by omega)] at this
      simp at this
      omega
    · have := congrArg UInt8.toNat e
      rw [u8_toNat (by omega)] at this
      simp at this
      omega
theorem sdL_cleanW (b : Bool) : cleanW (sdL b) := by
  intro c hc e
  cases b <;> simp [sdL] at hc <;> subst hc <;> exact absurd e (by decide)
theorem szL_cleanW (F R : Int) : cleanW (szL F R) := by
  unfold szL
  intro c hc e
  rw [List.mem_append, List.mem_cons] at hc
  rcases hc with hc | hc | hc
  · exact dg_cleanW dec_dig c hc e
  · subst hc; exact absurd e (by decide)
  · exact dg_cleanW dec_dig c hc e

end Go.Proofs.YtelkmdklpcfobaaGreatDoor
