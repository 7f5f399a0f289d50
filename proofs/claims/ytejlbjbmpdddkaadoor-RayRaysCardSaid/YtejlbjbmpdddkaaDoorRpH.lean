/- The program's attacks of pawns are the document's. -/
import Derived.Test.YtejlbjbmpdddkaaDoorRpG
import Derived.Test.YtejlbjbmpdddkaaDoorRyG
namespace Go.Proofs.YtejlbjbmpdddkaaDoor
open Go.RowKit Go.Shelf Go.Sort

theorem fwd_bd (bl : Bool) : fwd bl = 1 ∨ fwd bl = -1 := by cases bl <;> simp [fwd]
def pawnD (bl : Bool) : List (Int × Int) := [(-1, fwd bl), (1, fwd bl)]
set_option maxRecDepth 100000 in
set_option maxHeartbeats 2000000 in
theorem pPawn_sl (F R a : Int) (bl : Bool) (ha : vat F R a) (w : World) :
    Calls Tryd.prog 20 #[.agg #[.int .i64 F, .int .i64 R], .bool bl, .int .i64 a] w fun e w' => e = .returned (.tuple #[.int .u64 (ofL (slideL F R a (pawnD bl) ones) : Int), .int .i64 0]) ∧ Below w.heap.size w w' := by
  have HV := Lib.hid (valid_yes F R a ha)
  have HF := Lib.hid (pForward_any bl)
  have hu := fwd_bd bl
  unfold pawnD
  obtain ⟨up, hup⟩ : ∃ up, fwd bl = up := ⟨_, rfl⟩
  rw [hup] at HF hu ⊢
  clear hup
  have HL := Lib.hid (fun c A w hA => leap_any F R a ha [(-1, up), (1, up)] (by
    intro d hd
    simp at hd
    rcases hd with rfl | rfl <;> simp <;> omega) (by simp) A c w hA)
  clear hu ha
  go_enter Tryd.func20, Tryd.ntmps20
  go_wp2_with fail
  refine (HV.out _).mono ?_
  rintro e w1 ⟨rfl, hb1⟩
  have s1 := hb1.size
  simp at s1
  have c0 := hb1.cell (p := ⟨w.heap.size, 0, none⟩) (by simp)
  have c1 := hb1.cell (p := ⟨w.heap.size, 1, none⟩) (by simp)
  simp [go_sem] at c0 c1
  have hB1 := after1 hb1
  clear hb1
  go_wp2_with fail
  refine (HF.out _).mono ?_
  rintro e w2 ⟨rfl, rfl⟩
  go_wp2_with fail
  refine (HL.out 2 (some ⟨w1.heap.size, 0, none⟩) _ (fun _ => ⟨_, rfl, by simp, fun k hk => ?_⟩)).mono ?_
  · have : k = 0 ∨ k = 1 := by simp at hk; omega
    rcases this with rfl | rfl
    · simp [go_sem, Addr.add]
    · simp [go_sem, Addr.add]
  rintro e w2 ⟨rfl, hb2⟩
  go_wp2
  go_ret2
  exact ⟨rfl, chain (hB1.alloc hB1.size _) (hb2)⟩
theorem pPawn_no (F R a : Int) (bl : Bool) (ha : ¬ vat F R a) (w : World) :
    Calls Tryd.prog 20 #[.agg #[.int .i64 F, .int .i64 R], .bool bl, .int .i64 a] w fun e w' => e = .returned (.tuple #[.int .u64 0, .int .i64 2]) ∧ Below w.heap.size w w' := by
  have HV := Lib.hid (valid_no F R a ha)
  go_enter Tryd.func20, Tryd.ntmps20
  go_wp2_with fail
  refine (HV.out _).mono ?_
  rintro e w1 ⟨rfl, hb1⟩
  go_wp2
  go_ret2
  exact ⟨rfl, after1 hb1⟩
theorem pawn_eq {F R a : Int} (bl : Bool) (ha : vat F R a) : ofL (slideL F R a (pawnD bl) ones) = ofL (pawnL F R a bl) := by
  apply ofL_ext
  intro n
  unfold pawnL
  rw [mem_pick, slideL_ones ha.1]
  by_cases hlt : (n : Int) < F * R
  · have hb : vat F R (n : Int) := ⟨ha.1, by omega, hlt⟩
    have hlt2 : n < (F * R).toNat := by omega
    simp only [hlt2, true_and, pawnB, pawnD]
    constructor
    · rintro ⟨d, hd, h⟩
      obtain ⟨e1, e2⟩ := (leap_mem rfl ha hb).1 h
      simp at hd
      rcases hd with rfl | rfl <;> simp at e1 e2 ⊢ <;> omega
    · intro h
      simp at h
      obtain ⟨h1, h2⟩ := h
      by_cases h3 : (n : Int) % F - a % F = 1
      · exact ⟨(1, fwd bl), by simp, (leap_mem rfl ha hb).2 ⟨h3, h1⟩⟩
      · exact ⟨(-1, fwd bl), by simp, (leap_mem rfl ha hb).2 ⟨by simp; omega, h1⟩⟩
  · constructor
    · rintro ⟨d, hd, h⟩
      exact absurd (rayL_lt ha.1 n (List.mem_of_mem_take h)) hlt
    · rintro ⟨h, _⟩
      have := (vsz_mul ha.1).1
      omega
/-- the squares that a pawn attacks, by the program. -/
theorem pPawn_yes (F R a : Int) (bl : Bool) (ha : vat F R a) (w : World) :
    Calls Tryd.prog 20 #[.agg #[.int .i64 F, .int .i64 R], .bool bl, .int .i64 a] w fun e w' => e = .returned (.tuple #[.int .u64 (ofL (pawnL F R a bl) : Int), .int .i64 0]) ∧ Below w.heap.size w w' := by
  rw [← pawn_eq bl ha]
  exact pPawn_sl F R a bl ha w

end Go.Proofs.YtejlbjbmpdddkaaDoor
