/- Boards: the program's sets of squares and sums of values. -/
import Derived.Test.YtolohfkenglpcaaDoorBpC
import Derived.Test.YtolohfkenglpcaaDoorBdD
namespace Go.Proofs.YtolohfkenglpcaaDoor
open Go.RowKit

theorem isWhite_any (p : Int) (w : World) : Calls Tryd.prog 43 #[.int .i8 p] w fun e w' => e = .returned (.bool (decide (0 < p))) ∧ w = w' := by
  go_enter Tryd.func43, Tryd.ntmps43
  go_wp2
  go_ret
  exact ⟨rfl, rfl⟩
theorem isBlack_any (p : Int) (w : World) : Calls Tryd.prog 44 #[.int .i8 p] w fun e w' => e = .returned (.bool (decide (p < 0))) ∧ w = w' := by
  go_enter Tryd.func44, Tryd.ntmps44
  go_wp2
  go_ret
  exact ⟨rfl, rfl⟩
theorem isSame_any (p q : Int) (b : Nat) (w : World) (hc : w.cell? ⟨b, 0, none⟩ = some (.int .i8 p)) : Calls Tryd.prog 42 #[.int .i8 q, .pointer (some ⟨b, 0, none⟩)] w fun e w' => e = .returned (.bool (q == p)) ∧ w = w' := by
  go_enter Tryd.func42, Tryd.ntmps42
  go_wp2
  go_ret
  exact ⟨rfl, rfl⟩

set_option maxRecDepth 100000 in
set_option maxHeartbeats 1000000 in
theorem squares_any (P : Int → Bool) (g : Nat) (lb : Array Value) (F R : Int) (l : List Int) (A : Option Addr) (c : Nat) (w : World) (hlen : l.length ≤ 64) (hA : RdP w w.heap.size A l c)
    (eg : ∀ args w, (callFunc g args).run Tryd.prog w = .ok (.enter g args) w) (hp : ∀ q W, Below w.heap.size w W → Calls Tryd.prog g (#[.int .i8 q] ++ lb) W fun e W' => e = .returned (.bool (P q)) ∧ W = W') :
    Calls Tryd.prog 41 #[.agg #[.int .i64 F, .int .i64 R, .slice A l.length c], .func (.func g) #[] lb] w fun e w' => e = .returned (.int .u64 (ofL (idx P l) : Int)) ∧ Below w.heap.size w w' := by
  have W0 : Below w.heap.size w (w.alloc (.cells #[.int .i64 F, .int .i64 R, .slice A l.length c] 26)) := box1 _ _
  have HP := Lib.hid hp
  clear hp
  go_enter Tryd.func41, Tryd.ntmps41
  go_wp2_with fail
  go_loopw [5, 6, 7, 11] (fun v _ _ i wr => ∃ k : Nat, k ≤ l.length ∧ i = .int .i64 k ∧ v = .int .u64 (ofL (idxTo P l k) : Int) ∧ Below w.heap.size w wr) (fun _ _ _ i _ => l.length - (intOf i).toNat)
  case atStart => exact ⟨0, by omega, rfl, rfl, W0⟩
  case round =>
    obtain ⟨k, hk, rfl, rfl, hB⟩ := hrel
    by_cases hlt : k < l.length
    · obtain ⟨ad, rfl, hb, hc⟩ := (hA.below hB).at_ hlt
      clear hA
      cases hbq : P (l[k]?.getD 0)
      · have HS := Lib.hid (idxTo_no P l k hbq)
        generalize hn : l[k]?.getD 0 = n at *
        clear hn
        go_wp2_with fail
        refine (HP.out n _ hB).mono ?_
        rintro e w2 ⟨rfl, rfl⟩
        rw [hbq]
        go_wp2
        go_roundw
        case rel => exact ⟨k + 1, by omega, by go_num, by rw [HS.out], hB⟩
        case measure => simp [intOf]; omega
      · have HS := Lib.hid (idxTo_yes P l k hbq)
        generalize hn : l[k]?.getD 0 = n at *
        clear hn
        go_wp2_with fail
        refine (HP.out n _ hB).mono ?_
        rintro e w2 ⟨rfl, rfl⟩
        rw [hbq]
        have hX : ofL (idxTo P l k) < 18446744073709551616 := by
          have := ofL_lt (l := idxTo P l k) (n := 64) (fun i hi => by
            unfold idxTo at hi
            have := List.mem_range.1 (List.mem_filter.1 hi).1
            omega)
          simpa using this
        have HE : Hid (bits .or .u64 (ofL (idxTo P l k) : Int) (IntKind.u64.wrap ((2 : Int) ^ k)) = ((ofL (idxTo P l k) ||| bitN k : Nat) : Int)) := Lib.hid (by
          have e := pow_wrap (k : Int) (by omega)
          rw [Int.toNat_natCast] at e
          rw [e]
          exact or_bitN _ _ hX (by omega))
        generalize idxTo P l k = Q at *
        generalize hXX : ofL Q = X at *
        have HXX := Lib.hid hXX
        clear hXX
        have hwk : IntKind.u64.wrap (k : Int) = k := by rw [IntKind.wrap_u64]; omega
        go_wp2
        go_roundw
        case rel =>
          refine ⟨k + 1, by omega, by go_num, ?_, hB⟩
          rw [HS.out, ofL_snoc, HXX.out]
          exact vint HE.out
        case measure => simp [intOf]; omega
    · have hkl : k = l.length := by omega
      subst hkl
      go_wp2
      go_ret
      exact ⟨rfl, hB⟩

/-- the program's value of a piece or of none. -/
theorem value_any (p : Int) (h : okP p) (w : World) (hK : Kinds w) : Calls Tryd.prog 58 #[.int .i8 p] w fun e w' => e = .returned (.tuple #[.int .i64 (valP p), .int .i64 0]) ∧ w = w' := by
  obtain ⟨h0, h1⟩ := h
  by_cases hn : p < 0
  · obtain ⟨i, rfl⟩ : ∃ i : Nat, p = -(i : Int) := ⟨(-p).toNat, by omega⟩
    have e : valP (-(i : Int)) = vlu (i - 1) := by unfold valP; rw [if_neg (by omega), Int.natAbs_neg, Int.natAbs_natCast]
    rw [e]
    exact value_neg i (by omega) (by omega) w hK
  · by_cases hp : 0 < p
    · obtain ⟨i, rfl⟩ : ∃ i : Nat, p = (i : Int) := ⟨p.toNat, by omega⟩
      have e : valP (i : Int) = vlu (i - 1) := by unfold valP; rw [if_neg (by omega), Int.natAbs_natCast]
      rw [e]
      exact value_pos i (by omega) (by omega) w hK
    · obtain rfl : p = 0 := by omega
      exact value_zero w

theorem sumV_snoc (l : List Int) (q : List Nat) (k : Nat) : sumV l (q ++ [k]) = sumV l q + valP (l[k]?.getD 0) := by
  unfold sumV; simp
theorem sumV_all (l : List Int) (q : List Nat) : 0 ≤ sumV l q ∧ sumV l q ≤ 9 * q.length := by
  have := sumV_bd l q q.length (Nat.le_refl _)
  rwa [List.take_length] at this

set_option maxRecDepth 100000 in
set_option maxHeartbeats 1000000 in
theorem material_any (P : Int → Bool) (g : Nat) (lb : Array Value) (F R : Int) (l : List Int) (A : Option Addr) (c : Nat) (w : World) (hlen : l.length ≤ 64) (hok : ∀ j, j < l.length → okP (l[j]?.getD 0)) (hA : RdP w w.heap.size A l c) (hK : Kinds w)
    (eg : ∀ args w, (callFunc g args).run Tryd.prog w = .ok (.enter g args) w) (hp : ∀ q W, Below w.heap.size w W → Calls Tryd.prog g (#[.int .i8 q] ++ lb) W fun e W' => e = .returned (.bool (P q)) ∧ W = W') :
    Calls Tryd.prog 45 #[.agg #[.int .i64 F, .int .i64 R, .slice A l.length c], .func (.func g) #[] lb] w fun e w' => e = .returned (.int .i64 (sumV l (idx P l))) ∧ Below w.heap.size w w' := by
  have W0 : Below w.heap.size w (w.alloc (.cells #[.int .i64 F, .int .i64 R, .slice A l.length c] 26)) := box1 _ _
  have HP := Lib.hid hp
  have HO := Lib.hid hok
  clear hp hok
  go_enter Tryd.func45, Tryd.ntmps45
  go_wp2_with fail
  go_loopw [5, 7, 8, 9, 13] (fun v _ _ _ i wr => ∃ k : Nat, k ≤ l.length ∧ i = .int .i64 k ∧ v = .int .i64 (sumV l (idxTo P l k)) ∧ Below w.heap.size w wr) (fun _ _ _ _ i _ => l.length - (intOf i).toNat)
  case atStart => exact ⟨0, by omega, rfl, rfl, W0⟩
  case round =>
    obtain ⟨k, hk, rfl, rfl, hB⟩ := hrel
    by_cases hlt : k < l.length
    · obtain ⟨ad, rfl, hb, hc⟩ := (hA.below hB).at_ hlt
      clear hA
      have hV := HO.out k hlt
      cases hbq : P (l[k]?.getD 0)
      · have HS := Lib.hid (idxTo_no P l k hbq)
        generalize hn : l[k]?.getD 0 = n at *
        clear hn
        go_wp2_with fail
        refine (HP.out n _ hB).mono ?_
        rintro e w2 ⟨rfl, rfl⟩
        rw [hbq]
        go_wp2
        go_roundw
        case rel => exact ⟨k + 1, by omega, by go_num, by rw [HS.out], hB⟩
        case measure => simp [intOf]; omega
      · have HS := Lib.hid (idxTo_yes P l k hbq)
        have HV := Lib.hid (sumV_snoc l (idxTo P l k) k)
        have hsum := sumV_all l (idxTo P l k)
        have hle := idxTo_le P l k
        have hvb := valP_bd (l[k]?.getD 0)
        generalize hn : l[k]?.getD 0 = n at *
        clear hn
        generalize idxTo P l k = Q at *
        generalize hS : sumV l Q = S at *
        clear hS
        have hwr : IntKind.i64.wrap (S + valP n) = S + valP n := IntWalk.i64_in _ (by omega)
        go_wp2_with fail
        refine (HP.out n _ hB).mono ?_
        rintro e w2 ⟨rfl, rfl⟩
        rw [hbq]
        go_wp2_with fail
        refine (value_any n hV _ (hK.below hB hK.1)).mono ?_
        rintro e w2 ⟨rfl, rfl⟩
        go_wp2
        go_roundw
        case rel =>
          refine ⟨k + 1, by omega, by go_num, ?_, hB⟩
          rw [HS.out, HV.out]
        case measure => simp [intOf]; omega
    · have hkl : k = l.length := by omega
      subst hkl
      go_wp2
      go_ret
      exact ⟨rfl, hB⟩

theorem gW : ∀ args w, (callFunc 43 args).run Tryd.prog w = .ok (.enter 43 args) w := enters_of Tryd.func43 (by kernel_rfl) rfl
theorem gB : ∀ args w, (callFunc 44 args).run Tryd.prog w = .ok (.enter 44 args) w := enters_of Tryd.func44 (by kernel_rfl) rfl
theorem gS : ∀ args w, (callFunc 42 args).run Tryd.prog w = .ok (.enter 42 args) w := enters_of Tryd.func42 (by kernel_rfl) rfl
theorem idx_white (l : List Int) : idx (fun p => decide (0 < p)) l = idx (sdP 1) l := by
  congr 1
  funext p
  unfold sdP sgnP
  by_cases h : p < 0
  · rw [if_pos h]; simp; omega
  · by_cases h2 : 0 < p
    · rw [if_neg h, if_pos h2]; simp [h2]
    · rw [if_neg h, if_neg h2]; simp; omega
theorem idx_black (l : List Int) : idx (fun p => decide (p < 0)) l = idx (sdP (-1)) l := by
  congr 1
  funext p
  unfold sdP sgnP
  by_cases h : p < 0
  · rw [if_pos h]; simp [h]
  · by_cases h2 : 0 < p
    · rw [if_neg h, if_pos h2]; simp; omega
    · rw [if_neg h, if_neg h2]; simp; omega

/-- the set of the squares of the pieces that are such. -/
def setP (P : Int → Bool) (l : List Int) : Nat := ofL (idx P l)
theorem vbd_len {F R : Int} {l : List Int} (h : vbd F R l) : l.length ≤ 64 := by have := vsz_mul h.1; have := h.2.1; omega

theorem squaresW (F R : Int) (l : List Int) (A : Option Addr) (c : Nat) (w : World) (hlen : l.length ≤ 64) (hA : RdP w w.heap.size A l c) :
    Calls Tryd.prog 41 #[.agg #[.int .i64 F, .int .i64 R, .slice A l.length c], .func (.func 43) #[] #[]] w fun e w' => e = .returned (.int .u64 (setP (sdP 1) l : Int)) ∧ Below w.heap.size w w' := by
  unfold setP
  rw [← idx_white]
  exact squares_any (fun p => decide (0 < p)) 43 #[] F R l A c w hlen hA gW (fun q W _ => isWhite_any q W)
theorem squaresB (F R : Int) (l : List Int) (A : Option Addr) (c : Nat) (w : World) (hlen : l.length ≤ 64) (hA : RdP w w.heap.size A l c) :
    Calls Tryd.prog 41 #[.agg #[.int .i64 F, .int .i64 R, .slice A l.length c], .func (.func 44) #[] #[]] w fun e w' => e = .returned (.int .u64 (setP (sdP (-1)) l : Int)) ∧ Below w.heap.size w w' := by
  unfold setP
  rw [← idx_black]
  exact squares_any (fun p => decide (p < 0)) 44 #[] F R l A c w hlen hA gB (fun q W _ => isBlack_any q W)
theorem materialW (F R : Int) (l : List Int) (A : Option Addr) (c : Nat) (w : World) (hlen : l.length ≤ 64) (hok : ∀ j, j < l.length → okP (l[j]?.getD 0)) (hA : RdP w w.heap.size A l c) (hK : Kinds w) :
    Calls Tryd.prog 45 #[.agg #[.int .i64 F, .int .i64 R, .slice A l.length c], .func (.func 43) #[] #[]] w fun e w' => e = .returned (.int .i64 (matP 1 l)) ∧ Below w.heap.size w w' := by
  unfold matP
  rw [← idx_white]
  exact material_any (fun p => decide (0 < p)) 43 #[] F R l A c w hlen hok hA hK gW (fun q W _ => isWhite_any q W)
theorem materialB (F R : Int) (l : List Int) (A : Option Addr) (c : Nat) (w : World) (hlen : l.length ≤ 64) (hok : ∀ j, j < l.length → okP (l[j]?.getD 0)) (hA : RdP w w.heap.size A l c) (hK : Kinds w) :
    Calls Tryd.prog 45 #[.agg #[.int .i64 F, .int .i64 R, .slice A l.length c], .func (.func 44) #[] #[]] w fun e w' => e = .returned (.int .i64 (matP (-1) l)) ∧ Below w.heap.size w w' := by
  unfold matP
  rw [← idx_black]
  exact material_any (fun p => decide (p < 0)) 44 #[] F R l A c w hlen hok hA hK gB (fun q W _ => isBlack_any q W)

/-- which side a function picks. -/
def sgF (g : Nat) : Int := if g = 43 then 1 else -1
theorem squaresG (g : Nat) (hg : g = 43 ∨ g = 44) (F R : Int) (l : List Int) (A : Option Addr) (c : Nat) (w : World) (hlen : l.length ≤ 64) (hA : RdP w w.heap.size A l c) :
    Calls Tryd.prog 41 #[.agg #[.int .i64 F, .int .i64 R, .slice A l.length c], .func (.func g) #[] #[]] w fun e w' => e = .returned (.int .u64 (setP (sdP (sgF g)) l : Int)) ∧ Below w.heap.size w w' := by
  rcases hg with rfl | rfl
  · exact squaresW F R l A c w hlen hA
  · exact squaresB F R l A c w hlen hA
theorem materialG (g : Nat) (hg : g = 43 ∨ g = 44) (F R : Int) (l : List Int) (A : Option Addr) (c : Nat) (w : World) (hlen : l.length ≤ 64) (hok : ∀ j, j < l.length → okP (l[j]?.getD 0)) (hA : RdP w w.heap.size A l c) (hK : Kinds w) :
    Calls Tryd.prog 45 #[.agg #[.int .i64 F, .int .i64 R, .slice A l.length c], .func (.func g) #[] #[]] w fun e w' => e = .returned (.int .i64 (matP (sgF g) l)) ∧ Below w.heap.size w w' := by
  rcases hg with rfl | rfl
  · exact materialW F R l A c w hlen hok hA hK
  · exact materialB F R l A c w hlen hok hA hK

set_option maxRecDepth 100000 in
set_option maxHeartbeats 1000000 in
theorem find_yes (F R : Int) (l : List Int) (A : Option Addr) (c : Nat) (p : Int) (w : World) (hv : vbd F R l) (hp : okP p) (hA : RdP w w.heap.size A l c) :
    Calls Tryd.prog 24 #[.agg #[.int .i64 F, .int .i64 R, .slice A l.length c], .int .i8 p] w fun e w' => e = .returned (.tuple #[.int .u64 (setP (eqP p) l : Int), .int .i64 0]) ∧ Below w.heap.size w w' := by
  have W0 : Below w.heap.size w ((w.alloc (.cells #[.int .i64 F, .int .i64 R, .slice A l.length c] 26)).alloc (.cells #[.int .i8 p] 32)) := after1 (box1 _ _)
  have A1 := (hA.below W0).grow W0.size
  clear hA
  go_enter Tryd.func24, Tryd.ntmps24
  go_wp2_with fail
  refine (bValid_yes F R l A c hv _ A1).mono ?_
  rintro e w1 ⟨rfl, hb1⟩
  have s1 := hb1.size
  simp at s1
  have c0 := hb1.cell (p := ⟨w.heap.size, 0, none⟩) (by simp; omega)
  have c1 := hb1.cell (p := ⟨w.heap.size, 1, none⟩) (by simp; omega)
  have c2 := hb1.cell (p := ⟨w.heap.size, 2, none⟩) (by simp; omega)
  have c3 := hb1.cell (p := ⟨w.heap.size + 1, 0, none⟩) (by simp)
  simp [go_sem] at c0 c1 c2 c3
  go_wp2_with fail
  refine (pValid_yes p hp _).mono ?_
  rintro e w3 ⟨rfl, rfl⟩
  go_wp2_with fail
  refine (squares_any (eqP p) 42 #[.pointer (some ⟨w.heap.size + 1, 0, none⟩)] F R l A c _ (vbd_len hv) ((A1.below hb1).grow hb1.size) gS (fun q W hW => isSame_any p q _ W ((hW.cell (p := ⟨w.heap.size + 1, 0, none⟩) (by simp; omega)).trans c3))).mono ?_
  rintro e w2 ⟨rfl, hb2⟩
  have hB := Lib.hid (chain (chain W0 hb1) hb2)
  clear hb1 hb2 W0 A1
  go_wp2
  go_ret2
  exact ⟨rfl, hB.out⟩

set_option maxRecDepth 100000 in
set_option maxHeartbeats 1000000 in
theorem find_no (F R : Int) (l : List Int) (A : Option Addr) (c : Nat) (p : Int) (w : World) (hlen : l.length ≤ 100000) (h : ¬ (vbd F R l ∧ okP p)) (hA : RdP w w.heap.size A l c) :
    Calls Tryd.prog 24 #[.agg #[.int .i64 F, .int .i64 R, .slice A l.length c], .int .i8 p] w fun e w' => e = .returned (.tuple #[.int .u64 0, .int .i64 2]) ∧ Below w.heap.size w w' := by
  have W0 : Below w.heap.size w ((w.alloc (.cells #[.int .i64 F, .int .i64 R, .slice A l.length c] 26)).alloc (.cells #[.int .i8 p] 32)) := after1 (box1 _ _)
  have A1 := (hA.below W0).grow W0.size
  clear hA
  by_cases hv : vbd F R l
  · have hp : ¬ okP p := fun hp => h ⟨hv, hp⟩
    clear h
    go_enter Tryd.func24, Tryd.ntmps24
    go_wp2_with fail
    refine (bValid_yes F R l A c hv _ A1).mono ?_
    rintro e w1 ⟨rfl, hb1⟩
    have c3 := hb1.cell (p := ⟨w.heap.size + 1, 0, none⟩) (by simp)
    simp [go_sem] at c3
    go_wp2_with fail
    refine (pValid_no p hp _).mono ?_
    rintro e w3 ⟨rfl, rfl⟩
    have hB := Lib.hid (chain W0 hb1)
    clear hb1 W0 A1
    go_wp2
    go_ret2
    exact ⟨rfl, hB.out⟩
  · clear h
    go_enter Tryd.func24, Tryd.ntmps24
    go_wp2_with fail
    refine (bValid_no F R l A c hv _ hlen A1).mono ?_
    rintro e w1 ⟨rfl, hb1⟩
    have hB := Lib.hid (chain W0 hb1)
    clear hb1 W0 A1
    go_wp2
    go_ret2
    exact ⟨rfl, hB.out⟩

set_option maxRecDepth 100000 in
set_option maxHeartbeats 1000000 in
theorem sides_yes (F R : Int) (l : List Int) (A : Option Addr) (c : Nat) (w : World) (hv : vbd F R l) (hA : RdP w w.heap.size A l c) :
    Calls Tryd.prog 25 #[.agg #[.int .i64 F, .int .i64 R, .slice A l.length c]] w fun e w' => e = .returned (.tuple #[.int .u64 (setP (sdP 1) l : Int), .int .u64 (setP (sdP (-1)) l : Int), .int .i64 0]) ∧ Below w.heap.size w w' := by
  have W0 : Below w.heap.size w (w.alloc (.cells #[.int .i64 F, .int .i64 R, .slice A l.length c] 26)) := box1 _ _
  have A1 := (hA.below W0).grow W0.size
  clear hA
  go_enter Tryd.func25, Tryd.ntmps25
  go_wp2_with fail
  refine (bValid_yes F R l A c hv _ A1).mono ?_
  rintro e w1 ⟨rfl, hb1⟩
  have s1 := hb1.size
  simp at s1
  have c0 := hb1.cell (p := ⟨w.heap.size, 0, none⟩) (by simp)
  have c1 := hb1.cell (p := ⟨w.heap.size, 1, none⟩) (by simp)
  have c2 := hb1.cell (p := ⟨w.heap.size, 2, none⟩) (by simp)
  simp [go_sem] at c0 c1 c2
  have HA := Lib.hid (fun W (h : Below w1.heap.size w1 W) => (((A1.below hb1).grow hb1.size).below h).grow h.size)
  have hlen := vbd_len hv
  have hB1 := Lib.hid (chain W0 hb1)
  have q0 := cell_regrown c0
  have q1 := cell_regrown c1
  have q2 := cell_regrown c2
  have HQ : Hid (∀ n os g, g = 43 ∨ g = 44 → Calls Tryd.prog 41 #[.agg #[.int .i64 F, .int .i64 R, .slice A l.length c], .func (.func g) #[] #[]] (Go.Sort.grow (redrawn w1 n) os) fun e w' => e = .returned (.int .u64 (setP (sdP (sgF g)) l : Int)) ∧ Below (Go.Sort.grow (redrawn w1 n) os).heap.size (Go.Sort.grow (redrawn w1 n) os) w') :=
    Lib.hid fun n os g hg => squaresG g hg F R l A c _ hlen (HA.out _ (below_regrown w1 n os))
  clear hb1 W0 A1
  go_wp2_with fail
  refine wp_region_quiet_below (by kernel_rfl) (by kernel_rfl) ?_
  repeat (go_big_quiet_step ((go_at_call 41; exact Calls.regrown_of (HQ.out _ _ _ (by decide)))))
  refine wpQuiet_nil ?_
  intro _ hw'
  obtain ⟨⟨dq, osq⟩, hw''⟩ := hw'
  subst hw''
  have hR := below_regrown w1 dq osq
  go_wp2
  refine bodyPost_ret (v := .tuple #[.int .u64 (setP (sdP 1) l : Int), .int .u64 (setP (sdP (-1)) l : Int), .int .i64 0]) ?_ rfl ⟨rfl, chain hB1.out hR⟩
  simp [results, Tryd.results25, go_sem, sgF]

set_option maxRecDepth 100000 in
set_option maxHeartbeats 1000000 in
theorem sides_no (F R : Int) (l : List Int) (A : Option Addr) (c : Nat) (w : World) (hlen : l.length ≤ 100000) (hv : ¬ vbd F R l) (hA : RdP w w.heap.size A l c) :
    Calls Tryd.prog 25 #[.agg #[.int .i64 F, .int .i64 R, .slice A l.length c]] w fun e w' => e = .returned (.tuple #[.int .u64 0, .int .u64 0, .int .i64 2]) ∧ Below w.heap.size w w' := by
  have W0 : Below w.heap.size w (w.alloc (.cells #[.int .i64 F, .int .i64 R, .slice A l.length c] 26)) := box1 _ _
  have A1 := (hA.below W0).grow W0.size
  clear hA
  go_enter Tryd.func25, Tryd.ntmps25
  go_wp2_with fail
  refine (bValid_no F R l A c hv _ hlen A1).mono ?_
  rintro e w1 ⟨rfl, hb1⟩
  have hB := Lib.hid (chain W0 hb1)
  clear hb1 W0 A1
  go_wp2
  refine bodyPost_ret (v := .tuple #[.int .u64 0, .int .u64 0, .int .i64 2]) ?_ rfl ⟨rfl, hB.out⟩
  simp [results, Tryd.results25, go_sem]

set_option maxRecDepth 100000 in
set_option maxHeartbeats 1000000 in
theorem material_yes (F R : Int) (l : List Int) (A : Option Addr) (c : Nat) (w : World) (hv : vbd F R l) (hK : Kinds w) (hA : RdP w w.heap.size A l c) :
    Calls Tryd.prog 26 #[.agg #[.int .i64 F, .int .i64 R, .slice A l.length c]] w fun e w' => e = .returned (.tuple #[.int .i64 (matP 1 l), .int .i64 (matP (-1) l), .int .i64 0]) ∧ Below w.heap.size w w' := by
  have W0 : Below w.heap.size w (w.alloc (.cells #[.int .i64 F, .int .i64 R, .slice A l.length c] 26)) := box1 _ _
  have A1 := (hA.below W0).grow W0.size
  clear hA
  go_enter Tryd.func26, Tryd.ntmps26
  go_wp2_with fail
  refine (bValid_yes F R l A c hv _ A1).mono ?_
  rintro e w1 ⟨rfl, hb1⟩
  have s1 := hb1.size
  simp at s1
  have c0 := hb1.cell (p := ⟨w.heap.size, 0, none⟩) (by simp)
  have c1 := hb1.cell (p := ⟨w.heap.size, 1, none⟩) (by simp)
  have c2 := hb1.cell (p := ⟨w.heap.size, 2, none⟩) (by simp)
  simp [go_sem] at c0 c1 c2
  have HA := Lib.hid (fun W (h : Below w1.heap.size w1 W) => (((A1.below hb1).grow hb1.size).below h).grow h.size)
  have hlen := vbd_len hv
  have hB1 := Lib.hid (chain W0 hb1)
  have q0 := cell_regrown c0
  have q1 := cell_regrown c1
  have q2 := cell_regrown c2
  have HQ : Hid (∀ n os g, g = 43 ∨ g = 44 → Calls Tryd.prog 45 #[.agg #[.int .i64 F, .int .i64 R, .slice A l.length c], .func (.func g) #[] #[]] (Go.Sort.grow (redrawn w1 n) os) fun e w' => e = .returned (.int .i64 (matP (sgF g) l)) ∧ Below (Go.Sort.grow (redrawn w1 n) os).heap.size (Go.Sort.grow (redrawn w1 n) os) w') :=
    Lib.hid fun n os g hg => materialG g hg F R l A c _ hlen hv.2.2 (HA.out _ (below_regrown w1 n os)) (hK.below (chain hB1.out (below_regrown w1 n os)) hK.1)
  clear hb1 W0 A1
  go_wp2_with fail
  refine wp_region_quiet_below (by kernel_rfl) (by kernel_rfl) ?_
  repeat (go_big_quiet_step ((go_at_call 45; exact Calls.regrown_of (HQ.out _ _ _ (by decide)))))
  refine wpQuiet_nil ?_
  intro _ hw'
  obtain ⟨⟨dq, osq⟩, hw''⟩ := hw'
  subst hw''
  have hR := below_regrown w1 dq osq
  go_wp2
  refine bodyPost_ret (v := .tuple #[.int .i64 (matP 1 l), .int .i64 (matP (-1) l), .int .i64 0]) ?_ rfl ⟨rfl, chain hB1.out hR⟩
  simp [results, Tryd.results26, go_sem, sgF]

set_option maxRecDepth 100000 in
set_option maxHeartbeats 1000000 in
theorem material_no (F R : Int) (l : List Int) (A : Option Addr) (c : Nat) (w : World) (hlen : l.length ≤ 100000) (hv : ¬ vbd F R l) (hA : RdP w w.heap.size A l c) :
    Calls Tryd.prog 26 #[.agg #[.int .i64 F, .int .i64 R, .slice A l.length c]] w fun e w' => e = .returned (.tuple #[.int .i64 0, .int .i64 0, .int .i64 2]) ∧ Below w.heap.size w w' := by
  have W0 : Below w.heap.size w (w.alloc (.cells #[.int .i64 F, .int .i64 R, .slice A l.length c] 26)) := box1 _ _
  have A1 := (hA.below W0).grow W0.size
  clear hA
  go_enter Tryd.func26, Tryd.ntmps26
  go_wp2_with fail
  refine (bValid_no F R l A c hv _ hlen A1).mono ?_
  rintro e w1 ⟨rfl, hb1⟩
  have hB := Lib.hid (chain W0 hb1)
  clear hb1 W0 A1
  go_wp2
  refine bodyPost_ret (v := .tuple #[.int .i64 0, .int .i64 0, .int .i64 2]) ?_ rfl ⟨rfl, hB.out⟩
  simp [results, Tryd.results26, go_sem]

end Go.Proofs.YtolohfkenglpcaaDoor
