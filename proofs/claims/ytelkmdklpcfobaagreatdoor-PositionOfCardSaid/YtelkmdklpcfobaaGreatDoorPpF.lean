/- Positions: a text is read as a position just if it is the text of that position, and that one is valid; the program's reading is the document's. -/
import Derived.Test.YtelkmdklpcfobaaGreatDoorPoA
import Derived.Test.YtelkmdklpcfobaaGreatDoorBdF
import Derived.Test.YtelkmdklpcfobaaGreatDoorPpE
import Derived.Test.YtelkmdklpcfobaaGreatDoorBpI
import Derived.Lib.AppendIntMem

namespace Go.Proofs.YtelkmdklpcfobaaGreatDoor
open Go.RowKit

theorem rowT_cleanW (row : List Int) (hok : okRow row) (h8 : row.length ≤ 8)   : cleanW (rowT row) := by
  have key : ∀ k, k ≤ row.length → cleanW (rowS row k).1 := by
    intro k
    induction k with
    | zero => intro _ c hc; simp [rowS_zero] at hc
    | succ k ih =>
      intro hk
      by_cases hz : row[k]?.getD 0 = 0
      · rw [rowS_emp (by omega) hz]; exact ih (by omega)
      · rw [rowS_pc (by omega) hz]
        have hp : okP (row[k]?.getD 0) := by
          rw [List.getElem?_eq_getElem (show k < row.length by omega)]
          exact hok _ (List.getElem_mem _)
        have hr := lt_rng hp hz
        have hb := rowS_bd row k (by omega)
        intro c hc
        simp only [List.mem_append, List.mem_singleton] at hc
        rcases hc with (hc | hc) | hc
        · exact ih (by omega) c hc
        · unfold flu at hc
          split at hc
          · rw [List.mem_singleton] at hc
            rw [hc]; intro e
            have := congrArg UInt8.toNat e
            rw [u8_lt _ (by omega)] at this
            have h32 : (32 : UInt8).toNat = 32 := rfl
            omega
          · simp at hc
        · rw [hc]; intro e
          have := congrArg UInt8.toNat e
          rw [u8_lt _ (by omega)] at this
          have h32 : (32 : UInt8).toNat = 32 := rfl
          omega
  intro c hc
  unfold rowT at hc
  rcases List.mem_append.1 hc with hc | hc
  · exact key _ (Nat.le_refl _) c hc
  · unfold flu at hc
    split at hc
    · rw [List.mem_singleton] at hc
      rw [hc]; intro e
      have := congrArg UInt8.toNat e
      have hb := rowS_bd row row.length (Nat.le_refl _)
      rw [u8_lt _ (by omega)] at this
      have h32 : (32 : UInt8).toNat = 32 := rfl
      omega
    · simp at hc


theorem accT_cleanW {f r : Nat} {l : List Int} (hf1 : f ≤ 8) (hr0 : 3 ≤ r) (hok : okRow l) : cleanW (accT f r l r) := by
  have hcl : ∀ t ∈ rks f r l, cleanW t := by
    intro t ht
    unfold rks at ht
    obtain ⟨i, _, rfl⟩ := List.mem_map.1 ht
    exact rowT_cleanW _ (rk_ok hok _) (Nat.le_trans (rk_le f l _) hf1)
  rw [text_jn]
  intro c hc e
  cases h : rks f r l with
  | nil => have := congrArg List.length h; simp [rks_len] at this; omega
  | cons t ts =>
    rw [h] at hc hcl
    unfold jn at hc
    rw [List.mem_append, List.mem_flatMap] at hc
    rcases hc with hc | ⟨u, hu, hc⟩
    · exact hcl t (by simp) c hc e
    · rcases List.mem_cons.1 hc with hc | hc
      · subst hc; exact absurd e (by decide)
      · exact hcl u (by simp [hu]) c hc e

theorem okRow_of {l : List Int} (h : ∀ j, j < l.length → okP (l[j]?.getD 0)) : okRow l := by
  intro x hx
  obtain ⟨j, hj, rfl⟩ := List.mem_iff_getElem.1 hx
  have := h j hj
  rw [List.getElem?_eq_getElem hj] at this
  exact this
/-- what a valid position is made of. -/
theorem okPo_nat {p : Po} (h : okPo p = true) : ∃ f r : Nat, p.F = (f : Int) ∧ p.R = (r : Int) ∧ 3 ≤ f ∧ f ≤ 8 ∧ 3 ≤ r ∧ r ≤ 8 ∧ p.l.length = r * f ∧ okRow p.l ∧ p.ca ≤ 15 ∧ (p.ps = -1 ∨ vat p.F p.R p.ps) ∧ (0 ≤ p.ha ∧ p.ha ≤ 10000 ∧ 1 ≤ p.fu ∧ p.fu ≤ 10000) ∧ vbd p.F p.R p.l := by
  obtain ⟨h1, _, h3, h4, h5⟩ := okPo_parts h
  have hb := (poBrd_vbd h1).1
  obtain ⟨f, r, e1, e2, q⟩ := vbd_nat hb
  exact ⟨f, r, e1, e2, q.1, q.2.1, q.2.2.1, q.2.2.2.1, q.2.2.2.2, okRow_of hb.2.2, poCas_le h3, poPas_at hb.1 h4, poCnt_bd h5, hb⟩
theorem wrdL_clean {p : Po} (h : okPo p = true) : ∀ t ∈ wrdL p, cleanW t := by
  obtain ⟨f, r, e1, e2, f0, f1, r0, r1, hl, hok, hca, hps, hc, _⟩ := okPo_nat h
  intro t ht
  unfold wrdL at ht
  simp only [List.mem_cons, List.not_mem_nil, or_false] at ht
  rcases ht with rfl | rfl | rfl | rfl | rfl | rfl | rfl
  · exact szL_cleanW _ _
  · rw [e1, e2]
    exact accT_cleanW (by omega) (by omega) hok
  · exact sdL_cleanW _
  · exact caL_cleanW hca
  · exact psL_cleanW hps
  · exact dg_cleanW dec_dig
  · exact dg_cleanW dec_dig
theorem wds_posT {p : Po} (h : okPo p = true) : wds (posT p) = wrdL p := jw_spl (by unfold wrdL; simp) (wrdL_clean h)
theorem sd_98 (b : Bool) : (sdL b == [98]) = b := by cases b <;> rfl
theorem sdL_or (b : Bool) : ¬ (sdL b ≠ [119] ∧ sdL b ≠ [98]) := by cases b <;> simp [sdL]
/-- the text of a valid position is read as that position. -/
theorem rd_text {p : Po} (h : okPo p = true) : rdPo (posT p) = some p := by
  obtain ⟨f, r, e1, e2, f0, f1, r0, r1, hl, hok, hca, hps, hc, _⟩ := okPo_nat h
  have hp := parse_text f0 f1 r0 r1 hl hok
  have hw := wds_posT h
  obtain ⟨F, R, l, bl, ca, ps, ha, fu⟩ := p
  simp only at e1 e2 hl hok hca hps hc
  subst e1 e2
  unfold wrdL at hw
  simp only [Int.toNat_natCast] at hw
  unfold rdPo
  rw [hw]
  dsimp only
  rw [if_neg (sdL_or bl), hp]
  dsimp only
  rw [if_neg (by simp), casV_caL hca]
  dsimp only
  rw [psV_psL hps]
  dsimp only
  have n1 : nmbV (dec ha.toNat) = ha := by rw [nmbV_dec (by omega)]; omega
  have n2 : nmbV (dec fu.toNat) = fu := by rw [nmbV_dec (by omega)]; omega
  rw [n1, n2, sd_98, if_pos h]
/-- a text that is read as a position is its text. -/
theorem text_rd {L : List UInt8} {p : Po} (h : rdPo L = some p) : okPo p = true ∧ posT p = L := by
  unfold rdPo at h
  split at h
  · rename_i w0 w1 w2 w3 w4 w5 w6 hw
    split at h
    · simp at h
    · rename_i hsd
      split at h
      · simp at h
      · rename_i f r l hb
        split at h
        · simp at h
        · rename_i hsz
          split at h
          · simp at h
          · rename_i ca hca
            split at h
            · simp at h
            · rename_i ps hps
              split at h
              · rename_i hok
                simp only [Option.some.injEq] at h
                subst h
                refine ⟨hok, ?_⟩
                obtain ⟨f0, f1, r0, r1, hl, hrow, ht⟩ := text_parse hb
                obtain ⟨_, _, _, _, _, _, _, _, _, _, _, _, hc, hv⟩ := okPo_nat hok
                simp only at hc hv
                have c1 := (casV_yes hca).2
                have c2 := (psV_yes hv.1 hps).2
                have c3 := nmbV_yes (w := w5) (by omega)
                have c4 := nmbV_yes (w := w6) (by omega)
                have c5 : sdL (w2 == [98]) = w2 := by
                  by_cases e : w2 = [98]
                  · subst e; rfl
                  · have e2 : w2 = [119] := Classical.byContradiction fun hc => hsd ⟨hc, e⟩
                    subst e2; rfl
                unfold posT wrdL
                simp only [Int.toNat_natCast]
                rw [c1, c2, c3, c4, c5, ht, ← Classical.byContradiction hsz, ← hw]
                exact wds_jn L
              · simp at h
  · simp at h

/-- what the program's reading of a number gives. -/
def atV (w : List UInt8) : Int := match Lib.atoiAll w with | .ok v => v | .range => Lib.atoiSat w | _ => 0
theorem parseU_dig : ∀ (l : List UInt8) (acc k : Nat), (∀ c ∈ l, isDg c = true) → acc < 10 ^ k → l.length + k ≤ 18 → Lib.parseUint10 acc l = .ok (l.foldl (fun n c => n * 10 + (c.toNat - 48)) acc)
  | [], acc, k, _, _, _ => rfl
  | c :: r, acc, k, hd, ha, hk => by
    have hc := hd c (by simp)
    unfold isDg at hc
    simp at hc
    simp only [List.length_cons] at hk
    have hp : (10 : Nat) ^ k ≤ 10 ^ 17 := Nat.pow_le_pow_right (by decide) (by omega)
    have h17 : (10 : Nat) ^ 17 = 100000000000000000 := by decide
    unfold Lib.parseUint10
    rw [if_pos ⟨hc.1, hc.2⟩, if_neg (by omega), if_neg (by omega), List.foldl_cons]
    exact parseU_dig r _ (k + 1) (fun x hx => hd x (by simp [hx])) (by rw [Nat.pow_succ]; omega) (by omega)
theorem atV_dec {n : Nat} (h : n ≤ 99999) : atV (dec n) = n := by
  have hl := dec_len h
  have hv := dec_val (n := n) (by omega)
  have hd := dec_dig (n := n)
  unfold atV Lib.atoiAll
  generalize dec n = w at *
  cases w with
  | nil => simp at hl
  | cons c r =>
    have hc := hd c (by simp)
    unfold isDg at hc
    simp at hc
    have hq := parseU_dig (c :: r) 0 0 hd (by simp) (by simp only [List.length_cons] at hl ⊢; omega)
    unfold valF at hv
    rw [hv] at hq
    dsimp only
    rw [if_neg (by omega)]
    unfold Lib.parseMag
    rw [if_neg (by simp), hq]
    dsimp only
    rw [if_neg (by omega), if_neg (by omega), if_neg (by omega)]
/-- the rights that the program reads off a word. -/
def pcaV (w : List UInt8) : Nat := (if w.contains 75 then 1 else 0) + (if w.contains 81 then 2 else 0) + (if w.contains 107 then 4 else 0) + (if w.contains 113 then 8 else 0)
theorem pcaV_caL {ca : Nat} (h : ca ≤ 15) : pcaV (caL ca) = ca := by
  have : ∀ c, c < 16 → pcaV (caL c) = c := by decide +kernel
  exact this ca (by omega)
theorem pcaV_le (w : List UInt8) : pcaV w ≤ 15 := by
  unfold pcaV
  split <;> split <;> split <;> split <;> omega
/-- the square that the program reads off a word. -/
def ppsV (F R : Int) (w : List UInt8) : Int := (sqV F R w).getD (-1)
theorem ppsV_psL {F R ps : Int} (h : ps = -1 ∨ vat F R ps) : ppsV F R (psL F ps) = ps := by
  unfold ppsV psL
  rcases h with rfl | h
  · rw [if_pos (by decide)]
    cases e : sqV F R [45] with
    | none => rfl
    | some a =>
      unfold sqV at e
      cases e2 : (List.range (F * R).toNat).find? (fun n : Nat => (nameB F (n : Int)).data.toList == [45]) with
      | none => rw [e2] at e; simp at e
      | some n =>
        have h1 := List.find?_some e2
        rw [nameB_list] at h1
        simp at h1
  · have h0 := h.2.1
    rw [if_neg (by omega : ¬ ps < 0), sqV_name h]
    rfl
/-- the program's reading of seven words. -/
def pgPo (ws : List (List UInt8)) : Option Po :=
  match ws with
  | [_, w1, w2, w3, w4, w5, w6] =>
    match parseB w1 with
    | none => none
    | some (f, r, l) => some ⟨f, r, l, w2 == [98], pcaV w3, ppsV f r w4, atV w5, atV w6⟩
  | _ => none
theorem pgPo_text {p : Po} (h : okPo p = true) : pgPo (wrdL p) = some p := by
  obtain ⟨f, r, e1, e2, f0, f1, r0, r1, hl, hok, hca, hps, hc, _⟩ := okPo_nat h
  have hp := parse_text f0 f1 r0 r1 hl hok
  obtain ⟨F, R, l, bl, ca, ps, ha, fu⟩ := p
  simp only at e1 e2 hl hok hca hps hc
  subst e1 e2
  unfold wrdL
  simp only [Int.toNat_natCast]
  unfold pgPo
  dsimp only
  rw [hp]
  dsimp only
  have n1 : atV (dec ha.toNat) = ha := by rw [atV_dec (by omega)]; omega
  have n2 : atV (dec fu.toNat) = fu := by rw [atV_dec (by omega)]; omega
  rw [n1, n2, sd_98, pcaV_caL hca, ppsV_psL hps]
/-- at most seven cuts. -/
def words8 (L : List UInt8) : List (List UInt8) := cut32 (min 8 (L.length + 1) - 1) L
theorem words8_text {p : Po} (h : okPo p = true) : words8 (posT p) = wrdL p := by
  obtain ⟨q0, q1, q2, q3, q4⟩ := cut32_inv (min 8 ((posT p).length + 1) - 1) (posT p)
  have hw := wds_posT h
  have hn : (wds (posT p)).length = 7 := by rw [hw]; rfl
  have hcl : (∀ t ∈ words8 (posT p), cleanW t) → words8 (posT p) = wrdL p := fun hc => by
    have := jw_spl q0 hc
    rw [q1] at this
    rw [← hw, this]
    rfl
  rcases q3 with q3 | q3
  · by_cases hL : (posT p).length ≤ 7
    · exact hcl (q4 (by omega))
    · have h8 : (cut32 (min 8 ((posT p).length + 1) - 1) (posT p)).length = 8 := by rw [q3]; omega
      have := jw_count q0
      rw [q1, h8] at this
      rw [wds_count] at hn
      omega
  · exact hcl q3
/-- what the program's reading gives is the document's. -/
theorem pg_eq (L : List UInt8) : rdPo L = match pgPo (words8 L) with | none => none | some p => if okPo p && posT p == L then some p else none := by
  cases h : rdPo L with
  | some p =>
    obtain ⟨h1, h2⟩ := text_rd h
    subst h2
    rw [words8_text h1, pgPo_text h1]
    simp [h1]
  | none =>
    cases h2 : pgPo (words8 L) with
    | none => rfl
    | some p =>
      dsimp only
      split
      · rename_i hc
        rw [Bool.and_eq_true] at hc
        have hL : posT p = L := by simpa using hc.2
        rw [← hL, rd_text hc.1] at h
        simp at h
      · rfl

end Go.Proofs.YtelkmdklpcfobaaGreatDoor

/- Positions, by the program: the words of a text. -/
namespace Go.Proofs.YtelkmdklpcfobaaGreatDoor
open Go.RowKit Go.Sort

theorem var_below {w w' : World} {name : String} {cs : Array Value} (h : w.var? Tryz.prog name = some cs) (hb : Below w.heap.size w w') : w'.var? Tryz.prog name = some cs := by
  unfold World.var? at *
  cases hg : Tryz.prog.globalNamed name with
  | none => simp [hg] at h
  | some g =>
    simp only [hg, Option.bind_some] at h ⊢
    have hlt : g < w.heap.size := by
      rcases Nat.lt_or_ge g w.heap.size with h' | h'
      · exact h'
      · rw [Array.getElem?_eq_none h'] at h; simp at h
    rw [hb.block g hlt]
    exact h
/-- what the program's functions on positions read. -/
structure T6 (w : World) : Prop where
  t5 : T5 w
  kinds : Kinds w
  rts : Rts w
  pow : Lib.TabIs Tryz.prog w "internal/strconv.uint64pow10" .u64 Lib.pow10Tab
  syn : ∃ tp p, w.var? Tryz.prog "strconv.ErrSyntax" = some #[.iface tp p]
  rng : ∃ tp p, w.var? Tryz.prog "strconv.ErrRange" = some #[.iface tp p]
theorem T6.below {w w' : World} (h : T6 w) (hb : Below w.heap.size w w') : T6 w' :=
  ⟨h.t5.below hb, h.kinds.below hb h.kinds.1, h.rts.below hb, var_below h.pow hb, (by obtain ⟨tp, p, e⟩ := h.syn; exact ⟨tp, p, var_below e hb⟩), (by obtain ⟨tp, p, e⟩ := h.rng; exact ⟨tp, p, var_below e hb⟩)⟩

theorem itoa_any (n : Nat) (hn : n ≤ 9223372036854775807) (w : World) (hT : T6 w) :
    Calls Tryz.prog 58 #[.int .i64 (n : Int)] w fun e w' => e = .returned (.string (bsL (dec n))) ∧ Below w.heap.size w w' := by
  refine (Tryz.strconv_Itoa (n : Int) (by omega) (by omega) w hT.pow).mono ?_
  rintro e w' ⟨rfl, k, os, rfl⟩
  refine ⟨?_, Lib.below_grow _ _ (Nat.le_refl _) _ _⟩
  rw [dec_eq (by omega)]
  unfold Lib.itoa
  rw [if_neg (by omega)]
  rfl

set_option maxRecDepth 100000 in
set_option maxHeartbeats 2000000 in
theorem szT_any (f r : Nat) (hf : f ≤ 8) (hr : r ≤ 8) (w : World) (hT : T6 w) :
    Calls Tryz.prog 54 #[.agg #[.int .i64 (f : Int), .int .i64 (r : Int)]] w fun e w' => e = .returned (.string (bsL (szL (f : Int) (r : Int)))) ∧ Below w.heap.size w w' := by
  have hB := box1 w (.cells #[.int .i64 (f : Int), .int .i64 (r : Int)] 23)
  have hT1 := hT.below hB
  have h1 := dec_len (n := f) (by omega)
  have h2 := dec_len (n := r) (by omega)
  have HR : Hid (bsL (szL (f : Int) (r : Int)) = bsL (dec f) ++ ⟨#[120]⟩ ++ bsL (dec r)) := Lib.hid (by
    unfold szL
    rw [Int.toNat_natCast, Int.toNat_natCast, show (⟨#[120]⟩ : ByteArray) = bsL [120] from rfl, bsL_append, bsL_append]
    simp)
  have HI := Lib.hid (fun n (hn : n ≤ 9223372036854775807) w hT => itoa_any n hn w hT)
  obtain ⟨V, hV⟩ : ∃ V, w.alloc (.cells #[.int .i64 (f : Int), .int .i64 (r : Int)] 23) = V := ⟨_, rfl⟩
  have x0 : V.cell? ⟨w.heap.size, 0, none⟩ = some (.int .i64 (f : Int)) := by rw [← hV]; simp [go_sem]
  have x1 : V.cell? ⟨w.heap.size, 1, none⟩ = some (.int .i64 (r : Int)) := by rw [← hV]; simp [go_sem]
  rw [hV] at hB hT1
  have HV := Lib.hid hV
  have q0 := cell_regrown x0
  have q1 := cell_regrown x1
  have cA : ∀ d os, Calls Tryz.prog 58 #[.int .i64 (f : Int)] (grow (redrawn V d) os) fun e w'' => e = .returned (.string (bsL (dec f))) ∧ ∃ q : Regrown, w'' = grow (redrawn V q.d) q.os := fun d os => Calls.regrown_of (HI.out f (by omega) _ (hT1.below (below_regrown V d os)))
  have cB : ∀ d os, Calls Tryz.prog 58 #[.int .i64 (r : Int)] (grow (redrawn V d) os) fun e w'' => e = .returned (.string (bsL (dec r))) ∧ ∃ q : Regrown, w'' = grow (redrawn V q.d) q.os := fun d os => Calls.regrown_of (HI.out r (by omega) _ (hT1.below (below_regrown V d os)))
  have z1 : (bsL (dec f)).size ≤ 5 := by rw [bsL_size]; omega
  have z2 : (bsL (dec r)).size ≤ 5 := by rw [bsL_size]; omega
  have z3 : (bsL (dec f) ++ (⟨#[120]⟩ : ByteArray)).size ≤ 6 := by rw [show (⟨#[120]⟩ : ByteArray) = bsL [120] from rfl, bsL_append, bsL_size]; simp; omega
  generalize bsL (dec f) = s1 at *
  generalize bsL (dec r) = s2 at *
  clear hT hT1 h1 h2 hV x0 x1
  go_enter Tryz.func54, Tryz.ntmps54
  go_wp2_with fail
  rw [HV.out]
  refine wp_region_quiet_below (by kernel_rfl) (by kernel_rfl) ?_
  repeat (go_big_quiet_step (first | (go_at_call_has 58 (Value.int .i64 (f : Int)); exact cA _ _) | (go_at_call_has 58 (Value.int .i64 (r : Int)); exact cB _ _)))
  refine wpQuiet_nil ?_
  intro _ hw'
  obtain ⟨⟨dq, osq⟩, hw''⟩ := hw'
  subst hw''
  go_wp2
  go_ret
  exact ⟨ret_str HR.out.symm, chain hB (below_regrown _ dq osq)⟩

set_option maxRecDepth 100000 in
set_option maxHeartbeats 2000000 in
theorem sdT_any (b : Bool) (w : World) : Calls Tryz.prog 55 #[.bool b] w fun e w' => e = .returned (.string (bsL (sdL b))) ∧ Below w.heap.size w w' := by
  cases b
  all_goals
    go_enter Tryz.func55, Tryz.ntmps55
    go_wp2
    go_ret
    exact ⟨rfl, Below.refl _ _⟩

set_option maxRecDepth 100000 in
set_option maxHeartbeats 2000000 in
theorem psT_any (F R ps : Int) (h : ps = -1 ∨ vat F R ps) (w : World) :
    Calls Tryz.prog 57 #[.agg #[.int .i64 F, .int .i64 R], .int .i64 ps] w fun e w' => e = .returned (.string (bsL (psL F ps))) ∧ Below w.heap.size w w' := by
  by_cases h1 : ps = -1
  · subst h1
    clear h
    go_enter Tryz.func57, Tryz.ntmps57
    go_wp2
    go_ret
    exact ⟨rfl, box1 _ _⟩
  · have hv : vat F R ps := by
      rcases h with h | h
      · exact absurd h h1
      · exact h
    have b1 : (ps == -1) = false := beq_eq_false_iff_ne.2 h1
    have HN := Lib.hid (fun w => name_yes F R ps hv w)
    have HE : Hid (bsL (psL F ps) = nameB F ps) := Lib.hid (by
      unfold psL
      rw [if_neg (by have := hv.2.1; omega), bsL_of])
    generalize nameB F ps = s at *
    clear h h1 hv
    go_enter Tryz.func57, Tryz.ntmps57
    go_wp2_with fail
    refine (HN.out _).mono ?_
    rintro e w1 ⟨rfl, hb1⟩
    go_wp2
    go_ret
    exact ⟨ret_str HE.out.symm, after1 hb1⟩

/-- the letters of the first rights. -/
def caT (ca k : Nat) : List UInt8 := (List.range k).flatMap fun i => if ca / 2 ^ i % 2 = 1 then [[75, 81, 107, 113].getD i 0] else []
theorem caT_succ (ca k : Nat) (hk : k < 4) : caT ca (k + 1) = caT ca k ++ (if poBit ca (bitK k) then [[75, 81, 107, 113].getD k 0] else []) := by
  unfold caT
  rw [List.range_succ, List.flatMap_append]
  congr 1
  have e : bitK k = 2 ^ k := by
    have : ∀ k, k < 4 → bitK k = 2 ^ k := by decide
    exact this k hk
  unfold poBit
  rw [e]
  by_cases h : ca / 2 ^ k % 2 = 1
  · simp [h]
  · simp [h]
theorem caT_len (ca : Nat) : ∀ k, (caT ca k).length ≤ k
  | 0 => by simp [caT]
  | k + 1 => by
    have h1 := caT_len ca k
    unfold caT at *
    rw [List.range_succ, List.flatMap_append, List.length_append]
    have h2 : (([k] : List Nat).flatMap fun i => if ca / 2 ^ i % 2 = 1 then [([75, 81, 107, 113] : List UInt8).getD i 0] else []).length ≤ 1 := by
      rw [List.flatMap_cons, List.flatMap_nil, List.append_nil]
      split <;> simp
    omega
theorem caT_end {ca : Nat} (h : ca ≤ 15) : (caT ca 4 = [] ∧ caL ca = [45]) ∨ (caT ca 4 ≠ [] ∧ caL ca = caT ca 4) := by
  have : ∀ c, c < 16 → (caT c 4 = [] ∧ caL c = [45]) ∨ (caT c 4 ≠ [] ∧ caL c = caT c 4) := by decide +kernel
  exact this ca (by omega)

set_option maxRecDepth 100000 in
set_option maxHeartbeats 2000000 in
theorem caT_any (ca : Nat) (h15 : ca ≤ 15) (w : World) (hR : Rts w) :
    Calls Tryz.prog 56 #[.int .u8 (ca : Int)] w fun e w' => e = .returned (.string (bsL (caL ca))) ∧ Below w.heap.size w w' := by
  obtain ⟨i0, hi, hz0, hz1, hz2⟩ := info_parts infoU8
  have HA := Lib.hid (fun k (hk : k < 4) => and_bitK k ca hk h15)
  have HEND := Lib.hid (caT_end h15)
  obtain ⟨X, hld, hx0, hx1, hx2, hx3⟩ := rtShut
  have hld := hld _ hR
  go_enter Tryz.func56, Tryz.ntmps56
  go_upto_region 2 with fail
  refine wp_region_lit ?_
  refine BigFrame.wpList_want (by kernel_rfl) ?_
  intro K1 hK1
  refine wp_load rfl hld ?_
  refine hK1 _ _ ?_
  refine BigFrame.wpList_want (by kernel_rfl) ?_
  intro K2 hK2
  refine wp_move rfl ?_
  refine hK2 _ _ ?_
  refine wpList_nil ?_
  simp [Act.put, Act.eval]
  clear hK1 hK2 hld
  go_wp2
  go_loopw [3, 5, 7] (fun v _ i wr => ∃ k : Nat, k ≤ 4 ∧ i = .int .i64 k ∧ ∃ T, T = caT ca k ∧ wr.ownsRow w.heap.size 5 1 v T.length (Lib.byteCells T) ∧ Below w.heap.size w wr) (fun _ _ i _ => 4 - (intOf i).toNat)
  case atStart => exact ⟨0, by omega, rfl, [], rfl, World.ownsRow_nil _ _ _ _, Below.refl _ _⟩
  case round =>
    obtain ⟨k, hk, rfl, T0, hT0, hown, hB⟩ := hrel
    subst hT0
    rcases (show k = 0 ∨ k = 1 ∨ k = 2 ∨ k = 3 ∨ k = 4 by omega) with rfl | rfl | rfl | rfl | rfl
    · have hab : (bits .and .u8 (ca : Int) 1 != 0) = poBit ca (bitK 0) := HA.out 0 (by decide)
      have hS := Lib.hid (caT_succ ca 0 (by decide))
      have hTl := Lib.hid (show (caT ca 0).length ≤ 0 from caT_len ca 0)
      have hb2 := Lib.hid (hB.alloc hB.size (.cells #[.int .u8 1, .int .u8 75, .int .i8 6, .int .i8 4, .int .i64 4, .int .i64 7] 91))
      generalize hTT : caT ca 0 = T at *
      generalize hT2e : caT ca 1 = T2 at *
      have HT2E := Lib.hid hT2e
      clear hTT hT2e
      generalize poBit ca (bitK 0) = pb at *
      cases pb with
      | false =>
        have hT2 : T2 = T := hS.out.trans (List.append_nil _)
        subst hT2
        clear hS
        go_wp2
        go_roundw
        case rel => exact ⟨1, by omega, by go_num, T2, HT2E.out.symm, hown.alloc _, hb2.out⟩
        case measure => simp [intOf]
      | true =>
        have hT2 : T2 = T ++ [75] := hS.out
        clear hS
        have HN := Lib.hid (show (T ++ [(75 : UInt8)]).length = T.length + 1 by rw [List.length_append]; rfl)
        have HL := Lib.hid (show Lib.byteCells (T ++ [(75 : UInt8)]) = Lib.byteCells T ++ [.int .u8 75] by rw [Lib.byteCells_append]; rfl)
        have hTl' := hTl.out
        have hs2 := hb2.out.size
        simp only [World.size_alloc] at hs2
        have H2 := Lib.hid hT2
        clear hT2 hTl
        go_wp2_with (at_builtin; (refine wpList_append_own _ rfl _ _ 100 rfl w.heap.size 5 i0 (.int .u8 0) 1 1 Tryz.underlying100 hi hz0 hz1 hz2 rfl (by decide) _ _ _ rfl ((hown.alloc _).alloc _) ⟨wr.heap.size + 1, 0, none⟩ 1 1 [.int .u8 75] rfl rfl ?c1 ?c2 ?c3 ?c4 ?c5 ?_))
        case c1 =>
          intro j u hj
          match j, hj with
          | 0, hj => simp at hj; subst hj; simp [Addr.add, go_sem]
        case c2 => intro u hu; simp at hu; subst hu; rfl
        case c3 => unfold maxLen; omega
        case c4 => omega
        case c5 => simp; omega
        intro v' w3 hown' hgrow _
        go_wp2
        go_roundw
        case rel =>
          refine ⟨1, by omega, by go_num, T2, HT2E.out.symm, ?_, ?_⟩
          · rw [H2.out, HL.out, HN.out]
            exact hown'
          · exact (hb2.out.alloc (by simpa using hs2) _).grown hgrow (by simp; omega) (fun r e => (World.ownsRow.lt hown r e).1)
        case measure => simp [intOf]
    · have hab : (bits .and .u8 (ca : Int) 2 != 0) = poBit ca (bitK 1) := HA.out 1 (by decide)
      have hS := Lib.hid (caT_succ ca 1 (by decide))
      have hTl := Lib.hid (show (caT ca 1).length ≤ 1 from caT_len ca 1)
      have hb2 := Lib.hid (hB.alloc hB.size (.cells #[.int .u8 2, .int .u8 81, .int .i8 6, .int .i8 4, .int .i64 4, .int .i64 0] 91))
      generalize hTT : caT ca 1 = T at *
      generalize hT2e : caT ca 2 = T2 at *
      have HT2E := Lib.hid hT2e
      clear hTT hT2e
      generalize poBit ca (bitK 1) = pb at *
      cases pb with
      | false =>
        have hT2 : T2 = T := hS.out.trans (List.append_nil _)
        subst hT2
        clear hS
        go_wp2
        go_roundw
        case rel => exact ⟨2, by omega, by go_num, T2, HT2E.out.symm, hown.alloc _, hb2.out⟩
        case measure => simp [intOf]
      | true =>
        have hT2 : T2 = T ++ [81] := hS.out
        clear hS
        have HN := Lib.hid (show (T ++ [(81 : UInt8)]).length = T.length + 1 by rw [List.length_append]; rfl)
        have HL := Lib.hid (show Lib.byteCells (T ++ [(81 : UInt8)]) = Lib.byteCells T ++ [.int .u8 81] by rw [Lib.byteCells_append]; rfl)
        have hTl' := hTl.out
        have hs2 := hb2.out.size
        simp only [World.size_alloc] at hs2
        have H2 := Lib.hid hT2
        clear hT2 hTl
        go_wp2_with (at_builtin; (refine wpList_append_own _ rfl _ _ 100 rfl w.heap.size 5 i0 (.int .u8 0) 1 1 Tryz.underlying100 hi hz0 hz1 hz2 rfl (by decide) _ _ _ rfl ((hown.alloc _).alloc _) ⟨wr.heap.size + 1, 0, none⟩ 1 1 [.int .u8 81] rfl rfl ?c1 ?c2 ?c3 ?c4 ?c5 ?_))
        case c1 =>
          intro j u hj
          match j, hj with
          | 0, hj => simp at hj; subst hj; simp [Addr.add, go_sem]
        case c2 => intro u hu; simp at hu; subst hu; rfl
        case c3 => unfold maxLen; omega
        case c4 => omega
        case c5 => simp; omega
        intro v' w3 hown' hgrow _
        go_wp2
        go_roundw
        case rel =>
          refine ⟨2, by omega, by go_num, T2, HT2E.out.symm, ?_, ?_⟩
          · rw [H2.out, HL.out, HN.out]
            exact hown'
          · exact (hb2.out.alloc (by simpa using hs2) _).grown hgrow (by simp; omega) (fun r e => (World.ownsRow.lt hown r e).1)
        case measure => simp [intOf]
    · have hab : (bits .and .u8 (ca : Int) 4 != 0) = poBit ca (bitK 2) := HA.out 2 (by decide)
      have hS := Lib.hid (caT_succ ca 2 (by decide))
      have hTl := Lib.hid (show (caT ca 2).length ≤ 2 from caT_len ca 2)
      have hb2 := Lib.hid (hB.alloc hB.size (.cells #[.int .u8 4, .int .u8 107, .int .i8 (-6), .int .i8 (-4), .int .i64 60, .int .i64 63] 91))
      generalize hTT : caT ca 2 = T at *
      generalize hT2e : caT ca 3 = T2 at *
      have HT2E := Lib.hid hT2e
      clear hTT hT2e
      generalize poBit ca (bitK 2) = pb at *
      cases pb with
      | false =>
        have hT2 : T2 = T := hS.out.trans (List.append_nil _)
        subst hT2
        clear hS
        go_wp2
        go_roundw
        case rel => exact ⟨3, by omega, by go_num, T2, HT2E.out.symm, hown.alloc _, hb2.out⟩
        case measure => simp [intOf]
      | true =>
        have hT2 : T2 = T ++ [107] := hS.out
        clear hS
        have HN := Lib.hid (show (T ++ [(107 : UInt8)]).length = T.length + 1 by rw [List.length_append]; rfl)
        have HL := Lib.hid (show Lib.byteCells (T ++ [(107 : UInt8)]) = Lib.byteCells T ++ [.int .u8 107] by rw [Lib.byteCells_append]; rfl)
        have hTl' := hTl.out
        have hs2 := hb2.out.size
        simp only [World.size_alloc] at hs2
        have H2 := Lib.hid hT2
        clear hT2 hTl
        go_wp2_with (at_builtin; (refine wpList_append_own _ rfl _ _ 100 rfl w.heap.size 5 i0 (.int .u8 0) 1 1 Tryz.underlying100 hi hz0 hz1 hz2 rfl (by decide) _ _ _ rfl ((hown.alloc _).alloc _) ⟨wr.heap.size + 1, 0, none⟩ 1 1 [.int .u8 107] rfl rfl ?c1 ?c2 ?c3 ?c4 ?c5 ?_))
        case c1 =>
          intro j u hj
          match j, hj with
          | 0, hj => simp at hj; subst hj; simp [Addr.add, go_sem]
        case c2 => intro u hu; simp at hu; subst hu; rfl
        case c3 => unfold maxLen; omega
        case c4 => omega
        case c5 => simp; omega
        intro v' w3 hown' hgrow _
        go_wp2
        go_roundw
        case rel =>
          refine ⟨3, by omega, by go_num, T2, HT2E.out.symm, ?_, ?_⟩
          · rw [H2.out, HL.out, HN.out]
            exact hown'
          · exact (hb2.out.alloc (by simpa using hs2) _).grown hgrow (by simp; omega) (fun r e => (World.ownsRow.lt hown r e).1)
        case measure => simp [intOf]
    · have hab : (bits .and .u8 (ca : Int) 8 != 0) = poBit ca (bitK 3) := HA.out 3 (by decide)
      have hS := Lib.hid (caT_succ ca 3 (by decide))
      have hTl := Lib.hid (show (caT ca 3).length ≤ 3 from caT_len ca 3)
      have hb2 := Lib.hid (hB.alloc hB.size (.cells #[.int .u8 8, .int .u8 113, .int .i8 (-6), .int .i8 (-4), .int .i64 60, .int .i64 56] 91))
      generalize hTT : caT ca 3 = T at *
      generalize hT2e : caT ca 4 = T2 at *
      have HT2E := Lib.hid hT2e
      clear hTT hT2e
      generalize poBit ca (bitK 3) = pb at *
      cases pb with
      | false =>
        have hT2 : T2 = T := hS.out.trans (List.append_nil _)
        subst hT2
        clear hS
        go_wp2
        go_roundw
        case rel => exact ⟨4, by omega, by go_num, T2, HT2E.out.symm, hown.alloc _, hb2.out⟩
        case measure => simp [intOf]
      | true =>
        have hT2 : T2 = T ++ [113] := hS.out
        clear hS
        have HN := Lib.hid (show (T ++ [(113 : UInt8)]).length = T.length + 1 by rw [List.length_append]; rfl)
        have HL := Lib.hid (show Lib.byteCells (T ++ [(113 : UInt8)]) = Lib.byteCells T ++ [.int .u8 113] by rw [Lib.byteCells_append]; rfl)
        have hTl' := hTl.out
        have hs2 := hb2.out.size
        simp only [World.size_alloc] at hs2
        have H2 := Lib.hid hT2
        clear hT2 hTl
        go_wp2_with (at_builtin; (refine wpList_append_own _ rfl _ _ 100 rfl w.heap.size 5 i0 (.int .u8 0) 1 1 Tryz.underlying100 hi hz0 hz1 hz2 rfl (by decide) _ _ _ rfl ((hown.alloc _).alloc _) ⟨wr.heap.size + 1, 0, none⟩ 1 1 [.int .u8 113] rfl rfl ?c1 ?c2 ?c3 ?c4 ?c5 ?_))
        case c1 =>
          intro j u hj
          match j, hj with
          | 0, hj => simp at hj; subst hj; simp [Addr.add, go_sem]
        case c2 => intro u hu; simp at hu; subst hu; rfl
        case c3 => unfold maxLen; omega
        case c4 => omega
        case c5 => simp; omega
        intro v' w3 hown' hgrow _
        go_wp2
        go_roundw
        case rel =>
          refine ⟨4, by omega, by go_num, T2, HT2E.out.symm, ?_, ?_⟩
          · rw [H2.out, HL.out, HN.out]
            exact hown'
          · exact (hb2.out.alloc (by simpa using hs2) _).grown hgrow (by simp; omega) (fun r e => (World.ownsRow.lt hown r e).1)
        case measure => simp [intOf]
    · rcases HEND.out with ⟨h1, h2⟩ | ⟨h1, h2⟩
      · rw [h1] at hown
        obtain ⟨A, c, rfl, _, _⟩ := RdP.own (l := []) hown
        have HE := Lib.hid h2
        clear h1 h2 hown
        go_wp2
        go_ret
        exact ⟨ret_str (by rw [HE.out]; rfl), hB⟩
      · generalize caT ca 4 = T at *
        obtain ⟨g, cap, rfl⟩ := Joins.ownsRow_form hown (List.length_pos_iff.2 h1)
        have hcv : (convert 100 9 (.slice (some ⟨g, 0, none⟩) T.length cap)).run Tryz.prog wr = .ok (.string ⟨T.toArray⟩) wr :=
          run_convert_bytes_back wr _ _ 5 ⟨g, 0, none⟩ cap T Tryz.underlying100 Tryz.underlying5 Tryz.underlying9 (fun j hj => by
            have := hown.cellAt j (by omega)
            rw [show (Addr.add ⟨g, 0, none⟩ j) = ⟨g, j, none⟩ by simp [Addr.add]; exact fun h => h.symm, this]
            simp only [Lib.byteCells, List.getElem?_map, List.getElem?_eq_getElem hj, Option.map_some])
        have hne : ¬ T.length = 0 := fun e => h1 (List.eq_nil_of_length_eq_zero e)
        have HE := Lib.hid h2
        clear h1 h2 hown
        go_wp2
        go_ret
        exact ⟨ret_str (by rw [HE.out]; rfl), hB⟩

set_option maxRecDepth 100000 in
set_option maxHeartbeats 2000000 in
theorem spc_any (b c : Nat) (xs : List ByteArray) (w : World) (hb : b < w.heap.size) (hlen : xs.length ≤ 100000) (hcap : xs.length ≤ c) (hc : RdSt w b xs) (hj : (jw (xs.map (·.data.toList))).length ≤ 100000) :
    Calls Tryz.prog 53 #[.slice (some ⟨b, 0, none⟩) xs.length c] w fun e w' => e = .returned (.string (bsL (jw (xs.map (·.data.toList))))) ∧ Below w.heap.size w w' := by
  have hsep : (⟨#[32]⟩ : ByteArray).data.toList = [32] := rfl
  have hjw : ∀ ts : List (List UInt8), Lib.join ts [32] = jw ts := fun ts => by
    cases ts with
    | nil => rfl
    | cons t ts =>
      rw [Lib.join_cons]
      show t ++ Lib.joinTail [32] ts = t ++ ts.flatMap (fun u => 32 :: u)
      rw [List.flatMap_def]
      rfl
  have HJ := Lib.hid (Tryz.strings_Join b 0 c xs ⟨#[32]⟩ w (fun j x hx => by rw [Nat.zero_add]; exact hc j x hx) hb (by omega) hcap (by rw [hsep, hjw]; omega))
  rw [hsep, hjw] at HJ
  generalize jw (xs.map (·.data.toList)) = s at *
  go_enter Tryz.func53, Tryz.ntmps53
  go_wp2_with fail
  refine HJ.out.mono ?_
  rintro e w1 ⟨rfl, hb1⟩
  go_wp2
  go_ret
  exact ⟨rfl, hb1⟩

end Go.Proofs.YtelkmdklpcfobaaGreatDoor
