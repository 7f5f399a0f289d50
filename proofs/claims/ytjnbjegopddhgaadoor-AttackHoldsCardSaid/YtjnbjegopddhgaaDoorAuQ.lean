/- Attacks, by the program: all that the theorems of attacks ask of it. -/
import Derived.Test.YtjnbjegopddhgaaDoorAuZ
import Derived.Test.YtjnbjegopddhgaaDoorAtP

namespace Go.Proofs.YtjnbjegopddhgaaDoor
open Go.RowKit

theorem sS_neg {l : List Int} {n : Nat} {bl : Bool} (hn : n < l.length) (h : decide (l[n]?.getD 0 < 0) = bl) : (sS l true).testBit n = bl := by
  rw [Bool.eq_iff_iff, own_bit]
  unfold sdP sgnP
  by_cases h1 : l[n]?.getD 0 < 0
  · have : bl = true := by rw [← h]; simpa using h1
    rw [this, if_pos h1]
    simp [hn, sdN]
  · have : bl = false := by rw [← h]; simpa using h1
    rw [this, if_neg h1]
    constructor
    · rintro ⟨_, h2⟩
      split at h2 <;> exact absurd h2 (by decide)
    · intro h; cases h
theorem bitN_inj {n m : Nat} (h : bitN n = bitN m) : n = m := by
  have h5 := bitN_bit (n := n) (j := m)
  rw [h, bitN_bit] at h5
  simpa using h5.symm
theorem atkC5 : AtkC T5 where
  below := fun w w' h hb => h.below hb
  atk := fun F R l A c t bl w hb ho hA hT ht => gAttackers F R l A c t bl w hb ho hA hT ht
  all := fun F R l A c bl w hb ho hA hT => gAll F R l A c bl w hb ho hA hT
  king := fun F R l A c bl w hb ho hA hT hk => gKing F R l A c bl w hb ho hA hT hk
  kingN := fun F R l A c bl w hb ho hA hT hk => gKingN F R l A c bl w hb ho hA hT hk
  chk := fun F R l A c bl w hb ho hA hT hk => gChk F R l A c bl w hb ho hA hT hk
  pin := fun F R l A c bl w hb ho hA hT hk => gPin F R l A c bl w hb ho hA hT hk
  lin := fun F R l A c n w hb ho hA hT hn hp hk hpin => by
    have hv : vat F R (n : Int) := ⟨hb.1, by omega, by have := hb.2.1; omega⟩
    obtain ⟨bl, hbl⟩ : ∃ bl, decide (l[n]?.getD 0 < 0) = bl := ⟨_, rfl⟩
    rw [hbl] at hk
    have hin : n ∈ pinnedL F R l bl := (pinned_iff hbl hp hn).2 hpin
    refine (gLinY F R l A c bl n w hb ho hA hT hv (sS_neg hn hbl) hk).mono ?_
    rintro e w' ⟨⟨v, rfl, h⟩, hB⟩
    refine ⟨?_, hB⟩
    rcases h with ⟨p, h1, h2, rfl⟩ | ⟨h1, rfl⟩
    · obtain ⟨m, rfl, _, _⟩ := pins_sound hb hk h1
      have e : m = n := bitN_inj h2
      rw [e]
    · exact absurd rfl (h1 _ (pins_full hb ho hk hin))
  atkE := fun F R l A c t bl w hl hA hT h => by
    by_cases hb : vbd F R l ∧ orA l = true
    · exact gAttackersV F R l A c t bl w hb.1 hb.2 hA hT (fun ht => h ⟨hb.1, hb.2, ht⟩)
    · exact gAttackersE F R l A c t bl w hl hA hb
  allE := fun F R l A c bl w hl hA hT h => gAllE F R l A c bl w hl hA h
  kingE := fun F R l A c bl w hl hA hT h => gKingE F R l A c bl w hl hA h
  chkE := fun F R l A c bl w hl hA hT h => gChkE F R l A c bl w hl hA h
  pinE := fun F R l A c bl w hl hA hT h => gPinE F R l A c bl w hl hA h
  chkN := fun F R l A c bl w hb ho hA hT hk => gChkN F R l A c bl w hb ho hA hT hk
  pinN := fun F R l A c bl w hb ho hA hT hk => gPinN F R l A c bl w hb ho hA hT hk
  linE := fun F R l A c t w hl hA hT h => by
    by_cases hb : vbd F R l ∧ orA l = true
    · exact gLinV F R l A c t w hb.1 hb.2 hA hT (fun ht => h ⟨hb.1, hb.2, ht⟩)
    · exact gLinE F R l A c t w hA hT hl hb
  linN := fun F R l A c n w hl hA hT hb ho hn h => by
    have hv : vat F R (n : Int) := ⟨hb.1, by omega, by have := hb.2.1; omega⟩
    obtain ⟨bl, hbl⟩ : ∃ bl, decide (l[n]?.getD 0 < 0) = bl := ⟨_, rfl⟩
    rw [hbl] at h
    by_cases hk : 0 ≤ kingV l bl
    · refine (gLinY F R l A c bl n w hb ho hA hT hv (sS_neg hn hbl) hk).mono ?_
      rintro e w' ⟨⟨v, rfl, h2⟩, hB⟩
      refine ⟨?_, hB⟩
      rcases h2 with ⟨p, h3, h4, rfl⟩ | ⟨_, rfl⟩
      · obtain ⟨m, rfl, h5, _⟩ := pins_sound hb hk h3
        have e : m = n := bitN_inj h4
        rw [e] at h5
        unfold pinnedL at h5
        rw [List.mem_filter, idx_mem, decide_eq_true_eq] at h5
        exact absurd ⟨(own_sign h5.1.2).2, hk, h5.2⟩ h
      · rfl
    · exact gLinK F R l A c bl n w hb ho hA hT hv (sS_neg hn hbl) (by omega)

end Go.Proofs.YtjnbjegopddhgaaDoor
