/- What the theorem needs, piece Zb16. -/
import Derived.Test.YtbccbgonlmkpkaaGreatDoorZb15
import Derived.Test.YtbccbgonlmkpkaaGreatDoorZb12
import Derived.Test.YtbccbgonlmkpkaaGreatDoorZb09
import Derived.Test.YtbccbgonlmkpkaaGreatDoorZb06
set_option linter.unusedSimpArgs false
set_option linter.unusedVariables false
set_option maxRecDepth 100000
set_option maxHeartbeats 16000000
namespace Go.Proofs.YtbccbgonlmkpkaaGreatDoor
open Go.RowKit Go.Sort
theorem ofL_zero {l:List Nat}:ofL l=0 ↔ l=[]:=by
 constructor
 ·intro h
  cases l with
  | nil=>rfl
  | cons a l =>
   have:=ofL_bit (a :: l) a
   rw [h] at this
   simp at this
 ·rintro rfl;rfl
section
variable {F R:Int} {l:List Int} {n:Nat} {own:Bool}
end
end Go.Proofs.YtbccbgonlmkpkaaGreatDoor
namespace Go.Proofs.YtbccbgonlmkpkaaGreatDoor
open Go.RowKit
def T5 (w:World):Prop:=Tab w/\Tb w
theorem T5.below {w w':World} (h:T5 w) (hb:Below w.heap.size w w'):T5 w':=⟨h.1.below hb h.1.1,h.2.below hb⟩
theorem vbd_64 {F R:Int} {l:List Int} (h:vbd F R l):l.length<=64:=by have:=(vsz_mul h.1).2;have:=h.2.1;omega
theorem surv_yes (F R:Int) (l:List Int) (A:Option Addr) (c:Nat) (h:vbd F R l) (ho:orA l=true) (L:List Value) (hL:fieldC F R (sS l) (kS l)=L) (w:World) (hA:RdP w w.heap.size A l c) :
  Calls Tryz.prog 168 #[.agg #[.int .i64 F,.int .i64 R,.slice A l.length c]] w fun e w'=>e=.returned (.tuple #[.agg L.toArray,.int .i64 0])/\Below w.heap.size w w':=by
 subst hL
 exact aSurvey_yes F R l A c h ho w hA
theorem surv_no (F R:Int) (l:List Int) (A:Option Addr) (c:Nat) (h:¬ (vbd F R l/\orA l=true)) (L:List Value) (hL:fieldC 0 0 zS zK=L) (w:World) (hlen:l.length<=100000) (hA:RdP w w.heap.size A l c) :
  Calls Tryz.prog 168 #[.agg #[.int .i64 F,.int .i64 R,.slice A l.length c]] w fun e w'=>e=.returned (.tuple #[.agg L.toArray,.int .i64 2])/\Below w.heap.size w w':=by
 subst hL
 by_cases hv:vbd F R l
 ·have ho:orA l=false:=by
   cases e:orA l
   ·rfl
   ·exact absurd ⟨hv,e⟩ h
  exact aSurvey_or F R l A c hv ho w hA
 ·exact aSurvey_no F R l A c hv w (by omega) hA
theorem putL_size (B:Nat):∀ (vs:List Value) (W:World) (o:Nat),(putL B W o vs).heap.size=W.heap.size
 | [],_,_=>rfl
 | v :: vs,W,o=>(putL_size B vs _ _).trans (by simp)
theorem lay18 (w:World) {F R:Int} {S:Bool->Nat} {K:Bool->Nat->Nat} {L:List Value} (hL:fieldC F R S K=L):∃ V,(storeCells ⟨w.heap.size,0,none⟩ L 0).run Tryz.prog (w.alloc (.cells #[.int .i64 0,.int .i64 0,.int .u64 0,.int .u64 0,.int .u64 0,.int .u64 0,.int .u64 0,.int .u64 0,.int .u64 0,.int .u64 0,.int .u64 0,.int .u64 0,.int .u64 0,.int .u64 0,.int .u64 0,.int .u64 0,.int .u64 0,.int .u64 0] 209))=.ok () V/\Fld V w.heap.size F R S K/\Below w.heap.size w V/\V.heap.size=w.heap.size+1:=by
 subst hL
 have hz:=zero_cells w
 have hst:=store18 (W:=w.alloc (.cells #[.int .i64 0,.int .i64 0,.int .u64 0,.int .u64 0,.int .u64 0,.int .u64 0,.int .u64 0,.int .u64 0,.int .u64 0,.int .u64 0,.int .u64 0,.int .u64 0,.int .u64 0,.int .u64 0,.int .u64 0,.int .u64 0,.int .u64 0,.int .u64 0] 209)) (T:=w.heap.size) (F:=F) (R:=R) (S:=S) (K:=K) (fun o ho=>(hz o ho).1) (fun o=>by simp [go_sem])
 rw [setCells_putL] at hst
 refine ⟨_,hst,fld_put (fun j hj=>⟨_,(hz j hj).1⟩),?_,?_⟩
 ·have hb:=putL_but w.heap.size (fieldC F R S K) (w.alloc (.cells #[.int .i64 0,.int .i64 0,.int .u64 0,.int .u64 0,.int .u64 0,.int .u64 0,.int .u64 0,.int .u64 0,.int .u64 0,.int .u64 0,.int .u64 0,.int .u64 0,.int .u64 0,.int .u64 0,.int .u64 0,.int .u64 0,.int .u64 0,.int .u64 0] 209)) 0
  have h0:Below w.heap.size w (w.alloc (.cells #[.int .i64 0,.int .i64 0,.int .u64 0,.int .u64 0,.int .u64 0,.int .u64 0,.int .u64 0,.int .u64 0,.int .u64 0,.int .u64 0,.int .u64 0,.int .u64 0,.int .u64 0,.int .u64 0,.int .u64 0,.int .u64 0,.int .u64 0,.int .u64 0] 209)):=box1 _ _
  exact h0.trans (hb.below (Nat.le_refl _) (by simp))
 ·rw [putL_size]
  simp
theorem len18 {F R:Int} {S:Bool->Nat} {K:Bool->Nat->Nat} {L:List Value} (hL:fieldC F R S K=L):L.length=18:=by subst hL;rfl
theorem gAttackers (F R:Int) (l:List Int) (A:Option Addr) (c:Nat) (t:Int) (bl:Bool) (w:World) (hb:vbd F R l) (ho:orA l=true) (hA:RdP w w.heap.size A l c) (hT:T5 w) (ht:vat F R t) :
  Calls Tryz.prog 120 #[.agg #[.int .i64 F,.int .i64 R,.slice A l.length c],.int .i64 t,.bool bl] w fun e w'=>e=.returned (.tuple #[.int .u64 (ofL (atkL F R l t bl):Int),.int .i64 0])/\Below w.heap.size w w':=by
 have hL:=len18 (F:=F) (R:=R) (S:=sS l) (K:=kS l) rfl
 obtain ⟨L,hLL⟩:∃ L,fieldC F R (sS l) (kS l)=L:=⟨_,rfl⟩
 rw [hLL] at hL
 have HSV:=Lib.hid (fun w hA=>surv_yes F R l A c hb ho L hLL w hA)
 have HLY:=Lib.hid (fun w=>lay18 w hLL)
 have HAT:=Lib.hid (fun B w hT hF=>aAtk_any F R t l bl B hb ho ht w hT hF)
 have HV:=Lib.hid (fun w=>valid_yes F R t ht w)
 clear ht
 have HA0:=Lib.hid (rdBo (box1 w (.cells #[.int .i64 F,.int .i64 R,.slice A l.length c] 97)) hA)
 have HT:=Lib.hid hT
 clear hA hT hb ho hLL
 go_enter Tryz.func120,Tryz.ntmps120
 go_wp2_with fail
 refine (HSV.out _ HA0.out).mono ?_
 rintro e w1 ⟨rfl,hb1⟩
 obtain ⟨V,hst,hFl,hVb,hVs⟩:=HLY.out w1
 have hs1:=hb1.size
 simp only [World.size_alloc] at hs1
 have c0:=hb1.cell (p:=⟨w.heap.size,0,none⟩) (by simp)
 have c1:=hb1.cell (p:=⟨w.heap.size,1,none⟩) (by simp)
 simp [go_sem] at c0 c1
 have hB1:=after1 hb1
 have hBv:=chain hB1 hVb
 have d0:=(hVb.cell (World.block_lt_of_cell? _ _ c0)).trans c0
 have d1:=(hVb.cell (World.block_lt_of_cell? _ _ c1)).trans c1
 have HFL:=Lib.hid hFl
 have hBV:=Lib.hid hBv
 clear hb1 HA0 c0 c1 hVb hB1 HLY hVs hFl hBv
 go_wp2_with fail
 refine (HV.out _).mono ?_
 rintro e w2 ⟨rfl,hb2⟩
 have hB2:=chain hBV.out hb2
 have hF2:=HFL.out.below hb2
 have hT2:=HT.out.below hB2
 clear d0 d1 hb2 HFL hBV hst
 go_wp2_with fail
 refine (HAT.out _ _ hT2.2 hF2).mono ?_
 rintro e w3 ⟨rfl,hb3⟩
 go_wp2
 go_ret2
 exact ⟨rfl,chain hB2 hb3⟩
end Go.Proofs.YtbccbgonlmkpkaaGreatDoor
namespace Go.Proofs.YtbccbgonlmkpkaaGreatDoor
open Go.RowKit
theorem listOf_idx (P:Int->Bool) (l:List Int) (h:l.length<=64):listOf (ofL (idx P l))=idx P l:=by
 have e:List.range 64=List.range l.length ++ (List.range (64 - l.length)).map (l.length+·):=by
  rw [<- List.range_add]
  congr 1
  omega
 unfold listOf
 rw [e,List.filter_append]
 have h2:((List.range (64 - l.length)).map (l.length+·)).filter (fun i=>(ofL (idx P l)).testBit i)=[]:=by
  rw [List.filter_eq_nil_iff]
  intro i hi
  rw [ofL_bit]
  simp only [decide_eq_true_eq]
  intro hm
  have:=(idx_lt hm).1
  obtain ⟨j,_,rfl⟩:=List.mem_map.1 hi
  omega
 rw [h2,List.append_nil]
 show _=(List.range l.length).filter (fun i=>P (l[i]?.getD 0))
 apply List.filter_congr
 intro i hi
 have hi2:=List.mem_range.1 hi
 rw [ofL_bit,Bool.eq_iff_iff,decide_eq_true_eq,idx_mem]
 exact ⟨fun h=>h.2,fun h=>⟨hi2,h⟩⟩
theorem kS_six (l:List Int) (bl:Bool):kS l bl 6=ofL (kingL l bl):=by
 unfold kS kingL
 congr 2
 funext p
 cases bl <;> simp [kP,eqP,kgN,sdN]
theorem king_ok {l:List Int} {bl:Bool} (hl:l.length<=64) (h:0<=kingV l bl):kgA (kS l bl 6)=.tuple #[.int .i64 (kingV l bl),.int .i64 0]:=by
 have e:=listOf_idx (eqP (kgN bl)) l hl
 have hc:cntB 64 (kS l bl 6)=(kingL l bl).length:=by
  rw [kS_six]
  exact congrArg List.length e
 unfold kingV at h ⊢
 split at h
 ·rename_i h1
  rw [if_pos h1]
  unfold kgA
  rw [hc,if_pos h1]
  have hne:kS l bl 6≠0:=by
   intro e0
   rw [e0] at hc
   rw [h1] at hc
   revert hc
   decide
  have hlt:kS l bl 6<2 ^ 64:=idx_64 _ l hl
  have hst:=listOf_step hne hlt
  have e2:listOf (kS l bl 6)=kingL l bl:=by rw [kS_six];exact e
  rw [e2] at hst
  rw [hst]
  rfl
 ·omega
theorem king_not {l:List Int} {bl:Bool} (hl:l.length<=64) (h:kingV l bl<0):kgA (kS l bl 6)=.tuple #[.int .i64 0,.int .i64 9]:=by
 have e:=listOf_idx (eqP (kgN bl)) l hl
 have hc:cntB 64 (kS l bl 6)=(kingL l bl).length:=by
  rw [kS_six]
  exact congrArg List.length e
 unfold kingV at h
 split at h
 ·omega
 ·rename_i h1
  unfold kgA
  rw [hc,if_neg h1]
theorem gKing (F R:Int) (l:List Int) (A:Option Addr) (c:Nat) (bl:Bool) (w:World) (hb:vbd F R l) (ho:orA l=true) (hA:RdP w w.heap.size A l c) (hT:T5 w) (hk:0<=kingV l bl) :
  Calls Tryz.prog 155 #[.agg #[.int .i64 F,.int .i64 R,.slice A l.length c],.bool bl] w fun e w'=>e=.returned (.tuple #[.int .i64 (kingV l bl),.int .i64 0])/\Below w.heap.size w w':=by
 have hL:=len18 (F:=F) (R:=R) (S:=sS l) (K:=kS l) rfl
 obtain ⟨L,hLL⟩:∃ L,fieldC F R (sS l) (kS l)=L:=⟨_,rfl⟩
 rw [hLL] at hL
 have HSV:=Lib.hid (fun w hA=>surv_yes F R l A c hb ho L hLL w hA)
 have HLY:=Lib.hid (fun w=>lay18 w hLL)
 have HKG:=Lib.hid (fun B w hT hc=>aKing_any B (kS l bl 6) bl (idx_64 _ l (vbd_64 hb)) w hT hc)
 rw [king_ok (vbd_64 hb) hk] at HKG
 clear hk
 have HA0:=Lib.hid (rdBo (box1 w (.cells #[.int .i64 F,.int .i64 R,.slice A l.length c] 97)) hA)
 have HT:=Lib.hid hT
 clear hA hT hb ho hLL
 go_enter Tryz.func155,Tryz.ntmps155
 go_wp2_with fail
 refine (HSV.out _ HA0.out).mono ?_
 rintro e w1 ⟨rfl,hb1⟩
 obtain ⟨V,hst,hFl,hVb,hVs⟩:=HLY.out w1
 have hs1:=hb1.size
 simp only [World.size_alloc] at hs1
 have c0:=hb1.cell (p:=⟨w.heap.size,0,none⟩) (by simp)
 have c1:=hb1.cell (p:=⟨w.heap.size,1,none⟩) (by simp)
 simp [go_sem] at c0 c1
 have hB1:=after1 hb1
 have hBv:=chain hB1 hVb
 have d0:=(hVb.cell (World.block_lt_of_cell? _ _ c0)).trans c0
 have d1:=(hVb.cell (World.block_lt_of_cell? _ _ c1)).trans c1
 have HFL:=Lib.hid hFl
 have hBV:=Lib.hid hBv
 clear hb1 HA0 c0 c1 hVb hB1 HLY hVs hFl hBv
 go_wp2_with fail
 refine (HKG.out _ _ (HT.out.below hBV.out).1 (HFL.out.2.2 bl 6 (by omega))).mono ?_
 rintro e w2 ⟨rfl,rfl⟩
 go_wp2
 go_ret2
 exact ⟨rfl,hBV.out⟩
theorem gKingN (F R:Int) (l:List Int) (A:Option Addr) (c:Nat) (bl:Bool) (w:World) (hb:vbd F R l) (ho:orA l=true) (hA:RdP w w.heap.size A l c) (hT:T5 w) (hk:kingV l bl<0) :
  Calls Tryz.prog 155 #[.agg #[.int .i64 F,.int .i64 R,.slice A l.length c],.bool bl] w fun e w'=>e=.returned (.tuple #[.int .i64 0,.int .i64 9])/\Below w.heap.size w w':=by
 have hL:=len18 (F:=F) (R:=R) (S:=sS l) (K:=kS l) rfl
 obtain ⟨L,hLL⟩:∃ L,fieldC F R (sS l) (kS l)=L:=⟨_,rfl⟩
 rw [hLL] at hL
 have HSV:=Lib.hid (fun w hA=>surv_yes F R l A c hb ho L hLL w hA)
 have HLY:=Lib.hid (fun w=>lay18 w hLL)
 have HKG:=Lib.hid (fun B w hT hc=>aKing_any B (kS l bl 6) bl (idx_64 _ l (vbd_64 hb)) w hT hc)
 rw [king_not (vbd_64 hb) hk] at HKG
 clear hk
 have HA0:=Lib.hid (rdBo (box1 w (.cells #[.int .i64 F,.int .i64 R,.slice A l.length c] 97)) hA)
 have HT:=Lib.hid hT
 clear hA hT hb ho hLL
 go_enter Tryz.func155,Tryz.ntmps155
 go_wp2_with fail
 refine (HSV.out _ HA0.out).mono ?_
 rintro e w1 ⟨rfl,hb1⟩
 obtain ⟨V,hst,hFl,hVb,hVs⟩:=HLY.out w1
 have hs1:=hb1.size
 simp only [World.size_alloc] at hs1
 have c0:=hb1.cell (p:=⟨w.heap.size,0,none⟩) (by simp)
 have c1:=hb1.cell (p:=⟨w.heap.size,1,none⟩) (by simp)
 simp [go_sem] at c0 c1
 have hB1:=after1 hb1
 have hBv:=chain hB1 hVb
 have d0:=(hVb.cell (World.block_lt_of_cell? _ _ c0)).trans c0
 have d1:=(hVb.cell (World.block_lt_of_cell? _ _ c1)).trans c1
 have HFL:=Lib.hid hFl
 have hBV:=Lib.hid hBv
 clear hb1 HA0 c0 c1 hVb hB1 HLY hVs hFl hBv
 go_wp2_with fail
 refine (HKG.out _ _ (HT.out.below hBV.out).1 (HFL.out.2.2 bl 6 (by omega))).mono ?_
 rintro e w2 ⟨rfl,rfl⟩
 go_wp2
 go_ret2
 exact ⟨rfl,hBV.out⟩
theorem gKingE (F R:Int) (l:List Int) (A:Option Addr) (c:Nat) (bl:Bool) (w:World) (hlen:l.length<=100000) (hA:RdP w w.heap.size A l c) (hg:¬ (vbd F R l/\orA l=true)) :
  Calls Tryz.prog 155 #[.agg #[.int .i64 F,.int .i64 R,.slice A l.length c],.bool bl] w fun e w'=>e=.returned (.tuple #[.int .i64 0,.int .i64 2])/\Below w.heap.size w w':=by
 have hL:=len18 (F:=0) (R:=0) (S:=zS) (K:=zK) rfl
 obtain ⟨L,hLL⟩:∃ L,fieldC 0 0 zS zK=L:=⟨_,rfl⟩
 rw [hLL] at hL
 have HSV:=Lib.hid (fun w hA=>surv_no F R l A c hg L hLL w hlen hA)
 have HLY:=Lib.hid (fun w=>lay18 w hLL)
 have HA0:=Lib.hid (rdBo (box1 w (.cells #[.int .i64 F,.int .i64 R,.slice A l.length c] 97)) hA)
 clear hA hg hLL hlen
 go_enter Tryz.func155,Tryz.ntmps155
 go_wp2_with fail
 refine (HSV.out _ HA0.out).mono ?_
 rintro e w1 ⟨rfl,hb1⟩
 obtain ⟨V,hst,_,hVb,_⟩:=HLY.out w1
 have hBV:=Lib.hid (chain (after1 hb1) hVb)
 clear hb1 HA0 HLY hVb
 go_wp2
 go_ret2
 exact ⟨rfl,hBV.out⟩
theorem gChk (F R:Int) (l:List Int) (A:Option Addr) (c:Nat) (bl:Bool) (w:World) (hb:vbd F R l) (ho:orA l=true) (hA:RdP w w.heap.size A l c) (hT:T5 w) (hk:0<=kingV l bl) :
  Calls Tryz.prog 119 #[.agg #[.int .i64 F,.int .i64 R,.slice A l.length c],.bool bl] w fun e w'=>e=.returned (.tuple #[.int .u64 (ofL (atkL F R l (kingV l bl) (!bl)):Int),.int .i64 0])/\Below w.heap.size w w':=by
 have hL:=len18 (F:=F) (R:=R) (S:=sS l) (K:=kS l) rfl
 obtain ⟨L,hLL⟩:∃ L,fieldC F R (sS l) (kS l)=L:=⟨_,rfl⟩
 rw [hLL] at hL
 have HSV:=Lib.hid (fun w hA=>surv_yes F R l A c hb ho L hLL w hA)
 have HLY:=Lib.hid (fun w=>lay18 w hLL)
 have HKG:=Lib.hid (fun B w hT hc=>aKing_any B (kS l bl 6) bl (idx_64 _ l (vbd_64 hb)) w hT hc)
 rw [king_ok (vbd_64 hb) hk] at HKG
 have HAT:=Lib.hid (fun B w hT hF=>aAtk_any F R (kingV l bl) l (!bl) B hb ho (kingV_at hb hk) w hT hF)
 generalize kingV l bl=kv at *
 clear hk
 have HA0:=Lib.hid (rdBo (box1 w (.cells #[.int .i64 F,.int .i64 R,.slice A l.length c] 97)) hA)
 have HT:=Lib.hid hT
 clear hA hT hb ho hLL
 go_enter Tryz.func119,Tryz.ntmps119
 go_wp2_with fail
 refine (HSV.out _ HA0.out).mono ?_
 rintro e w1 ⟨rfl,hb1⟩
 obtain ⟨V,hst,hFl,hVb,hVs⟩:=HLY.out w1
 have hs1:=hb1.size
 simp only [World.size_alloc] at hs1
 have c0:=hb1.cell (p:=⟨w.heap.size,0,none⟩) (by simp)
 have c1:=hb1.cell (p:=⟨w.heap.size,1,none⟩) (by simp)
 simp [go_sem] at c0 c1
 have hB1:=after1 hb1
 have hBv:=chain hB1 hVb
 have d0:=(hVb.cell (World.block_lt_of_cell? _ _ c0)).trans c0
 have d1:=(hVb.cell (World.block_lt_of_cell? _ _ c1)).trans c1
 have HFL:=Lib.hid hFl
 have hBV:=Lib.hid hBv
 clear hb1 HA0 c0 c1 hVb hB1 HLY hVs hFl hBv
 go_wp2_with fail
 refine (HKG.out _ _ (HT.out.below hBV.out).1 (HFL.out.2.2 bl 6 (by omega))).mono ?_
 rintro e w2 ⟨rfl,rfl⟩
 go_wp2_with fail
 refine (HAT.out _ _ (HT.out.below hBV.out).2 HFL.out).mono ?_
 rintro e w3 ⟨rfl,hb3⟩
 go_wp2
 go_ret2
 exact ⟨rfl,chain hBV.out hb3⟩
theorem gChkN (F R:Int) (l:List Int) (A:Option Addr) (c:Nat) (bl:Bool) (w:World) (hb:vbd F R l) (ho:orA l=true) (hA:RdP w w.heap.size A l c) (hT:T5 w) (hk:kingV l bl<0) :
  Calls Tryz.prog 119 #[.agg #[.int .i64 F,.int .i64 R,.slice A l.length c],.bool bl] w fun e w'=>e=.returned (.tuple #[.int .u64 0,.int .i64 9])/\Below w.heap.size w w':=by
 have hL:=len18 (F:=F) (R:=R) (S:=sS l) (K:=kS l) rfl
 obtain ⟨L,hLL⟩:∃ L,fieldC F R (sS l) (kS l)=L:=⟨_,rfl⟩
 rw [hLL] at hL
 have HSV:=Lib.hid (fun w hA=>surv_yes F R l A c hb ho L hLL w hA)
 have HLY:=Lib.hid (fun w=>lay18 w hLL)
 have HKG:=Lib.hid (fun B w hT hc=>aKing_any B (kS l bl 6) bl (idx_64 _ l (vbd_64 hb)) w hT hc)
 rw [king_not (vbd_64 hb) hk] at HKG
 clear hk
 have HA0:=Lib.hid (rdBo (box1 w (.cells #[.int .i64 F,.int .i64 R,.slice A l.length c] 97)) hA)
 have HT:=Lib.hid hT
 clear hA hT hb ho hLL
 go_enter Tryz.func119,Tryz.ntmps119
 go_wp2_with fail
 refine (HSV.out _ HA0.out).mono ?_
 rintro e w1 ⟨rfl,hb1⟩
 obtain ⟨V,hst,hFl,hVb,hVs⟩:=HLY.out w1
 have hs1:=hb1.size
 simp only [World.size_alloc] at hs1
 have c0:=hb1.cell (p:=⟨w.heap.size,0,none⟩) (by simp)
 have c1:=hb1.cell (p:=⟨w.heap.size,1,none⟩) (by simp)
 simp [go_sem] at c0 c1
 have hB1:=after1 hb1
 have hBv:=chain hB1 hVb
 have d0:=(hVb.cell (World.block_lt_of_cell? _ _ c0)).trans c0
 have d1:=(hVb.cell (World.block_lt_of_cell? _ _ c1)).trans c1
 have HFL:=Lib.hid hFl
 have hBV:=Lib.hid hBv
 clear hb1 HA0 c0 c1 hVb hB1 HLY hVs hFl hBv
 go_wp2_with fail
 refine (HKG.out _ _ (HT.out.below hBV.out).1 (HFL.out.2.2 bl 6 (by omega))).mono ?_
 rintro e w2 ⟨rfl,rfl⟩
 go_wp2
 go_ret2
 exact ⟨rfl,hBV.out⟩
end Go.Proofs.YtbccbgonlmkpkaaGreatDoor
namespace Go.Proofs.YtbccbgonlmkpkaaGreatDoor
open Go.RowKit Go.Sort
def inL (l:List Int) (p:Int):Bool:=l.any fun x=>x == p
theorem pIndex_no (l:List Int) (p:Int) (A:Option Addr) (c:Nat) (w:World) (hlen:l.length<=100000) (h:∀ j,j<l.length->l[j]?.getD 0≠p) (hA:RdP w w.heap.size A l c) :
  Calls Tryz.prog 190 #[.slice A l.length c,.int .i8 p] w fun e w'=>e=.returned (.int .i64 (-1))/\Below w.heap.size w w':=by
 have H:=Lib.hid h
 clear h
 go_enter Tryz.func190,Tryz.ntmps190
 go_wp2
 go_loopw [5,8] (fun _ i wr=>∃ k:Nat,k<=l.length/\i=.int .i64 k/\Below w.heap.size w wr) (fun _ i _=>l.length - (intOf i).toNat)
 case atStart=>exact ⟨0,by omega,rfl,Below.refl _ _⟩
 case round =>
  obtain ⟨k,hk,rfl,hB⟩:=hrel
  by_cases hlt:k<l.length
  ·obtain ⟨ad,rfl,_,hc⟩:=(hA.below hB).at_ hlt
   have hne:(p == l[k]?.getD 0)=false:=beq_eq_false_iff_ne.2 fun e=>H.out k hlt e.symm
   clear hA
   generalize l[k]?.getD 0=x at *
   go_wp2
   go_roundw
   case rel=>exact ⟨k+1,by omega,by go_num,hB⟩
   case measure=>simp [intOf];omega
  ·have hkl:k=l.length:=by omega
   subst hkl
   go_wp2
   go_ret
   exact ⟨rfl,hB⟩
theorem pIndex_yes (l:List Int) (p:Int) (A:Option Addr) (c m:Nat) (w:World) (hlen:l.length<=100000) (hm:m<l.length) (he:l[m]?.getD 0=p) (h:∀ j,j<m->l[j]?.getD 0≠p) (hA:RdP w w.heap.size A l c) :
  Calls Tryz.prog 190 #[.slice A l.length c,.int .i8 p] w fun e w'=>e=.returned (.int .i64 (m:Int))/\Below w.heap.size w w':=by
 have H:=Lib.hid h
 have HE:=Lib.hid he
 clear h he
 go_enter Tryz.func190,Tryz.ntmps190
 go_wp2
 go_loopw [5,8] (fun _ i wr=>∃ k:Nat,k<=m/\i=.int .i64 k/\Below w.heap.size w wr) (fun _ i _=>l.length - (intOf i).toNat)
 case atStart=>exact ⟨0,by omega,rfl,Below.refl _ _⟩
 case round =>
  obtain ⟨k,hk,rfl,hB⟩:=hrel
  have hkl:k<l.length:=by omega
  obtain ⟨ad,rfl,_,hc⟩:=(hA.below hB).at_ hkl
  by_cases hlt:k<m
  ·have hne:(p == l[k]?.getD 0)=false:=beq_eq_false_iff_ne.2 fun e=>H.out k hlt e.symm
   clear hA
   generalize l[k]?.getD 0=x at *
   go_wp2
   go_roundw
   case rel=>exact ⟨k+1,by omega,by go_num,hB⟩
   case measure=>simp [intOf];omega
  ·have hkm:k=m:=by omega
   subst hkm
   have hne:(p == l[k]?.getD 0)=true:=beq_iff_eq.2 HE.out.symm
   clear hA HE H
   generalize l[k]?.getD 0=x at *
   go_wp2
   go_ret
   exact ⟨rfl,hB⟩
theorem pHas_any (l:List Int) (p:Int) (A:Option Addr) (c:Nat) (w:World) (hlen:l.length<=100000) (hA:RdP w w.heap.size A l c) :
  Calls Tryz.prog 156 #[.slice A l.length c,.int .i8 p] w fun e w'=>e=.returned (.bool (inL l p))/\Below w.heap.size w w':=by
 by_cases h:∀ j,j<l.length->l[j]?.getD 0≠p
 ·have e1:inL l p=false:=by
   unfold inL
   rw [List.any_eq_false]
   intro x hx
   obtain ⟨j,hj,rfl⟩:=List.mem_iff_getElem.1 hx
   have:=h j hj
   rw [List.getElem?_eq_getElem hj] at this
   simpa using this
  have HI:=Lib.hid (fun w hA=>pIndex_no l p A c w hlen h hA)
  rw [e1]
  clear h e1
  go_enter Tryz.func156,Tryz.ntmps156
  go_wp2_with fail
  refine (HI.out _ hA).mono ?_
  rintro e w1 ⟨rfl,hb⟩
  go_wp2
  go_ret
  exact ⟨rfl,hb⟩
 ·have h':∃ m,m<l.length/\l[m]?.getD 0=p:=by
   apply Classical.byContradiction
   intro hc
   exact h fun j hj e=>hc ⟨j,hj,e⟩
  obtain ⟨n,hn⟩:=h'
  obtain ⟨m,_,⟨hm,he⟩,hl⟩:=least (P:=fun m=>m<l.length/\l[m]?.getD 0=p) n hn
  have e1:inL l p=true:=by
   unfold inL
   rw [List.any_eq_true]
   refine ⟨l[m],List.getElem_mem hm,?_⟩
   rw [List.getElem?_eq_getElem hm] at he
   simpa using he
  have HI:=Lib.hid (fun w hA=>pIndex_yes l p A c m w hlen hm he (fun j hj e=>hl j hj ⟨by omega,e⟩) hA)
  rw [e1]
  clear h e1 hl he hm hn
  go_enter Tryz.func156,Tryz.ntmps156
  go_wp2_with fail
  refine (HI.out _ hA).mono ?_
  rintro e w1 ⟨rfl,hb⟩
  go_wp2
  go_ret
  exact ⟨rfl,hb⟩
theorem RdP.part {w:World} {B:Nat} {A:Option Addr} {l:List Int} {c:Nat} (h:RdP w B A l c) (i n c':Nat) (hn:0<n) (hi:i+n<=l.length):∃ ad,A=some ad/\RdP w B (some (ad.add i)) ((l.drop i).take n) c'/\((l.drop i).take n).length=n:=by
 obtain ⟨ad,e,hb,hc⟩:=h.2 (by omega)
 have hl:((l.drop i).take n).length=n:=by rw [List.length_take,List.length_drop];omega
 refine ⟨ad,e,⟨fun e=>(by cases e),fun _=>⟨ad.add i,rfl,by rw [blk_add];exact hb,fun j u hu=>?_⟩⟩,hl⟩
 have hj:j<n:=by have:=(List.getElem?_eq_some_iff.1 hu).1;omega
 rw [List.getElem?_take,if_pos hj,List.getElem?_drop] at hu
 have:=hc (i+j) u hu
 rw [<- this]
 rw [Addr.add_add]
theorem inL_false {l:List Int} {p:Int}:inL l p=false ↔ ∀ j,j<l.length->l[j]?.getD 0≠p:=by
 unfold inL
 rw [List.any_eq_false]
 constructor
 ·intro h j hj
  rw [List.getElem?_eq_getElem hj]
  simpa using h _ (List.getElem_mem hj)
 ·intro h x hx
  obtain ⟨j,hj,rfl⟩:=List.mem_iff_getElem.1 hx
  have:=h j hj
  rw [List.getElem?_eq_getElem hj] at this
  simpa using this
theorem part_at (l:List Int) (i n j:Nat) (hj:j<n):((l.drop i).take n)[j]?.getD 0=l[i+j]?.getD 0:=by
 rw [List.getElem?_take,if_pos hj,List.getElem?_drop]
theorem part_len {l:List Int} {i n:Nat} (h:i+n<=l.length):((l.drop i).take n).length=n:=by rw [List.length_take,List.length_drop];omega
theorem div_first {f i:Nat} (_h:0<f):(i:Int) / (f:Int)=0 ↔ i<f:=by
 rw [show (i:Int) / (f:Int)=((i / f:Nat):Int) by simp]
 constructor
 ·intro h
  exact (Nat.div_eq_zero_iff_lt _h).1 (by omega)
 ·intro h
  have:=(Nat.div_eq_zero_iff_lt _h).2 h
  omega
theorem div_last {f r i:Nat} (hf:0<f) (hr:0<r) (hi:i<r * f):(i:Int) / (f:Int)=(r:Int) - 1 ↔ r * f - f<=i:=by
 rw [show (i:Int) / (f:Int)=((i / f:Nat):Int) by simp]
 obtain ⟨q,rfl⟩:∃ q,r=q+1:=⟨r - 1,by omega⟩
 have e:(q+1) * f - f=q * f:=by rw [Nat.add_mul,Nat.one_mul,Nat.add_sub_cancel]
 rw [e]
 constructor
 ·intro h
  have:i / f=q:=by omega
  exact (Nat.le_div_iff_mul_le hf).1 (by omega)
 ·intro h
  have h1:=(Nat.le_div_iff_mul_le hf).2 h
  have h2:i / f<q+1:=(Nat.div_lt_iff_lt_mul hf).2 hi
  omega
theorem pwn_eq {f r:Nat} {l:List Int} (hf:0<f) (hr:0<r) (hl:l.length=r * f):poPwn (f:Int) (r:Int) l=(!inL ((l.drop 0).take f) (-1) && !inL ((l.drop (r * f - f)).take f) 1):=by
 have hle:f<=r * f:=Nat.le_mul_of_pos_left f hr
 rw [Bool.eq_iff_iff]
 simp only [Bool.and_eq_true,Bool.not_eq_true',inL_false]
 unfold poPwn
 rw [List.all_eq_true]
 constructor
 ·intro h
  have hi:∀ i,i<l.length->poPw (f:Int) (r:Int) l i=false:=fun i hi=>by
   have:=h i (List.mem_range.2 hi)
   simpa using this
  refine ⟨fun j hj=>?_,fun j hj=>?_⟩
  ·rw [part_len (by omega)] at hj
   rw [part_at _ _ _ _ hj,Nat.zero_add]
   intro e
   have:=hi j (by omega)
   unfold poPw at this
   rw [e] at this
   have h2:=(div_first hf).2 hj
   rw [h2] at this
   simp [kdP,lastR] at this
  ·rw [part_len (by omega)] at hj
   rw [part_at _ _ _ _ hj]
   intro e
   have:=hi (r * f - f+j) (by omega)
   unfold poPw at this
   rw [e] at this
   have h2:=(div_last (i:=r * f - f+j) hf hr (by omega)).2 (by omega)
   rw [h2] at this
   simp [kdP,lastR] at this
 ·intro ⟨h1,h2⟩ i hi
  have hi:=List.mem_range.1 hi
  cases e:poPw (f:Int) (r:Int) l i with
  | false=>rfl
  | true =>
   exfalso
   unfold poPw at e
   rw [Bool.and_eq_true] at e
   obtain ⟨e1,e2⟩:=e
   have e1:kdP (l[i]?.getD 0)=1:=by simpa using e1
   have e2:(i:Int) / (f:Int)=lastR r (decide (l[i]?.getD 0<0)):=by simpa using e2
   unfold kdP at e1
   split at e1
   ·rename_i hneg
    have hp:l[i]?.getD 0=-1:=by omega
    rw [decide_eq_true hneg] at e2
    have hlt:=(div_first hf).1 e2
    have:=h1 i (by rw [part_len (by omega)];exact hlt)
    rw [part_at _ _ _ _ hlt,Nat.zero_add] at this
    exact this hp
   ·rename_i hneg
    rw [decide_eq_false hneg] at e2
    have hge:=(div_last hf hr (by omega)).1 e2
    have:=h2 (i - (r * f - f)) (by rw [part_len (by omega)];omega)
    rw [part_at _ _ _ _ (by omega),show r * f - f+(i - (r * f - f))=i by omega] at this
    exact this e1
theorem pNo_any (F R:Int) (l:List Int) (A:Option Addr) (c:Nat) (bl:Bool) (ca:Nat) (ps ha fu:Int) (hb:vbd F R l) (w:World) (hcap:l.length<=c) (hA:RdP w w.heap.size A l c) :
  Calls Tryz.prog 98 #[.agg #[.int .i64 F,.int .i64 R,.slice A l.length c,.bool bl,.int .u8 (ca:Int),.int .i64 ps,.int .i64 ha,.int .i64 fu]] w fun e w'=>e=.returned (.bool (poPwn F R l))/\Below w.heap.size w w':=by
 obtain ⟨f,r,rfl,rfl,f0,f1,r0,r1,hl⟩:=vbd_nat hb
 have hl64:l.length<=64:=vbd_64 hb
 have hle:f<=r * f:=Nat.le_mul_of_pos_left f (by omega)
 have HE:=Lib.hid (pwn_eq (by omega) (by omega) hl)
 obtain ⟨ad,rfl,_⟩:=hA.2 (by omega)
 have hA1:=rdBo (box1 w (.cells #[.int .i64 f,.int .i64 r,.slice (some ad) l.length c,.bool bl,.int .u8 (ca:Int),.int .i64 ps,.int .i64 ha,.int .i64 fu] 26)) hA
 obtain ⟨ad1,e1,hp1,hl1⟩:=hA1.part 0 f c (by omega) (by omega)
 obtain ⟨ad2,e2,hp2,hl2⟩:=hA1.part (r * f - f) f (c - (r * f - f)) (by omega) (by omega)
 obtain rfl:=Option.some.inj e1
 obtain rfl:=Option.some.inj e2
 have had:ad.add 0=ad:=by simp [Addr.add]
 rw [had] at hp1
 have hX:=box8 w (f:Int) (r:Int) (.slice (some ad) l.length c) bl ca ps ha fu
 have HP1:=Lib.hid (fun w hA=>pHas_any ((l.drop 0).take f) (-1) (some ad) c w (by omega) hA)
 have HP2:=Lib.hid (fun w hA=>pHas_any ((l.drop (r * f - f)).take f) 1 (some (ad.add (r * f - f))) (c - (r * f - f)) w (by omega) hA)
 have HR1:=Lib.hid hp1
 have HR2:=Lib.hid hp2
 rw [hl1] at HP1
 rw [hl2] at HP2
 generalize hx:r * f - f=x at *
 have hsub:(l.length:Int) - (f:Int)=(x:Int):=by omega
 have hcx:¬ c=x:=by omega
 have hq1:∀ w,(Instr.sliceAt 24 (.slice (some ad) l.length c) none (some (.int .i64 (f:Int))) none).run Tryz.prog w=.ok (.slice (some ad) f c) w:=by
  intro w
  have h1:f<=c:=by omega
  simp [go_sem,h1]
 have hq2:∀ w,(Instr.sliceAt 24 (.slice (some ad) l.length c) (some (.int .i64 ((l.length:Int) - (f:Int)))) none none).run Tryz.prog w=.ok (.slice (some (ad.add x)) f (c - x)) w:=by
  intro w
  rw [hsub]
  have h1:x<=l.length:=by omega
  have h2:l.length - x=f:=by omega
  simp [go_sem,h1,h2,hcx]
 generalize inL ((l.drop 0).take f) (-1)=t1 at *
 generalize inL ((l.drop x).take f) 1=t2 at *
 obtain ⟨⟨x0,x1,x2,x3,x4,x5,x6,x7⟩,xf⟩:=hX
 have hB:=box1 w (.cells #[.int .i64 f,.int .i64 r,.slice (some ad) l.length c,.bool bl,.int .u8 (ca:Int),.int .i64 ps,.int .i64 ha,.int .i64 fu] 26)
 have hwr:IntKind.i64.wrap ((l.length:Int) - (f:Int))=(l.length:Int) - (f:Int):=IntWalk.i64_in _ (by omega)
 have hfl:f<=l.length:=by omega
 clear hp1 hp2 hl1 hl2 hA1 hA e1 e2 hsub hl hle hx hcx
 go_enter Tryz.func98,Tryz.ntmps98
 go_wp2_with fail
 go_quiet (fail)
 have hbn:Below (w.alloc (.cells #[.int .i64 f,.int .i64 r,.slice (some ad) l.length c,.bool bl,.int .u8 (ca:Int),.int .i64 ps,.int .i64 ha,.int .i64 fu] 26)).heap.size (w.alloc (.cells #[.int .i64 f,.int .i64 r,.slice (some ad) l.length c,.bool bl,.int .u8 (ca:Int),.int .i64 ps,.int .i64 ha,.int .i64 fu] 26)) ((w.alloc (.cells #[.int .i64 f,.int .i64 r,.slice (some ad) l.length c,.bool bl,.int .u8 (ca:Int),.int .i64 ps,.int .i64 ha,.int .i64 fu] 26)).drewN nq):=⟨rfl,rfl,rfl,Nat.le_refl _,fun _ _=>rfl⟩
 have hr1:=rdBo hbn HR1.out
 have hr2:=rdBo hbn HR2.out
 have hB1:=after1 hbn
 go_wp2_with fail
 refine (HP1.out _ hr1).mono ?_
 rintro e w1 ⟨rfl,hb1⟩
 have hr3:=rdBo hb1 hr2
 have hB2:=chain hB1 hb1
 clear hr1 hr2 hbn x0 x1 x2 x3 x4 x5 x6 x7 xf
 cases t1 with
 | true =>
  go_wp2
  go_ret
  exact ⟨ret_bool HE.out.symm,hB2⟩
 | false =>
  go_wp2_with fail
  refine (HP2.out _ hr3).mono ?_
  rintro e w2 ⟨rfl,hb2⟩
  go_wp2
  go_ret
  exact ⟨ret_bool HE.out.symm,chain hB2 hb2⟩
end Go.Proofs.YtbccbgonlmkpkaaGreatDoor
