/- What the theorem needs, piece Zb17. -/
import Derived.Laws.IdiomCopy
import Derived.Test.YtbccbgonlmkpkaaGreatDoorZb16
set_option linter.unusedSimpArgs false
set_option linter.unusedVariables false
set_option maxRecDepth 100000
set_option maxHeartbeats 16000000
namespace Go.Proofs.YtbccbgonlmkpkaaGreatDoor
open Go.RowKit Go.Sort
def rtL:List Value:=[.int .u8 1,.int .u8 75,.int .i8 6,.int .i8 4,.int .i64 4,.int .i64 7,.int .u8 2,.int .u8 81,.int .i8 6,.int .i8 4,.int .i64 4,.int .i64 0,.int .u8 4,.int .u8 107,.int .i8 (-6),.int .i8 (-4),.int .i64 60,.int .i64 63,.int .u8 8,.int .u8 113,.int .i8 (-6),.int .i8 (-4),.int .i64 60,.int .i64 56]
def Rts (w:World):Prop:=∀ j,j<24->w.cell? ⟨0,j,none⟩=some (rtL.getD j undef)
theorem Rts.lt {w:World} (h:Rts w):0<w.heap.size:=World.block_lt_of_cell? w _ (h 0 (by decide))
theorem Rts.below {w w':World} (h:Rts w) (hb:Below w.heap.size w w'):Rts w':=fun j hj=>(hb.cell (p:=⟨0,j,none⟩) h.lt).trans (h j hj)
theorem rix_0 (w:World):(Instr.index 191 (.agg rtL.toArray) (.int .i64 0)).run Tryz.prog w=.ok (.agg #[.int .u8 1,.int .u8 75,.int .i8 6,.int .i8 4,.int .i64 4,.int .i64 7]) w:=by kernel_rfl
theorem rix_1 (w:World):(Instr.index 191 (.agg rtL.toArray) (.int .i64 1)).run Tryz.prog w=.ok (.agg #[.int .u8 2,.int .u8 81,.int .i8 6,.int .i8 4,.int .i64 4,.int .i64 0]) w:=by kernel_rfl
theorem rix_2 (w:World):(Instr.index 191 (.agg rtL.toArray) (.int .i64 2)).run Tryz.prog w=.ok (.agg #[.int .u8 4,.int .u8 107,.int .i8 (-6),.int .i8 (-4),.int .i64 60,.int .i64 63]) w:=by kernel_rfl
theorem rix_3 (w:World):(Instr.index 191 (.agg rtL.toArray) (.int .i64 3)).run Tryz.prog w=.ok (.agg #[.int .u8 8,.int .u8 113,.int .i8 (-6),.int .i8 (-4),.int .i64 60,.int .i64 56]) w:=by kernel_rfl
theorem szRt (w:World):(sizeOf 191).run Tryz.prog w=.ok 24 w:=by kernel_rfl
theorem agRt (w:World):(isAgg 191).run Tryz.prog w=.ok true w:=by kernel_rfl
theorem ldRt {W:World} (h:Rts W):(Instr.loadAt 191 (.pointer (some ⟨0,0,none⟩))).run Tryz.prog W=.ok (.agg rtL.toArray) W:=by
 have hld:(loadCellsFrom ⟨0,0,none⟩ 0 24 #[]).run Tryz.prog W=.ok rtL.toArray W:=run_loadCells_list (P:=Tryz.prog) (w:=W) ⟨0,0,none⟩ rtL (fun j v hv=>by
  have hj:j<24:=(List.getElem?_eq_some_iff.1 hv).1
  have hc:=h j hj
  have hadd:(⟨0,0,none⟩:Addr).add j=⟨0,j,none⟩:=by unfold Addr.add;split <;> simp_all
  rw [hadd,hc,List.getD,hv]
  rfl)
 simp only [Instr.loadAt,Instr.sureAddr,loadVar,loadCells,Sem.run_bind,Sem.run_pure,Result.andThen,agRt,szRt,if_true,hld]
theorem rtShut:∃ X:Array Value,(∀ W,Rts W->(Instr.loadAt 191 (.pointer (some ⟨0,0,none⟩))).run Tryz.prog W=.ok (.agg X) W)/\(∀ w:World,(Instr.index 191 (.agg X) (.int .i64 0)).run Tryz.prog w=.ok (.agg #[.int .u8 1,.int .u8 75,.int .i8 6,.int .i8 4,.int .i64 4,.int .i64 7]) w)/\(∀ w:World,(Instr.index 191 (.agg X) (.int .i64 1)).run Tryz.prog w=.ok (.agg #[.int .u8 2,.int .u8 81,.int .i8 6,.int .i8 4,.int .i64 4,.int .i64 0]) w)/\(∀ w:World,(Instr.index 191 (.agg X) (.int .i64 2)).run Tryz.prog w=.ok (.agg #[.int .u8 4,.int .u8 107,.int .i8 (-6),.int .i8 (-4),.int .i64 60,.int .i64 63]) w)/\(∀ w:World,(Instr.index 191 (.agg X) (.int .i64 3)).run Tryz.prog w=.ok (.agg #[.int .u8 8,.int .u8 113,.int .i8 (-6),.int .i8 (-4),.int .i64 60,.int .i64 56]) w) :=
 ⟨rtL.toArray,fun _ h=>ldRt h,rix_0,rix_1,rix_2,rix_3⟩
theorem and_bitK (k ca:Nat) (hk:k<4) (h:ca<=15):(bits .and .u8 (ca:Int) (bitK k:Int) != 0)=poBit ca (bitK k):=by
 have:∀ k,k<4->∀ c,c<16->(bits .and .u8 ((c:Nat):Int) (bitK k:Int) != 0)=poBit c (bitK k):=by decide +kernel
 exact this k hk ca (by omega)
theorem cas_zero (F R:Int) (l:List Int):poCas F R l 0=true:=by
 rw [poCas_k]
 rfl
theorem cas_size {F R:Int} {l:List Int} {ca:Nat} (h15:ca<=15) (h0:ca≠0) (h:¬ (F=8/\R=8)):poCas F R l ca=false:=by
 have hb:∀ c,c<16->c≠0->∃ k,k<4/\poBit c (bitK k)=true:=by decide +kernel
 obtain ⟨k,hk,e⟩:=hb ca (by omega) h0
 refine poCas_false hk ?_
 have hm:poHm F R l (bitK k)=false:=by
  unfold poHm
  by_cases hF:F=8
  ·rw [beq_eq_false_iff_ne.2 (fun hR=>h ⟨hF,hR⟩:R≠8)];simp
  ·rw [beq_eq_false_iff_ne.2 hF];rfl
 unfold casK
 rw [e,hm]
 rfl
theorem wp_move {P:Program} {o:Oper} {a:Act} {W:World} {K:Act->World->Prop} {Q:Exit->Act->World->Prop} {x:Operand} (ho:o.op=.move x) (hk:K (a.put o.dst (a.eval x)) W):o.wp P a W K Q:=by
 have e:(execOp a.eval o).run P W=.ok (.value (a.eval x)) W:=by
  unfold execOp
  rw [ho]
  rfl
 unfold Oper.wp
 rw [e]
 exact hk
theorem pCas_in (l:List Int) (A:Option Addr) (c:Nat) (bl:Bool) (ca:Nat) (ps ha fu:Int) (h0:ca≠0) (h15:ca<=15) (hl:l.length=64) (w:World) (hT:Rts w) (hA:RdP w w.heap.size A l c) :
  Calls Tryz.prog 100 #[.agg #[.int .i64 8,.int .i64 8,.slice A l.length c,.bool bl,.int .u8 (ca:Int),.int .i64 ps,.int .i64 ha,.int .i64 fu]] w fun e w'=>e=.returned (.bool (poCas 8 8 l ca))/\Below w.heap.size w w':=by
 obtain ⟨ad,rfl,_,hcl⟩:=hA.2 (by omega)
 have HK:=Lib.hid (fun h=>poCas_true (F:=8) (R:=8) (l:=l) h15 h)
 have HF:=Lib.hid (fun k hk h=>poCas_false (F:=8) (R:=8) (l:=l) (ca:=ca) (k:=k) hk h)
 have HA:=Lib.hid (fun k (hk:k<4)=>and_bitK k ca hk h15)
 have hX:=box8 w 8 8 (.slice (some ad) l.length c) bl ca ps ha fu
 have hBX:=box1 w (.cells #[.int .i64 8,.int .i64 8,.slice (some ad) l.length c,.bool bl,.int .u8 (ca:Int),.int .i64 ps,.int .i64 ha,.int .i64 fu] 26)
 have hT1:=hT.below hBX
 have hAd:=rdBo hBX hA
 have HX:=Lib.hid hX
 have HT:=Lib.hid hT1
 have hca0:¬ (ca:Int)=0:=by omega
 have hca1:¬ 15<(ca:Int):=by omega
 obtain ⟨X,hld,hx0,hx1,hx2,hx3⟩:=rtShut
 have hld:=hld _ hT1
 have HL:=Lib.hid hl
 clear hcl hA hT h0 h15 hl
 go_enter Tryz.func100,Tryz.ntmps100
 go_upto_region 5 with fail
 refine wp_region_lit ?_
 refine BigFrame.wpList_want (by kernel_rfl) ?_
 intro K1 hK1
 refine wp_load rfl hld ?_
 refine hK1 _ _ ?_
 refine BigFrame.wpList_want (by kernel_rfl) ?_
 intro K2 hK2
 refine wp_move rfl ?_
 refine hK2 _ _ ?_
 refine wpList_nil ?_
 simp [Act.put,Act.eval]
 clear hK1 hK2 hld
 generalize (w.alloc (.cells #[.int .i64 8,.int .i64 8,.slice (some ad) l.length c,.bool bl,.int .u8 (ca:Int),.int .i64 ps,.int .i64 ha,.int .i64 fu] 26))=W at *
 go_wp2
 go_loopw [4,18] (fun _ i wr=>∃ k:Nat,k<=4/\i=.int .i64 k/\(∀ j,j<k->casK 8 8 l ca j=true)/\Below W.heap.size W wr) (fun _ i _=>4 - (intOf i).toNat)
 case atStart=>exact ⟨0,by omega,rfl,fun j hj=>absurd hj (by omega),Below.refl _ _⟩
 case round =>
  obtain ⟨k,hk,rfl,hgood,hB⟩:=hrel
  have hF7:=HX.out.below hB HX.out.lt
  have hR7:=(hAd.below hB).grow hB.size
  have hBr:=Lib.hid (chain hBX hB)
  have HBr:=Lib.hid hB
  clear hB HX hX hAd hBX hT1 HT
  rcases (show k=0\/k=1\/k=2\/k=3\/k=4 by omega) with rfl | rfl | rfl | rfl | rfl
  ·have hc1:=hR7.at_ (k:=4) (by rw [HL.out];decide)
   have hc2:=hR7.at_ (k:=7) (by rw [HL.out];decide)
   obtain ⟨a1,ea1,_,hc1⟩:=hc1
   obtain ⟨a2,ea2,_,hc2⟩:=hc2
   obtain rfl:=Option.some.inj ea1
   obtain rfl:=Option.some.inj ea2
   have HC0:=Lib.hid (show casK 8 8 l ca 0=(!poBit ca (bitK 0) || (l[4]?.getD 0 == 6 && l[7]?.getD 0 == 4)) from rfl)
   have hab:(bits .and .u8 (ca:Int) 1 != 0)=poBit ca (bitK 0):=HA.out 0 (by decide)
   have hnext:Hid (casK 8 8 l ca 0=true->∀ j,j<1->casK 8 8 l ca j=true):=Lib.hid fun h j hj=>by
    rcases Nat.lt_or_ge j 0 with hj2 | hj2
    ·exact hgood j hj2
    ·have:j=0:=by omega
     subst this;exact h
   have HFk:=Lib.hid (fun h=>HF.out 0 (by decide) h)
   clear hgood ea1 ea2 hR7
   have hVB:=Lib.hid (box1 wr (.cells #[.int .u8 1,.int .u8 75,.int .i8 6,.int .i8 4,.int .i64 4,.int .i64 7] 190))
   have hX8:=hF7.below hVB.out hF7.lt
   have d1:=alive (.cells #[.int .u8 1,.int .u8 75,.int .i8 6,.int .i8 4,.int .i64 4,.int .i64 7] 190) hc1
   have d2:=alive (.cells #[.int .u8 1,.int .u8 75,.int .i8 6,.int .i8 4,.int .i64 4,.int .i64 7] 190) hc2
   obtain ⟨V,hV⟩:∃ V,wr.alloc (.cells #[.int .u8 1,.int .u8 75,.int .i8 6,.int .i8 4,.int .i64 4,.int .i64 7] 190)=V:=⟨_,rfl⟩
   have s0:V.cell? ⟨wr.heap.size,0,none⟩=some (.int .u8 1):=by rw [<- hV];simp [go_sem]
   have s1:V.cell? ⟨wr.heap.size,1,none⟩=some (.int .u8 75):=by rw [<- hV];simp [go_sem]
   have s2:V.cell? ⟨wr.heap.size,2,none⟩=some (.int .i8 6):=by rw [<- hV];simp [go_sem]
   have s3:V.cell? ⟨wr.heap.size,3,none⟩=some (.int .i8 4):=by rw [<- hV];simp [go_sem]
   have s4:V.cell? ⟨wr.heap.size,4,none⟩=some (.int .i64 4):=by rw [<- hV];simp [go_sem]
   have s5:V.cell? ⟨wr.heap.size,5,none⟩=some (.int .i64 7):=by rw [<- hV];simp [go_sem]
   rw [hV] at hX8 d1 d2 hVB
   have HV:=Lib.hid hV
   obtain ⟨⟨x0,x1,x2,x3,x4,x5,x6,x7⟩,xf⟩:=hX8
   generalize casK 8 8 l ca 0=ck at *
   generalize poBit ca (bitK 0)=pb at *
   generalize l[4]?.getD 0=xk at *
   generalize l[7]?.getD 0=xr at *
   have q2:=cell_regrown x2
   have q4:=cell_regrown x4
   rw [show ad.add 4=(⟨ad.block,ad.off+4,none⟩:Addr) by simp [Addr.add]] at d1
   rw [show ad.add 7=(⟨ad.block,ad.off+7,none⟩:Addr) by simp [Addr.add]] at d2
   have hb1:4<l.length:=by rw [HL.out];decide
   have hb2:7<l.length:=by rw [HL.out];decide
   have qa:=cell_regrown d1
   have qb:=cell_regrown d2
   have p0:=cell_regrown s0
   have p1:=cell_regrown s1
   have p2:=cell_regrown s2
   have p3:=cell_regrown s3
   have p4:=cell_regrown s4
   have p5:=cell_regrown s5
   clear hV hc1 hc2 hF7 x0 x1 x2 x3 x4 x5 x6 x7 xf d1 d2 s0 s1 s2 s3 s4 s5
   cases pb with
   | false =>
    have HC:Hid (ck=true):=Lib.hid HC0.out
    go_wp2_with fail
    rw [HV.out]
    refine wp_region_quiet_below (by kernel_rfl) (by kernel_rfl) ?_
    repeat (go_big_quiet_step (fail))
    refine wpQuiet_nil ?_
    rintro _ ⟨⟨dq,osq⟩,rfl⟩
    go_wp2
    go_roundw
    case rel=>exact ⟨1,by omega,by go_num,hnext.out HC.out,chain HBr.out (chain hVB.out (below_regrown _ dq osq))⟩
    case measure=>simp [intOf]
   | true =>
    by_cases hk1:xk=6
    ·have e1:(xk == 6)=true:=beq_iff_eq.2 hk1
     have e2:(xk != 6)=false:=by simp [hk1]
     rw [e1] at HC0
     clear hk1 e1
     by_cases hk2:xr=4
     ·have e3:(xr == 4)=true:=beq_iff_eq.2 hk2
      have e4:(xr != 4)=false:=by simp [hk2]
      rw [e3] at HC0
      clear hk2 e3
      have HC:Hid (ck=true):=Lib.hid HC0.out
      go_wp2_with fail
      rw [HV.out]
      refine wp_region_quiet_below (by kernel_rfl) (by kernel_rfl) ?_
      repeat (go_big_quiet_step (fail))
      refine wpQuiet_nil ?_
      rintro _ ⟨⟨dq,osq⟩,rfl⟩
      go_wp2
      go_roundw
      case rel=>exact ⟨1,by omega,by go_num,hnext.out HC.out,chain HBr.out (chain hVB.out (below_regrown _ dq osq))⟩
      case measure=>simp [intOf]
     ·have e3:(xr == 4)=false:=beq_eq_false_iff_ne.2 hk2
      have e4:(xr != 4)=true:=bne_iff_ne.2 hk2
      rw [e3] at HC0
      clear hk2 e3
      have HC:Hid (ck=false):=Lib.hid HC0.out
      go_wp2_with fail
      rw [HV.out]
      refine wp_region_quiet_below (by kernel_rfl) (by kernel_rfl) ?_
      repeat (go_big_quiet_step (fail))
      refine wpQuiet_nil ?_
      rintro _ ⟨⟨dq,osq⟩,rfl⟩
      go_wp2
      go_ret
      exact ⟨ret_bool (HFk.out HC.out).symm,chain hBr.out (chain hVB.out (below_regrown _ dq osq))⟩
    ·have e1:(xk == 6)=false:=beq_eq_false_iff_ne.2 hk1
     have e2:(xk != 6)=true:=bne_iff_ne.2 hk1
     rw [e1] at HC0
     clear hk1 e1
     have HC:Hid (ck=false):=Lib.hid HC0.out
     go_wp2_with fail
     rw [HV.out]
     refine wp_region_quiet_below (by kernel_rfl) (by kernel_rfl) ?_
     repeat (go_big_quiet_step (fail))
     refine wpQuiet_nil ?_
     rintro _ ⟨⟨dq,osq⟩,rfl⟩
     go_wp2
     go_ret
     exact ⟨ret_bool (HFk.out HC.out).symm,chain hBr.out (chain hVB.out (below_regrown _ dq osq))⟩
  ·have hc1:=hR7.at_ (k:=4) (by rw [HL.out];decide)
   have hc2:=hR7.at_ (k:=0) (by rw [HL.out];decide)
   obtain ⟨a1,ea1,_,hc1⟩:=hc1
   obtain ⟨a2,ea2,_,hc2⟩:=hc2
   obtain rfl:=Option.some.inj ea1
   obtain rfl:=Option.some.inj ea2
   have HC0:=Lib.hid (show casK 8 8 l ca 1=(!poBit ca (bitK 1) || (l[4]?.getD 0 == 6 && l[0]?.getD 0 == 4)) from rfl)
   have hab:(bits .and .u8 (ca:Int) 2 != 0)=poBit ca (bitK 1):=HA.out 1 (by decide)
   have hnext:Hid (casK 8 8 l ca 1=true->∀ j,j<2->casK 8 8 l ca j=true):=Lib.hid fun h j hj=>by
    rcases Nat.lt_or_ge j 1 with hj2 | hj2
    ·exact hgood j hj2
    ·have:j=1:=by omega
     subst this;exact h
   have HFk:=Lib.hid (fun h=>HF.out 1 (by decide) h)
   clear hgood ea1 ea2 hR7
   have hVB:=Lib.hid (box1 wr (.cells #[.int .u8 2,.int .u8 81,.int .i8 6,.int .i8 4,.int .i64 4,.int .i64 0] 190))
   have hX8:=hF7.below hVB.out hF7.lt
   have d1:=alive (.cells #[.int .u8 2,.int .u8 81,.int .i8 6,.int .i8 4,.int .i64 4,.int .i64 0] 190) hc1
   have d2:=alive (.cells #[.int .u8 2,.int .u8 81,.int .i8 6,.int .i8 4,.int .i64 4,.int .i64 0] 190) hc2
   obtain ⟨V,hV⟩:∃ V,wr.alloc (.cells #[.int .u8 2,.int .u8 81,.int .i8 6,.int .i8 4,.int .i64 4,.int .i64 0] 190)=V:=⟨_,rfl⟩
   have s0:V.cell? ⟨wr.heap.size,0,none⟩=some (.int .u8 2):=by rw [<- hV];simp [go_sem]
   have s1:V.cell? ⟨wr.heap.size,1,none⟩=some (.int .u8 81):=by rw [<- hV];simp [go_sem]
   have s2:V.cell? ⟨wr.heap.size,2,none⟩=some (.int .i8 6):=by rw [<- hV];simp [go_sem]
   have s3:V.cell? ⟨wr.heap.size,3,none⟩=some (.int .i8 4):=by rw [<- hV];simp [go_sem]
   have s4:V.cell? ⟨wr.heap.size,4,none⟩=some (.int .i64 4):=by rw [<- hV];simp [go_sem]
   have s5:V.cell? ⟨wr.heap.size,5,none⟩=some (.int .i64 0):=by rw [<- hV];simp [go_sem]
   rw [hV] at hX8 d1 d2 hVB
   have HV:=Lib.hid hV
   obtain ⟨⟨x0,x1,x2,x3,x4,x5,x6,x7⟩,xf⟩:=hX8
   generalize casK 8 8 l ca 1=ck at *
   generalize poBit ca (bitK 1)=pb at *
   generalize l[4]?.getD 0=xk at *
   generalize l[0]?.getD 0=xr at *
   have q2:=cell_regrown x2
   have q4:=cell_regrown x4
   rw [show ad.add 4=(⟨ad.block,ad.off+4,none⟩:Addr) by simp [Addr.add]] at d1
   rw [show ad.add 0=ad by simp [Addr.add]] at d2
   have hb1:4<l.length:=by rw [HL.out];decide
   have hb2:0<l.length:=by rw [HL.out];decide
   have qa:=cell_regrown d1
   have qb:=cell_regrown d2
   have p0:=cell_regrown s0
   have p1:=cell_regrown s1
   have p2:=cell_regrown s2
   have p3:=cell_regrown s3
   have p4:=cell_regrown s4
   have p5:=cell_regrown s5
   clear hV hc1 hc2 hF7 x0 x1 x2 x3 x4 x5 x6 x7 xf d1 d2 s0 s1 s2 s3 s4 s5
   cases pb with
   | false =>
    have HC:Hid (ck=true):=Lib.hid HC0.out
    go_wp2_with fail
    rw [HV.out]
    refine wp_region_quiet_below (by kernel_rfl) (by kernel_rfl) ?_
    repeat (go_big_quiet_step (fail))
    refine wpQuiet_nil ?_
    rintro _ ⟨⟨dq,osq⟩,rfl⟩
    go_wp2
    go_roundw
    case rel=>exact ⟨2,by omega,by go_num,hnext.out HC.out,chain HBr.out (chain hVB.out (below_regrown _ dq osq))⟩
    case measure=>simp [intOf]
   | true =>
    by_cases hk1:xk=6
    ·have e1:(xk == 6)=true:=beq_iff_eq.2 hk1
     have e2:(xk != 6)=false:=by simp [hk1]
     rw [e1] at HC0
     clear hk1 e1
     by_cases hk2:xr=4
     ·have e3:(xr == 4)=true:=beq_iff_eq.2 hk2
      have e4:(xr != 4)=false:=by simp [hk2]
      rw [e3] at HC0
      clear hk2 e3
      have HC:Hid (ck=true):=Lib.hid HC0.out
      go_wp2_with fail
      rw [HV.out]
      refine wp_region_quiet_below (by kernel_rfl) (by kernel_rfl) ?_
      repeat (go_big_quiet_step (fail))
      refine wpQuiet_nil ?_
      rintro _ ⟨⟨dq,osq⟩,rfl⟩
      go_wp2
      go_roundw
      case rel=>exact ⟨2,by omega,by go_num,hnext.out HC.out,chain HBr.out (chain hVB.out (below_regrown _ dq osq))⟩
      case measure=>simp [intOf]
     ·have e3:(xr == 4)=false:=beq_eq_false_iff_ne.2 hk2
      have e4:(xr != 4)=true:=bne_iff_ne.2 hk2
      rw [e3] at HC0
      clear hk2 e3
      have HC:Hid (ck=false):=Lib.hid HC0.out
      go_wp2_with fail
      rw [HV.out]
      refine wp_region_quiet_below (by kernel_rfl) (by kernel_rfl) ?_
      repeat (go_big_quiet_step (fail))
      refine wpQuiet_nil ?_
      rintro _ ⟨⟨dq,osq⟩,rfl⟩
      go_wp2
      go_ret
      exact ⟨ret_bool (HFk.out HC.out).symm,chain hBr.out (chain hVB.out (below_regrown _ dq osq))⟩
    ·have e1:(xk == 6)=false:=beq_eq_false_iff_ne.2 hk1
     have e2:(xk != 6)=true:=bne_iff_ne.2 hk1
     rw [e1] at HC0
     clear hk1 e1
     have HC:Hid (ck=false):=Lib.hid HC0.out
     go_wp2_with fail
     rw [HV.out]
     refine wp_region_quiet_below (by kernel_rfl) (by kernel_rfl) ?_
     repeat (go_big_quiet_step (fail))
     refine wpQuiet_nil ?_
     rintro _ ⟨⟨dq,osq⟩,rfl⟩
     go_wp2
     go_ret
     exact ⟨ret_bool (HFk.out HC.out).symm,chain hBr.out (chain hVB.out (below_regrown _ dq osq))⟩
  ·have hc1:=hR7.at_ (k:=60) (by rw [HL.out];decide)
   have hc2:=hR7.at_ (k:=63) (by rw [HL.out];decide)
   obtain ⟨a1,ea1,_,hc1⟩:=hc1
   obtain ⟨a2,ea2,_,hc2⟩:=hc2
   obtain rfl:=Option.some.inj ea1
   obtain rfl:=Option.some.inj ea2
   have HC0:=Lib.hid (show casK 8 8 l ca 2=(!poBit ca (bitK 2) || (l[60]?.getD 0 == (-6) && l[63]?.getD 0 == (-4))) from rfl)
   have hab:(bits .and .u8 (ca:Int) 4 != 0)=poBit ca (bitK 2):=HA.out 2 (by decide)
   have hnext:Hid (casK 8 8 l ca 2=true->∀ j,j<3->casK 8 8 l ca j=true):=Lib.hid fun h j hj=>by
    rcases Nat.lt_or_ge j 2 with hj2 | hj2
    ·exact hgood j hj2
    ·have:j=2:=by omega
     subst this;exact h
   have HFk:=Lib.hid (fun h=>HF.out 2 (by decide) h)
   clear hgood ea1 ea2 hR7
   have hVB:=Lib.hid (box1 wr (.cells #[.int .u8 4,.int .u8 107,.int .i8 (-6),.int .i8 (-4),.int .i64 60,.int .i64 63] 190))
   have hX8:=hF7.below hVB.out hF7.lt
   have d1:=alive (.cells #[.int .u8 4,.int .u8 107,.int .i8 (-6),.int .i8 (-4),.int .i64 60,.int .i64 63] 190) hc1
   have d2:=alive (.cells #[.int .u8 4,.int .u8 107,.int .i8 (-6),.int .i8 (-4),.int .i64 60,.int .i64 63] 190) hc2
   obtain ⟨V,hV⟩:∃ V,wr.alloc (.cells #[.int .u8 4,.int .u8 107,.int .i8 (-6),.int .i8 (-4),.int .i64 60,.int .i64 63] 190)=V:=⟨_,rfl⟩
   have s0:V.cell? ⟨wr.heap.size,0,none⟩=some (.int .u8 4):=by rw [<- hV];simp [go_sem]
   have s1:V.cell? ⟨wr.heap.size,1,none⟩=some (.int .u8 107):=by rw [<- hV];simp [go_sem]
   have s2:V.cell? ⟨wr.heap.size,2,none⟩=some (.int .i8 (-6)):=by rw [<- hV];simp [go_sem]
   have s3:V.cell? ⟨wr.heap.size,3,none⟩=some (.int .i8 (-4)):=by rw [<- hV];simp [go_sem]
   have s4:V.cell? ⟨wr.heap.size,4,none⟩=some (.int .i64 60):=by rw [<- hV];simp [go_sem]
   have s5:V.cell? ⟨wr.heap.size,5,none⟩=some (.int .i64 63):=by rw [<- hV];simp [go_sem]
   rw [hV] at hX8 d1 d2 hVB
   have HV:=Lib.hid hV
   obtain ⟨⟨x0,x1,x2,x3,x4,x5,x6,x7⟩,xf⟩:=hX8
   generalize casK 8 8 l ca 2=ck at *
   generalize poBit ca (bitK 2)=pb at *
   generalize l[60]?.getD 0=xk at *
   generalize l[63]?.getD 0=xr at *
   have q2:=cell_regrown x2
   have q4:=cell_regrown x4
   rw [show ad.add 60=(⟨ad.block,ad.off+60,none⟩:Addr) by simp [Addr.add]] at d1
   rw [show ad.add 63=(⟨ad.block,ad.off+63,none⟩:Addr) by simp [Addr.add]] at d2
   have hb1:60<l.length:=by rw [HL.out];decide
   have hb2:63<l.length:=by rw [HL.out];decide
   have qa:=cell_regrown d1
   have qb:=cell_regrown d2
   have p0:=cell_regrown s0
   have p1:=cell_regrown s1
   have p2:=cell_regrown s2
   have p3:=cell_regrown s3
   have p4:=cell_regrown s4
   have p5:=cell_regrown s5
   clear hV hc1 hc2 hF7 x0 x1 x2 x3 x4 x5 x6 x7 xf d1 d2 s0 s1 s2 s3 s4 s5
   cases pb with
   | false =>
    have HC:Hid (ck=true):=Lib.hid HC0.out
    go_wp2_with fail
    rw [HV.out]
    refine wp_region_quiet_below (by kernel_rfl) (by kernel_rfl) ?_
    repeat (go_big_quiet_step (fail))
    refine wpQuiet_nil ?_
    rintro _ ⟨⟨dq,osq⟩,rfl⟩
    go_wp2
    go_roundw
    case rel=>exact ⟨3,by omega,by go_num,hnext.out HC.out,chain HBr.out (chain hVB.out (below_regrown _ dq osq))⟩
    case measure=>simp [intOf]
   | true =>
    by_cases hk1:xk=(-6)
    ·have e1:(xk == (-6))=true:=beq_iff_eq.2 hk1
     have e2:(xk != (-6))=false:=by simp [hk1]
     rw [e1] at HC0
     clear hk1 e1
     by_cases hk2:xr=(-4)
     ·have e3:(xr == (-4))=true:=beq_iff_eq.2 hk2
      have e4:(xr != (-4))=false:=by simp [hk2]
      rw [e3] at HC0
      clear hk2 e3
      have HC:Hid (ck=true):=Lib.hid HC0.out
      go_wp2_with fail
      rw [HV.out]
      refine wp_region_quiet_below (by kernel_rfl) (by kernel_rfl) ?_
      repeat (go_big_quiet_step (fail))
      refine wpQuiet_nil ?_
      rintro _ ⟨⟨dq,osq⟩,rfl⟩
      go_wp2
      go_roundw
      case rel=>exact ⟨3,by omega,by go_num,hnext.out HC.out,chain HBr.out (chain hVB.out (below_regrown _ dq osq))⟩
      case measure=>simp [intOf]
     ·have e3:(xr == (-4))=false:=beq_eq_false_iff_ne.2 hk2
      have e4:(xr != (-4))=true:=bne_iff_ne.2 hk2
      rw [e3] at HC0
      clear hk2 e3
      have HC:Hid (ck=false):=Lib.hid HC0.out
      go_wp2_with fail
      rw [HV.out]
      refine wp_region_quiet_below (by kernel_rfl) (by kernel_rfl) ?_
      repeat (go_big_quiet_step (fail))
      refine wpQuiet_nil ?_
      rintro _ ⟨⟨dq,osq⟩,rfl⟩
      go_wp2
      go_ret
      exact ⟨ret_bool (HFk.out HC.out).symm,chain hBr.out (chain hVB.out (below_regrown _ dq osq))⟩
    ·have e1:(xk == (-6))=false:=beq_eq_false_iff_ne.2 hk1
     have e2:(xk != (-6))=true:=bne_iff_ne.2 hk1
     rw [e1] at HC0
     clear hk1 e1
     have HC:Hid (ck=false):=Lib.hid HC0.out
     go_wp2_with fail
     rw [HV.out]
     refine wp_region_quiet_below (by kernel_rfl) (by kernel_rfl) ?_
     repeat (go_big_quiet_step (fail))
     refine wpQuiet_nil ?_
     rintro _ ⟨⟨dq,osq⟩,rfl⟩
     go_wp2
     go_ret
     exact ⟨ret_bool (HFk.out HC.out).symm,chain hBr.out (chain hVB.out (below_regrown _ dq osq))⟩
  ·have hc1:=hR7.at_ (k:=60) (by rw [HL.out];decide)
   have hc2:=hR7.at_ (k:=56) (by rw [HL.out];decide)
   obtain ⟨a1,ea1,_,hc1⟩:=hc1
   obtain ⟨a2,ea2,_,hc2⟩:=hc2
   obtain rfl:=Option.some.inj ea1
   obtain rfl:=Option.some.inj ea2
   have HC0:=Lib.hid (show casK 8 8 l ca 3=(!poBit ca (bitK 3) || (l[60]?.getD 0 == (-6) && l[56]?.getD 0 == (-4))) from rfl)
   have hab:(bits .and .u8 (ca:Int) 8 != 0)=poBit ca (bitK 3):=HA.out 3 (by decide)
   have hnext:Hid (casK 8 8 l ca 3=true->∀ j,j<4->casK 8 8 l ca j=true):=Lib.hid fun h j hj=>by
    rcases Nat.lt_or_ge j 3 with hj2 | hj2
    ·exact hgood j hj2
    ·have:j=3:=by omega
     subst this;exact h
   have HFk:=Lib.hid (fun h=>HF.out 3 (by decide) h)
   clear hgood ea1 ea2 hR7
   have hVB:=Lib.hid (box1 wr (.cells #[.int .u8 8,.int .u8 113,.int .i8 (-6),.int .i8 (-4),.int .i64 60,.int .i64 56] 190))
   have hX8:=hF7.below hVB.out hF7.lt
   have d1:=alive (.cells #[.int .u8 8,.int .u8 113,.int .i8 (-6),.int .i8 (-4),.int .i64 60,.int .i64 56] 190) hc1
   have d2:=alive (.cells #[.int .u8 8,.int .u8 113,.int .i8 (-6),.int .i8 (-4),.int .i64 60,.int .i64 56] 190) hc2
   obtain ⟨V,hV⟩:∃ V,wr.alloc (.cells #[.int .u8 8,.int .u8 113,.int .i8 (-6),.int .i8 (-4),.int .i64 60,.int .i64 56] 190)=V:=⟨_,rfl⟩
   have s0:V.cell? ⟨wr.heap.size,0,none⟩=some (.int .u8 8):=by rw [<- hV];simp [go_sem]
   have s1:V.cell? ⟨wr.heap.size,1,none⟩=some (.int .u8 113):=by rw [<- hV];simp [go_sem]
   have s2:V.cell? ⟨wr.heap.size,2,none⟩=some (.int .i8 (-6)):=by rw [<- hV];simp [go_sem]
   have s3:V.cell? ⟨wr.heap.size,3,none⟩=some (.int .i8 (-4)):=by rw [<- hV];simp [go_sem]
   have s4:V.cell? ⟨wr.heap.size,4,none⟩=some (.int .i64 60):=by rw [<- hV];simp [go_sem]
   have s5:V.cell? ⟨wr.heap.size,5,none⟩=some (.int .i64 56):=by rw [<- hV];simp [go_sem]
   rw [hV] at hX8 d1 d2 hVB
   have HV:=Lib.hid hV
   obtain ⟨⟨x0,x1,x2,x3,x4,x5,x6,x7⟩,xf⟩:=hX8
   generalize casK 8 8 l ca 3=ck at *
   generalize poBit ca (bitK 3)=pb at *
   generalize l[60]?.getD 0=xk at *
   generalize l[56]?.getD 0=xr at *
   have q2:=cell_regrown x2
   have q4:=cell_regrown x4
   rw [show ad.add 60=(⟨ad.block,ad.off+60,none⟩:Addr) by simp [Addr.add]] at d1
   rw [show ad.add 56=(⟨ad.block,ad.off+56,none⟩:Addr) by simp [Addr.add]] at d2
   have hb1:60<l.length:=by rw [HL.out];decide
   have hb2:56<l.length:=by rw [HL.out];decide
   have qa:=cell_regrown d1
   have qb:=cell_regrown d2
   have p0:=cell_regrown s0
   have p1:=cell_regrown s1
   have p2:=cell_regrown s2
   have p3:=cell_regrown s3
   have p4:=cell_regrown s4
   have p5:=cell_regrown s5
   clear hV hc1 hc2 hF7 x0 x1 x2 x3 x4 x5 x6 x7 xf d1 d2 s0 s1 s2 s3 s4 s5
   cases pb with
   | false =>
    have HC:Hid (ck=true):=Lib.hid HC0.out
    go_wp2_with fail
    rw [HV.out]
    refine wp_region_quiet_below (by kernel_rfl) (by kernel_rfl) ?_
    repeat (go_big_quiet_step (fail))
    refine wpQuiet_nil ?_
    rintro _ ⟨⟨dq,osq⟩,rfl⟩
    go_wp2
    go_roundw
    case rel=>exact ⟨4,by omega,by go_num,hnext.out HC.out,chain HBr.out (chain hVB.out (below_regrown _ dq osq))⟩
    case measure=>simp [intOf]
   | true =>
    by_cases hk1:xk=(-6)
    ·have e1:(xk == (-6))=true:=beq_iff_eq.2 hk1
     have e2:(xk != (-6))=false:=by simp [hk1]
     rw [e1] at HC0
     clear hk1 e1
     by_cases hk2:xr=(-4)
     ·have e3:(xr == (-4))=true:=beq_iff_eq.2 hk2
      have e4:(xr != (-4))=false:=by simp [hk2]
      rw [e3] at HC0
      clear hk2 e3
      have HC:Hid (ck=true):=Lib.hid HC0.out
      go_wp2_with fail
      rw [HV.out]
      refine wp_region_quiet_below (by kernel_rfl) (by kernel_rfl) ?_
      repeat (go_big_quiet_step (fail))
      refine wpQuiet_nil ?_
      rintro _ ⟨⟨dq,osq⟩,rfl⟩
      go_wp2
      go_roundw
      case rel=>exact ⟨4,by omega,by go_num,hnext.out HC.out,chain HBr.out (chain hVB.out (below_regrown _ dq osq))⟩
      case measure=>simp [intOf]
     ·have e3:(xr == (-4))=false:=beq_eq_false_iff_ne.2 hk2
      have e4:(xr != (-4))=true:=bne_iff_ne.2 hk2
      rw [e3] at HC0
      clear hk2 e3
      have HC:Hid (ck=false):=Lib.hid HC0.out
      go_wp2_with fail
      rw [HV.out]
      refine wp_region_quiet_below (by kernel_rfl) (by kernel_rfl) ?_
      repeat (go_big_quiet_step (fail))
      refine wpQuiet_nil ?_
      rintro _ ⟨⟨dq,osq⟩,rfl⟩
      go_wp2
      go_ret
      exact ⟨ret_bool (HFk.out HC.out).symm,chain hBr.out (chain hVB.out (below_regrown _ dq osq))⟩
    ·have e1:(xk == (-6))=false:=beq_eq_false_iff_ne.2 hk1
     have e2:(xk != (-6))=true:=bne_iff_ne.2 hk1
     rw [e1] at HC0
     clear hk1 e1
     have HC:Hid (ck=false):=Lib.hid HC0.out
     go_wp2_with fail
     rw [HV.out]
     refine wp_region_quiet_below (by kernel_rfl) (by kernel_rfl) ?_
     repeat (go_big_quiet_step (fail))
     refine wpQuiet_nil ?_
     rintro _ ⟨⟨dq,osq⟩,rfl⟩
     go_wp2
     go_ret
     exact ⟨ret_bool (HFk.out HC.out).symm,chain hBr.out (chain hVB.out (below_regrown _ dq osq))⟩
  ·have he:=Lib.hid (HK.out hgood)
   clear hgood
   go_wp2
   go_ret
   exact ⟨ret_bool he.out.symm,hBr.out⟩
theorem pCas_any (F R:Int) (l:List Int) (A:Option Addr) (c:Nat) (bl:Bool) (ca:Nat) (ps ha fu:Int) (hca:ca<256) (hl:F=8->R=8->l.length=64) (w:World) (hT:Rts w) (hA:RdP w w.heap.size A l c) :
  Calls Tryz.prog 100 #[.agg #[.int .i64 F,.int .i64 R,.slice A l.length c,.bool bl,.int .u8 (ca:Int),.int .i64 ps,.int .i64 ha,.int .i64 fu]] w fun e w'=>e=.returned (.bool (poCas F R l ca))/\Below w.heap.size w w':=by
 by_cases h0:ca=0
 ·subst h0
  rw [cas_zero]
  clear hA hT hl
  go_enter Tryz.func100,Tryz.ntmps100
  go_wp2
  go_ret
  exact ⟨rfl,box1 _ _⟩
 ·have e0:((ca:Int) == 0)=false:=beq_eq_false_iff_ne.2 (by omega)
  by_cases h15:ca<=15
  ·by_cases h8:F=8/\R=8
   ·obtain ⟨rfl,rfl⟩:=h8
    exact pCas_in l A c bl ca ps ha fu h0 h15 (hl rfl rfl) w hT hA
   ·have e15:¬ 15<(ca:Int):=by omega
    rw [cas_size h15 h0 h8]
    clear hA hT hl h15
    by_cases hF:F=8
    ·subst hF
     have hR:¬ R=8:=fun e=>h8 ⟨rfl,e⟩
     clear h8
     go_enter Tryz.func100,Tryz.ntmps100
     go_wp2
     go_ret
     exact ⟨rfl,box1 _ _⟩
    ·clear h8
     go_enter Tryz.func100,Tryz.ntmps100
     go_wp2
     go_ret
     exact ⟨rfl,box1 _ _⟩
  ·have e15:15<(ca:Int):=by omega
   have e2:poCas F R l ca=false:=by unfold poCas;rw [decide_eq_false h15];rfl
   rw [e2]
   clear hA hT hl h15 e2
   go_enter Tryz.func100,Tryz.ntmps100
   go_wp2
   go_ret
   exact ⟨rfl,box1 _ _⟩
end Go.Proofs.YtbccbgonlmkpkaaGreatDoor
