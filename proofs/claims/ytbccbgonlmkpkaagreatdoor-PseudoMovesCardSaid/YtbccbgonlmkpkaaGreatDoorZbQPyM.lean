/- What the theorem needs, piece ZbQPyM. -/
import Derived.Laws.AppendOwnNone
import Derived.Test.YtbccbgonlmkpkaaGreatDoorZb09
import Derived.Test.YtbccbgonlmkpkaaGreatDoorZb43
import Derived.Test.YtbccbgonlmkpkaaGreatDoorZb41
set_option linter.unusedSimpArgs false
set_option linter.unusedVariables false
set_option maxRecDepth 100000
set_option maxHeartbeats 16000000
namespace Go.Proofs.YtbccbgonlmkpkaaGreatDoor
open Go.RowKit Go.Sort
theorem Bx8.grown {W W':World} {b:Nat} {F R:Int} {v:Value} {bl:Bool} {ca:Nat} {ps ha fu:Int} (h:Bx8 W b F R v bl ca ps ha fu) (hg:W.drew.grownBy W' none) (hb:b<W.heap.size):Bx8 W' b F R v bl ca ps ha fu:=by
 obtain ⟨q,f⟩:=bgrown hg rfl
 have q':∀ o,W'.cell? ⟨b,o,none⟩=W.cell? ⟨b,o,none⟩:=fun o=>q b o hb
 have f':∀ o,W'.frozen? ⟨b,o,none⟩=W.frozen? ⟨b,o,none⟩:=fun o=>f b o hb
 unfold Bx8
 simp only [q',f']
 exact h
theorem rCopyP_any (F R:Int) (l:List Int) (A:Option Addr) (c:Nat) (bl:Bool) (ca:Nat) (ps ha fu:Int) (w:World) (hlen:l.length<=100000) (hA:RdP w w.heap.size A l c) :
  Calls Tryz.prog 14 #[.agg #[.int .i64 F,.int .i64 R,.slice A l.length c,.bool bl,.int .u8 (ca:Int),.int .i64 ps,.int .i64 ha,.int .i64 fu]] w (NewP w F R l bl ca ps ha fu):=by
 obtain ⟨i0,hi,hz0,hz1,hz2⟩:=info_parts infoPc
 have HX:=Lib.hid ((box8 w F R (.slice A l.length c) bl ca ps ha fu).below (box1 (w.alloc (.cells #[.int .i64 F,.int .i64 R,.slice A l.length c,.bool bl,.int .u8 (ca:Int),.int .i64 ps,.int .i64 ha,.int .i64 fu] 26)) (.cells #[.int .i64 0,.int .i64 0,.slice none 0 0,.bool false,.int .u8 0,.int .i64 0,.int .i64 0,.int .i64 0] 26)) (by simp))
 have HZ:=Lib.hid (show Bx8 ((w.alloc (.cells #[.int .i64 F,.int .i64 R,.slice A l.length c,.bool bl,.int .u8 (ca:Int),.int .i64 ps,.int .i64 ha,.int .i64 fu] 26)).alloc (.cells #[.int .i64 0,.int .i64 0,.slice none 0 0,.bool false,.int .u8 0,.int .i64 0,.int .i64 0,.int .i64 0] 26)) (w.alloc (.cells #[.int .i64 F,.int .i64 R,.slice A l.length c,.bool bl,.int .u8 (ca:Int),.int .i64 ps,.int .i64 ha,.int .i64 fu] 26)).heap.size 0 0 (.slice none 0 0) false 0 0 0 0 from box8 (w.alloc (.cells #[.int .i64 F,.int .i64 R,.slice A l.length c,.bool bl,.int .u8 (ca:Int),.int .i64 ps,.int .i64 ha,.int .i64 fu] 26)) 0 0 (.slice none 0 0) false 0 0 0 0)
 have HA:=Lib.hid (rdBo (box1 (w.alloc (.cells #[.int .i64 F,.int .i64 R,.slice A l.length c,.bool bl,.int .u8 (ca:Int),.int .i64 ps,.int .i64 ha,.int .i64 fu] 26)) (.cells #[.int .i64 0,.int .i64 0,.slice none 0 0,.bool false,.int .u8 0,.int .i64 0,.int .i64 0,.int .i64 0] 26)) (rdBo (box1 w (.cells #[.int .i64 F,.int .i64 R,.slice A l.length c,.bool bl,.int .u8 (ca:Int),.int .i64 ps,.int .i64 ha,.int .i64 fu] 26)) hA))
 have hown0:=World.ownsRow_nil ((w.alloc (.cells #[.int .i64 F,.int .i64 R,.slice A l.length c,.bool bl,.int .u8 (ca:Int),.int .i64 ps,.int .i64 ha,.int .i64 fu] 26)).alloc (.cells #[.int .i64 0,.int .i64 0,.slice none 0 0,.bool false,.int .u8 0,.int .i64 0,.int .i64 0,.int .i64 0] 26)) (w.heap.size+2) 28 1
 go_enter Tryz.func14,Tryz.ntmps14
 cases A with
 | none =>
  obtain ⟨h0,rfl⟩:=hA.1 rfl
  obtain rfl:=List.eq_nil_of_length_eq_zero h0
  clear hA h0
  go_wp2_with (at_builtin;(refine wpList_append_own_none rfl _ _ 24 rfl (w.heap.size+2) 28 i0 1 Tryz.underlying24 hi (.slice none 0 0) 0 [] rfl hown0 rfl ?_))
  refine bodyPost_ret (v:=.agg #[.int .i64 F,.int .i64 R,.slice none 0 0,.bool bl,.int .u8 (ca:Int),.int .i64 ps,.int .i64 ha,.int .i64 fu]) (by simp [results,Tryz.results14,go_sem]) rfl ⟨_,rfl,World.ownsRow_nil _ _ _ _,after1 (box1 _ _)⟩
 | some ad =>
  have hcells:=HA.out.cells ad rfl
  clear hA
  go_wp2_with (at_builtin;(refine wpList_append_own _ rfl _ _ 24 rfl (w.heap.size+2) 28 i0 (.int .i8 0) 1 1 Tryz.underlying24 hi hz0 hz1 hz2 rfl (by decide) _ _ _ rfl hown0 ad l.length c (vpcs l) rfl (by simp [vpcs_len]) ?c1 ?c2 ?c3 ?c4 ?c5 ?_))
  case c1=>exact hcells
  case c2=>exact vpcs_one
  case c3=>unfold maxLen;omega
  case c4=>omega
  case c5=>simp
  intro v' w1 hown hgrow _
  obtain ⟨A',c',rfl,_,_⟩:=RdP.own (l:=l) (by simpa using hown)
  have hbn:Below ((w.alloc (.cells #[.int .i64 F,.int .i64 R,.slice (some ad) l.length c,.bool bl,.int .u8 (ca:Int),.int .i64 ps,.int .i64 ha,.int .i64 fu] 26)).alloc (.cells #[.int .i64 0,.int .i64 0,.slice none 0 0,.bool false,.int .u8 0,.int .i64 0,.int .i64 0,.int .i64 0] 26)).heap.size ((w.alloc (.cells #[.int .i64 F,.int .i64 R,.slice (some ad) l.length c,.bool bl,.int .u8 (ca:Int),.int .i64 ps,.int .i64 ha,.int .i64 fu] 26)).alloc (.cells #[.int .i64 0,.int .i64 0,.slice none 0 0,.bool false,.int .u8 0,.int .i64 0,.int .i64 0,.int .i64 0] 26)) w1:=(Below.refl _ _).grown hgrow (by simp) (fun r e=>by simpa using (World.ownsRow.lt hown0 r e).1)
  obtain ⟨⟨x0,x1,x2,x3,x4,x5,x6,x7⟩,xf⟩:=HX.out.below hbn (by simp;omega)
  obtain ⟨⟨z0,z1,z2,z3,z4,z5,z6,z7⟩,zf⟩:=HZ.out.below hbn (by simp)
  simp only [World.size_alloc] at z0 z1 z2 z3 z4 z5 z6 z7 zf
  have hown2:=ownsRow_setCell_below (ownsRow_setCell_below (ownsRow_setCell_below (ownsRow_setCell_below (ownsRow_setCell_below (ownsRow_setCell_below (ownsRow_setCell_below (ownsRow_setCell_below (ownsRow_setCell_below (hown) (a:=⟨w.heap.size,2,none⟩) (by simp) (.slice A' l.length c')) (a:=⟨w.heap.size+1,0,none⟩) (by simp) (.int .i64 F)) (a:=⟨w.heap.size+1,1,none⟩) (by simp) (.int .i64 R)) (a:=⟨w.heap.size+1,2,none⟩) (by simp) (.slice A' l.length c')) (a:=⟨w.heap.size+1,3,none⟩) (by simp) (.bool bl)) (a:=⟨w.heap.size+1,4,none⟩) (by simp) (.int .u8 (ca:Int))) (a:=⟨w.heap.size+1,5,none⟩) (by simp) (.int .i64 ps)) (a:=⟨w.heap.size+1,6,none⟩) (by simp) (.int .i64 ha)) (a:=⟨w.heap.size+1,7,none⟩) (by simp) (.int .i64 fu)
  have hB:=(((((((((after2 hbn).setCell (p:=⟨w.heap.size,2,none⟩) (show w.heap.size<=w.heap.size by omega) (.slice A' l.length c')).setCell (p:=⟨w.heap.size+1,0,none⟩) (show w.heap.size<=w.heap.size+1 by omega) (.int .i64 F)).setCell (p:=⟨w.heap.size+1,1,none⟩) (show w.heap.size<=w.heap.size+1 by omega) (.int .i64 R)).setCell (p:=⟨w.heap.size+1,2,none⟩) (show w.heap.size<=w.heap.size+1 by omega) (.slice A' l.length c')).setCell (p:=⟨w.heap.size+1,3,none⟩) (show w.heap.size<=w.heap.size+1 by omega) (.bool bl)).setCell (p:=⟨w.heap.size+1,4,none⟩) (show w.heap.size<=w.heap.size+1 by omega) (.int .u8 (ca:Int))).setCell (p:=⟨w.heap.size+1,5,none⟩) (show w.heap.size<=w.heap.size+1 by omega) (.int .i64 ps)).setCell (p:=⟨w.heap.size+1,6,none⟩) (show w.heap.size<=w.heap.size+1 by omega) (.int .i64 ha)).setCell (p:=⟨w.heap.size+1,7,none⟩) (show w.heap.size<=w.heap.size+1 by omega) (.int .i64 fu)
  have HN:NewP w F R l bl ca ps ha fu (.returned (.agg #[.int .i64 F,.int .i64 R,.slice A' l.length c',.bool bl,.int .u8 (ca:Int),.int .i64 ps,.int .i64 ha,.int .i64 fu])) (((((((((w1.setCell ⟨w.heap.size,2,none⟩ (.slice A' l.length c')).setCell ⟨w.heap.size+1,0,none⟩ (.int .i64 F)).setCell ⟨w.heap.size+1,1,none⟩ (.int .i64 R)).setCell ⟨w.heap.size+1,2,none⟩ (.slice A' l.length c')).setCell ⟨w.heap.size+1,3,none⟩ (.bool bl)).setCell ⟨w.heap.size+1,4,none⟩ (.int .u8 (ca:Int))).setCell ⟨w.heap.size+1,5,none⟩ (.int .i64 ps)).setCell ⟨w.heap.size+1,6,none⟩ (.int .i64 ha)).setCell ⟨w.heap.size+1,7,none⟩ (.int .i64 fu)):=⟨_,rfl,hown2.mono (by omega),hB⟩
  have HN:=Lib.hid HN
  clear hown hown2 hB hbn HX HZ
  go_wp2
  refine bodyPost_ret (v:=(.agg #[.int .i64 F,.int .i64 R,.slice A' l.length c',.bool bl,.int .u8 (ca:Int),.int .i64 ps,.int .i64 ha,.int .i64 fu])) ?_ rfl HN.out
  simp [results,Tryz.results14,go_sem,z0,z1,z2,z3,z4,z5,z6,z7]
end Go.Proofs.YtbccbgonlmkpkaaGreatDoor
namespace Go.Proofs.YtbccbgonlmkpkaaGreatDoor
open Go.RowKit Go.Sort
theorem poEq_me (p:Po):poEq p p=true:=by simp [poEq,poSm,bdS]
theorem pmov_law (F R:Int) (l:List Int) (A:Option Addr) (c:Nat) (bl:Bool) (ca:Nat) (ps ha fu:Int) (at_:Int) (hca:ca<256) (hcap:l.length<=c) (w:World) (hT:T8 w) (hA:RdP w w.heap.size A l c) :
  Calls Tryz.prog 8 #[.agg #[.int .i64 F,.int .i64 R,.slice A l.length c,.bool bl,.int .u8 (ca:Int),.int .i64 ps,.int .i64 ha,.int .i64 fu],.int .i64 at_] w fun e w'=>e=.returned (.bool true)/\Below w.heap.size w w':=by
 have B1:=box1 (w) (.cells #[.int .i64 F,.int .i64 R,.slice A l.length c,.bool bl,.int .u8 (ca:Int),.int .i64 ps,.int .i64 ha,.int .i64 fu] 26)
 have hHP:=Bxs.new (w) [.int .i64 F,.int .i64 R,.slice A l.length c,.bool bl,.int .u8 (ca:Int),.int .i64 ps,.int .i64 ha,.int .i64 fu] 26
 have HP0:=Lib.hid (hHP)
 have hB:=B1
 have HB0:Hid (Bw w (w.alloc (.cells #[.int .i64 F,.int .i64 R,.slice A l.length c,.bool bl,.int .u8 (ca:Int),.int .i64 ps,.int .i64 ha,.int .i64 fu] 26))):=Lib.hid hB
 have HA0:=Lib.hid (rdBo hB hA)
 have HT0:=Lib.hid (hT.below hB)
 clear hB B1 hHP hA hT
 go_enter Tryz.func8,Tryz.ntmps8
 go_upto_region 1 with fail
 generalize w.alloc (.cells #[.int .i64 F,.int .i64 R,.slice A l.length c,.bool bl,.int .u8 (ca:Int),.int .i64 ps,.int .i64 ha,.int .i64 fu] 26)=V at *
 by_cases hs:l.length<=64
 ·skip
  have HCO:=Lib.hid (fun w hA=>rCopyP_any F R l A c bl ca ps ha fu w (by omega) hA)
  have HVP:=Lib.hid (fun w hA=>rValid_any F R l A c bl ca ps ha fu hca (by omega) w hA)
  have HEQ:=Lib.hid (fun A2 c2 w hA2 hA=>rEqualP_any F R l A2 c2 bl ca ps ha fu F R l A c bl ca ps ha fu w (by omega) hA2 hA)
  simp only [poEq_me] at HEQ
  obtain ⟨p0,p1,p2,p3,p4,p5,p6,p7⟩:=HP0.out.h8
  go_wp2_with fail
  refine (small9_yes F R l A c bl ca ps ha fu hs _).mono ?_
  rintro e w1 ⟨rfl,hq⟩
  have HP_1:=Lib.hid (HP0.out.below hq HP0.out.lt)
  have HB_1:Hid (Bw w _):=Lib.hid (chain HB0.out hq)
  have HA_1:=Lib.hid (rdBo hq HA0.out)
  have HT_1:=Lib.hid (HT0.out.below hq)
  clear hq HP0 HB0 HA0 HT0 p0 p1 p2 p3 p4 p5 p6 p7
  obtain ⟨p0,p1,p2,p3,p4,p5,p6,p7⟩:=HP_1.out.h8
  go_wp2_with fail
  refine (HCO.out _ HA_1.out).mono ?_
  rintro e w2 ⟨v,rfl,hown,hq⟩
  obtain ⟨A2,c2,rfl,_,hrd⟩:=RdP.own hown
  clear hown HCO
  have HP_2:=Lib.hid (HP_1.out.below hq HP_1.out.lt)
  have HB_2:Hid (Bw w _):=Lib.hid (chain HB_1.out hq)
  have HA_2:=Lib.hid (rdBo hq HA_1.out)
  have HT_2:=Lib.hid (HT_1.out.below hq)
  clear hq HP_1 HB_1 HA_1 HT_1 p0 p1 p2 p3 p4 p5 p6 p7
  have HZ0:=Lib.hid hrd
  clear hrd
  go_upto_region 4 with fail
  have HO0:=Lib.hid (Bxs.new w2 [.int .i64 F,.int .i64 R,.slice A2 l.length c2,.bool bl,.int .u8 (ca:Int),.int .i64 ps,.int .i64 ha,.int .i64 fu] 26)
  have hq:=box1 w2 (.cells #[.int .i64 F,.int .i64 R,.slice A2 l.length c2,.bool bl,.int .u8 (ca:Int),.int .i64 ps,.int .i64 ha,.int .i64 fu] 26)
  generalize w2.alloc (.cells #[.int .i64 F,.int .i64 R,.slice A2 l.length c2,.bool bl,.int .u8 (ca:Int),.int .i64 ps,.int .i64 ha,.int .i64 fu] 26)=w3 at *
  have HP_3:=Lib.hid (HP_2.out.below hq HP_2.out.lt)
  have HB_3:Hid (Bw w _):=Lib.hid (chain HB_2.out hq)
  have HA_3:=Lib.hid (rdBo hq HA_2.out)
  have HT_3:=Lib.hid (HT_2.out.below hq)
  have HZ_3:=Lib.hid (rdBo hq HZ0.out)
  clear hq HP_2 HB_2 HA_2 HT_2 HZ0
  generalize w2.heap.size=go at *
  cases hok:okPo ⟨F,R,l,bl,ca,ps,ha,fu⟩
  ·skip
   have HM1:=Lib.hid (fun w hT hA=>qMov_no F R l A c bl ca ps ha fu hca (by omega) hcap hok w hT hA)
   have HF1:=Lib.hid (fun w hT hA=>qFrm_no F R l A c bl ca ps ha fu at_ hca (by omega) hcap hok w hT hA)
   rw [hok] at HVP
   clear hok
   obtain ⟨p0,p1,p2,p3,p4,p5,p6,p7⟩:=HP_3.out.h8
   go_wp2_with fail
   refine (HM1.out _ HT_3.out HA_3.out).mono ?_
   rintro e w4 ⟨rfl,hq⟩
   have HP_4:=Lib.hid (HP_3.out.below hq HP_3.out.lt)
   have HB_4:Hid (Bw w _):=Lib.hid (chain HB_3.out hq)
   have HA_4:=Lib.hid (rdBo hq HA_3.out)
   have HT_4:=Lib.hid (HT_3.out.below hq)
   have HZ_4:=Lib.hid (rdBo hq HZ_3.out)
   have HO_4:=Lib.hid (HO0.out.below hq HO0.out.lt)
   clear hq HP_3 HB_3 HA_3 HT_3 HZ_3 HO0 p0 p1 p2 p3 p4 p5 p6 p7
   obtain ⟨p0,p1,p2,p3,p4,p5,p6,p7⟩:=HP_4.out.h8
   go_wp2_with fail
   refine (HF1.out _ HT_4.out HA_4.out).mono ?_
   rintro e w5 ⟨rfl,hq⟩
   have HP_5:=Lib.hid (HP_4.out.below hq HP_4.out.lt)
   have HB_5:Hid (Bw w _):=Lib.hid (chain HB_4.out hq)
   have HA_5:=Lib.hid (rdBo hq HA_4.out)
   have HT_5:=Lib.hid (HT_4.out.below hq)
   have HZ_5:=Lib.hid (rdBo hq HZ_4.out)
   have HO_5:=Lib.hid (HO_4.out.below hq HO_4.out.lt)
   clear hq HP_4 HB_4 HA_4 HT_4 HZ_4 HO_4 p0 p1 p2 p3 p4 p5 p6 p7
   obtain ⟨p0,p1,p2,p3,p4,p5,p6,p7⟩:=HP_5.out.h8
   obtain ⟨o0,o1,o2,o3,o4,o5,o6,o7⟩:=HO_5.out.h8
   go_wp2_with fail
   refine (HEQ.out _ _ _ HZ_5.out HA_5.out).mono ?_
   rintro e w6 ⟨rfl,hq⟩
   have HP_6:=Lib.hid (HP_5.out.below hq HP_5.out.lt)
   have HB_6:Hid (Bw w _):=Lib.hid (chain HB_5.out hq)
   have HA_6:=Lib.hid (rdBo hq HA_5.out)
   have HT_6:=Lib.hid (HT_5.out.below hq)
   have HZ_6:=Lib.hid (rdBo hq HZ_5.out)
   have HO_6:=Lib.hid (HO_5.out.below hq HO_5.out.lt)
   clear hq HP_5 HB_5 HA_5 HT_5 HZ_5 HO_5 p0 p1 p2 p3 p4 p5 p6 p7 o0 o1 o2 o3 o4 o5 o6 o7
   obtain ⟨p0,p1,p2,p3,p4,p5,p6,p7⟩:=HP_6.out.h8
   go_wp2_with fail
   refine (HVP.out _ HA_6.out).mono ?_
   rintro e w7 ⟨rfl,hq⟩
   have HP_7:=Lib.hid (HP_6.out.below hq HP_6.out.lt)
   have HB_7:Hid (Bw w _):=Lib.hid (chain HB_6.out hq)
   have HA_7:=Lib.hid (rdBo hq HA_6.out)
   have HT_7:=Lib.hid (HT_6.out.below hq)
   have HZ_7:=Lib.hid (rdBo hq HZ_6.out)
   have HO_7:=Lib.hid (HO_6.out.below hq HO_6.out.lt)
   clear hq HP_6 HB_6 HA_6 HT_6 HZ_6 HO_6 p0 p1 p2 p3 p4 p5 p6 p7
   go_wp2_with fail
   refine (known9_any _ HT_7.out).mono ?_
   rintro e wk ⟨rfl,hq⟩
   have hBk:=chain HB_7.out hq
   clear hq
   go_wp2
   go_ret
   exact ⟨rfl,hBk⟩
  ·skip
   have hp:OkP ⟨F,R,l,bl,ca,ps,ha,fu⟩:=(okPo_iff _).1 hok
   have HM1:=Lib.hid (fun w hT hA=>qMov_yes F R l A c bl ca ps ha fu hca (by omega) hcap hok w after_c hT hA)
   have HRM:=Lib.hid (fun w hA=>rMov9_any F R l A c bl ca ps ha fu hp w hA)
   have HLL:=psdL_len (p:=⟨F,R,l,bl,ca,ps,ha,fu⟩) hs
   have HLF:∀ a,(psdF ⟨F,R,l,bl,ca,ps,ha,fu⟩ a).length<=320:=fun a=>by have h1:(psdF ⟨F,R,l,bl,ca,ps,ha,fu⟩ a).length<=5 * l.length:=psdF_len ⟨F,R,l,bl,ca,ps,ha,fu⟩ a;omega
   replace HLF:=Lib.hid HLF
   replace HLL:=Lib.hid HLL
   rw [hok] at HVP
   obtain ⟨p0,p1,p2,p3,p4,p5,p6,p7⟩:=HP_3.out.h8
   go_wp2_with fail
   refine (HM1.out _ HT_3.out HA_3.out).mono ?_
   rintro e w4 ⟨v,rfl,hown,hq⟩
   obtain ⟨AL1,cL1,rfl,_,hrd⟩:=RdM.own hown
   clear hown
   have HP_4:=Lib.hid (HP_3.out.below hq HP_3.out.lt)
   have HB_4:Hid (Bw w _):=Lib.hid (chain HB_3.out hq)
   have HA_4:=Lib.hid (rdBo hq HA_3.out)
   have HT_4:=Lib.hid (HT_3.out.below hq)
   have HZ_4:=Lib.hid (rdBo hq HZ_3.out)
   have HO_4:=Lib.hid (HO0.out.below hq HO0.out.lt)
   clear hq HP_3 HB_3 HA_3 HT_3 HZ_3 HO0 p0 p1 p2 p3 p4 p5 p6 p7
   have HL10:=Lib.hid hrd
   clear hrd
   by_cases hat:vat F R at_
   ·skip
    have HF1:=Lib.hid (fun w hT hA=>qFrm_yes F R l A c bl ca ps ha fu at_ hca (by omega) hcap hok hat w after_c hT hA)
    have HRF:=Lib.hid (fun w hA=>rFrm9_any F R l A c bl ca ps ha fu at_ hp hat w hA)
    have HSV:=Lib.hid (fun w=>refValid_yes F R at_ hat w)
    clear hat
    obtain ⟨p0,p1,p2,p3,p4,p5,p6,p7⟩:=HP_4.out.h8
    go_wp2_with fail
    refine (HF1.out _ HT_4.out HA_4.out).mono ?_
    rintro e w5 ⟨v,rfl,hown,hq⟩
    obtain ⟨AL2,cL2,rfl,_,hrd⟩:=RdM.own hown
    clear hown
    have HP_5:=Lib.hid (HP_4.out.below hq HP_4.out.lt)
    have HB_5:Hid (Bw w _):=Lib.hid (chain HB_4.out hq)
    have HA_5:=Lib.hid (rdBo hq HA_4.out)
    have HT_5:=Lib.hid (HT_4.out.below hq)
    have HZ_5:=Lib.hid (rdBo hq HZ_4.out)
    have HO_5:=Lib.hid (HO_4.out.below hq HO_4.out.lt)
    have HL1_5:=Lib.hid (rdMv hq HL10.out)
    clear hq HP_4 HB_4 HA_4 HT_4 HZ_4 HO_4 HL10 p0 p1 p2 p3 p4 p5 p6 p7
    have HL20:=Lib.hid hrd
    clear hrd
    obtain ⟨p0,p1,p2,p3,p4,p5,p6,p7⟩:=HP_5.out.h8
    obtain ⟨o0,o1,o2,o3,o4,o5,o6,o7⟩:=HO_5.out.h8
    go_wp2_with fail
    refine (HEQ.out _ _ _ HZ_5.out HA_5.out).mono ?_
    rintro e w6 ⟨rfl,hq⟩
    have HP_6:=Lib.hid (HP_5.out.below hq HP_5.out.lt)
    have HB_6:Hid (Bw w _):=Lib.hid (chain HB_5.out hq)
    have HA_6:=Lib.hid (rdBo hq HA_5.out)
    have HT_6:=Lib.hid (HT_5.out.below hq)
    have HZ_6:=Lib.hid (rdBo hq HZ_5.out)
    have HO_6:=Lib.hid (HO_5.out.below hq HO_5.out.lt)
    have HL1_6:=Lib.hid (rdMv hq HL1_5.out)
    have HL2_6:=Lib.hid (rdMv hq HL20.out)
    clear hq HP_5 HB_5 HA_5 HT_5 HZ_5 HO_5 HL1_5 HL20 p0 p1 p2 p3 p4 p5 p6 p7 o0 o1 o2 o3 o4 o5 o6 o7
    obtain ⟨p0,p1,p2,p3,p4,p5,p6,p7⟩:=HP_6.out.h8
    go_wp2_with fail
    refine (HVP.out _ HA_6.out).mono ?_
    rintro e w7 ⟨rfl,hq⟩
    have HP_7:=Lib.hid (HP_6.out.below hq HP_6.out.lt)
    have HB_7:Hid (Bw w _):=Lib.hid (chain HB_6.out hq)
    have HA_7:=Lib.hid (rdBo hq HA_6.out)
    have HT_7:=Lib.hid (HT_6.out.below hq)
    have HZ_7:=Lib.hid (rdBo hq HZ_6.out)
    have HO_7:=Lib.hid (HO_6.out.below hq HO_6.out.lt)
    have HL1_7:=Lib.hid (rdMv hq HL1_6.out)
    have HL2_7:=Lib.hid (rdMv hq HL2_6.out)
    clear hq HP_6 HB_6 HA_6 HT_6 HZ_6 HO_6 HL1_6 HL2_6 p0 p1 p2 p3 p4 p5 p6 p7
    obtain ⟨p0,p1,p2,p3,p4,p5,p6,p7⟩:=HP_7.out.h8
    go_wp2_with fail
    refine (HRM.out _ HA_7.out).mono ?_
    rintro e w8 ⟨v,rfl,hown,hq⟩
    obtain ⟨AL3,cL3,rfl,_,hrd⟩:=RdM.own hown
    clear hown
    have HP_8:=Lib.hid (HP_7.out.below hq HP_7.out.lt)
    have HB_8:Hid (Bw w _):=Lib.hid (chain HB_7.out hq)
    have HA_8:=Lib.hid (rdBo hq HA_7.out)
    have HT_8:=Lib.hid (HT_7.out.below hq)
    have HZ_8:=Lib.hid (rdBo hq HZ_7.out)
    have HO_8:=Lib.hid (HO_7.out.below hq HO_7.out.lt)
    have HL1_8:=Lib.hid (rdMv hq HL1_7.out)
    have HL2_8:=Lib.hid (rdMv hq HL2_7.out)
    clear hq HP_7 HB_7 HA_7 HT_7 HZ_7 HO_7 HL1_7 HL2_7 p0 p1 p2 p3 p4 p5 p6 p7
    have HL30:=Lib.hid hrd
    clear hrd
    go_wp2_with fail
    refine (rmSame_eq (psdL ⟨F,R,l,bl,ca,ps,ha,fu⟩) _ _ _ _ (by have:=HLL.out;omega) _ HL1_8.out HL30.out).mono ?_
    rintro e w9 ⟨rfl,hq⟩
    have HP_9:=Lib.hid (HP_8.out.below hq HP_8.out.lt)
    have HB_9:Hid (Bw w _):=Lib.hid (chain HB_8.out hq)
    have HA_9:=Lib.hid (rdBo hq HA_8.out)
    have HT_9:=Lib.hid (HT_8.out.below hq)
    have HZ_9:=Lib.hid (rdBo hq HZ_8.out)
    have HO_9:=Lib.hid (HO_8.out.below hq HO_8.out.lt)
    have HL1_9:=Lib.hid (rdMv hq HL1_8.out)
    have HL2_9:=Lib.hid (rdMv hq HL2_8.out)
    have HL3_9:=Lib.hid (rdMv hq HL30.out)
    clear hq HP_8 HB_8 HA_8 HT_8 HZ_8 HO_8 HL1_8 HL2_8 HL30
    obtain ⟨p0,p1⟩:=HP_9.out.h2
    go_wp2_with fail
    refine (HSV.out _).mono ?_
    rintro e w10 ⟨rfl,hq⟩
    have HP_10:=Lib.hid (HP_9.out.below hq HP_9.out.lt)
    have HB_10:Hid (Bw w _):=Lib.hid (chain HB_9.out hq)
    have HA_10:=Lib.hid (rdBo hq HA_9.out)
    have HT_10:=Lib.hid (HT_9.out.below hq)
    have HZ_10:=Lib.hid (rdBo hq HZ_9.out)
    have HO_10:=Lib.hid (HO_9.out.below hq HO_9.out.lt)
    have HL1_10:=Lib.hid (rdMv hq HL1_9.out)
    have HL2_10:=Lib.hid (rdMv hq HL2_9.out)
    have HL3_10:=Lib.hid (rdMv hq HL3_9.out)
    clear hq HP_9 HB_9 HA_9 HT_9 HZ_9 HO_9 HL1_9 HL2_9 HL3_9 p0 p1
    obtain ⟨p0,p1,p2,p3,p4,p5,p6,p7⟩:=HP_10.out.h8
    go_wp2_with fail
    refine (HRF.out _ HA_10.out).mono ?_
    rintro e w11 ⟨v,rfl,hown,hq⟩
    obtain ⟨AL4,cL4,rfl,_,hrd⟩:=RdM.own hown
    clear hown
    have HP_11:=Lib.hid (HP_10.out.below hq HP_10.out.lt)
    have HB_11:Hid (Bw w _):=Lib.hid (chain HB_10.out hq)
    have HA_11:=Lib.hid (rdBo hq HA_10.out)
    have HT_11:=Lib.hid (HT_10.out.below hq)
    have HZ_11:=Lib.hid (rdBo hq HZ_10.out)
    have HO_11:=Lib.hid (HO_10.out.below hq HO_10.out.lt)
    have HL1_11:=Lib.hid (rdMv hq HL1_10.out)
    have HL2_11:=Lib.hid (rdMv hq HL2_10.out)
    have HL3_11:=Lib.hid (rdMv hq HL3_10.out)
    clear hq HP_10 HB_10 HA_10 HT_10 HZ_10 HO_10 HL1_10 HL2_10 HL3_10 p0 p1 p2 p3 p4 p5 p6 p7
    have HL40:=Lib.hid hrd
    clear hrd
    go_wp2_with fail
    refine (rmSame_eq (psdF ⟨F,R,l,bl,ca,ps,ha,fu⟩ at_) _ _ _ _ (by have:=HLF.out at_;omega) _ HL2_11.out HL40.out).mono ?_
    rintro e w12 ⟨rfl,hq⟩
    have HP_12:=Lib.hid (HP_11.out.below hq HP_11.out.lt)
    have HB_12:Hid (Bw w _):=Lib.hid (chain HB_11.out hq)
    have HA_12:=Lib.hid (rdBo hq HA_11.out)
    have HT_12:=Lib.hid (HT_11.out.below hq)
    have HZ_12:=Lib.hid (rdBo hq HZ_11.out)
    have HO_12:=Lib.hid (HO_11.out.below hq HO_11.out.lt)
    have HL1_12:=Lib.hid (rdMv hq HL1_11.out)
    have HL2_12:=Lib.hid (rdMv hq HL2_11.out)
    have HL3_12:=Lib.hid (rdMv hq HL3_11.out)
    have HL4_12:=Lib.hid (rdMv hq HL40.out)
    clear hq HP_11 HB_11 HA_11 HT_11 HZ_11 HO_11 HL1_11 HL2_11 HL3_11 HL40
    go_wp2_with fail
    refine (known9_any _ HT_12.out).mono ?_
    rintro e wk ⟨rfl,hq⟩
    have hBk:=chain HB_12.out hq
    clear hq
    go_wp2
    go_ret
    exact ⟨rfl,hBk⟩
   ·skip
    have HF1:=Lib.hid (fun w hT hA=>qFrm_off F R l A c bl ca ps ha fu at_ hca (by omega) hcap hok hat w hT hA)
    have HSV:=Lib.hid (fun w=>refValid_no F R at_ hat w)
    clear hat
    obtain ⟨p0,p1,p2,p3,p4,p5,p6,p7⟩:=HP_4.out.h8
    go_wp2_with fail
    refine (HF1.out _ HT_4.out HA_4.out).mono ?_
    rintro e w5 ⟨rfl,hq⟩
    have HP_5:=Lib.hid (HP_4.out.below hq HP_4.out.lt)
    have HB_5:Hid (Bw w _):=Lib.hid (chain HB_4.out hq)
    have HA_5:=Lib.hid (rdBo hq HA_4.out)
    have HT_5:=Lib.hid (HT_4.out.below hq)
    have HZ_5:=Lib.hid (rdBo hq HZ_4.out)
    have HO_5:=Lib.hid (HO_4.out.below hq HO_4.out.lt)
    have HL1_5:=Lib.hid (rdMv hq HL10.out)
    clear hq HP_4 HB_4 HA_4 HT_4 HZ_4 HO_4 HL10 p0 p1 p2 p3 p4 p5 p6 p7
    obtain ⟨p0,p1,p2,p3,p4,p5,p6,p7⟩:=HP_5.out.h8
    obtain ⟨o0,o1,o2,o3,o4,o5,o6,o7⟩:=HO_5.out.h8
    go_wp2_with fail
    refine (HEQ.out _ _ _ HZ_5.out HA_5.out).mono ?_
    rintro e w6 ⟨rfl,hq⟩
    have HP_6:=Lib.hid (HP_5.out.below hq HP_5.out.lt)
    have HB_6:Hid (Bw w _):=Lib.hid (chain HB_5.out hq)
    have HA_6:=Lib.hid (rdBo hq HA_5.out)
    have HT_6:=Lib.hid (HT_5.out.below hq)
    have HZ_6:=Lib.hid (rdBo hq HZ_5.out)
    have HO_6:=Lib.hid (HO_5.out.below hq HO_5.out.lt)
    have HL1_6:=Lib.hid (rdMv hq HL1_5.out)
    clear hq HP_5 HB_5 HA_5 HT_5 HZ_5 HO_5 HL1_5 p0 p1 p2 p3 p4 p5 p6 p7 o0 o1 o2 o3 o4 o5 o6 o7
    obtain ⟨p0,p1,p2,p3,p4,p5,p6,p7⟩:=HP_6.out.h8
    go_wp2_with fail
    refine (HVP.out _ HA_6.out).mono ?_
    rintro e w7 ⟨rfl,hq⟩
    have HP_7:=Lib.hid (HP_6.out.below hq HP_6.out.lt)
    have HB_7:Hid (Bw w _):=Lib.hid (chain HB_6.out hq)
    have HA_7:=Lib.hid (rdBo hq HA_6.out)
    have HT_7:=Lib.hid (HT_6.out.below hq)
    have HZ_7:=Lib.hid (rdBo hq HZ_6.out)
    have HO_7:=Lib.hid (HO_6.out.below hq HO_6.out.lt)
    have HL1_7:=Lib.hid (rdMv hq HL1_6.out)
    clear hq HP_6 HB_6 HA_6 HT_6 HZ_6 HO_6 HL1_6 p0 p1 p2 p3 p4 p5 p6 p7
    obtain ⟨p0,p1,p2,p3,p4,p5,p6,p7⟩:=HP_7.out.h8
    go_wp2_with fail
    refine (HRM.out _ HA_7.out).mono ?_
    rintro e w8 ⟨v,rfl,hown,hq⟩
    obtain ⟨AL3,cL3,rfl,_,hrd⟩:=RdM.own hown
    clear hown
    have HP_8:=Lib.hid (HP_7.out.below hq HP_7.out.lt)
    have HB_8:Hid (Bw w _):=Lib.hid (chain HB_7.out hq)
    have HA_8:=Lib.hid (rdBo hq HA_7.out)
    have HT_8:=Lib.hid (HT_7.out.below hq)
    have HZ_8:=Lib.hid (rdBo hq HZ_7.out)
    have HO_8:=Lib.hid (HO_7.out.below hq HO_7.out.lt)
    have HL1_8:=Lib.hid (rdMv hq HL1_7.out)
    clear hq HP_7 HB_7 HA_7 HT_7 HZ_7 HO_7 HL1_7 p0 p1 p2 p3 p4 p5 p6 p7
    have HL30:=Lib.hid hrd
    clear hrd
    go_wp2_with fail
    refine (rmSame_eq (psdL ⟨F,R,l,bl,ca,ps,ha,fu⟩) _ _ _ _ (by have:=HLL.out;omega) _ HL1_8.out HL30.out).mono ?_
    rintro e w9 ⟨rfl,hq⟩
    have HP_9:=Lib.hid (HP_8.out.below hq HP_8.out.lt)
    have HB_9:Hid (Bw w _):=Lib.hid (chain HB_8.out hq)
    have HA_9:=Lib.hid (rdBo hq HA_8.out)
    have HT_9:=Lib.hid (HT_8.out.below hq)
    have HZ_9:=Lib.hid (rdBo hq HZ_8.out)
    have HO_9:=Lib.hid (HO_8.out.below hq HO_8.out.lt)
    have HL1_9:=Lib.hid (rdMv hq HL1_8.out)
    have HL3_9:=Lib.hid (rdMv hq HL30.out)
    clear hq HP_8 HB_8 HA_8 HT_8 HZ_8 HO_8 HL1_8 HL30
    obtain ⟨p0,p1⟩:=HP_9.out.h2
    go_wp2_with fail
    refine (HSV.out _).mono ?_
    rintro e w10 ⟨rfl,hq⟩
    have HP_10:=Lib.hid (HP_9.out.below hq HP_9.out.lt)
    have HB_10:Hid (Bw w _):=Lib.hid (chain HB_9.out hq)
    have HA_10:=Lib.hid (rdBo hq HA_9.out)
    have HT_10:=Lib.hid (HT_9.out.below hq)
    have HZ_10:=Lib.hid (rdBo hq HZ_9.out)
    have HO_10:=Lib.hid (HO_9.out.below hq HO_9.out.lt)
    have HL1_10:=Lib.hid (rdMv hq HL1_9.out)
    have HL3_10:=Lib.hid (rdMv hq HL3_9.out)
    clear hq HP_9 HB_9 HA_9 HT_9 HZ_9 HO_9 HL1_9 HL3_9 p0 p1
    go_wp2_with fail
    refine (known9_any _ HT_10.out).mono ?_
    rintro e wk ⟨rfl,hq⟩
    have hBk:=chain HB_10.out hq
    clear hq
    go_wp2
    go_ret
    exact ⟨rfl,hBk⟩
 ·skip
  obtain ⟨p0,p1,p2,p3,p4,p5,p6,p7⟩:=HP0.out.h8
  go_wp2_with fail
  refine (small9_no F R l A c bl ca ps ha fu hs _).mono ?_
  rintro e w1 ⟨rfl,hq⟩
  have HP_1:=Lib.hid (HP0.out.below hq HP0.out.lt)
  have HB_1:Hid (Bw w _):=Lib.hid (chain HB0.out hq)
  have HA_1:=Lib.hid (rdBo hq HA0.out)
  have HT_1:=Lib.hid (HT0.out.below hq)
  clear hq HP0 HB0 HA0 HT0 p0 p1 p2 p3 p4 p5 p6 p7
  go_wp2_with fail
  refine (known9_any _ HT_1.out).mono ?_
  rintro e wk ⟨rfl,hq⟩
  have hBk:=chain HB_1.out hq
  clear hq
  go_wp2
  go_ret
  exact ⟨rfl,hBk⟩
end Go.Proofs.YtbccbgonlmkpkaaGreatDoor
