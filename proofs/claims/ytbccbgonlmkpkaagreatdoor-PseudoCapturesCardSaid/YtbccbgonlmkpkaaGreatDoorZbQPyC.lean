/- What the theorem needs, piece ZbQPyC. -/
import Derived.Test.YtbccbgonlmkpkaaGreatDoorZb39
import Derived.Test.YtbccbgonlmkpkaaGreatDoorZb41
set_option linter.unusedSimpArgs false
set_option linter.unusedVariables false
set_option maxRecDepth 100000
set_option maxHeartbeats 16000000
namespace Go.Proofs.YtbccbgonlmkpkaaGreatDoor
open Go.RowKit Go.Sort
theorem cap_lt {p:Po} {m:Mv} (h:Mov p m) (hc:0<=capM p m):capM p m<(p.l.length:Int):=by
 rcases cap_or h with ⟨h1,_,_⟩ | ⟨h1,_,_⟩ | he
 ·omega
 ·rw [h1];exact h.lb.2
 ·have:=he.vc.2.2
  have:=h.hp.len
  omega
theorem pcap_law (F R:Int) (l:List Int) (A:Option Addr) (c:Nat) (bl:Bool) (ca:Nat) (ps ha fu:Int) (x y t:Int) (hca:ca<256) (hcap:l.length<=c) (w:World) (hT:T8 w) (hA:RdP w w.heap.size A l c) :
  Calls Tryz.prog 10 #[.agg #[.int .i64 F,.int .i64 R,.slice A l.length c,.bool bl,.int .u8 (ca:Int),.int .i64 ps,.int .i64 ha,.int .i64 fu],.agg #[.int .i64 x,.int .i64 y,.int .i8 t]] w fun e w'=>e=.returned (.bool true)/\Below w.heap.size w w':=by
 have B1:=box1 (w) (.cells #[.int .i64 F,.int .i64 R,.slice A l.length c,.bool bl,.int .u8 (ca:Int),.int .i64 ps,.int .i64 ha,.int .i64 fu] 26)
 have B2:=box1 (w.alloc (.cells #[.int .i64 F,.int .i64 R,.slice A l.length c,.bool bl,.int .u8 (ca:Int),.int .i64 ps,.int .i64 ha,.int .i64 fu] 26)) (.cells #[.int .i64 x,.int .i64 y,.int .i8 t] 30)
 have hHP:=Bxs.new (w) [.int .i64 F,.int .i64 R,.slice A l.length c,.bool bl,.int .u8 (ca:Int),.int .i64 ps,.int .i64 ha,.int .i64 fu] 26
 have hHM:=Bxs.new (w.alloc (.cells #[.int .i64 F,.int .i64 R,.slice A l.length c,.bool bl,.int .u8 (ca:Int),.int .i64 ps,.int .i64 ha,.int .i64 fu] 26)) [.int .i64 x,.int .i64 y,.int .i8 t] 30
 rw [World.size_alloc] at hHM
 have HP0:=Lib.hid (hHP.below B2 hHP.lt)
 have HM0:=Lib.hid (hHM)
 have hB:=(chain B1 B2)
 have HB0:Hid (Bw w ((w.alloc (.cells #[.int .i64 F,.int .i64 R,.slice A l.length c,.bool bl,.int .u8 (ca:Int),.int .i64 ps,.int .i64 ha,.int .i64 fu] 26)).alloc (.cells #[.int .i64 x,.int .i64 y,.int .i8 t] 30))):=Lib.hid hB
 have HA0:=Lib.hid (rdBo hB hA)
 have HT0:=Lib.hid (hT.below hB)
 clear hB B1 B2 hHP hHM hA hT
 go_enter Tryz.func10,Tryz.ntmps10
 go_upto_region 1 with fail
 generalize (w.alloc (.cells #[.int .i64 F,.int .i64 R,.slice A l.length c,.bool bl,.int .u8 (ca:Int),.int .i64 ps,.int .i64 ha,.int .i64 fu] 26)).alloc (.cells #[.int .i64 x,.int .i64 y,.int .i8 t] 30)=V at *
 by_cases hs:l.length<=64
 ·skip
  have HCP:=Lib.hid (fun w hT hA=>qCap_any F R l A c bl ca ps ha fu x y t hca (by omega) hcap w after_c hT hA)
  have HCS:=Lib.hid (fun w hT hA=>qCst_any F R l A c bl ca ps ha fu x y t hca (by omega) hcap w after_c hT hA)
  have HVP:=Lib.hid (fun w hA=>rValid_any F R l A c bl ca ps ha fu hca (by omega) w hA)
  have HVM:=Lib.hid (fun w=>rmValid_any F R x y t (decide (okM F R ⟨x,y,t⟩)) decide_eq_true_iff w)
  have HR9:=Lib.hid (fun hok hm w hA=>rIs9_any F R l A c bl ca ps ha fu x y t ((okPo_iff _).1 hok) hm w hA)
  have HKC:=Lib.hid (fun (h:Mov ⟨F,R,l,bl,ca,ps,ha,fu⟩ ⟨x,y,t⟩) w hA=>rCapt_any F R l A c bl ca ps ha fu x y t h.hp.len h.hm.1 h.hm.2.1 ((h.hp.orth x).resolve_left (ownB_iff.1 h.own).1) w hA)
  have HKS:=Lib.hid (fun (h:Mov ⟨F,R,l,bl,ca,ps,ha,fu⟩ ⟨x,y,t⟩) w hA=>rCstl_any F R l A c bl ca ps ha fu x y t hca hs ⟨h.hm.1.2.1,by have:=h.hm.1.2.2;have h2:(l.length:Int)=F * R:=h.hp.len;simp only at this;omega⟩ ((h.hp.orth x).resolve_left (ownB_iff.1 h.own).1) (fun bit hb hc=>by obtain ⟨a,b,_⟩:=cas_home h.hp.cas hb hc;exact ⟨a,b⟩) h.hp.len w hA)
  have HCL:=Lib.hid (fun (h:Mov ⟨F,R,l,bl,ca,ps,ha,fu⟩ ⟨x,y,t⟩)=>cap_lt h)
  have HBAD:=Lib.hid (is_bad (p:=⟨F,R,l,bl,ca,ps,ha,fu⟩) (m:=⟨x,y,t⟩))
  have HNO:=Lib.hid (dm_no (p:=⟨F,R,l,bl,ca,ps,ha,fu⟩) (m:=⟨x,y,t⟩))
  have HYE:=Lib.hid (dm_yes (p:=⟨F,R,l,bl,ca,ps,ha,fu⟩) (m:=⟨x,y,t⟩))
  obtain ⟨va,hva⟩:∃ z,cpA ⟨F,R,l,bl,ca,ps,ha,fu⟩ ⟨x,y,t⟩=z:=⟨_,rfl⟩
  obtain ⟨vs,hvs⟩:∃ z,cpS ⟨F,R,l,bl,ca,ps,ha,fu⟩ ⟨x,y,t⟩=z:=⟨_,rfl⟩
  obtain ⟨de,hde⟩:∃ z,dmE ⟨F,R,l,bl,ca,ps,ha,fu⟩ ⟨x,y,t⟩=z:=⟨_,rfl⟩
  obtain ⟨vc,hvc⟩:∃ z,csV ⟨F,R,l,bl,ca,ps,ha,fu⟩ ⟨x,y,t⟩=z:=⟨_,rfl⟩
  rw [hva,hvs,hde] at HCP
  rw [hvc,hde] at HCS
  rw [hva,hvs,hde,hvc] at HBAD HNO HYE
  clear hva hvs hde hvc
  obtain ⟨p0,p1,p2,p3,p4,p5,p6,p7⟩:=HP0.out.h8
  go_wp2_with fail
  refine (small9_yes F R l A c bl ca ps ha fu hs _).mono ?_
  rintro e w1 ⟨rfl,hq⟩
  have HP_1:=Lib.hid (HP0.out.below hq HP0.out.lt)
  have HM_1:=Lib.hid (HM0.out.below hq HM0.out.lt)
  have HB_1:Hid (Bw w _):=Lib.hid (chain HB0.out hq)
  have HA_1:=Lib.hid (rdBo hq HA0.out)
  have HT_1:=Lib.hid (HT0.out.below hq)
  clear hq HP0 HM0 HB0 HA0 HT0 p0 p1 p2 p3 p4 p5 p6 p7
  obtain ⟨p0,p1,p2,p3,p4,p5,p6,p7⟩:=HP_1.out.h8
  obtain ⟨m0,m1,m2⟩:=HM_1.out.h3
  go_wp2_with fail
  refine (HCP.out _ HT_1.out HA_1.out).mono ?_
  rintro e w2 ⟨rfl,hq⟩
  have HP_2:=Lib.hid (HP_1.out.below hq HP_1.out.lt)
  have HM_2:=Lib.hid (HM_1.out.below hq HM_1.out.lt)
  have HB_2:Hid (Bw w _):=Lib.hid (chain HB_1.out hq)
  have HA_2:=Lib.hid (rdBo hq HA_1.out)
  have HT_2:=Lib.hid (HT_1.out.below hq)
  clear hq HP_1 HM_1 HB_1 HA_1 HT_1 p0 p1 p2 p3 p4 p5 p6 p7 m0 m1 m2 HCP
  obtain ⟨p0,p1,p2,p3,p4,p5,p6,p7⟩:=HP_2.out.h8
  obtain ⟨m0,m1,m2⟩:=HM_2.out.h3
  go_wp2_with fail
  refine (HCS.out _ HT_2.out HA_2.out).mono ?_
  rintro e w3 ⟨rfl,hq⟩
  have HP_3:=Lib.hid (HP_2.out.below hq HP_2.out.lt)
  have HM_3:=Lib.hid (HM_2.out.below hq HM_2.out.lt)
  have HB_3:Hid (Bw w _):=Lib.hid (chain HB_2.out hq)
  have HA_3:=Lib.hid (rdBo hq HA_2.out)
  have HT_3:=Lib.hid (HT_2.out.below hq)
  clear hq HP_2 HM_2 HB_2 HA_2 HT_2 p0 p1 p2 p3 p4 p5 p6 p7 m0 m1 m2 HCS
  obtain ⟨p0,p1,p2,p3,p4,p5,p6,p7⟩:=HP_3.out.h8
  obtain ⟨m0,m1,m2⟩:=HM_3.out.h3
  go_wp2_with fail
  refine (HVP.out _ HA_3.out).mono ?_
  rintro e w4 ⟨rfl,hq⟩
  have HP_4:=Lib.hid (HP_3.out.below hq HP_3.out.lt)
  have HM_4:=Lib.hid (HM_3.out.below hq HM_3.out.lt)
  have HB_4:Hid (Bw w _):=Lib.hid (chain HB_3.out hq)
  have HA_4:=Lib.hid (rdBo hq HA_3.out)
  have HT_4:=Lib.hid (HT_3.out.below hq)
  clear hq HP_3 HM_3 HB_3 HA_3 HT_3 p0 p1 p2 p3 p4 p5 p6 p7 m0 m1 m2 HVP
  cases hok:okPo ⟨F,R,l,bl,ca,ps,ha,fu⟩
  ·skip
   obtain ⟨_,_,rfl,rfl,rfl,rfl⟩:=HBAD.out (fun h=>by rw [hok] at h;exact absurd h.1 (by decide))
   clear hok HBAD HNO HYE
   go_wp2_with fail
   refine (known9_any _ HT_4.out).mono ?_
   rintro e wk ⟨rfl,hq⟩
   have hBk:=chain HB_4.out hq
   clear hq
   go_wp2
   go_ret
   exact ⟨rfl,hBk⟩
  ·skip
   obtain ⟨p0,p1,p2,p3,p4,p5,p6,p7⟩:=HP_4.out.h8
   obtain ⟨m0,m1,m2⟩:=HM_4.out.h3
   go_wp2_with fail
   refine (HVM.out _).mono ?_
   rintro e w5 ⟨rfl,hq⟩
   have HP_5:=Lib.hid (HP_4.out.below hq HP_4.out.lt)
   have HM_5:=Lib.hid (HM_4.out.below hq HM_4.out.lt)
   have HB_5:Hid (Bw w _):=Lib.hid (chain HB_4.out hq)
   have HA_5:=Lib.hid (rdBo hq HA_4.out)
   have HT_5:=Lib.hid (HT_4.out.below hq)
   clear hq HP_4 HM_4 HB_4 HA_4 HT_4 p0 p1 p2 p3 p4 p5 p6 p7 m0 m1 m2 HVM
   by_cases hom:okM F R ⟨x,y,t⟩
   ·skip
    rw [decide_eq_true hom]
    have HR1:=Lib.hid (HR9.out hok hom)
    have HN2:=Lib.hid (HNO.out ⟨hok,hom⟩)
    have HY2:=Lib.hid (HYE.out ⟨hok,hom⟩)
    have HMV:Hid (psB ⟨F,R,l,bl,ca,ps,ha,fu⟩ ⟨x,y,t⟩=true->Mov ⟨F,R,l,bl,ca,ps,ha,fu⟩ ⟨x,y,t⟩):=Lib.hid (fun h=>by
     unfold psB at h
     rw [Bool.and_eq_true] at h
     exact ⟨(okPo_iff _).1 hok,hom,h.1,h.2⟩)
    clear hok hom HBAD HR9 HNO HYE
    obtain ⟨p0,p1,p2,p3,p4,p5,p6,p7⟩:=HP_5.out.h8
    obtain ⟨m0,m1,m2⟩:=HM_5.out.h3
    go_wp2_with fail
    refine (HR1.out _ HA_5.out).mono ?_
    rintro e w6 ⟨rfl,hq⟩
    have HP_6:=Lib.hid (HP_5.out.below hq HP_5.out.lt)
    have HM_6:=Lib.hid (HM_5.out.below hq HM_5.out.lt)
    have HB_6:Hid (Bw w _):=Lib.hid (chain HB_5.out hq)
    have HA_6:=Lib.hid (rdBo hq HA_5.out)
    have HT_6:=Lib.hid (HT_5.out.below hq)
    clear hq HP_5 HM_5 HB_5 HA_5 HT_5 p0 p1 p2 p3 p4 p5 p6 p7 m0 m1 m2 HR1
    cases hpb:psB ⟨F,R,l,bl,ca,ps,ha,fu⟩ ⟨x,y,t⟩
    ·skip
     obtain ⟨rfl,rfl,rfl,rfl⟩:=HN2.out hpb
     clear hpb HN2 HY2 HMV HKC HKS HCL
     go_wp2_with fail
     refine (known9_any _ HT_6.out).mono ?_
     rintro e wk ⟨rfl,hq⟩
     have hBk:=chain HB_6.out hq
     clear hq
     go_wp2
     go_ret
     exact ⟨rfl,hBk⟩
    ·skip
     have hmv:=HMV.out hpb
     obtain ⟨rfl,rfl,hy1,hy2,hvc⟩:=HY2.out hpb
     have HVC:=Lib.hid hvc
     clear hvc
     have HK1:=Lib.hid (HKC.out hmv)
     have HK2:=Lib.hid (HKS.out hmv)
     have hcl:=HCL.out hmv
     clear hpb hmv HN2 HY2 HMV HKC HKS HCL
     generalize capM ⟨F,R,l,bl,ca,ps,ha,fu⟩ ⟨x,y,t⟩=cp at *
     generalize casM ⟨F,R,l,bl,ca,ps,ha,fu⟩ ⟨x,y,t⟩=cm at *
     replace hy1:0<=cp->va=pc l cp:=hy1
     replace hcl:0<=cp->cp<(l.length:Int):=hcl
     obtain ⟨p0,p1,p2,p3,p4,p5,p6,p7⟩:=HP_6.out.h8
     obtain ⟨m0,m1,m2⟩:=HM_6.out.h3
     go_wp2_with fail
     refine (HK1.out _ HA_6.out).mono ?_
     rintro e w7 ⟨rfl,hq⟩
     have HP_7:=Lib.hid (HP_6.out.below hq HP_6.out.lt)
     have HM_7:=Lib.hid (HM_6.out.below hq HM_6.out.lt)
     have HB_7:Hid (Bw w _):=Lib.hid (chain HB_6.out hq)
     have HA_7:=Lib.hid (rdBo hq HA_6.out)
     have HT_7:=Lib.hid (HT_6.out.below hq)
     clear hq HP_6 HM_6 HB_6 HA_6 HT_6 p0 p1 p2 p3 p4 p5 p6 p7 m0 m1 m2 HK1
     by_cases hcp:0<=cp
     ·skip
      obtain ⟨n,rfl⟩:∃ n:Nat,cp=(n:Int):=⟨cp.toNat,by omega⟩
      have hn2:=hcl hcp
      obtain rfl:=(hy1 (by omega)).symm
      have hn:n<l.length:=by omega
      obtain ⟨ad,hAe,hadb,hadc⟩:=(HA_7.out).at_ hn
      rw [<- pc_nat] at hadc
      obtain rfl:=hAe
      clear hy1 hy2 hcl
      generalize pc l (n:Int)=q at *
      by_cases hcm:cm=0
      ·skip
       have e1:((cm:Int) != 0)=false:=by simp [hcm]
       obtain rfl:vc=false:=by rw [HVC.out];simp [hcm]
       clear HVC hcm
       obtain ⟨p0,p1,p2,p3,p4,p5,p6,p7⟩:=HP_7.out.h8
       obtain ⟨m0,m1,m2⟩:=HM_7.out.h3
       go_wp2_with fail
       refine (HK2.out _ HA_7.out).mono ?_
       rintro e w8 ⟨rfl,hq⟩
       have HP_8:=Lib.hid (HP_7.out.below hq HP_7.out.lt)
       have HM_8:=Lib.hid (HM_7.out.below hq HM_7.out.lt)
       have HB_8:Hid (Bw w _):=Lib.hid (chain HB_7.out hq)
       have HA_8:=Lib.hid (rdBo hq HA_7.out)
       have HT_8:=Lib.hid (HT_7.out.below hq)
       clear hq HP_7 HM_7 HB_7 HA_7 HT_7 p0 p1 p2 p3 p4 p5 p6 p7 m0 m1 m2 HK2
       go_wp2_with fail
       refine (known9_any _ HT_8.out).mono ?_
       rintro e wk ⟨rfl,hq⟩
       have hBk:=chain HB_8.out hq
       clear hq
       go_wp2
       go_ret
       exact ⟨rfl,hBk⟩
      ·skip
       have e1:((cm:Int) != 0)=true:=by simp [hcm]
       obtain rfl:vc=true:=by rw [HVC.out];simp [hcm]
       clear HVC hcm
       obtain ⟨p0,p1,p2,p3,p4,p5,p6,p7⟩:=HP_7.out.h8
       obtain ⟨m0,m1,m2⟩:=HM_7.out.h3
       go_wp2_with fail
       refine (HK2.out _ HA_7.out).mono ?_
       rintro e w8 ⟨rfl,hq⟩
       have HP_8:=Lib.hid (HP_7.out.below hq HP_7.out.lt)
       have HM_8:=Lib.hid (HM_7.out.below hq HM_7.out.lt)
       have HB_8:Hid (Bw w _):=Lib.hid (chain HB_7.out hq)
       have HA_8:=Lib.hid (rdBo hq HA_7.out)
       have HT_8:=Lib.hid (HT_7.out.below hq)
       clear hq HP_7 HM_7 HB_7 HA_7 HT_7 p0 p1 p2 p3 p4 p5 p6 p7 m0 m1 m2 HK2
       go_wp2_with fail
       refine (known9_any _ HT_8.out).mono ?_
       rintro e wk ⟨rfl,hq⟩
       have hBk:=chain HB_8.out hq
       clear hq
       go_wp2
       go_ret
       exact ⟨rfl,hBk⟩
     ·skip
      obtain rfl:=(hy2 (by omega)).symm
      clear hy1 hy2 hcl
      by_cases hcm:cm=0
      ·skip
       have e1:((cm:Int) != 0)=false:=by simp [hcm]
       obtain rfl:vc=false:=by rw [HVC.out];simp [hcm]
       clear HVC hcm
       obtain ⟨p0,p1,p2,p3,p4,p5,p6,p7⟩:=HP_7.out.h8
       obtain ⟨m0,m1,m2⟩:=HM_7.out.h3
       go_wp2_with fail
       refine (HK2.out _ HA_7.out).mono ?_
       rintro e w8 ⟨rfl,hq⟩
       have HP_8:=Lib.hid (HP_7.out.below hq HP_7.out.lt)
       have HM_8:=Lib.hid (HM_7.out.below hq HM_7.out.lt)
       have HB_8:Hid (Bw w _):=Lib.hid (chain HB_7.out hq)
       have HA_8:=Lib.hid (rdBo hq HA_7.out)
       have HT_8:=Lib.hid (HT_7.out.below hq)
       clear hq HP_7 HM_7 HB_7 HA_7 HT_7 p0 p1 p2 p3 p4 p5 p6 p7 m0 m1 m2 HK2
       go_wp2_with fail
       refine (known9_any _ HT_8.out).mono ?_
       rintro e wk ⟨rfl,hq⟩
       have hBk:=chain HB_8.out hq
       clear hq
       go_wp2
       go_ret
       exact ⟨rfl,hBk⟩
      ·skip
       have e1:((cm:Int) != 0)=true:=by simp [hcm]
       obtain rfl:vc=true:=by rw [HVC.out];simp [hcm]
       clear HVC hcm
       obtain ⟨p0,p1,p2,p3,p4,p5,p6,p7⟩:=HP_7.out.h8
       obtain ⟨m0,m1,m2⟩:=HM_7.out.h3
       go_wp2_with fail
       refine (HK2.out _ HA_7.out).mono ?_
       rintro e w8 ⟨rfl,hq⟩
       have HP_8:=Lib.hid (HP_7.out.below hq HP_7.out.lt)
       have HM_8:=Lib.hid (HM_7.out.below hq HM_7.out.lt)
       have HB_8:Hid (Bw w _):=Lib.hid (chain HB_7.out hq)
       have HA_8:=Lib.hid (rdBo hq HA_7.out)
       have HT_8:=Lib.hid (HT_7.out.below hq)
       clear hq HP_7 HM_7 HB_7 HA_7 HT_7 p0 p1 p2 p3 p4 p5 p6 p7 m0 m1 m2 HK2
       go_wp2_with fail
       refine (known9_any _ HT_8.out).mono ?_
       rintro e wk ⟨rfl,hq⟩
       have hBk:=chain HB_8.out hq
       clear hq
       go_wp2
       go_ret
       exact ⟨rfl,hBk⟩
   ·skip
    rw [decide_eq_false hom]
    obtain ⟨_,_,rfl,rfl,rfl,rfl⟩:=HBAD.out (fun h=>hom h.2)
    clear hok hom HBAD HNO HYE
    go_wp2_with fail
    refine (known9_any _ HT_5.out).mono ?_
    rintro e wk ⟨rfl,hq⟩
    have hBk:=chain HB_5.out hq
    clear hq
    go_wp2
    go_ret
    exact ⟨rfl,hBk⟩
 ·skip
  obtain ⟨p0,p1,p2,p3,p4,p5,p6,p7⟩:=HP0.out.h8
  go_wp2_with fail
  refine (small9_no F R l A c bl ca ps ha fu hs _).mono ?_
  rintro e w1 ⟨rfl,hq⟩
  have HP_1:=Lib.hid (HP0.out.below hq HP0.out.lt)
  have HM_1:=Lib.hid (HM0.out.below hq HM0.out.lt)
  have HB_1:Hid (Bw w _):=Lib.hid (chain HB0.out hq)
  have HA_1:=Lib.hid (rdBo hq HA0.out)
  have HT_1:=Lib.hid (HT0.out.below hq)
  clear hq HP0 HM0 HB0 HA0 HT0 p0 p1 p2 p3 p4 p5 p6 p7
  go_wp2_with fail
  refine (known9_any _ HT_1.out).mono ?_
  rintro e wk ⟨rfl,hq⟩
  have hBk:=chain HB_1.out hq
  clear hq
  go_wp2
  go_ret
  exact ⟨rfl,hBk⟩
end Go.Proofs.YtbccbgonlmkpkaaGreatDoor
