/- What the theorem needs, piece ZbQPyH. -/
import Derived.Deep.CutBlock
import Derived.Test.YtbccbgonlmkpkaaGreatDoorZb43
import Derived.Test.YtbccbgonlmkpkaaGreatDoorZb41
set_option linter.unusedSimpArgs false
set_option linter.unusedVariables false
set_option maxRecDepth 100000
set_option maxHeartbeats 16000000
namespace Go.Proofs.YtbccbgonlmkpkaaGreatDoor
open Go.RowKit Go.Sort
theorem psdT_mem {p:Po} {a b:Int} {m:Mv}:m∈psdT p a b ↔ (m.a=a/\m.b=b)/\(m.p=0\/m.p=2\/m.p=3\/m.p=4\/m.p=5)/\okM p.F p.R m/\psB p m=true:=by
 unfold psdT
 rw [List.mem_filterMap]
 constructor
 ·rintro ⟨t,ht,h⟩
  by_cases hc:(decide (okM p.F p.R ⟨a,b,t⟩) && psB p ⟨a,b,t⟩)=true
  ·rw [if_pos hc] at h
   obtain rfl:=Option.some.inj h
   rw [Bool.and_eq_true,decide_eq_true_eq] at hc
   exact ⟨⟨rfl,rfl⟩,by simpa using ht,hc⟩
  ·rw [if_neg hc] at h
   cases h
 ·obtain ⟨x,y,t⟩:=m
  rintro ⟨⟨rfl,rfl⟩,ht,h1,h2⟩
  exact ⟨t,by simpa using ht,by rw [if_pos (by rw [h2,decide_eq_true h1];rfl)]⟩
theorem psdL_mem {p:Po} (hp:OkP p) {m:Mv}:m∈psdL p ↔ okM p.F p.R m/\psB p m=true:=by
 have hl:=hp.len
 unfold psdL psdF
 simp only [List.mem_flatMap,List.mem_range,psdT_mem]
 constructor
 ·rintro ⟨a,_,b,_,_,_,h⟩
  exact h
 ·rintro ⟨h1,h2⟩
  obtain ⟨a0,a1⟩:=h1.1.2
  obtain ⟨b0,b1⟩:=h1.2.1.2
  have hpr:=h1.2.2.2
  unfold okPr at hpr
  exact ⟨m.a.toNat,by omega,m.b.toNat,by omega,⟨by omega,by omega⟩,by omega,h1,h2⟩
theorem psdL_mov {p:Po} (hok:okPo p=true) {m:Mv} (h:m∈psdL p):dmE p m=0/\cpA p m≠6/\cpA p m≠-6:=by
 have hp:=(okPo_iff p).1 hok
 obtain ⟨h1,h2⟩:=(psdL_mem hp).1 h
 obtain ⟨hd,_,hc1,hc2,_⟩:=dm_yes (m:=m) ⟨hok,h1⟩ h2
 have hmv:=dm_mov hd
 refine ⟨hd,?_⟩
 by_cases hc:0<=capM p m
 ·obtain ⟨k1,k2,k3⟩:=hmv.capV hc
  rw [hc1 hc]
  unfold ownB kgN at *
  cases hb:p.bl <;> rw [hb] at k2 k3 <;> simp [k1] at k2 k3 <;> omega
 ·rw [hc2 hc]
  decide
def mvV (m:Mv):Value:=.agg #[.int .i64 m.a,.int .i64 m.b,.int .i8 m.p]
theorem eql_mv (u v:Mv) (w:World):(binOp .eql 30 (mvV u) (mvV v)).run Tryz.prog w=.ok (.bool (decide (u=v))) w:=by
 obtain ⟨a,b,c⟩:=u
 obtain ⟨a',b',c'⟩:=v
 unfold mvV
 simp only
 rw [run_eql_struct]
 have hS:Tryz.prog.underlying 30=some (.struct (Tryz.prog.fieldsOf 30)):=by kernel_rfl
 rw [show (10000:Nat)=9999+1 from rfl,run_equalIn_agg w 9999 30 _ _ hS (by kernel_rfl)]
 simp only [Program.fieldsOf,Tryz.underlying30]
 clear hS
 simp only [Op.eqFields]
 go_simp
 by_cases h0:a=a'
 case neg=>simp [h0]
 subst h0
 by_cases h1:b=b'
 case neg=>simp [h1]
 subst h1
 by_cases h2:c=c' <;> simp [h2]
theorem take_mem {α:Type} [DecidableEq α] {L:List α} {k:Nat} {x m:α} (h:L[k]?=some x):decide (m∈L.take (k+1))=(decide (m∈L.take k) || decide (x=m)):=by
 rw [List.take_add_one,h]
 simp only [Option.toList_some,List.mem_append,List.mem_singleton,Bool.decide_or,eq_comm]
theorem phol_law (F R:Int) (l:List Int) (A:Option Addr) (c:Nat) (bl:Bool) (ca:Nat) (ps ha fu:Int) (x y t:Int) (hca:ca<256) (hcap:l.length<=c) (w:World) (hT:T8 w) (hA:RdP w w.heap.size A l c) :
  Calls Tryz.prog 11 #[.agg #[.int .i64 F,.int .i64 R,.slice A l.length c,.bool bl,.int .u8 (ca:Int),.int .i64 ps,.int .i64 ha,.int .i64 fu],.agg #[.int .i64 x,.int .i64 y,.int .i8 t]] w fun e w'=>e=.returned (.bool true)/\Below w.heap.size w w':=by
 have B1:=box1 (w) (.cells #[.int .i64 F,.int .i64 R,.slice A l.length c,.bool bl,.int .u8 (ca:Int),.int .i64 ps,.int .i64 ha,.int .i64 fu] 26)
 have B2:=box1 (w.alloc (.cells #[.int .i64 F,.int .i64 R,.slice A l.length c,.bool bl,.int .u8 (ca:Int),.int .i64 ps,.int .i64 ha,.int .i64 fu] 26)) (.cells #[.int .i64 x,.int .i64 y,.int .i8 t] 30)
 have hHP:=Bxs.new (w) [.int .i64 F,.int .i64 R,.slice A l.length c,.bool bl,.int .u8 (ca:Int),.int .i64 ps,.int .i64 ha,.int .i64 fu] 26
 have hHM:=Bxs.new (w.alloc (.cells #[.int .i64 F,.int .i64 R,.slice A l.length c,.bool bl,.int .u8 (ca:Int),.int .i64 ps,.int .i64 ha,.int .i64 fu] 26)) [.int .i64 x,.int .i64 y,.int .i8 t] 30
 rw [World.size_alloc] at hHM
 have HP0:=Lib.hid (hHP.below B2 hHP.lt)
 have HM0:=Lib.hid (hHM)
 have hB:=(chain B1 B2)
 have HB0:Hid (Bw w ((w.alloc (.cells #[.int .i64 F,.int .i64 R,.slice A l.length c,.bool bl,.int .u8 (ca:Int),.int .i64 ps,.int .i64 ha,.int .i64 fu] 26)).alloc (.cells #[.int .i64 x,.int .i64 y,.int .i8 t] 30))):=Lib.hid hB
 have HA0:=Lib.hid (rdBo hB hA)
 have HT0:=Lib.hid (hT.below hB)
 clear hB B1 B2 hHP hHM hA hT
 go_enter Tryz.func11,Tryz.ntmps11
 go_upto_region 1 with fail
 generalize (w.alloc (.cells #[.int .i64 F,.int .i64 R,.slice A l.length c,.bool bl,.int .u8 (ca:Int),.int .i64 ps,.int .i64 ha,.int .i64 fu] 26)).alloc (.cells #[.int .i64 x,.int .i64 y,.int .i8 t] 30)=V at *
 by_cases hs:l.length<=64
 ·skip
  have HVP:=Lib.hid (fun w hA=>rValid_any F R l A c bl ca ps ha fu hca (by omega) w hA)
  obtain ⟨p0,p1,p2,p3,p4,p5,p6,p7⟩:=HP0.out.h8
  go_wp2_with fail
  refine (small9_yes F R l A c bl ca ps ha fu hs _).mono ?_
  rintro e w1 ⟨rfl,hq⟩
  have HP_1:=Lib.hid (HP0.out.below hq HP0.out.lt)
  have HM_1:=Lib.hid (HM0.out.below hq HM0.out.lt)
  have HB_1:Hid (Bw w _):=Lib.hid (chain HB0.out hq)
  have HA_1:=Lib.hid (rdBo hq HA0.out)
  have HT_1:=Lib.hid (HT0.out.below hq)
  clear hq HP0 HM0 HB0 HA0 HT0 p0 p1 p2 p3 p4 p5 p6 p7
  obtain ⟨p0,p1,p2,p3,p4,p5,p6,p7⟩:=HP_1.out.h8
  go_wp2_with fail
  refine (HVP.out _ HA_1.out).mono ?_
  rintro e w2 ⟨rfl,hq⟩
  have HP_2:=Lib.hid (HP_1.out.below hq HP_1.out.lt)
  have HM_2:=Lib.hid (HM_1.out.below hq HM_1.out.lt)
  have HB_2:Hid (Bw w _):=Lib.hid (chain HB_1.out hq)
  have HA_2:=Lib.hid (rdBo hq HA_1.out)
  have HT_2:=Lib.hid (HT_1.out.below hq)
  clear hq HP_1 HM_1 HB_1 HA_1 HT_1 p0 p1 p2 p3 p4 p5 p6 p7 HVP
  cases hok:okPo ⟨F,R,l,bl,ca,ps,ha,fu⟩
  ·skip
   clear hok
   go_wp2_with fail
   refine (known9_any _ HT_2.out).mono ?_
   rintro e wk ⟨rfl,hq⟩
   have hBk:=chain HB_2.out hq
   clear hq
   go_wp2
   go_ret
   exact ⟨rfl,hBk⟩
  ·skip
   have hp:OkP ⟨F,R,l,bl,ca,ps,ha,fu⟩:=(okPo_iff _).1 hok
   have hlF:(l.length:Int)=F * R:=hp.len
   have HMS:=Lib.hid (fun w hT hA=>qMov_yes F R l A c bl ca ps ha fu hca (by omega) hcap hok w after_c hT hA)
   have HVM:=Lib.hid (fun w=>rmValid_any F R x y t (decide (okM F R ⟨x,y,t⟩)) decide_eq_true_iff w)
   have HIS:=Lib.hid (fun w hT hA=>qIs_any F R l A c bl ca ps ha fu x y t hca (by omega) hcap w after_c hT hA)
   have HMK:=Lib.hid (fun w hT hA=>pMake_any F R l A c bl ca ps ha fu x y t hca (by omega) hcap w after_c hT hA)
   have HFR:=Lib.hid (fun at_ hat w hT hA=>qFrm_yes F R l A c bl ca ps ha fu at_ hca (by omega) hcap hok hat w after_c hT hA)
   have HCP:=Lib.hid (fun x y t w hT hA=>qCap_any F R l A c bl ca ps ha fu x y t hca (by omega) hcap w after_c hT hA)
   have HEC:Hid (okM F R ⟨x,y,t⟩->∃ er:Int,errM ⟨F,R,l,bl,ca,ps,ha,fu⟩ ⟨x,y,t⟩=er/\isE ⟨F,R,l,bl,ca,ps,ha,fu⟩ ⟨x,y,t⟩=0/\((er=9\/er=10)/\isB ⟨F,R,l,bl,ca,ps,ha,fu⟩ ⟨x,y,t⟩=false\/(er=0\/er=90\/er=7)/\isB ⟨F,R,l,bl,ca,ps,ha,fu⟩ ⟨x,y,t⟩=true)/\isB ⟨F,R,l,bl,ca,ps,ha,fu⟩ ⟨x,y,t⟩=decide (⟨x,y,t⟩∈psdL ⟨F,R,l,bl,ca,ps,ha,fu⟩)):=Lib.hid (fun hm=>by
    have hg:=is_ok (m:=⟨x,y,t⟩) ⟨hok,hm⟩
    have hd:isB ⟨F,R,l,bl,ca,ps,ha,fu⟩ ⟨x,y,t⟩=decide (⟨x,y,t⟩∈psdL ⟨F,R,l,bl,ca,ps,ha,fu⟩):=by
     rw [hg.1]
     cases hb:psB ⟨F,R,l,bl,ca,ps,ha,fu⟩ ⟨x,y,t⟩
     ·exact (decide_eq_false (fun hh=>by have:=((psdL_mem hp).1 hh).2;rw [hb] at this;cases this)).symm
     ·exact (decide_eq_true ((psdL_mem hp).2 ⟨hm,hb⟩)).symm
    refine ⟨_,rfl,hg.2,?_,hd⟩
    rcases err_cases ⟨F,R,l,bl,ca,ps,ha,fu⟩ ⟨x,y,t⟩ with ⟨_,h2,_⟩ | ⟨h1,_,h3⟩ | ⟨h1,_,h3⟩
    ·rw [hg.2] at h2;exact absurd h2 (by decide)
    ·exact .inl ⟨h1,h3⟩
    ·exact .inr ⟨h1,h3⟩)
   have HVT:Hid (∀ k:Nat,k<l.length->vat F R (k:Int)):=Lib.hid (fun k hk=>⟨hp.hv,by omega,by omega⟩)
   have HMM:=Lib.hid (fun m h=>psdL_mov hok (m:=m) h)
   have HLL:=Lib.hid (psdL_len (p:=⟨F,R,l,bl,ca,ps,ha,fu⟩) hs)
   have HLF:Hid (∀ a,(psdF ⟨F,R,l,bl,ca,ps,ha,fu⟩ a).length<=320):=Lib.hid (fun a=>by have h1:(psdF ⟨F,R,l,bl,ca,ps,ha,fu⟩ a).length<=5 * l.length:=psdF_len ⟨F,R,l,bl,ca,ps,ha,fu⟩ a;omega)
   have HMA:Hid (psdM ⟨F,R,l,bl,ca,ps,ha,fu⟩ l.length=psdL ⟨F,R,l,bl,ca,ps,ha,fu⟩):=Lib.hid rfl
   have HMZ:=Lib.hid (fun k=>psdM_succ ⟨F,R,l,bl,ca,ps,ha,fu⟩ k)
   have HLE:Hid (∀ k:Nat,k<=64->(psdM ⟨F,R,l,bl,ca,ps,ha,fu⟩ k).length<=20480):=Lib.hid (fun k hk=>by
    have h1:(psdM ⟨F,R,l,bl,ca,ps,ha,fu⟩ k).length<=5 * l.length * k:=psdM_len ⟨F,R,l,bl,ca,ps,ha,fu⟩ k
    have h2:=Nat.mul_le_mul hs hk
    rw [Nat.mul_assoc] at h1
    omega)
   obtain ⟨L,hL⟩:∃ L,psdL ⟨F,R,l,bl,ca,ps,ha,fu⟩=L:=⟨_,rfl⟩
   rw [hL] at HMS HEC HMM HLL HMA
   clear hL hp hlF hok
   obtain ⟨p0,p1,p2,p3,p4,p5,p6,p7⟩:=HP_2.out.h8
   go_wp2_with fail
   refine (HMS.out _ HT_2.out HA_2.out).mono ?_
   rintro e w3 ⟨v,rfl,hown,hq⟩
   obtain ⟨AL1,cL1,rfl,_,hrd⟩:=RdM.own hown
   clear hown
   have HP_3:=Lib.hid (HP_2.out.below hq HP_2.out.lt)
   have HM_3:=Lib.hid (HM_2.out.below hq HM_2.out.lt)
   have HB_3:Hid (Bw w _):=Lib.hid (chain HB_2.out hq)
   have HA_3:=Lib.hid (rdBo hq HA_2.out)
   have HT_3:=Lib.hid (HT_2.out.below hq)
   clear hq HP_2 HM_2 HB_2 HA_2 HT_2 p0 p1 p2 p3 p4 p5 p6 p7
   have HL10:=Lib.hid hrd
   clear hrd
   obtain ⟨p0,p1,p2,p3,p4,p5,p6,p7⟩:=HP_3.out.h8
   obtain ⟨m0,m1,m2⟩:=HM_3.out.h3
   go_wp2_with fail
   refine (HVM.out _).mono ?_
   rintro e w4 ⟨rfl,hq⟩
   have HP_4:=Lib.hid (HP_3.out.below hq HP_3.out.lt)
   have HM_4:=Lib.hid (HM_3.out.below hq HM_3.out.lt)
   have HB_4:Hid (Bw w _):=Lib.hid (chain HB_3.out hq)
   have HA_4:=Lib.hid (rdBo hq HA_3.out)
   have HT_4:=Lib.hid (HT_3.out.below hq)
   have HL1_4:=Lib.hid (rdMv hq HL10.out)
   clear hq HP_3 HM_3 HB_3 HA_3 HT_3 HL10 p0 p1 p2 p3 p4 p5 p6 p7 m0 m1 m2 HVM
   go_upto_if 43 with fail
   go_cut [] (fun wx=>Bw w4 wx)
   case first =>
    by_cases hom:okM F R ⟨x,y,t⟩
    ·skip
     rw [decide_eq_true hom]
     obtain ⟨er,her,hie,hcs,hib⟩:=HEC.out hom
     rw [hie] at HIS
     obtain ⟨ib,hib2⟩:∃ ib,isB ⟨F,R,l,bl,ca,ps,ha,fu⟩ ⟨x,y,t⟩=ib:=⟨_,rfl⟩
     rw [hib2] at HIS hcs hib
     have HER:=Lib.hid her
     have HIB:=Lib.hid hib
     have HCS:=Lib.hid hcs
     have HBV:Hid (Bw w4 w4):=Lib.hid (Below.refl _ _)
     clear hom her hie hcs hib hib2 HEC
     obtain ⟨p0,p1,p2,p3,p4,p5,p6,p7⟩:=HP_4.out.h8
     obtain ⟨m0,m1,m2⟩:=HM_4.out.h3
     go_wp2_with fail
     refine (HIS.out _ HT_4.out HA_4.out).mono ?_
     rintro e w5 ⟨rfl,hq⟩
     have HBV_5:Hid (Bw w4 _):=Lib.hid (chain HBV.out hq)
     have HP_6:=Lib.hid (HP_4.out.below hq HP_4.out.lt)
     have HM_6:=Lib.hid (HM_4.out.below hq HM_4.out.lt)
     have HB_6:Hid (Bw w _):=Lib.hid (chain HB_4.out hq)
     have HA_6:=Lib.hid (rdBo hq HA_4.out)
     have HT_6:=Lib.hid (HT_4.out.below hq)
     have HL1_6:=Lib.hid (rdMv hq HL1_4.out)
     clear hq HP_4 HM_4 HB_4 HA_4 HT_4 HL1_4 p0 p1 p2 p3 p4 p5 p6 p7 m0 m1 m2 HIS HBV
     obtain ⟨p0,p1,p2,p3,p4,p5,p6,p7⟩:=HP_6.out.h8
     obtain ⟨m0,m1,m2⟩:=HM_6.out.h3
     go_wp2_with fail
     refine (HMK.out _ HT_6.out HA_6.out).mono ?_
     intro e w6 hM
     obtain ⟨a0,a1,a2,n2,c2,a3,a4,a5,a6,a7,u0,u1,u2,u3,u4,u5,u6,u7,u8,rfl,hq⟩:=made_is hM
     rw [HER.out]
     clear hM HMK
     have HBV_7:Hid (Bw w4 _):=Lib.hid (chain HBV_5.out hq)
     have HP_8:=Lib.hid (HP_6.out.below hq HP_6.out.lt)
     have HM_8:=Lib.hid (HM_6.out.below hq HM_6.out.lt)
     have HB_8:Hid (Bw w _):=Lib.hid (chain HB_6.out hq)
     have HA_8:=Lib.hid (rdBo hq HA_6.out)
     have HT_8:=Lib.hid (HT_6.out.below hq)
     have HL1_8:=Lib.hid (rdMv hq HL1_6.out)
     clear hq HP_6 HM_6 HB_6 HA_6 HT_6 HL1_6 p0 p1 p2 p3 p4 p5 p6 p7 m0 m1 m2 HBV_5
     have B1:=box1 (w6) (.cells #[.int .i64 0,.int .i64 0,.slice none 0 0,.bool false,.int .u8 0,.int .i64 0,.int .i64 0,.int .i64 0] 26)
     have B2:=box1 (w6.alloc (.cells #[.int .i64 0,.int .i64 0,.slice none 0 0,.bool false,.int .u8 0,.int .i64 0,.int .i64 0,.int .i64 0] 26)) (.cells #[.int .i64 0,.int .i64 0,.int .i8 0,.int .i8 0,.int .i64 0,.int .u8 0,.int .i64 0,.int .i64 0,.int .i64 0] 35)
     have hNA:=Bxs.new (w6) [.int .i64 0,.int .i64 0,.slice none 0 0,.bool false,.int .u8 0,.int .i64 0,.int .i64 0,.int .i64 0] 26
     have hNU:=Bxs.new (w6.alloc (.cells #[.int .i64 0,.int .i64 0,.slice none 0 0,.bool false,.int .u8 0,.int .i64 0,.int .i64 0,.int .i64 0] 26)) [.int .i64 0,.int .i64 0,.int .i8 0,.int .i8 0,.int .i64 0,.int .u8 0,.int .i64 0,.int .i64 0,.int .i64 0] 35
     rw [World.size_alloc] at hNU
     have NA0:=Lib.hid (hNA.below B2 hNA.lt)
     have NU0:=Lib.hid (hNU)
     have hB:=(chain B1 B2)
     have HN0:Hid (Bw w6 ((w6.alloc (.cells #[.int .i64 0,.int .i64 0,.slice none 0 0,.bool false,.int .u8 0,.int .i64 0,.int .i64 0,.int .i64 0] 26)).alloc (.cells #[.int .i64 0,.int .i64 0,.int .i8 0,.int .i8 0,.int .i64 0,.int .u8 0,.int .i64 0,.int .i64 0,.int .i64 0] 35))):=Lib.hid hB
     obtain ⟨na0,na1,na2,na3,na4,na5,na6,na7⟩:=NA0.out.h8
     obtain ⟨nu0,nu1,nu2,nu3,nu4,nu5,nu6,nu7,nu8⟩:=NU0.out.h9
     have nf:=NA0.out.2
     have ng:=NU0.out.2
     clear hB hNA hNU B1 B2
     go_upto_region 9 with fail
     have hq:Below w6.heap.size w6 ((w6.alloc (.cells #[.int .i64 a0,.int .i64 a1,.slice a2 n2 c2,.bool a3,.int .u8 a4,.int .i64 a5,.int .i64 a6,.int .i64 a7] 26)).alloc (.cells #[.int .i64 u0,.int .i64 u1,.int .i8 u2,.int .i8 u3,.int .i64 u4,.int .u8 u5,.int .i64 u6,.int .i64 u7,.int .i64 u8] 35)):=chain (box1 _ _) (box1 _ _)
     generalize (w6.alloc (.cells #[.int .i64 a0,.int .i64 a1,.slice a2 n2 c2,.bool a3,.int .u8 a4,.int .i64 a5,.int .i64 a6,.int .i64 a7] 26)).alloc (.cells #[.int .i64 u0,.int .i64 u1,.int .i8 u2,.int .i8 u3,.int .i64 u4,.int .u8 u5,.int .i64 u6,.int .i64 u7,.int .i64 u8] 35)=wz at *
     clear HN0 NA0 NU0 na0 na1 na2 na3 na4 na5 na6 na7 nu0 nu1 nu2 nu3 nu4 nu5 nu6 nu7 nu8 nf ng
     have HBV_9:Hid (Bw w4 _):=Lib.hid (chain HBV_7.out hq)
     have HP_10:=Lib.hid (HP_8.out.below hq HP_8.out.lt)
     have HM_10:=Lib.hid (HM_8.out.below hq HM_8.out.lt)
     have HB_10:Hid (Bw w _):=Lib.hid (chain HB_8.out hq)
     have HA_10:=Lib.hid (rdBo hq HA_8.out)
     have HT_10:=Lib.hid (HT_8.out.below hq)
     have HL1_10:=Lib.hid (rdMv hq HL1_8.out)
     clear hq HP_8 HM_8 HB_8 HA_8 HT_8 HL1_8 HBV_7
     have HLW:Hid (∀ W,Bw wz W->RdM W W.heap.size AL1 L):=Lib.hid (fun W h=>rdMv h HL1_10.out)
     have HMW:Hid (∀ W,Bw wz W->Bxs W (w.heap.size+1) [.int .i64 x,.int .i64 y,.int .i8 t]):=Lib.hid (fun W h=>HM_10.out.below h HM_10.out.lt)
     go_wp2
     go_loopw [12,14,59] (fun s _ i wr=>∃ k:Nat,k<=L.length/\i=.int .i64 (k:Int)/\s=.bool (decide (⟨x,y,t⟩∈L.take k))/\Bw wz wr) (fun _ _ i _=>L.length - (intOf i).toNat)
     case atStart=>exact ⟨0,Nat.zero_le _,rfl,by simp,Below.refl _ _⟩
     case round =>
      obtain ⟨wo,rfl⟩:∃ wo:World,wo=wr:=⟨_,rfl⟩
      obtain ⟨k,hk,rfl,rfl,hW⟩:=hrel
      have HQ:Hid (Bw wz wo):=Lib.hid hW
      clear hW
      by_cases hlt:k<L.length
      ·obtain ⟨xm,hxm⟩:∃ xm,L[k]?=some xm:=⟨_,List.getElem?_eq_getElem hlt⟩
       obtain ⟨ad,hAe,had,c0,c1,c2⟩:=(HLW.out wo HQ.out).at_ hxm
       obtain rfl:=hAe
       have HTK:=Lib.hid (take_mem (m:=⟨x,y,t⟩) hxm)
       obtain ⟨xa,xb,xp⟩:=xm
       simp only at c0 c1 c2
       have hki:(k:Int)<(L.length:Int):=by omega
       have hk0:(0:Int)<=(k:Int):=by omega
       have hLb:=HLL.out
       obtain ⟨dd,hdd⟩:∃ dd,decide ((⟨xa,xb,xp⟩:Mv)=⟨x,y,t⟩)=dd:=⟨_,rfl⟩
       have HEQ:∀ W:World,(binOp .eql 30 (.agg #[.int .i64 xa,.int .i64 xb,.int .i8 xp]) (.agg #[.int .i64 x,.int .i64 y,.int .i8 t])).run Tryz.prog W=.ok (.bool dd) W:=fun W=>by
        rw [<- hdd]
        exact eql_mv ⟨xa,xb,xp⟩ ⟨x,y,t⟩ W
       rw [hdd] at HTK
       clear hdd hxm
       go_upto_region 13 with fail
       have HX:=Lib.hid (Bxs.new wo [.int .i64 xa,.int .i64 xb,.int .i8 xp] 30)
       have hq:=box1 wo (.cells #[.int .i64 xa,.int .i64 xb,.int .i8 xp] 30)
       have HQ1:Hid (Bw wz _):=Lib.hid (chain HQ.out hq)
       clear hq HQ c0 c1 c2
       generalize wo.alloc (.cells #[.int .i64 xa,.int .i64 xb,.int .i8 xp] 30)=w1x at *
       generalize wo.heap.size=gx at *
       obtain ⟨bk,hbk⟩:∃ bk,decide (⟨x,y,t⟩∈L.take k)=bk:=⟨_,rfl⟩
       rw [hbk] at HTK ⊢
       clear hbk
       obtain ⟨x0,x1,x2⟩:=HX.out.h3
       have m0:=(HMW.out _ HQ1.out).c 0 rfl
       have m1:=(HMW.out _ HQ1.out).c 1 rfl
       have m2:=(HMW.out _ HQ1.out).c 2 rfl
       cases bk
       all_goals
        go_wp2
        go_round
        case rel=>exact ⟨k+1,by omega,rfl,by rw [HTK.out];rfl,HQ1.out⟩
        case measure=>simp [intOf];omega
      ·have hkl:k=L.length:=by omega
       subst hkl
       have hki:¬ ((L.length:Int)<(L.length:Int)):=by omega
       have htl:decide (⟨x,y,t⟩∈L.take L.length)=ib:=by rw [List.take_length];exact HIB.out.symm
       rw [htl]
       have HBW:=Lib.hid (chain HBV_9.out HQ.out)
       clear htl HIB
       rcases HCS.out with ⟨(rfl | rfl),rfl⟩ | ⟨(rfl | rfl | rfl),rfl⟩
       all_goals
        clear HCS HER
        go_wp2
        go_meet
        case rel=>exact HBW.out
    ·skip
     rw [decide_eq_false hom]
     clear hom HEC
     go_wp2
     go_meet
     case rel=>exact Below.refl _ _
   case rest =>
    obtain ⟨wd,rfl⟩:∃ wd:World,wd=wc:=⟨_,rfl⟩
    replace hcut:Bw w4 wd:=hcut
    clear HEC HIS HMK
    have HP_5:=Lib.hid (HP_4.out.below hcut HP_4.out.lt)
    have HM_5:=Lib.hid (HM_4.out.below hcut HM_4.out.lt)
    have HB_5:Hid (Bw w _):=Lib.hid (chain HB_4.out hcut)
    have HA_5:=Lib.hid (rdBo hcut HA_4.out)
    have HT_5:=Lib.hid (HT_4.out.below hcut)
    have HL1_5:=Lib.hid (rdMv hcut HL1_4.out)
    clear hcut HP_4 HM_4 HB_4 HA_4 HT_4 HL1_4
    have HPW:Hid (∀ W,Bw wd W->Bxs W w.heap.size [.int .i64 F,.int .i64 R,.slice A l.length c,.bool bl,.int .u8 (ca:Int),.int .i64 ps,.int .i64 ha,.int .i64 fu]):=Lib.hid (fun W h=>HP_5.out.below h HP_5.out.lt)
    have HTW:Hid (∀ W,Bw wd W->T8 W):=Lib.hid (fun W h=>HT_5.out.below h)
    have HAW:Hid (∀ W,Bw wd W->RdP W W.heap.size A l c):=Lib.hid (fun W h=>rdBo h HA_5.out)
    have HLW:Hid (∀ W,Bw wd W->RdM W W.heap.size AL1 L):=Lib.hid (fun W h=>rdMv h HL1_5.out)
    have p2:=HP_5.out.c 2 rfl
    go_wp2
    clear p2
    go_loopw [15,16,17,18,94] (fun a _ _ _ i wr=>∃ k:Nat,k<=l.length/\i=.int .i64 (k:Int)/\wr.ownsRow wd.heap.size 30 3 a (psdM ⟨F,R,l,bl,ca,ps,ha,fu⟩ k).length (vmvs (psdM ⟨F,R,l,bl,ca,ps,ha,fu⟩ k))/\Bw wd wr) (fun _ _ _ _ i _=>l.length - (intOf i).toNat)
    case atStart=>exact ⟨0,Nat.zero_le _,rfl,World.ownsRow_nil _ _ _ _,Below.refl _ _⟩
    case round =>
     obtain ⟨wo,rfl⟩:∃ wo:World,wo=wr:=⟨_,rfl⟩
     obtain ⟨k,hk,rfl,hown,hW⟩:=hrel
     have HQ:Hid (Bw wd wo):=Lib.hid hW
     clear hW
     by_cases hlt:k<l.length
     ·have hki:(k:Int)<(l.length:Int):=by omega
      have HOr:=Lib.hid hown
      have HMk:=Lib.hid (HMZ.out k)
      have HF1:=Lib.hid (HFR.out (k:Int) (HVT.out k hlt) wo (HTW.out wo HQ.out) (HAW.out wo HQ.out))
      have hL1:=HLE.out k (by omega)
      have hL2:=HLF.out (k:Int)
      obtain ⟨p0,p1,p2,p3,p4,p5,p6,p7⟩:_/\_/\_/\_/\_/\_/\_/\_:=⟨(HPW.out _ HQ.out).c 0 rfl,(HPW.out _ HQ.out).c 1 rfl,(HPW.out _ HQ.out).c 2 rfl,(HPW.out _ HQ.out).c 3 rfl,(HPW.out _ HQ.out).c 4 rfl,(HPW.out _ HQ.out).c 5 rfl,(HPW.out _ HQ.out).c 6 rfl,(HPW.out _ HQ.out).c 7 rfl⟩
      clear hown
      go_wp2_with fail
      refine (HF1.out).mono ?_
      rintro e w1 ⟨v2,rfl,hown2,hq⟩
      have hown1:=own_below HOr.out hq
      have hB1:=chain HQ.out hq
      have hn1:wd.heap.size<=w1.heap.size:=Bw.size hB1
      clear p0 p1 p2 p3 p4 p5 p6 p7 hq HF1 HOr HQ
      go_wp2_with (at_builtin;(refine wpList_append_mvs rfl (.tmp 105) (.tmp 106) rfl wd.heap.size _ _ _ (psdM ⟨F,R,l,bl,ca,ps,ha,fu⟩ k) (psdF ⟨F,R,l,bl,ca,ps,ha,fu⟩ (k:Int)) rfl hown1 rfl hown2 (by omega) hn1 ?_))
      intro v' w2 hown' hgrow
      have HR:=Lib.hid hown'
      have HB2:Hid (Bw wd w2):=Lib.hid (hB1.grown hgrow hn1 (fun r e=>(World.ownsRow.lt hown1 r e).1))
      clear hown' hgrow hown1 hown2 hB1 hn1
      go_wp2
      go_roundw
      case rel=>exact ⟨k+1,by omega,rfl,by rw [HMk.out,List.length_append];exact HR.out,HB2.out⟩
      case measure=>simp [intOf];omega
     ·have hkl:k=l.length:=by omega
      subst hkl
      have hki:¬ ((l.length:Int)<(l.length:Int)):=by omega
      rw [HMA.out] at hown
      obtain ⟨A5,c5,rfl,_,hrd5⟩:=RdM.own hown
      have HR5:=Lib.hid hrd5
      clear hown hrd5 HFR HVT HMZ HLE HLF HMA
      go_wp2
      go_loopw [20,21,22,23,111] (fun _ _ _ _ i wr=>∃ k:Nat,k<=L.length/\i=.int .i64 (k:Int)/\Bw wo wr) (fun _ _ _ _ i _=>L.length - (intOf i).toNat)
      case atStart=>exact ⟨0,Nat.zero_le _,rfl,Below.refl _ _⟩
      case round =>
       obtain ⟨wp,rfl⟩:∃ wp:World,wp=wr:=⟨_,rfl⟩
       obtain ⟨k,hk,rfl,hW⟩:=hrel
       have HQ1:Hid (Bw wo wp):=Lib.hid hW
       have HQ2:Hid (Bw wd wp):=Lib.hid (chain HQ.out hW)
       clear hW
       by_cases hlt:k<L.length
       ·obtain ⟨xm,hxm⟩:∃ xm,L[k]?=some xm:=⟨_,List.getElem?_eq_getElem hlt⟩
        obtain ⟨ad,hAe,had,c0,c1,c2⟩:=(HLW.out wp HQ2.out).at_ hxm
        obtain rfl:=hAe
        obtain ⟨hd,h6,h7⟩:=HMM.out xm (List.mem_of_getElem? hxm)
        obtain ⟨xa,xb,xp⟩:=xm
        simp only at c0 c1 c2
        have HC1:=Lib.hid (HCP.out xa xb xp)
        rw [hd] at HC1
        obtain ⟨cv,hcv⟩:∃ z,cpA ⟨F,R,l,bl,ca,ps,ha,fu⟩ ⟨xa,xb,xp⟩=z:=⟨_,rfl⟩
        rw [hcv] at HC1 h6 h7
        have e6:(cv == 6)=false:=by simpa using h6
        have e7:(cv == -6)=false:=by simpa using h7
        have hki:(k:Int)<(L.length:Int):=by omega
        have hk0:(0:Int)<=(k:Int):=by omega
        have hLb:=HLL.out
        clear hxm hd h6 h7 hcv
        go_upto_region 29 with fail
        have HX:=Lib.hid (Bxs.new wp [.int .i64 xa,.int .i64 xb,.int .i8 xp] 30)
        have hq:=box1 wp (.cells #[.int .i64 xa,.int .i64 xb,.int .i8 xp] 30)
        have HQ3:Hid (Bw wo _):=Lib.hid (chain HQ1.out hq)
        have HQ4:Hid (Bw wd _):=Lib.hid (chain HQ2.out hq)
        clear hq HQ1 HQ2 c0 c1 c2
        generalize wp.alloc (.cells #[.int .i64 xa,.int .i64 xb,.int .i8 xp] 30)=w1x at *
        generalize wp.heap.size=gx at *
        obtain ⟨p0,p1,p2,p3,p4,p5,p6,p7⟩:_/\_/\_/\_/\_/\_/\_/\_:=⟨(HPW.out _ HQ4.out).c 0 rfl,(HPW.out _ HQ4.out).c 1 rfl,(HPW.out _ HQ4.out).c 2 rfl,(HPW.out _ HQ4.out).c 3 rfl,(HPW.out _ HQ4.out).c 4 rfl,(HPW.out _ HQ4.out).c 5 rfl,(HPW.out _ HQ4.out).c 6 rfl,(HPW.out _ HQ4.out).c 7 rfl⟩
        obtain ⟨x0,x1,x2⟩:=HX.out.h3
        go_wp2_with fail
        refine (HC1.out _ (HTW.out _ HQ4.out) (HAW.out _ HQ4.out)).mono ?_
        rintro e w2x ⟨rfl,hq⟩
        have HQ5:Hid (Bw wo _):=Lib.hid (chain HQ3.out hq)
        clear hq HQ3 HQ4 p0 p1 p2 p3 p4 p5 p6 p7 x0 x1 x2
        go_wp2
        go_round
        case rel=>exact ⟨k+1,by omega,rfl,HQ5.out⟩
        case measure=>simp [intOf];omega
       ·have hkl:k=L.length:=by omega
        subst hkl
        have hki:¬ ((L.length:Int)<(L.length:Int)):=by omega
        have HS:=Lib.hid (fun w h1 h2=>rmSame_eq L A5 AL1 c5 cL1 (by have:=HLL.out;omega) w h1 h2)
        go_wp2_with fail
        refine (HS.out wp (rdMv HQ1.out HR5.out) (HLW.out wp HQ2.out)).mono ?_
        rintro e w8 ⟨rfl,hq⟩
        have HT8:=HTW.out w8 (chain HQ2.out hq)
        have HB8:=chain HB_5.out (chain HQ2.out hq)
        clear hq
        go_wp2_with fail
        refine (known9_any _ HT8).mono ?_
        rintro e wk ⟨rfl,hq⟩
        have hBk:=chain HB8 hq
        clear hq
        go_wp2
        go_ret
        exact ⟨rfl,hBk⟩
 ·skip
  obtain ⟨p0,p1,p2,p3,p4,p5,p6,p7⟩:=HP0.out.h8
  go_wp2_with fail
  refine (small9_no F R l A c bl ca ps ha fu hs _).mono ?_
  rintro e w1 ⟨rfl,hq⟩
  have HP_1:=Lib.hid (HP0.out.below hq HP0.out.lt)
  have HM_1:=Lib.hid (HM0.out.below hq HM0.out.lt)
  have HB_1:Hid (Bw w _):=Lib.hid (chain HB0.out hq)
  have HA_1:=Lib.hid (rdBo hq HA0.out)
  have HT_1:=Lib.hid (HT0.out.below hq)
  clear hq HP0 HM0 HB0 HA0 HT0 p0 p1 p2 p3 p4 p5 p6 p7
  go_wp2_with fail
  refine (known9_any _ HT_1.out).mono ?_
  rintro e wk ⟨rfl,hq⟩
  have hBk:=chain HB_1.out hq
  clear hq
  go_wp2
  go_ret
  exact ⟨rfl,hBk⟩
end Go.Proofs.YtbccbgonlmkpkaaGreatDoor
