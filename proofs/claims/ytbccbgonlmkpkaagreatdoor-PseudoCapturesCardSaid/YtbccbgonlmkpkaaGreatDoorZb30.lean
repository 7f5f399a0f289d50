/- What the theorem needs, piece Zb30. -/
import Derived.Test.YtbccbgonlmkpkaaGreatDoorZb29
import Derived.Test.YtbccbgonlmkpkaaGreatDoorZb25
import Derived.Test.YtbccbgonlmkpkaaGreatDoorZb26
import Derived.Test.YtbccbgonlmkpkaaGreatDoorZb19
import Derived.Test.YtbccbgonlmkpkaaGreatDoorZb01
import Derived.Test.YtbccbgonlmkpkaaGreatDoorZb27
set_option linter.unusedSimpArgs false
set_option linter.unusedVariables false
set_option maxRecDepth 1000000
set_option maxHeartbeats 16000000
namespace Go.Proofs.YtbccbgonlmkpkaaGreatDoor
open Go.RowKit Go.Sort
theorem made_is {w w':World} {p:Po} {m:Mv} {e:Ending} (h:MadeP w p m e w') :
  ∃ (a0 a1:Int) (a2:Option Addr) (n2 c2:Nat) (a3:Bool) (a4 a5 a6 a7 u0 u1 u2 u3 u4 u5 u6 u7 u8:Int),e=.returned (.tuple #[.agg #[.int .i64 a0,.int .i64 a1,.slice a2 n2 c2,.bool a3,.int .u8 a4,.int .i64 a5,.int .i64 a6,.int .i64 a7],.agg #[.int .i64 u0,.int .i64 u1,.int .i8 u2,.int .i8 u3,.int .i64 u4,.int .u8 u5,.int .i64 u6,.int .i64 u7,.int .i64 u8],.int .i64 (errM p m)])/\Below w.heap.size w w':=by
 rcases h with ⟨h1,rfl,hb⟩ | ⟨h0,v,rfl,ho,hb⟩
 ·exact ⟨0,0,none,0,0,false,0,0,0,0,0,0,0,0,0,0,0,0,0,rfl,hb⟩
 ·rw [h0]
  obtain ⟨_,⟨rfl,_⟩ | ⟨g,cap,cur,rfl,_⟩⟩:=ho
  ·exact ⟨p.F,p.R,none,0,0,_,_,_,_,_,_,_,_,_,_,_,_,_,_,rfl,hb⟩
  ·exact ⟨p.F,p.R,some ⟨g,0,none⟩,_,cap,_,_,_,_,_,_,_,_,_,_,_,_,_,_,rfl,hb⟩
theorem qIs_any (F R:Int) (l:List Int) (A:Option Addr) (c:Nat) (bl:Bool) (ca:Nat) (ps ha fu:Int) (x y t:Int) (hca:ca<256) (hlen:l.length<=100000) (hcap:l.length<=c) (w:World) (hAC:AftC) (hT:T8 w) (hA:RdP w w.heap.size A l c) :
  Calls Tryz.prog 34 #[.agg #[.int .i64 F,.int .i64 R,.slice A l.length c,.bool bl,.int .u8 (ca:Int),.int .i64 ps,.int .i64 ha,.int .i64 fu],.agg #[.int .i64 x,.int .i64 y,.int .i8 t]] w fun e w'=>e=.returned (.tuple #[.bool (isB ⟨F,R,l,bl,ca,ps,ha,fu⟩ ⟨x,y,t⟩),.int .i64 (isE ⟨F,R,l,bl,ca,ps,ha,fu⟩ ⟨x,y,t⟩)])/\Below w.heap.size w w':=by
 have HMK:=Lib.hid (fun w hT hA=>pMake_any F R l A c bl ca ps ha fu x y t hca hlen hcap w hAC hT hA)
 have HEC:=Lib.hid (err_cases ⟨F,R,l,bl,ca,ps,ha,fu⟩ ⟨x,y,t⟩)
 have B1:=box1 (w) (.cells #[.int .i64 F,.int .i64 R,.slice A l.length c,.bool bl,.int .u8 (ca:Int),.int .i64 ps,.int .i64 ha,.int .i64 fu] 26)
 have B2:=box1 (w.alloc (.cells #[.int .i64 F,.int .i64 R,.slice A l.length c,.bool bl,.int .u8 (ca:Int),.int .i64 ps,.int .i64 ha,.int .i64 fu] 26)) (.cells #[.int .i64 x,.int .i64 y,.int .i8 t] 30)
 have hHP:=Bxs.new (w) [.int .i64 F,.int .i64 R,.slice A l.length c,.bool bl,.int .u8 (ca:Int),.int .i64 ps,.int .i64 ha,.int .i64 fu] 26
 have hHM:=Bxs.new (w.alloc (.cells #[.int .i64 F,.int .i64 R,.slice A l.length c,.bool bl,.int .u8 (ca:Int),.int .i64 ps,.int .i64 ha,.int .i64 fu] 26)) [.int .i64 x,.int .i64 y,.int .i8 t] 30
 rw [World.size_alloc] at hHM
 have HP0:=Lib.hid (hHP.below B2 hHP.lt)
 have HM0:=Lib.hid (hHM)
 have hB:=(chain B1 B2)
 have HB0:Hid (Bw w ((w.alloc (.cells #[.int .i64 F,.int .i64 R,.slice A l.length c,.bool bl,.int .u8 (ca:Int),.int .i64 ps,.int .i64 ha,.int .i64 fu] 26)).alloc (.cells #[.int .i64 x,.int .i64 y,.int .i8 t] 30))):=Lib.hid hB
 have HA0:=Lib.hid (rdBo hB hA)
 have HT0:=Lib.hid (hT.below hB)
 clear hB B1 B2 hHP hHM hA hT
 go_enter Tryz.func34,Tryz.ntmps34
 go_upto_region 1 with fail
 generalize (w.alloc (.cells #[.int .i64 F,.int .i64 R,.slice A l.length c,.bool bl,.int .u8 (ca:Int),.int .i64 ps,.int .i64 ha,.int .i64 fu] 26)).alloc (.cells #[.int .i64 x,.int .i64 y,.int .i8 t] 30)=V at *
 obtain ⟨p0,p1,p2,p3,p4,p5,p6,p7⟩:=HP0.out.h8
 obtain ⟨m0,m1,m2⟩:=HM0.out.h3
 go_wp2_with fail
 refine (HMK.out _ HT0.out HA0.out).mono ?_
 intro e w1 hM
 obtain ⟨a0,a1,a2,n2,c2,a3,a4,a5,a6,a7,u0,u1,u2,u3,u4,u5,u6,u7,u8,rfl,hq⟩:=made_is hM
 clear hM HMK
 have HP_1:=Lib.hid (HP0.out.below hq HP0.out.lt)
 have HM_1:=Lib.hid (HM0.out.below hq HM0.out.lt)
 have HB_1:Hid (Bw w _):=Lib.hid (chain HB0.out hq)
 have HA_1:=Lib.hid (rdBo hq HA0.out)
 have HT_1:=Lib.hid (HT0.out.below hq)
 clear hq HP0 HM0 HB0 HA0 HT0 p0 p1 p2 p3 p4 p5 p6 p7 m0 m1 m2
 have B1:=box1 (w1) (.cells #[.int .i64 0,.int .i64 0,.slice none 0 0,.bool false,.int .u8 0,.int .i64 0,.int .i64 0,.int .i64 0] 26)
 have B2:=box1 (w1.alloc (.cells #[.int .i64 0,.int .i64 0,.slice none 0 0,.bool false,.int .u8 0,.int .i64 0,.int .i64 0,.int .i64 0] 26)) (.cells #[.int .i64 0,.int .i64 0,.int .i8 0,.int .i8 0,.int .i64 0,.int .u8 0,.int .i64 0,.int .i64 0,.int .i64 0] 35)
 have hNA:=Bxs.new (w1) [.int .i64 0,.int .i64 0,.slice none 0 0,.bool false,.int .u8 0,.int .i64 0,.int .i64 0,.int .i64 0] 26
 have hNU:=Bxs.new (w1.alloc (.cells #[.int .i64 0,.int .i64 0,.slice none 0 0,.bool false,.int .u8 0,.int .i64 0,.int .i64 0,.int .i64 0] 26)) [.int .i64 0,.int .i64 0,.int .i8 0,.int .i8 0,.int .i64 0,.int .u8 0,.int .i64 0,.int .i64 0,.int .i64 0] 35
 rw [World.size_alloc] at hNU
 have NA0:=Lib.hid (hNA.below B2 hNA.lt)
 have NU0:=Lib.hid (hNU)
 have hB:=(chain B1 B2)
 have HN0:Hid (Bw w1 ((w1.alloc (.cells #[.int .i64 0,.int .i64 0,.slice none 0 0,.bool false,.int .u8 0,.int .i64 0,.int .i64 0,.int .i64 0] 26)).alloc (.cells #[.int .i64 0,.int .i64 0,.int .i8 0,.int .i8 0,.int .i64 0,.int .u8 0,.int .i64 0,.int .i64 0,.int .i64 0] 35))):=Lib.hid hB
 obtain ⟨na0,na1,na2,na3,na4,na5,na6,na7⟩:=NA0.out.h8
 obtain ⟨nu0,nu1,nu2,nu3,nu4,nu5,nu6,nu7,nu8⟩:=NU0.out.h9
 have nf:=NA0.out.2
 have ng:=NU0.out.2
 clear hB hNA hNU B1 B2
 rcases HEC.out with ⟨h1,h2,h3⟩ | ⟨(h1 | h1),h2,h3⟩ | ⟨(h1 | h1 | h1),h2,h3⟩
 all_goals
  rw [h1]
  have H2:=Lib.hid h2
  have H3:=Lib.hid h3
  clear HEC h1 h2 h3
  go_wp2
  go_ret2
  exact ⟨by rw [H2.out,H3.out];rfl,Bw.alloc (Bw.alloc HB_1.out _) _⟩
end Go.Proofs.YtbccbgonlmkpkaaGreatDoor
namespace Go.Proofs.YtbccbgonlmkpkaaGreatDoor
open Go.RowKit Go.Sort
theorem qDem_any (F R:Int) (l:List Int) (A:Option Addr) (c:Nat) (bl:Bool) (ca:Nat) (ps ha fu:Int) (x y t:Int) (hca:ca<256) (hlen:l.length<=100000) (hcap:l.length<=c) (w:World) (hAC:AftC) (hT:T8 w) (hA:RdP w w.heap.size A l c) :
  Calls Tryz.prog 82 #[.agg #[.int .i64 F,.int .i64 R,.slice A l.length c,.bool bl,.int .u8 (ca:Int),.int .i64 ps,.int .i64 ha,.int .i64 fu],.agg #[.int .i64 x,.int .i64 y,.int .i8 t]] w fun e w'=>e=.returned (.int .i64 (dmE ⟨F,R,l,bl,ca,ps,ha,fu⟩ ⟨x,y,t⟩))/\Below w.heap.size w w':=by
 have HIS:=Lib.hid (fun w hT hA=>qIs_any F R l A c bl ca ps ha fu x y t hca hlen hcap w hAC hT hA)
 have HDC:=Lib.hid (dm_cases ⟨F,R,l,bl,ca,ps,ha,fu⟩ ⟨x,y,t⟩)
 have B1:=box1 (w) (.cells #[.int .i64 F,.int .i64 R,.slice A l.length c,.bool bl,.int .u8 (ca:Int),.int .i64 ps,.int .i64 ha,.int .i64 fu] 26)
 have B2:=box1 (w.alloc (.cells #[.int .i64 F,.int .i64 R,.slice A l.length c,.bool bl,.int .u8 (ca:Int),.int .i64 ps,.int .i64 ha,.int .i64 fu] 26)) (.cells #[.int .i64 x,.int .i64 y,.int .i8 t] 30)
 have hHP:=Bxs.new (w) [.int .i64 F,.int .i64 R,.slice A l.length c,.bool bl,.int .u8 (ca:Int),.int .i64 ps,.int .i64 ha,.int .i64 fu] 26
 have hHM:=Bxs.new (w.alloc (.cells #[.int .i64 F,.int .i64 R,.slice A l.length c,.bool bl,.int .u8 (ca:Int),.int .i64 ps,.int .i64 ha,.int .i64 fu] 26)) [.int .i64 x,.int .i64 y,.int .i8 t] 30
 rw [World.size_alloc] at hHM
 have HP0:=Lib.hid (hHP.below B2 hHP.lt)
 have HM0:=Lib.hid (hHM)
 have hB:=(chain B1 B2)
 have HB0:Hid (Bw w ((w.alloc (.cells #[.int .i64 F,.int .i64 R,.slice A l.length c,.bool bl,.int .u8 (ca:Int),.int .i64 ps,.int .i64 ha,.int .i64 fu] 26)).alloc (.cells #[.int .i64 x,.int .i64 y,.int .i8 t] 30))):=Lib.hid hB
 have HA0:=Lib.hid (rdBo hB hA)
 have HT0:=Lib.hid (hT.below hB)
 clear hB B1 B2 hHP hHM hA hT
 go_enter Tryz.func82,Tryz.ntmps82
 go_upto_region 1 with fail
 generalize (w.alloc (.cells #[.int .i64 F,.int .i64 R,.slice A l.length c,.bool bl,.int .u8 (ca:Int),.int .i64 ps,.int .i64 ha,.int .i64 fu] 26)).alloc (.cells #[.int .i64 x,.int .i64 y,.int .i8 t] 30)=V at *
 obtain ⟨p0,p1,p2,p3,p4,p5,p6,p7⟩:=HP0.out.h8
 obtain ⟨m0,m1,m2⟩:=HM0.out.h3
 go_wp2_with fail
 refine (HIS.out _ HT0.out HA0.out).mono ?_
 rintro e w1 ⟨rfl,hq⟩
 have HP_1:=Lib.hid (HP0.out.below hq HP0.out.lt)
 have HM_1:=Lib.hid (HM0.out.below hq HM0.out.lt)
 have HB_1:Hid (Bw w _):=Lib.hid (chain HB0.out hq)
 have HA_1:=Lib.hid (rdBo hq HA0.out)
 have HT_1:=Lib.hid (HT0.out.below hq)
 clear hq HP0 HM0 HB0 HA0 HT0 p0 p1 p2 p3 p4 p5 p6 p7 m0 m1 m2 HIS
 rcases HDC.out with ⟨h1,h2,h3⟩ | ⟨h1,h2,h3⟩ | ⟨h1,h2,h3⟩
 all_goals
  rw [h1,h2]
  have H3:=Lib.hid h3
  clear HDC h1 h2 h3
  go_wp2
  go_ret
  exact ⟨by rw [H3.out];rfl,HB_1.out⟩
def tgV (p:Po) (m:Mv):Int:=if m.b=p.ps/\kdP (pc p.l m.a)=1 then numV p.F p.R (m.b % p.F) (m.a / p.F) else m.b
theorem tg_cap {p:Po} {m:Mv} (h:Mov p m):(pc p.l (tgV p m)=0/\capM p m=-1)\/(pc p.l (tgV p m)≠0/\capM p m=tgV p m):=by
 unfold tgV
 rcases cap_or h with ⟨h1,h2,h3⟩ | ⟨h1,h2,h3⟩ | he
 ·rw [if_neg (fun hh=>h3 ⟨hh.2,hh.1⟩)]
  exact .inl ⟨h2,h1⟩
 ·rw [if_neg (fun hh=>h3 ⟨hh.2,hh.1⟩)]
  exact .inr ⟨h2,h1⟩
 ·by_cases hc:kdP (pc p.l m.a)=1/\m.b=p.ps
  ·have e:capM p m=numV p.F p.R (m.b % p.F) (m.a / p.F):=by unfold capM;rw [if_pos hc]
   rw [if_pos ⟨hc.2,hc.1⟩,<- e]
   refine .inr ⟨(h.capV ?_).1,rfl⟩
   rw [e]
   have ha:=h.hm.1
   have hb:=h.hm.2.1
   obtain ⟨a1,a2,a3,a4⟩:=place_bd (F:=p.F) (R:=p.R) (a:=m.b) ha.1 hb.2.1 hb.2.2
   obtain ⟨b1,b2,b3,b4⟩:=place_bd (F:=p.F) (R:=p.R) (a:=m.a) ha.1 ha.2.1 ha.2.2
   rw [numV_on ⟨a1,a2,b3,b4⟩]
   have:=Int.mul_nonneg b3 (show 0<=p.F by have:=ha.1.1;omega)
   omega
  ·rw [if_neg (fun hh=>hc ⟨hh.2,hh.1⟩)]
   unfold capM
   rw [if_neg hc]
   by_cases h0:pc p.l m.b=0
   ·exact .inl ⟨h0,by rw [if_neg (by simpa using h0)]⟩
   ·exact .inr ⟨h0,by rw [if_pos h0]⟩
theorem tg_vat {p:Po} {m:Mv} (h:okM p.F p.R m):vat p.F p.R (tgV p m):=by
 unfold tgV
 split
 ·have ha:=h.1
  have hb:=h.2.1
  obtain ⟨a1,a2,a3,a4⟩:=place_bd (F:=p.F) (R:=p.R) (a:=m.b) ha.1 hb.2.1 hb.2.2
  obtain ⟨b1,b2,b3,b4⟩:=place_bd (F:=p.F) (R:=p.R) (a:=m.a) ha.1 ha.2.1 ha.2.2
  rw [numV_on ⟨a1,a2,b3,b4⟩]
  exact (num_at ha.1 ⟨a1,a2,b3,b4⟩).1
 ·exact h.2.1
theorem qTgt_any (F R:Int) (l:List Int) (A:Option Addr) (c:Nat) (bl:Bool) (ca:Nat) (ps ha fu:Int) (x y t:Int) (hbd:vbd F R l) (hm:okM F R ⟨x,y,t⟩) (w:World) (hA:RdP w w.heap.size A l c) :
  Calls Tryz.prog 83 #[.agg #[.int .i64 F,.int .i64 R,.slice A l.length c,.bool bl,.int .u8 (ca:Int),.int .i64 ps,.int .i64 ha,.int .i64 fu],.agg #[.int .i64 x,.int .i64 y,.int .i8 t]] w fun e w'=>e=.returned (.int .i64 (tgV ⟨F,R,l,bl,ca,ps,ha,fu⟩ ⟨x,y,t⟩))/\Below w.heap.size w w':=by
 have hx:vat F R x:=hm.1
 have hy:vat F R y:=hm.2.1
 have hl:=hbd.2.1
 have HTG:Hid (tgV ⟨F,R,l,bl,ca,ps,ha,fu⟩ ⟨x,y,t⟩=if y=ps/\kdP (pc l x)=1 then numV F R (y % F) (x / F) else y):=Lib.hid rfl
 obtain ⟨_,x0,x1⟩:=id hx
 obtain ⟨_,y0,y1⟩:=id hy
 have hon:onb F R (y % F) (x / F):=by
  obtain ⟨a1,a2,a3,a4⟩:=place_bd (F:=F) (R:=R) (a:=y) hbd.1 y0 y1
  obtain ⟨b1,b2,b3,b4⟩:=place_bd (F:=F) (R:=R) (a:=x) hbd.1 x0 x1
  exact ⟨a1,a2,b3,b4⟩
 have HN:Hid (numV F R (y % F) (x / F)=y % F+x / F * F):=Lib.hid (by
  rw [numV_on hon,Int.add_comm])
 have HP1:=Lib.hid (placeX_yes F R x hx)
 have HP2:=Lib.hid (placeX_yes F R y hy)
 have HAT:=Lib.hid (at_yes F R (y % F) (x / F) hbd.1 hon)
 obtain ⟨n,rfl⟩:∃ n:Nat,x=(n:Int):=⟨x.toNat,by omega⟩
 have hn:n<l.length:=by omega
 have hq:=hbd.2.2 n hn
 rw [<- pc_nat] at hq
 unfold okP at hq
 have HKN:=Lib.hid (fun w hA=>qKnd_any F R l A c bl ca ps ha fu n hn (by omega) (by omega) w hA)
 have B1:=box1 (w) (.cells #[.int .i64 F,.int .i64 R,.slice A l.length c,.bool bl,.int .u8 (ca:Int),.int .i64 ps,.int .i64 ha,.int .i64 fu] 26)
 have B2:=box1 (w.alloc (.cells #[.int .i64 F,.int .i64 R,.slice A l.length c,.bool bl,.int .u8 (ca:Int),.int .i64 ps,.int .i64 ha,.int .i64 fu] 26)) (.cells #[.int .i64 (n:Int),.int .i64 y,.int .i8 t] 30)
 have hHP:=Bxs.new (w) [.int .i64 F,.int .i64 R,.slice A l.length c,.bool bl,.int .u8 (ca:Int),.int .i64 ps,.int .i64 ha,.int .i64 fu] 26
 have hHM:=Bxs.new (w.alloc (.cells #[.int .i64 F,.int .i64 R,.slice A l.length c,.bool bl,.int .u8 (ca:Int),.int .i64 ps,.int .i64 ha,.int .i64 fu] 26)) [.int .i64 (n:Int),.int .i64 y,.int .i8 t] 30
 rw [World.size_alloc] at hHM
 have HP0:=Lib.hid (hHP.below B2 hHP.lt)
 have HM0:=Lib.hid (hHM)
 have hB:=(chain B1 B2)
 have HB0:Hid (Bw w ((w.alloc (.cells #[.int .i64 F,.int .i64 R,.slice A l.length c,.bool bl,.int .u8 (ca:Int),.int .i64 ps,.int .i64 ha,.int .i64 fu] 26)).alloc (.cells #[.int .i64 (n:Int),.int .i64 y,.int .i8 t] 30))):=Lib.hid hB
 have HA0:=Lib.hid (rdBo hB hA)
 clear hB B1 B2 hHP hHM hA hx hy x0 x1 y0 y1 hon hq hn hl hbd hm
 generalize numV F R (y % F) ((n:Int) / F)=nu at *
 generalize y % F+(n:Int) / F * F=nn at *
 generalize y % F=yf at *
 generalize (n:Int) / F=xr at *
 generalize y / F=yr at *
 generalize (n:Int) % F=xf at *
 generalize kdP (pc l (n:Int))=kd at *
 go_enter Tryz.func83,Tryz.ntmps83
 go_upto_region 1 with fail
 generalize (w.alloc (.cells #[.int .i64 F,.int .i64 R,.slice A l.length c,.bool bl,.int .u8 (ca:Int),.int .i64 ps,.int .i64 ha,.int .i64 fu] 26)).alloc (.cells #[.int .i64 (n:Int),.int .i64 y,.int .i8 t] 30)=V at *
 obtain ⟨p0,p1,p2,p3,p4,p5,p6,p7⟩:=HP0.out.h8
 obtain ⟨m0,m1,m2⟩:=HM0.out.h3
 by_cases hyp:y=ps
 ·skip
  have e1:(y != ps)=false:=by simp [hyp]
  have HY:=Lib.hid hyp
  clear hyp
  go_wp2_with fail
  refine (HKN.out _ HA0.out).mono ?_
  rintro e w1 ⟨rfl,hq⟩
  have HP_1:=Lib.hid (HP0.out.below hq HP0.out.lt)
  have HM_1:=Lib.hid (HM0.out.below hq HM0.out.lt)
  have HB_1:Hid (Bw w _):=Lib.hid (chain HB0.out hq)
  have HA_1:=Lib.hid (rdBo hq HA0.out)
  clear hq HP0 HM0 HB0 HA0 p0 p1 p2 p3 p4 p5 p6 p7 m0 m1 m2 HKN
  by_cases hkd:kd=1
  ·skip
   have e2:(kd != 1)=false:=by simp [hkd]
   have HK:=Lib.hid hkd
   clear hkd
   obtain ⟨p0,p1,p2,p3,p4,p5,p6,p7⟩:=HP_1.out.h8
   obtain ⟨m0,m1,m2⟩:=HM_1.out.h3
   go_wp2_with fail
   refine (HP2.out _).mono ?_
   rintro e w2 ⟨rfl,hq⟩
   have HP_2:=Lib.hid (HP_1.out.below hq HP_1.out.lt)
   have HM_2:=Lib.hid (HM_1.out.below hq HM_1.out.lt)
   have HB_2:Hid (Bw w _):=Lib.hid (chain HB_1.out hq)
   have HA_2:=Lib.hid (rdBo hq HA_1.out)
   clear hq HP_1 HM_1 HB_1 HA_1 p0 p1 p2 p3 p4 p5 p6 p7 m0 m1 m2
   obtain ⟨p0,p1,p2,p3,p4,p5,p6,p7⟩:=HP_2.out.h8
   obtain ⟨m0,m1,m2⟩:=HM_2.out.h3
   go_wp2_with fail
   refine (HP1.out _).mono ?_
   rintro e w3 ⟨rfl,hq⟩
   have HP_3:=Lib.hid (HP_2.out.below hq HP_2.out.lt)
   have HM_3:=Lib.hid (HM_2.out.below hq HM_2.out.lt)
   have HB_3:Hid (Bw w _):=Lib.hid (chain HB_2.out hq)
   have HA_3:=Lib.hid (rdBo hq HA_2.out)
   clear hq HP_2 HM_2 HB_2 HA_2 p0 p1 p2 p3 p4 p5 p6 p7 m0 m1 m2
   obtain ⟨p0,p1,p2,p3,p4,p5,p6,p7⟩:=HP_3.out.h8
   obtain ⟨m0,m1,m2⟩:=HM_3.out.h3
   go_wp2_with fail
   refine (HAT.out _).mono ?_
   rintro e w4 ⟨rfl,hq⟩
   have HP_4:=Lib.hid (HP_3.out.below hq HP_3.out.lt)
   have HM_4:=Lib.hid (HM_3.out.below hq HM_3.out.lt)
   have HB_4:Hid (Bw w _):=Lib.hid (chain HB_3.out hq)
   have HA_4:=Lib.hid (rdBo hq HA_3.out)
   clear hq HP_3 HM_3 HB_3 HA_3 p0 p1 p2 p3 p4 p5 p6 p7 m0 m1 m2
   go_wp2
   go_ret
   exact ⟨ret_int (by rw [HTG.out,if_pos ⟨HY.out,HK.out⟩,HN.out]),HB_4.out⟩
  ·skip
   obtain ⟨p0,p1,p2,p3,p4,p5,p6,p7⟩:=HP_1.out.h8
   obtain ⟨m0,m1,m2⟩:=HM_1.out.h3
   have e2:(kd != 1)=true:=by simpa using hkd
   have HK:=Lib.hid hkd
   clear hkd
   go_wp2
   go_ret
   exact ⟨ret_int (by rw [HTG.out,if_neg (fun h=>HK.out h.2)]),HB_1.out⟩
 ·skip
  have e1:(y != ps)=true:=by simpa using hyp
  have HY:=Lib.hid hyp
  clear hyp
  go_wp2
  go_ret
  exact ⟨ret_int (by rw [HTG.out,if_neg (fun h=>HY.out h.1)]),HB0.out⟩
def cpA (p:Po) (m:Mv):Int:=if dmE p m=0/\0<=capM p m then pc p.l (capM p m) else 0
def cpS (p:Po) (m:Mv):Int:=if dmE p m=0 then capM p m else 0
theorem qCap_any (F R:Int) (l:List Int) (A:Option Addr) (c:Nat) (bl:Bool) (ca:Nat) (ps ha fu:Int) (x y t:Int) (hca:ca<256) (hlen:l.length<=100000) (hcap:l.length<=c) (w:World) (hAC:AftC) (hT:T8 w) (hA:RdP w w.heap.size A l c) :
  Calls Tryz.prog 36 #[.agg #[.int .i64 F,.int .i64 R,.slice A l.length c,.bool bl,.int .u8 (ca:Int),.int .i64 ps,.int .i64 ha,.int .i64 fu],.agg #[.int .i64 x,.int .i64 y,.int .i8 t]] w fun e w'=>e=.returned (.tuple #[.int .i8 (cpA ⟨F,R,l,bl,ca,ps,ha,fu⟩ ⟨x,y,t⟩),.int .i64 (cpS ⟨F,R,l,bl,ca,ps,ha,fu⟩ ⟨x,y,t⟩),.int .i64 (dmE ⟨F,R,l,bl,ca,ps,ha,fu⟩ ⟨x,y,t⟩)])/\Below w.heap.size w w':=by
 have HDM:=Lib.hid (fun w hT hA=>qDem_any F R l A c bl ca ps ha fu x y t hca hlen hcap w hAC hT hA)
 have HCA:Hid (cpA ⟨F,R,l,bl,ca,ps,ha,fu⟩ ⟨x,y,t⟩=if dmE ⟨F,R,l,bl,ca,ps,ha,fu⟩ ⟨x,y,t⟩=0/\0<=capM ⟨F,R,l,bl,ca,ps,ha,fu⟩ ⟨x,y,t⟩ then pc l (capM ⟨F,R,l,bl,ca,ps,ha,fu⟩ ⟨x,y,t⟩) else 0):=Lib.hid rfl
 have HCS:Hid (cpS ⟨F,R,l,bl,ca,ps,ha,fu⟩ ⟨x,y,t⟩=if dmE ⟨F,R,l,bl,ca,ps,ha,fu⟩ ⟨x,y,t⟩=0 then capM ⟨F,R,l,bl,ca,ps,ha,fu⟩ ⟨x,y,t⟩ else 0):=Lib.hid rfl
 have HMV:=Lib.hid (dm_mov (p:=⟨F,R,l,bl,ca,ps,ha,fu⟩) (m:=⟨x,y,t⟩))
 have HTC:=Lib.hid (fun h=>tg_cap (p:=⟨F,R,l,bl,ca,ps,ha,fu⟩) (m:=⟨x,y,t⟩) h)
 have HTV:=Lib.hid (fun h=>tg_vat (p:=⟨F,R,l,bl,ca,ps,ha,fu⟩) (m:=⟨x,y,t⟩) h)
 have HTG:=Lib.hid (fun hbd hm w hA=>qTgt_any F R l A c bl ca ps ha fu x y t hbd hm w hA)
 obtain ⟨de,hde0⟩:∃ de,dmE ⟨F,R,l,bl,ca,ps,ha,fu⟩ ⟨x,y,t⟩=de:=⟨_,rfl⟩
 rw [hde0] at HDM HCA HCS HMV
 have HDE:=Lib.hid hde0
 clear hde0
 have B1:=box1 (w) (.cells #[.int .i64 F,.int .i64 R,.slice A l.length c,.bool bl,.int .u8 (ca:Int),.int .i64 ps,.int .i64 ha,.int .i64 fu] 26)
 have B2:=box1 (w.alloc (.cells #[.int .i64 F,.int .i64 R,.slice A l.length c,.bool bl,.int .u8 (ca:Int),.int .i64 ps,.int .i64 ha,.int .i64 fu] 26)) (.cells #[.int .i64 x,.int .i64 y,.int .i8 t] 30)
 have hHP:=Bxs.new (w) [.int .i64 F,.int .i64 R,.slice A l.length c,.bool bl,.int .u8 (ca:Int),.int .i64 ps,.int .i64 ha,.int .i64 fu] 26
 have hHM:=Bxs.new (w.alloc (.cells #[.int .i64 F,.int .i64 R,.slice A l.length c,.bool bl,.int .u8 (ca:Int),.int .i64 ps,.int .i64 ha,.int .i64 fu] 26)) [.int .i64 x,.int .i64 y,.int .i8 t] 30
 rw [World.size_alloc] at hHM
 have HP0:=Lib.hid (hHP.below B2 hHP.lt)
 have HM0:=Lib.hid (hHM)
 have hB:=(chain B1 B2)
 have HB0:Hid (Bw w ((w.alloc (.cells #[.int .i64 F,.int .i64 R,.slice A l.length c,.bool bl,.int .u8 (ca:Int),.int .i64 ps,.int .i64 ha,.int .i64 fu] 26)).alloc (.cells #[.int .i64 x,.int .i64 y,.int .i8 t] 30))):=Lib.hid hB
 have HA0:=Lib.hid (rdBo hB hA)
 have HT0:=Lib.hid (hT.below hB)
 clear hB B1 B2 hHP hHM hA hT
 go_enter Tryz.func36,Tryz.ntmps36
 go_upto_region 1 with fail
 generalize (w.alloc (.cells #[.int .i64 F,.int .i64 R,.slice A l.length c,.bool bl,.int .u8 (ca:Int),.int .i64 ps,.int .i64 ha,.int .i64 fu] 26)).alloc (.cells #[.int .i64 x,.int .i64 y,.int .i8 t] 30)=V at *
 obtain ⟨p0,p1,p2,p3,p4,p5,p6,p7⟩:=HP0.out.h8
 obtain ⟨m0,m1,m2⟩:=HM0.out.h3
 go_wp2_with fail
 refine (HDM.out _ HT0.out HA0.out).mono ?_
 rintro e w1 ⟨rfl,hq⟩
 have HP_1:=Lib.hid (HP0.out.below hq HP0.out.lt)
 have HM_1:=Lib.hid (HM0.out.below hq HM0.out.lt)
 have HB_1:Hid (Bw w _):=Lib.hid (chain HB0.out hq)
 have HA_1:=Lib.hid (rdBo hq HA0.out)
 have HT_1:=Lib.hid (HT0.out.below hq)
 clear hq HP0 HM0 HB0 HA0 HT0 p0 p1 p2 p3 p4 p5 p6 p7 m0 m1 m2 HDM
 by_cases hde:de=0
 ·skip
  have hmv:=HMV.out hde
  have HMO:=Lib.hid hmv
  have hln:(l.length:Int)=F * R:=hmv.hp.len
  have hv2:vat F R (tgV ⟨F,R,l,bl,ca,ps,ha,fu⟩ ⟨x,y,t⟩):=HTV.out hmv.hm
  have HC:=Lib.hid (HTC.out hmv)
  have HTX:=Lib.hid (fun w hA=>HTG.out hmv.hp.vbd hmv.hm w hA)
  rw [if_pos hde] at HCS
  have HCA2:Hid (cpA ⟨F,R,l,bl,ca,ps,ha,fu⟩ ⟨x,y,t⟩=if 0<=capM ⟨F,R,l,bl,ca,ps,ha,fu⟩ ⟨x,y,t⟩ then pc l (capM ⟨F,R,l,bl,ca,ps,ha,fu⟩ ⟨x,y,t⟩) else 0):=Lib.hid (by
   rw [HCA.out]
   by_cases h:0<=capM ⟨F,R,l,bl,ca,ps,ha,fu⟩ ⟨x,y,t⟩
   ·rw [if_pos ⟨hde,h⟩,if_pos h]
   ·rw [if_neg (fun hh=>h hh.2),if_neg h])
  subst hde
  clear HCA HMV HTC HTV HTG hmv
  generalize tgV ⟨F,R,l,bl,ca,ps,ha,fu⟩ ⟨x,y,t⟩=tg at *
  generalize capM ⟨F,R,l,bl,ca,ps,ha,fu⟩ ⟨x,y,t⟩=cp at *
  obtain ⟨_,t0,t1⟩:=id hv2
  obtain ⟨n,rfl⟩:∃ n:Nat,tg=(n:Int):=⟨tg.toNat,by omega⟩
  have hn:n<l.length:=by omega
  clear hv2 t0 t1 hln
  obtain ⟨p0,p1,p2,p3,p4,p5,p6,p7⟩:=HP_1.out.h8
  obtain ⟨m0,m1,m2⟩:=HM_1.out.h3
  go_wp2_with fail
  refine (HTX.out _ HA_1.out).mono ?_
  rintro e w2 ⟨rfl,hq⟩
  have HP_2:=Lib.hid (HP_1.out.below hq HP_1.out.lt)
  have HM_2:=Lib.hid (HM_1.out.below hq HM_1.out.lt)
  have HB_2:Hid (Bw w _):=Lib.hid (chain HB_1.out hq)
  have HA_2:=Lib.hid (rdBo hq HA_1.out)
  have HT_2:=Lib.hid (HT_1.out.below hq)
  clear hq HP_1 HM_1 HB_1 HA_1 HT_1 p0 p1 p2 p3 p4 p5 p6 p7 m0 m1 m2 HTX
  obtain ⟨p0,p1,p2,p3,p4,p5,p6,p7⟩:=HP_2.out.h8
  obtain ⟨ad,hAe,hadb,hadc⟩:=(HA_2.out).at_ hn
  rw [<- pc_nat] at hadc
  obtain rfl:=hAe
  have hn2:(n:Int)<(l.length:Int):=by omega
  have hn0:(0:Int)<=(n:Int):=by omega
  by_cases hz:pc l (n:Int)=0
  ·skip
   have HZ:=Lib.hid hz
   have hcp:cp=-1:=by
    rcases HC.out with h | h
    ·exact h.2
    ·exact absurd hz h.1
   rw [hz] at hadc
   have HV1:Hid (cpA ⟨F,R,l,bl,ca,ps,ha,fu⟩ ⟨x,y,t⟩=0):=Lib.hid (by rw [HCA2.out,if_neg (by omega)])
   have HV2:Hid (cpS ⟨F,R,l,bl,ca,ps,ha,fu⟩ ⟨x,y,t⟩=-1):=Lib.hid (by rw [HCS.out,hcp])
   clear hz hcp HC HCA2 HCS
   go_wp2
   go_ret3
   exact ⟨by rw [HDE.out,HV1.out,HV2.out];rfl,HB_2.out⟩
  ·skip
   have hcp:cp=(n:Int):=by
    rcases HC.out with h | h
    ·exact absurd h.1 hz
    ·exact h.2
   have e3:(pc l (n:Int) == 0)=false:=by simpa using hz
   have HV1:Hid (cpA ⟨F,R,l,bl,ca,ps,ha,fu⟩ ⟨x,y,t⟩=pc l (n:Int)):=Lib.hid (by rw [HCA2.out,hcp,if_pos hn0])
   have HV2:Hid (cpS ⟨F,R,l,bl,ca,ps,ha,fu⟩ ⟨x,y,t⟩=(n:Int)):=Lib.hid (by rw [HCS.out,hcp])
   clear hz hcp HC HCA2 HCS
   generalize pc l (n:Int)=q at *
   go_wp2
   go_ret3
   exact ⟨by rw [HDE.out,HV1.out,HV2.out];rfl,HB_2.out⟩
 ·skip
  have e1:(de != 0)=true:=by simpa using hde
  rw [if_neg (fun h=>hde h.1)] at HCA
  rw [if_neg hde] at HCS
  clear hde HMV HTC HTV HTG
  go_wp2
  go_ret3
  exact ⟨by rw [HDE.out,HCA.out,HCS.out];rfl,HB_1.out⟩
def csV (p:Po) (m:Mv):Bool:=decide (dmE p m=0) && decide (casM p m≠0)
theorem cas_dist {p:Po} {m:Mv} (h:Mov p m):(kdP (pc p.l m.a) == 6 && dist p.F m.a m.b == 2)=decide (casM p m≠0):=by
 by_cases hk:kdP (pc p.l m.a)=1
 ·have hc:casM p m=0:=by unfold casM;rw [if_neg (fun hh=>by rw [hk] at hh;exact absurd hh.1 (by decide))]
  rw [hc,hk]
  rfl
 ·rcases h.other hk with hc | ⟨hc,_,hr⟩
  ·have hz:casM p m≠0:=by rcases hc.or4 with e | e | e | e <;> omega
   rw [decide_eq_true hz,hc.k6,hc.f8,hc.ea,hc.eb]
   rcases hc.or4 with e | e | e | e <;> rw [e] <;> decide
  ·rw [hc]
   simp only [ne_eq,not_true_eq_false,decide_false,Bool.and_eq_false_iff,beq_eq_false_iff_ne]
   by_cases h6:kdP (pc p.l m.a)=6
   ·right
    rw [h6] at hr
    unfold reachB at hr
    simp at hr
    omega
   ·exact .inl h6
theorem qCst_any (F R:Int) (l:List Int) (A:Option Addr) (c:Nat) (bl:Bool) (ca:Nat) (ps ha fu:Int) (x y t:Int) (hca:ca<256) (hlen:l.length<=100000) (hcap:l.length<=c) (w:World) (hAC:AftC) (hT:T8 w) (hA:RdP w w.heap.size A l c) :
  Calls Tryz.prog 37 #[.agg #[.int .i64 F,.int .i64 R,.slice A l.length c,.bool bl,.int .u8 (ca:Int),.int .i64 ps,.int .i64 ha,.int .i64 fu],.agg #[.int .i64 x,.int .i64 y,.int .i8 t]] w fun e w'=>e=.returned (.tuple #[.bool (csV ⟨F,R,l,bl,ca,ps,ha,fu⟩ ⟨x,y,t⟩),.int .i64 (dmE ⟨F,R,l,bl,ca,ps,ha,fu⟩ ⟨x,y,t⟩)])/\Below w.heap.size w w':=by
 have HDM:=Lib.hid (fun w hT hA=>qDem_any F R l A c bl ca ps ha fu x y t hca hlen hcap w hAC hT hA)
 have HCS:Hid (csV ⟨F,R,l,bl,ca,ps,ha,fu⟩ ⟨x,y,t⟩=(decide (dmE ⟨F,R,l,bl,ca,ps,ha,fu⟩ ⟨x,y,t⟩=0) && decide (casM ⟨F,R,l,bl,ca,ps,ha,fu⟩ ⟨x,y,t⟩≠0))):=Lib.hid rfl
 have HMV:=Lib.hid (dm_mov (p:=⟨F,R,l,bl,ca,ps,ha,fu⟩) (m:=⟨x,y,t⟩))
 have HCD:=Lib.hid (fun h=>cas_dist (p:=⟨F,R,l,bl,ca,ps,ha,fu⟩) (m:=⟨x,y,t⟩) h)
 have HDS:=Lib.hid (fun hx hy w=>distance_yes F R x y hx hy w)
 have HKN:=Lib.hid (fun n hn h1 h2 w hA=>qKnd_any F R l A c bl ca ps ha fu n hn h1 h2 w hA)
 obtain ⟨de,hde0⟩:∃ de,dmE ⟨F,R,l,bl,ca,ps,ha,fu⟩ ⟨x,y,t⟩=de:=⟨_,rfl⟩
 rw [hde0] at HDM HCS HMV
 have HDE:=Lib.hid hde0
 clear hde0
 have B1:=box1 (w) (.cells #[.int .i64 F,.int .i64 R,.slice A l.length c,.bool bl,.int .u8 (ca:Int),.int .i64 ps,.int .i64 ha,.int .i64 fu] 26)
 have B2:=box1 (w.alloc (.cells #[.int .i64 F,.int .i64 R,.slice A l.length c,.bool bl,.int .u8 (ca:Int),.int .i64 ps,.int .i64 ha,.int .i64 fu] 26)) (.cells #[.int .i64 x,.int .i64 y,.int .i8 t] 30)
 have hHP:=Bxs.new (w) [.int .i64 F,.int .i64 R,.slice A l.length c,.bool bl,.int .u8 (ca:Int),.int .i64 ps,.int .i64 ha,.int .i64 fu] 26
 have hHM:=Bxs.new (w.alloc (.cells #[.int .i64 F,.int .i64 R,.slice A l.length c,.bool bl,.int .u8 (ca:Int),.int .i64 ps,.int .i64 ha,.int .i64 fu] 26)) [.int .i64 x,.int .i64 y,.int .i8 t] 30
 rw [World.size_alloc] at hHM
 have HP0:=Lib.hid (hHP.below B2 hHP.lt)
 have HM0:=Lib.hid (hHM)
 have hB:=(chain B1 B2)
 have HB0:Hid (Bw w ((w.alloc (.cells #[.int .i64 F,.int .i64 R,.slice A l.length c,.bool bl,.int .u8 (ca:Int),.int .i64 ps,.int .i64 ha,.int .i64 fu] 26)).alloc (.cells #[.int .i64 x,.int .i64 y,.int .i8 t] 30))):=Lib.hid hB
 have HA0:=Lib.hid (rdBo hB hA)
 have HT0:=Lib.hid (hT.below hB)
 clear hB B1 B2 hHP hHM hA hT
 go_enter Tryz.func37,Tryz.ntmps37
 go_upto_region 1 with fail
 generalize (w.alloc (.cells #[.int .i64 F,.int .i64 R,.slice A l.length c,.bool bl,.int .u8 (ca:Int),.int .i64 ps,.int .i64 ha,.int .i64 fu] 26)).alloc (.cells #[.int .i64 x,.int .i64 y,.int .i8 t] 30)=V at *
 obtain ⟨p0,p1,p2,p3,p4,p5,p6,p7⟩:=HP0.out.h8
 obtain ⟨m0,m1,m2⟩:=HM0.out.h3
 go_wp2_with fail
 refine (HDM.out _ HT0.out HA0.out).mono ?_
 rintro e w1 ⟨rfl,hq⟩
 have HP_1:=Lib.hid (HP0.out.below hq HP0.out.lt)
 have HM_1:=Lib.hid (HM0.out.below hq HM0.out.lt)
 have HB_1:Hid (Bw w _):=Lib.hid (chain HB0.out hq)
 have HA_1:=Lib.hid (rdBo hq HA0.out)
 have HT_1:=Lib.hid (HT0.out.below hq)
 clear hq HP0 HM0 HB0 HA0 HT0 p0 p1 p2 p3 p4 p5 p6 p7 m0 m1 m2 HDM
 by_cases hde:de=0
 ·skip
  have hmv:=HMV.out hde
  have hx:vat F R x:=hmv.hm.1
  have hy:vat F R y:=hmv.hm.2.1
  have hln:(l.length:Int)=F * R:=hmv.hp.len
  have hbd:=hmv.hp.vbd
  have HDX:=Lib.hid (fun w=>HDS.out hx hy w)
  obtain ⟨_,x0,x1⟩:=id hx
  obtain ⟨n,rfl⟩:∃ n:Nat,x=(n:Int):=⟨x.toNat,by omega⟩
  have hn:n<l.length:=by omega
  have hq:=hbd.2.2 n hn
  rw [<- pc_nat] at hq
  unfold okP at hq
  have hq2:-15<=pc l (n:Int)/\pc l (n:Int)<=15:=hq
  have HKX:=Lib.hid (fun w hA=>HKN.out n hn (by omega) (by omega) w hA)
  have HC:Hid ((kdP (pc l (n:Int)) == 6 && dist F (n:Int) y == 2)=decide (casM ⟨F,R,l,bl,ca,ps,ha,fu⟩ ⟨(n:Int),y,t⟩≠0)):=Lib.hid (HCD.out hmv)
  subst hde
  clear HMV HCD HDS HKN hmv hx hy hbd x0 x1 hn hq hq2 hln
  generalize kdP (pc l (n:Int))=kd at *
  generalize dist F (n:Int) y=ds at *
  generalize decide (casM ⟨F,R,l,bl,ca,ps,ha,fu⟩ ⟨(n:Int),y,t⟩≠0)=cb at *
  obtain ⟨p0,p1,p2,p3,p4,p5,p6,p7⟩:=HP_1.out.h8
  obtain ⟨m0,m1,m2⟩:=HM_1.out.h3
  go_wp2_with fail
  refine (HDX.out _).mono ?_
  rintro e w2 ⟨rfl,hq⟩
  have HP_2:=Lib.hid (HP_1.out.below hq HP_1.out.lt)
  have HM_2:=Lib.hid (HM_1.out.below hq HM_1.out.lt)
  have HB_2:Hid (Bw w _):=Lib.hid (chain HB_1.out hq)
  have HA_2:=Lib.hid (rdBo hq HA_1.out)
  have HT_2:=Lib.hid (HT_1.out.below hq)
  clear hq HP_1 HM_1 HB_1 HA_1 HT_1 p0 p1 p2 p3 p4 p5 p6 p7 m0 m1 m2 HDX
  obtain ⟨p0,p1,p2,p3,p4,p5,p6,p7⟩:=HP_2.out.h8
  obtain ⟨m0,m1,m2⟩:=HM_2.out.h3
  go_wp2_with fail
  refine (HKX.out _ HA_2.out).mono ?_
  rintro e w3 ⟨rfl,hq⟩
  have HP_3:=Lib.hid (HP_2.out.below hq HP_2.out.lt)
  have HM_3:=Lib.hid (HM_2.out.below hq HM_2.out.lt)
  have HB_3:Hid (Bw w _):=Lib.hid (chain HB_2.out hq)
  have HA_3:=Lib.hid (rdBo hq HA_2.out)
  have HT_3:=Lib.hid (HT_2.out.below hq)
  clear hq HP_2 HM_2 HB_2 HA_2 HT_2 p0 p1 p2 p3 p4 p5 p6 p7 m0 m1 m2 HKX
  by_cases hkd:kd=6
  ·have e2:(kd == 6)=true:=by simp [hkd]
   have HV:Hid (csV ⟨F,R,l,bl,ca,ps,ha,fu⟩ ⟨(n:Int),y,t⟩=(ds == 2)):=Lib.hid (by rw [HCS.out,<- HC.out,e2];rfl)
   clear hkd HCS HC
   go_wp2
   go_ret2
   exact ⟨by rw [HDE.out,HV.out];rfl,HB_3.out⟩
  ·have e2:(kd == 6)=false:=by simpa using hkd
   have HV:Hid (csV ⟨F,R,l,bl,ca,ps,ha,fu⟩ ⟨(n:Int),y,t⟩=false):=Lib.hid (by rw [HCS.out,<- HC.out,e2];rfl)
   clear hkd HCS HC
   go_wp2
   go_ret2
   exact ⟨by rw [HDE.out,HV.out];rfl,HB_3.out⟩
 ·skip
  have e1:(de != 0)=true:=by simpa using hde
  have HV:Hid (csV ⟨F,R,l,bl,ca,ps,ha,fu⟩ ⟨x,y,t⟩=false):=Lib.hid (by rw [HCS.out,decide_eq_false hde];rfl)
  clear hde HMV HCD HDS HKN HCS
  go_wp2
  go_ret2
  exact ⟨by rw [HDE.out,HV.out];rfl,HB_1.out⟩
end Go.Proofs.YtbccbgonlmkpkaaGreatDoor
namespace Go.Proofs.YtbccbgonlmkpkaaGreatDoor
open Go.RowKit
def lnT (F:Int) (l:List Mv):List UInt8:=jw (l.map (mvT F))
end Go.Proofs.YtbccbgonlmkpkaaGreatDoor
namespace Go.Proofs.YtbccbgonlmkpkaaGreatDoor
open Go.RowKit
def txA:ByteArray:=⟨#[56,120,56,32,114,110,98,113,107,98,110,114,47,112,112,112,112,112,112,112,112,47,56,47,56,47,56,47,56,47,80,80,80,80,80,80,80,80,47,82,78,66,81,75,66,78,82,32,119,32,75,81,107,113,32,45,32,48,32,49]⟩
def xqA:Po:=(rdPo txA.data.toList).getD ⟨0,0,[],false,0,0,0,0⟩
theorem xrA:rdPo txA.data.toList=some xqA:=by decide +kernel
theorem xoA:okPo xqA=true:=by decide +kernel
theorem xsA:txA.size<=200:=by decide +kernel
def txB:ByteArray:=⟨#[52,120,52,32,49,107,50,47,49,114,50,47,49,82,50,47,49,75,50,32,119,32,45,32,45,32,48,32,49]⟩
def xqB:Po:=(rdPo txB.data.toList).getD ⟨0,0,[],false,0,0,0,0⟩
theorem xrB:rdPo txB.data.toList=some xqB:=by decide +kernel
theorem xoB:okPo xqB=true:=by decide +kernel
theorem xsB:txB.size<=200:=by decide +kernel
def txC:ByteArray:=⟨#[51,120,51,32,50,107,47,80,50,47,50,75,32,119,32,45,32,45,32,53,32,55]⟩
def xqC:Po:=(rdPo txC.data.toList).getD ⟨0,0,[],false,0,0,0,0⟩
theorem xrC:rdPo txC.data.toList=some xqC:=by decide +kernel
theorem xoC:okPo xqC=true:=by decide +kernel
theorem xsC:txC.size<=200:=by decide +kernel
def txD:ByteArray:=⟨#[56,120,56,32,52,107,114,50,47,56,47,56,47,56,47,56,47,56,47,56,47,82,51,75,50,82,32,119,32,75,81,32,45,32,51,32,57]⟩
def xqD:Po:=(rdPo txD.data.toList).getD ⟨0,0,[],false,0,0,0,0⟩
theorem xrD:rdPo txD.data.toList=some xqD:=by decide +kernel
theorem xoD:okPo xqD=true:=by decide +kernel
theorem xsD:txD.size<=200:=by decide +kernel
def tmB1:ByteArray:=⟨#[98,50,97,50]⟩
def xmB1:Mv:=⟨5,4,0⟩
theorem xpB1:rdM xqB.F xqB.R tmB1.data.toList=some xmB1:=by decide +kernel
def tmB2:ByteArray:=⟨#[98,50,98,51]⟩
def xmB2:Mv:=⟨5,9,0⟩
theorem xpB2:rdM xqB.F xqB.R tmB2.data.toList=some xmB2:=by decide +kernel
def tmB3:ByteArray:=⟨#[98,50,98,52]⟩
def xmB3:Mv:=⟨5,13,0⟩
theorem xpB3:rdM xqB.F xqB.R tmB3.data.toList=some xmB3:=by decide +kernel
def tmD1:ByteArray:=⟨#[101,49,103,49]⟩
def xmD1:Mv:=⟨4,6,0⟩
theorem xpD1:rdM xqD.F xqD.R tmD1.data.toList=some xmD1:=by decide +kernel
def tmD2:ByteArray:=⟨#[101,49,102,49]⟩
def xmD2:Mv:=⟨4,5,0⟩
theorem xpD2:rdM xqD.F xqD.R tmD2.data.toList=some xmD2:=by decide +kernel
def tmD3:ByteArray:=⟨#[101,49,101,51]⟩
def xmD3:Mv:=⟨4,20,0⟩
theorem xpD3:rdM xqD.F xqD.R tmD3.data.toList=some xmD3:=by decide +kernel
def xlA:List Mv:=[⟨1,16,0⟩,⟨1,18,0⟩,⟨6,21,0⟩,⟨6,23,0⟩,⟨8,16,0⟩,⟨8,24,0⟩,⟨9,17,0⟩,⟨9,25,0⟩,⟨10,18,0⟩,⟨10,26,0⟩,⟨11,19,0⟩,⟨11,27,0⟩,⟨12,20,0⟩,⟨12,28,0⟩,⟨13,21,0⟩,⟨13,29,0⟩,⟨14,22,0⟩,⟨14,30,0⟩,⟨15,23,0⟩,⟨15,31,0⟩]
def xlB:List Mv:=[⟨1,0,0⟩,⟨1,2,0⟩,⟨1,4,0⟩,⟨1,6,0⟩,⟨5,4,0⟩,⟨5,6,0⟩,⟨5,7,0⟩,⟨5,9,0⟩]
def xlC:List Mv:=[⟨3,6,2⟩,⟨3,6,3⟩,⟨3,6,4⟩,⟨3,6,5⟩]
theorem xvA:psdL xqA=xlA:=by
 rw [psdL_own ((okPo_iff _).1 xoA)]
 decide +kernel
theorem xvB:psdL xqB=xlB:=by
 rw [psdL_own ((okPo_iff _).1 xoB)]
 decide +kernel
theorem xvC:psdF xqC 3=xlC:=by
 rw [psdF_and ((okPo_iff _).1 xoC) (by decide +kernel)]
 decide +kernel
theorem xtA:bsL (lnT xqA.F (xlA.take 6))=⟨#[98,49,97,51,32,98,49,99,51,32,103,49,102,51,32,103,49,104,51,32,97,50,97,51,32,97,50,97,52]⟩:=by
 have:lnT xqA.F (xlA.take 6)=[98,49,97,51,32,98,49,99,51,32,103,49,102,51,32,103,49,104,51,32,97,50,97,51,32,97,50,97,52]:=by decide +kernel
 rw [this]
 rfl
theorem xkA:∀ m∈(xlA.take 6),okM xqA.F xqA.R m:=by decide +kernel
theorem xtB:bsL (lnT xqB.F xlB)=⟨#[98,49,97,49,32,98,49,99,49,32,98,49,97,50,32,98,49,99,50,32,98,50,97,50,32,98,50,99,50,32,98,50,100,50,32,98,50,98,51]⟩:=by
 have:lnT xqB.F xlB=[98,49,97,49,32,98,49,99,49,32,98,49,97,50,32,98,49,99,50,32,98,50,97,50,32,98,50,99,50,32,98,50,100,50,32,98,50,98,51]:=by decide +kernel
 rw [this]
 rfl
theorem xkB:∀ m∈xlB,okM xqB.F xqB.R m:=by decide +kernel
theorem xtC:bsL (lnT xqC.F xlC)=⟨#[97,50,97,51,78,32,97,50,97,51,66,32,97,50,97,51,82,32,97,50,97,51,81]⟩:=by
 have:lnT xqC.F xlC=[97,50,97,51,78,32,97,50,97,51,66,32,97,50,97,51,82,32,97,50,97,51,81]:=by decide +kernel
 rw [this]
 rfl
theorem xkC:∀ m∈xlC,okM xqC.F xqC.R m:=by decide +kernel
theorem xfB:(isB xqB xmB1=true/\isE xqB xmB1=0)/\(cpA xqB xmB2=-4/\cpS xqB xmB2=9/\dmE xqB xmB2=0)/\(cpA xqB xmB1=0/\cpS xqB xmB1=-1/\dmE xqB xmB1=0)/\dmE xqB xmB3=10:=by decide +kernel
theorem xfD:(csV xqD xmD1=true/\dmE xqD xmD1=0)/\(csV xqD xmD2=false/\dmE xqD xmD2=0)/\dmE xqD xmD3=10:=by decide +kernel
end Go.Proofs.YtbccbgonlmkpkaaGreatDoor
