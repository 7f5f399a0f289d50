/- What the theorem needs, piece Zb36. -/
import Derived.Test.YtbccbgonlmkpkaaGreatDoorZb30
set_option linter.unusedSimpArgs false
set_option linter.unusedVariables false
set_option maxRecDepth 100000
set_option maxHeartbeats 16000000
namespace Go.Proofs.YtbccbgonlmkpkaaGreatDoor
open Go.RowKit Go.Sort
def prA (F R y:Int) (bl:Bool) (k:Int):Int:=if y / F=lastR R bl/\k=1 then 2 else 0
def prB (F R y:Int) (bl:Bool) (k:Int):Int:=if y / F=lastR R bl/\k=1 then 5 else 0
theorem qPrm_any (F R:Int) (l:List Int) (A:Option Addr) (c:Nat) (bl:Bool) (ca:Nat) (ps ha fu:Int) (ow fo:Nat) (b n:Nat) (y:Int) (hbd:vbd F R l) (hn:n<l.length) (hy:vat F R y) (w:World) (hA:RdP w w.heap.size A l c) (hX:Bxs w b [.int .i64 F,.int .i64 R,.slice A l.length c,.bool bl,.int .u8 (ca:Int),.int .i64 ps,.int .i64 ha,.int .i64 fu,.int .u64 (ow:Int),.int .u64 (fo:Int)]) :
  Calls Tryz.prog 142 #[.pointer (some ⟨b,0,none⟩),.int .i64 (n:Int),.int .i64 y] w fun e w'=>e=.returned (.tuple #[.int .i8 (prA F R y bl (kdP (pc l (n:Int)))),.int .i8 (prB F R y bl (kdP (pc l (n:Int))))])/\Below w.heap.size w w':=by
 have HP1:=Lib.hid (placeX_yes F R y hy)
 obtain ⟨⟨f1,f2,r1,r2⟩,_⟩:=id hbd
 have hq:=hbd.2.2 n hn
 rw [<- pc_nat] at hq
 unfold okP at hq
 have HKN:=Lib.hid (fun w hA=>qKnd_any F R l A c bl ca ps ha fu n hn (by omega) (by omega) w hA)
 have HRA:Hid (∀ b,prA F R y b (kdP (pc l (n:Int)))=if y / F=lastR R b/\kdP (pc l (n:Int))=1 then 2 else 0):=Lib.hid (fun _=>rfl)
 have HRB:Hid (∀ b,prB F R y b (kdP (pc l (n:Int)))=if y / F=lastR R b/\kdP (pc l (n:Int))=1 then 5 else 0):=Lib.hid (fun _=>rfl)
 have HLR0:Hid (lastR R false=R - 1):=Lib.hid rfl
 have HLR1:Hid (lastR R true=0):=Lib.hid rfl
 obtain ⟨kd,hkd⟩:∃ kd,kdP (pc l (n:Int))=kd:=⟨_,rfl⟩
 rw [hkd] at HKN
 have HKD:=Lib.hid hkd
 obtain ⟨yr,hyr⟩:∃ yr,y / F=yr:=⟨_,rfl⟩
 rw [hyr] at HP1
 have HYR:=Lib.hid hyr
 obtain ⟨yf,hyf⟩:∃ yf,y % F=yf:=⟨_,rfl⟩
 rw [hyf] at HP1
 have B1:=box1 (w) (.cells #[.int .i64 F,.int .i64 R,.slice A l.length c,.bool bl,.int .u8 (ca:Int),.int .i64 ps,.int .i64 ha,.int .i64 fu] 26)
 have hHP:=Bxs.new (w) [.int .i64 F,.int .i64 R,.slice A l.length c,.bool bl,.int .u8 (ca:Int),.int .i64 ps,.int .i64 ha,.int .i64 fu] 26
 have HP0:=Lib.hid (hHP)
 have hB:=B1
 have HB0:Hid (Bw w (w.alloc (.cells #[.int .i64 F,.int .i64 R,.slice A l.length c,.bool bl,.int .u8 (ca:Int),.int .i64 ps,.int .i64 ha,.int .i64 fu] 26))):=Lib.hid hB
 have HA0:=Lib.hid (rdBo hB hA)
 have HX0:=Lib.hid (hX.below hB hX.lt)
 clear hB B1 hHP hA hq hbd hn hy hkd hyr hyf
 obtain ⟨z0,z1,z2,z3,z4,z5,z6,z7,z8,z9⟩:=hX.h10
 have hxl:=hX.lt
 go_enter Tryz.func142,Tryz.ntmps142
 go_upto_region 2 with fail
 clear hX hxl z0 z1 z2 z3 z4 z5 z6 z7 z8 z9
 generalize w.alloc (.cells #[.int .i64 F,.int .i64 R,.slice A l.length c,.bool bl,.int .u8 (ca:Int),.int .i64 ps,.int .i64 ha,.int .i64 fu] 26)=V at *
 cases bl
 case false =>
  obtain ⟨p0,p1,p2,p3,p4,p5,p6,p7⟩:=HP0.out.h8
  go_wp2_with fail
  refine (HP1.out _).mono ?_
  rintro e w1 ⟨rfl,hq⟩
  have HP_1:=Lib.hid (HP0.out.below hq HP0.out.lt)
  have HB_1:Hid (Bw w _):=Lib.hid (chain HB0.out hq)
  have HA_1:=Lib.hid (rdBo hq HA0.out)
  have HX_1:=Lib.hid (HX0.out.below hq HX0.out.lt)
  clear hq HP0 HB0 HA0 HX0 p0 p1 p2 p3 p4 p5 p6 p7 HP1
  obtain ⟨p0,p1,p2,p3,p4,p5,p6,p7⟩:=HP_1.out.h8
  by_cases hl:yr=R - 1
  ·skip
   have e1:(yr != R - 1)=false:=by simp [hl]
   have HL:=Lib.hid hl
   clear hl
   go_wp2_with fail
   refine (HKN.out _ HA_1.out).mono ?_
   rintro e w2 ⟨rfl,hq⟩
   have HP_2:=Lib.hid (HP_1.out.below hq HP_1.out.lt)
   have HB_2:Hid (Bw w _):=Lib.hid (chain HB_1.out hq)
   have HA_2:=Lib.hid (rdBo hq HA_1.out)
   have HX_2:=Lib.hid (HX_1.out.below hq HX_1.out.lt)
   clear hq HP_1 HB_1 HA_1 HX_1 p0 p1 p2 p3 p4 p5 p6 p7 HKN
   by_cases hk:kd=1
   ·skip
    have e2:(kd != 1)=false:=by simp [hk]
    have HK:=Lib.hid hk
    clear hk
    go_wp2
    go_ret2
    exact ⟨by rw [HRA.out,HRB.out,HYR.out,HKD.out,HLR0.out,if_pos ⟨HL.out,HK.out⟩,if_pos ⟨HL.out,HK.out⟩];rfl,HB_2.out⟩
   ·skip
    have e2:(kd != 1)=true:=by simp [hk]
    have HK:=Lib.hid hk
    clear hk
    go_wp2
    go_ret2
    exact ⟨by rw [HRA.out,HRB.out,HYR.out,HKD.out,HLR0.out,if_neg (fun h=>HK.out h.2),if_neg (fun h=>HK.out h.2)];rfl,HB_2.out⟩
  ·skip
   have e1:(yr != R - 1)=true:=by simpa using hl
   have HL:=Lib.hid hl
   clear hl
   go_wp2
   go_ret2
   exact ⟨by rw [HRA.out,HRB.out,HYR.out,HKD.out,HLR0.out,if_neg (fun h=>HL.out h.1),if_neg (fun h=>HL.out h.1)];rfl,HB_1.out⟩
 case true =>
  obtain ⟨p0,p1,p2,p3,p4,p5,p6,p7⟩:=HP0.out.h8
  go_wp2_with fail
  refine (HP1.out _).mono ?_
  rintro e w1 ⟨rfl,hq⟩
  have HP_1:=Lib.hid (HP0.out.below hq HP0.out.lt)
  have HB_1:Hid (Bw w _):=Lib.hid (chain HB0.out hq)
  have HA_1:=Lib.hid (rdBo hq HA0.out)
  have HX_1:=Lib.hid (HX0.out.below hq HX0.out.lt)
  clear hq HP0 HB0 HA0 HX0 p0 p1 p2 p3 p4 p5 p6 p7 HP1
  obtain ⟨p0,p1,p2,p3,p4,p5,p6,p7⟩:=HP_1.out.h8
  by_cases hl:yr=0
  ·skip
   have e1:(yr != 0)=false:=by simp [hl]
   have HL:=Lib.hid hl
   clear hl
   go_wp2_with fail
   refine (HKN.out _ HA_1.out).mono ?_
   rintro e w2 ⟨rfl,hq⟩
   have HP_2:=Lib.hid (HP_1.out.below hq HP_1.out.lt)
   have HB_2:Hid (Bw w _):=Lib.hid (chain HB_1.out hq)
   have HA_2:=Lib.hid (rdBo hq HA_1.out)
   have HX_2:=Lib.hid (HX_1.out.below hq HX_1.out.lt)
   clear hq HP_1 HB_1 HA_1 HX_1 p0 p1 p2 p3 p4 p5 p6 p7 HKN
   by_cases hk:kd=1
   ·skip
    have e2:(kd != 1)=false:=by simp [hk]
    have HK:=Lib.hid hk
    clear hk
    go_wp2
    go_ret2
    exact ⟨by rw [HRA.out,HRB.out,HYR.out,HKD.out,HLR1.out,if_pos ⟨HL.out,HK.out⟩,if_pos ⟨HL.out,HK.out⟩];rfl,HB_2.out⟩
   ·skip
    have e2:(kd != 1)=true:=by simp [hk]
    have HK:=Lib.hid hk
    clear hk
    go_wp2
    go_ret2
    exact ⟨by rw [HRA.out,HRB.out,HYR.out,HKD.out,HLR1.out,if_neg (fun h=>HK.out h.2),if_neg (fun h=>HK.out h.2)];rfl,HB_2.out⟩
  ·skip
   have e1:(yr != 0)=true:=by simpa using hl
   have HL:=Lib.hid hl
   clear hl
   go_wp2
   go_ret2
   exact ⟨by rw [HRA.out,HRB.out,HYR.out,HKD.out,HLR1.out,if_neg (fun h=>HL.out h.1),if_neg (fun h=>HL.out h.1)];rfl,HB_1.out⟩
theorem rdI1 {W:World} {b:Nat} {x:Int} (h:Bxs W b [.int .i64 x]):RdI W W.heap.size (some ⟨b,0,none⟩) [x]:=fun _=>by
 refine ⟨⟨b,0,none⟩,rfl,h.lt,fun j u hu=>?_⟩
 match j,hu with
 | 0,hu=>simp at hu;subst hu;exact h.c 0 rfl
theorem of1_any (F R ps:Int) (hv:vsz F R) (hps:ps=-1\/vat F R ps) (T:TypeId) (w:World) :
  ∃ e:Int,Calls Tryz.prog 211 #[.agg #[.int .i64 F,.int .i64 R],.slice (some ⟨w.heap.size,0,none⟩) 1 1] (w.alloc (.cells #[.int .i64 ps] T)) fun r w'=>r=.returned (.tuple #[.int .u64 (qPas ps:Int),.int .i64 e])/\Below (w.alloc (.cells #[.int .i64 ps] T)).heap.size (w.alloc (.cells #[.int .i64 ps] T)) w':=by
 have hR:=rdI1 (Bxs.new w [.int .i64 ps] T)
 rcases hps with h | h
 ·refine ⟨2,?_⟩
  have:=of_bad F R [ps] (some ⟨w.heap.size,0,none⟩) 1 (w.alloc (.cells #[.int .i64 ps] T)) hv (by simp) hR (fun hh=>by have:=(hh 0 (by simp)).2.1;simp at this;omega)
  have e:qPas ps=0:=by unfold qPas;rw [if_neg (by omega)]
  rw [e]
  exact this
 ·refine ⟨0,?_⟩
  have:=of_yes F R [ps] (some ⟨w.heap.size,0,none⟩) 1 (w.alloc (.cells #[.int .i64 ps] T)) hv (by simp) hR (fun j hj=>by
   have:j=0:=by simpa using hj
   subst this
   exact h)
  have e:ofL (sqs [ps])=qPas ps:=by
   have h0:=h.2.1
   unfold qPas
   rw [if_pos h0]
   simp [sqs,ofL]
  rw [e] at this
  exact this
theorem ofL_64 {L:List Nat} (h:∀ i∈L,i<64):ofL L<18446744073709551616:=by
 have:=ofL_lt (l:=L) (n:=64) h
 simpa using this
theorem qPas_lt {ps:Int} (h:ps<64):qPas ps<18446744073709551616:=by
 unfold qPas
 split
 ·exact bitN_lt (by omega)
 ·omega
theorem qPsq_any (F R:Int) (l:List Int) (A:Option Addr) (c:Nat) (bl:Bool) (ca:Nat) (ps ha fu:Int) (b:Nat) (x:Int) (hp:OkP ⟨F,R,l,bl,ca,ps,ha,fu⟩) (hx:vat F R x) (w:World) (hX:Bxs w b [.int .i64 F,.int .i64 R,.slice A l.length c,.bool bl,.int .u8 (ca:Int),.int .i64 ps,.int .i64 ha,.int .i64 fu,.int .u64 (ownS l bl:Int),.int .u64 (ownS l (!bl):Int)]) :
  Calls Tryz.prog 183 #[.pointer (some ⟨b,0,none⟩),.int .i64 x] w fun e w'=>e=.returned (.int .u64 (qPwn ⟨F,R,l,bl,ca,ps,ha,fu⟩ x:Int))/\Below w.heap.size w w':=by
 have hl:(l.length:Int)=F * R:=hp.len
 have hv:vsz F R:=hp.hv
 have h64:F * R<=64:=(vsz_mul hv).2
 have hl64:l.length<=64:=by omega
 have hps:ps=-1\/vat F R ps:=by
  rcases poPas_iff.1 hp.pas with h | h
  ·exact .inl h
  ·exact .inr ⟨hv,h.p0,h.p1⟩
 have how:=ownS_lt bl hl64
 have hfo:=ownS_lt (!bl) hl64
 have HST:=Lib.hid (pSteps_yes F R x bl hx (occX l) (occX_in hl))
 have HPA:=Lib.hid (pPawn_yes F R x bl hx)
 have HOF:=Lib.hid (fun T w=>of1_any F R ps hv hps T w)
 have hst:ofL (stepL F R x bl (occX l))<18446744073709551616:=ofL_64 (fun i hi=>by
  unfold stepL pickTo at hi
  have:=List.mem_range.1 (List.mem_filter.1 hi).1
  omega)
 have hpa:ofL (pawnL F R x bl)<18446744073709551616:=ofL_64 (fun i hi=>by
  unfold pawnL pickTo at hi
  have:=List.mem_range.1 (List.mem_filter.1 hi).1
  omega)
 have hqs:qPas ps<18446744073709551616:=qPas_lt (by
  rcases hps with h | h
  ·omega
  ·have:=h.2.2;omega)
 have hor:ownS l (!bl) ||| qPas ps<18446744073709551616:=Nat.or_lt_two_pow (n:=64) hfo hqs
 have EO:=u64_or_nat (ownS l bl) (ownS l (!bl)) how hfo
 rw [ownS_or] at EO
 have HE1:=Lib.hid EO
 have HE2:=Lib.hid (u64_or_nat (ownS l (!bl)) (qPas ps) hfo hqs)
 have HE3:=Lib.hid (u64_and_nat (ofL (pawnL F R x bl)) (ownS l (!bl) ||| qPas ps) hpa hor)
 have HE4:=Lib.hid (u64_or_nat (ofL (stepL F R x bl (occX l))) (ofL (pawnL F R x bl) &&& (ownS l (!bl) ||| qPas ps)) hst (Nat.lt_of_le_of_lt Nat.and_le_left hpa))
 have HR:Hid (qPwn ⟨F,R,l,bl,ca,ps,ha,fu⟩ x=ofL (stepL F R x bl (occX l)) ||| (ofL (pawnL F R x bl) &&& (ownS l (!bl) ||| qPas ps))):=Lib.hid rfl
 have B1:=box1 (w) (.cells #[.int .i64 F,.int .i64 R,.slice A l.length c,.bool bl,.int .u8 (ca:Int),.int .i64 ps,.int .i64 ha,.int .i64 fu] 26)
 have hHP:=Bxs.new (w) [.int .i64 F,.int .i64 R,.slice A l.length c,.bool bl,.int .u8 (ca:Int),.int .i64 ps,.int .i64 ha,.int .i64 fu] 26
 have HP0:=Lib.hid (hHP)
 have hB:=B1
 have HB0:Hid (Bw w (w.alloc (.cells #[.int .i64 F,.int .i64 R,.slice A l.length c,.bool bl,.int .u8 (ca:Int),.int .i64 ps,.int .i64 ha,.int .i64 fu] 26))):=Lib.hid hB
 have HX0:=Lib.hid (hX.below hB hX.lt)
 clear hB B1 hHP hl hv h64 hl64 hps how hfo hst hpa hqs hor EO hp hx
 obtain ⟨z0,z1,z2,z3,z4,z5,z6,z7,z8,z9⟩:=hX.h10
 have hxl:=hX.lt
 generalize ofL (stepL F R x bl (occX l))=st at *
 generalize ofL (pawnL F R x bl)=pa at *
 generalize qPas ps=qp at *
 generalize occX l=oc at *
 generalize ownS l (!bl)=fo at *
 generalize ownS l bl=ow at *
 go_enter Tryz.func183,Tryz.ntmps183
 go_upto_region 2 with fail
 clear hX hxl z0 z1 z2 z3 z4 z5 z6 z7 z8 z9
 generalize w.alloc (.cells #[.int .i64 F,.int .i64 R,.slice A l.length c,.bool bl,.int .u8 (ca:Int),.int .i64 ps,.int .i64 ha,.int .i64 fu] 26)=V at *
 obtain ⟨p0,p1⟩:=HP0.out.h2
 have p3:=HP0.out.c 3 rfl
 have z8:=HX0.out.c 8 rfl
 have z9:=HX0.out.c 9 rfl
 go_wp2_with fail
 have kq0:=cell_regrown p0
 have kq1:=cell_regrown p1
 have kq2:=cell_regrown p3
 have kq3:=cell_regrown z8
 have kq4:=cell_regrown z9
 refine wp_region_quiet_below (by kernel_rfl) (by kernel_rfl) ?_
 repeat (go_big_quiet_step (first | (go_at_call 162;rw [HE1.out];exact Calls.regrown_of (HST.out _))))
 refine wpQuiet_nil ?_
 rintro _ ⟨⟨dq,osq⟩,rfl⟩
 have hq:=below_regrown V dq osq
 generalize grow (redrawn V dq) osq=w1 at *
 have HP_1:=Lib.hid (HP0.out.below hq HP0.out.lt)
 have HB_1:Hid (Bw w _):=Lib.hid (chain HB0.out hq)
 have HX_1:=Lib.hid (HX0.out.below hq HX0.out.lt)
 clear hq HP0 HB0 HX0 p0 p1 p3 z8 z9 kq0 kq1 kq2 kq3 kq4 HST
 obtain ⟨p0,p1⟩:=HP_1.out.h2
 have p3:=HP_1.out.c 3 rfl
 go_wp2_with fail
 refine (HPA.out _).mono ?_
 rintro e w2 ⟨rfl,hq⟩
 have HP_2:=Lib.hid (HP_1.out.below hq HP_1.out.lt)
 have HB_2:Hid (Bw w _):=Lib.hid (chain HB_1.out hq)
 have HX_2:=Lib.hid (HX_1.out.below hq HX_1.out.lt)
 clear hq HP_1 HB_1 HX_1 p0 p1 p3 HPA
 obtain ⟨p0,p1,p2,p3,p4,p5,p6,p7⟩:=HP_2.out.h8
 obtain ⟨eo,HO⟩:=HOF.out 3 w2
 replace HO:=Lib.hid HO
 go_wp2_with fail
 refine (HO.out).mono ?_
 rintro e wq ⟨rfl,hq0⟩
 have hq:=chain (box1 w2 (.cells #[.int .i64 ps] 3)) hq0
 clear hq0 HO HOF
 have HP_3:=Lib.hid (HP_2.out.below hq HP_2.out.lt)
 have HB_3:Hid (Bw w _):=Lib.hid (chain HB_2.out hq)
 have HX_3:=Lib.hid (HX_2.out.below hq HX_2.out.lt)
 clear hq HP_2 HB_2 HX_2 p0 p1 p2 p3 p4 p5 p6 p7
 have z9:=HX_3.out.c 9 rfl
 go_wp2
 go_ret
 exact ⟨ret_int (by rw [HE2.out,HE3.out,HE4.out,HR.out]),HB_3.out⟩
def qAc (p:Po) (a:Int):Nat->Nat
 | 0=>0
 | k+1=>qAc p a k ||| qCs1 p a (zsq (a - 2) (a+2) k)
theorem qCs1_lt {p:Po} (hp:OkP p) (a b:Int):qCs1 p a b<18446744073709551616:=by
 unfold qCs1
 cases hi:isB p ⟨a,b,0⟩
 ·simp
 ·rw [if_pos rfl]
  unfold isB at hi
  simp only [Bool.and_eq_true,decide_eq_true_eq] at hi
  have h1:vat p.F p.R b:=hi.1.2.2.1
  have h2:=h1.2.1
  have h3:=h1.2.2
  have:=(vsz_mul hp.hv).2
  exact bitN_lt (by omega)
theorem qAc_lt {p:Po} (hp:OkP p) (a:Int):∀ k,qAc p a k<18446744073709551616
 | 0=>by simp [qAc]
 | k+1=>Nat.or_lt_two_pow (n:=64) (qAc_lt hp a k) (qCs1_lt hp a _)
theorem qAc_two {p:Po} (a:Int) (h:p.ca≠0):qAc p a 2=qCas p a:=by
 unfold qCas
 rw [if_neg h]
 show (0 ||| qCs1 p a (zsq (a - 2) (a+2) 0)) ||| qCs1 p a (zsq (a - 2) (a+2) 1)=_
 rw [Nat.zero_or]
 rfl
theorem qCas_lt {p:Po} (hp:OkP p) (a:Int):qCas p a<18446744073709551616:=by
 unfold qCas
 split
 ·omega
 ·exact Nat.or_lt_two_pow (n:=64) (qCs1_lt hp a _) (qCs1_lt hp a _)
theorem qCsq_any (F R:Int) (l:List Int) (A:Option Addr) (c:Nat) (bl:Bool) (ca:Nat) (ps ha fu:Int) (n:Nat) (hca:ca<256) (hlen:l.length<=100000) (hcap:l.length<=c) (hp:OkP ⟨F,R,l,bl,ca,ps,ha,fu⟩) (hx:vat F R (n:Int)) (w:World) (hAC:AftC) (hT:T8 w) (hA:RdP w w.heap.size A l c) :
  Calls Tryz.prog 184 #[.agg #[.int .i64 F,.int .i64 R,.slice A l.length c,.bool bl,.int .u8 (ca:Int),.int .i64 ps,.int .i64 ha,.int .i64 fu],.int .i64 (n:Int)] w fun e w'=>e=.returned (.int .u64 (qCas ⟨F,R,l,bl,ca,ps,ha,fu⟩ (n:Int):Int))/\Below w.heap.size w w':=by
 have h64:F * R<=64:=(vsz_mul hp.hv).2
 have hn64:(n:Int)<64:=by have:=hx.2.2;omega
 have HIS:=Lib.hid (fun y w hT hA=>qIs_any F R l A c bl ca ps ha fu (n:Int) y 0 hca hlen hcap w hAC hT hA)
 have HZI:=Lib.hid (two_ix ((n:Int) - 2) ((n:Int)+2))
 have HAL:=Lib.hid (qAc_lt hp (n:Int))
 have HCL:=Lib.hid (qCs1_lt hp (n:Int))
 have HC0:Hid (ca=0->qCas ⟨F,R,l,bl,ca,ps,ha,fu⟩ (n:Int)=0):=Lib.hid (fun h=>by unfold qCas;rw [if_pos h])
 have HC2:Hid (ca≠0->qAc ⟨F,R,l,bl,ca,ps,ha,fu⟩ (n:Int) 2=qCas ⟨F,R,l,bl,ca,ps,ha,fu⟩ (n:Int)):=Lib.hid (fun h=>qAc_two (p:=⟨F,R,l,bl,ca,ps,ha,fu⟩) (n:Int) h)
 have HA0:Hid (qAc ⟨F,R,l,bl,ca,ps,ha,fu⟩ (n:Int) 0=0):=Lib.hid rfl
 have HAS:Hid (∀ k,qAc ⟨F,R,l,bl,ca,ps,ha,fu⟩ (n:Int) (k+1)=qAc ⟨F,R,l,bl,ca,ps,ha,fu⟩ (n:Int) k ||| qCs1 ⟨F,R,l,bl,ca,ps,ha,fu⟩ (n:Int) (zsq ((n:Int) - 2) ((n:Int)+2) k)):=Lib.hid (fun k=>rfl)
 have HCY:Hid (∀ z,isB ⟨F,R,l,bl,ca,ps,ha,fu⟩ ⟨(n:Int),z,0⟩=true->qCs1 ⟨F,R,l,bl,ca,ps,ha,fu⟩ (n:Int) z=bitN z.toNat/\0<=z/\z<64):=Lib.hid (fun z hz=>by
  refine ⟨by unfold qCs1;rw [if_pos hz],?_⟩
  unfold isB at hz
  simp only [Bool.and_eq_true,decide_eq_true_eq] at hz
  have h1:vat F R z:=hz.1.2.2.1
  have h2:=h1.2.1
  have h3:=h1.2.2
  omega)
 have HCN:Hid (∀ z,isB ⟨F,R,l,bl,ca,ps,ha,fu⟩ ⟨(n:Int),z,0⟩=false->qCs1 ⟨F,R,l,bl,ca,ps,ha,fu⟩ (n:Int) z=0):=Lib.hid (fun z hz=>by unfold qCs1;rw [hz];rfl)
 have B1:=box1 (w) (.cells #[.int .i64 F,.int .i64 R,.slice A l.length c,.bool bl,.int .u8 (ca:Int),.int .i64 ps,.int .i64 ha,.int .i64 fu] 26)
 have hHP:=Bxs.new (w) [.int .i64 F,.int .i64 R,.slice A l.length c,.bool bl,.int .u8 (ca:Int),.int .i64 ps,.int .i64 ha,.int .i64 fu] 26
 have HP0:=Lib.hid (hHP)
 have hB:=B1
 have HB0:Hid (Bw w (w.alloc (.cells #[.int .i64 F,.int .i64 R,.slice A l.length c,.bool bl,.int .u8 (ca:Int),.int .i64 ps,.int .i64 ha,.int .i64 fu] 26))):=Lib.hid hB
 have HAx:=Lib.hid (rdBo hB hA)
 have HT0:=Lib.hid (hT.below hB)
 clear hB B1 hHP hA hT hp hx h64
 go_enter Tryz.func184,Tryz.ntmps184
 go_upto_region 1 with fail
 generalize w.alloc (.cells #[.int .i64 F,.int .i64 R,.slice A l.length c,.bool bl,.int .u8 (ca:Int),.int .i64 ps,.int .i64 ha,.int .i64 fu] 26)=V at *
 obtain ⟨p0,p1,p2,p3,p4,p5,p6,p7⟩:=HP0.out.h8
 by_cases hc0:ca=0
 ·skip
  have e1:((ca:Int) == 0)=true:=by simp [hc0]
  have HV:=Lib.hid (HC0.out hc0)
  clear hc0
  go_wp2
  go_ret
  exact ⟨by rw [HV.out];rfl,HB0.out⟩
 ·skip
  have e1:((ca:Int) == 0)=false:=by simp [hc0]
  have HV:=Lib.hid (HC2.out hc0)
  clear hc0 HC0 HC2
  have HPW:Hid (∀ W,Bw V W->Bxs W w.heap.size [.int .i64 F,.int .i64 R,.slice A l.length c,.bool bl,.int .u8 (ca:Int),.int .i64 ps,.int .i64 ha,.int .i64 fu]):=Lib.hid (fun W h=>HP0.out.below h HP0.out.lt)
  have HTW:Hid (∀ W,Bw V W->T8 W):=Lib.hid (fun W h=>HT0.out.below h)
  have HAW:Hid (∀ W,Bw V W->RdP W W.heap.size A l c):=Lib.hid (fun W h=>rdBo h HAx.out)
  go_wp2
  clear p0 p1 p2 p3 p4 p5 p6 p7
  go_loopw [5,7,8,9,19] (fun s _ _ _ i wr=>∃ k:Nat,k<=2/\i=.int .i64 (k:Int)/\s=.int .u64 (qAc ⟨F,R,l,bl,ca,ps,ha,fu⟩ (n:Int) k:Int)/\Bw V wr) (fun _ _ _ _ i _=>2 - (intOf i).toNat)
  case atStart=>exact ⟨0,by omega,rfl,by rw [HA0.out];rfl,Below.refl _ _⟩
  case round =>
   obtain ⟨k,hk,rfl,rfl,hq⟩:=hrel
   have HQ:Hid (Bw V wr):=Lib.hid hq
   have HPr:=Lib.hid (HPW.out wr hq)
   have HTr:=Lib.hid (HTW.out wr hq)
   have HAr:=Lib.hid (HAW.out wr hq)
   clear hq
   by_cases hlt:k<2
   ·have hi:=HZI.out k hlt
    have hki:(k:Int)<2:=by omega
    have HSk:=Lib.hid (HAS.out k)
    have hak:=HAL.out k
    generalize zsq ((n:Int) - 2) ((n:Int)+2) k=z at *
    obtain ⟨ak,hak2⟩:∃ ak,qAc ⟨F,R,l,bl,ca,ps,ha,fu⟩ (n:Int) k=ak:=⟨_,rfl⟩
    rw [hak2] at hak HSk ⊢
    have HAK:=Lib.hid hak
    obtain ⟨p0,p1,p2,p3,p4,p5,p6,p7⟩:=HPr.out.h8
    clear hak hak2
    go_wp2_with fail
    refine (HIS.out z _ HTr.out HAr.out).mono ?_
    rintro e w1 ⟨rfl,hq⟩
    have HQ1:=Lib.hid (chain HQ.out hq)
    clear hq p0 p1 p2 p3 p4 p5 p6 p7 HPr HTr HAr hi
    cases hib:isB ⟨F,R,l,bl,ca,ps,ha,fu⟩ ⟨(n:Int),z,0⟩
    ·have HZ:=Lib.hid (HCN.out z hib)
     clear hib
     go_wp2
     go_round
     case rel=>exact ⟨k+1,by omega,rfl,by rw [HSk.out,HZ.out,Nat.or_zero],HQ1.out⟩
     case measure=>simp [intOf];omega
    ·obtain ⟨hz1,hz2,hz3⟩:=HCY.out z hib
     have HZ:=Lib.hid hz1
     have HSG:=Lib.hid (qSing_any z hz2 hz3)
     have HOR:=Lib.hid (u64_or_nat ak (bitN z.toNat) HAK.out (bitN_lt (by omega)))
     clear hib hz1 hz2 hz3
     go_wp2_with fail
     refine (HSG.out _).mono ?_
     rintro e w2 ⟨rfl,hq⟩
     have HQ2:=Lib.hid (chain HQ1.out hq)
     clear hq
     go_wp2
     go_round
     case rel=>exact ⟨k+1,by omega,rfl,by rw [HSk.out,HZ.out,HOR.out],HQ2.out⟩
     case measure=>simp [intOf];omega
   ·have hk2:k=2:=by omega
    subst hk2
    rw [HV.out]
    have hki:¬ ((2:Nat):Int)<2:=by decide
    go_wp2
    go_ret
    exact ⟨rfl,chain HB0.out HQ.out⟩
end Go.Proofs.YtbccbgonlmkpkaaGreatDoor
namespace Go.Proofs.YtbccbgonlmkpkaaGreatDoor
open Go.RowKit Go.Sort
theorem qRch_lt {p:Po} (hp:OkP p) (a:Int):qRch p a<18446744073709551616:=ofL_64 (fun i hi=>by
 unfold reachL pickTo at hi
 have:=List.mem_range.1 (List.mem_filter.1 hi).1
 have:=(vsz_mul hp.hv).2
 omega)
theorem clr_is {X Y:Nat} (hX:X<18446744073709551616) (hY:Y<18446744073709551616):bits .andNot .u64 (X:Int) (Y:Int)=(clr X Y:Int):=by
 unfold clr
 exact u64_andNot_nat X Y hX hY
theorem qSqs_any (F R:Int) (l:List Int) (A:Option Addr) (c:Nat) (bl:Bool) (ca:Nat) (ps ha fu:Int) (b n:Nat) (hca:ca<256) (hlen:l.length<=100000) (hcap:l.length<=c) (hp:OkP ⟨F,R,l,bl,ca,ps,ha,fu⟩) (hn:n<l.length) (hown:ownB (pc l (n:Int)) bl=true) (w:World) (hAC:AftC) (hT:T8 w) (hA:RdP w w.heap.size A l c) (hX:Bxs w b [.int .i64 F,.int .i64 R,.slice A l.length c,.bool bl,.int .u8 (ca:Int),.int .i64 ps,.int .i64 ha,.int .i64 fu,.int .u64 (ownS l bl:Int),.int .u64 (ownS l (!bl):Int)]) :
  Calls Tryz.prog 141 #[.pointer (some ⟨b,0,none⟩),.int .i64 (n:Int)] w fun e w'=>e=.returned (.int .u64 (qSq ⟨F,R,l,bl,ca,ps,ha,fu⟩ (n:Int):Int))/\Below w.heap.size w w':=by
 have hl:(l.length:Int)=F * R:=hp.len
 have hv:vsz F R:=hp.hv
 have h64:F * R<=64:=(vsz_mul hv).2
 have hl64:l.length<=64:=by omega
 have hx:vat F R (n:Int):=⟨hv,by omega,by omega⟩
 have how:=ownS_lt bl hl64
 have hfo:=ownS_lt (!bl) hl64
 have hq:=hp.vbd.2.2 n hn
 rw [<- pc_nat] at hq
 unfold okP at hq
 have hq2:-15<=pc l (n:Int)/\pc l (n:Int)<=15:=hq
 have ho:orthB (pc l (n:Int))=true:=(hp.orth (n:Int)).resolve_left (ownB_iff.1 hown).1
 have hok:=kdP_or ho
 have HKN:=Lib.hid (fun w hA=>qKnd_any F R l A c bl ca ps ha fu n hn (by omega) (by omega) w hA)
 have HPW:=Lib.hid (fun w hX=>qPsq_any F R l A c bl ca ps ha fu b (n:Int) hp hx w hX)
 have HCQ:=Lib.hid (fun w hT hA=>qCsq_any F R l A c bl ca ps ha fu n hca hlen hcap hp hx w hAC hT hA)
 have HRE:Hid (kdP (pc l (n:Int))≠1->∀ w:World,Tb w->Calls Tryz.prog 110 #[.agg #[.int .i64 F,.int .i64 R],.int .i8 (kdP (pc l (n:Int))),.int .i64 (n:Int),.int .u64 (occX l:Int)] w fun e w'=>e=.returned (.tuple #[.int .u64 (qRch ⟨F,R,l,bl,ca,ps,ha,fu⟩ (n:Int):Int),.int .i64 0])/\Below w.heap.size w w'):=Lib.hid (fun h w hT=>pReach_yes F R (n:Int) (kdP (pc l (n:Int))) (hok.resolve_left h) hx (occX l) (occX_in hl) w hT)
 have EO:=u64_or_nat (ownS l bl) (ownS l (!bl)) how hfo
 rw [ownS_or] at EO
 have HE1:=Lib.hid EO
 have hrc:=qRch_lt hp (n:Int)
 have hcq:=qCas_lt hp (n:Int)
 have HE2:=Lib.hid (u64_or_nat (qRch ⟨F,R,l,bl,ca,ps,ha,fu⟩ (n:Int)) (qCas ⟨F,R,l,bl,ca,ps,ha,fu⟩ (n:Int)) hrc hcq)
 have HE3:=Lib.hid (clr_is (X:=qRch ⟨F,R,l,bl,ca,ps,ha,fu⟩ (n:Int) ||| qCas ⟨F,R,l,bl,ca,ps,ha,fu⟩ (n:Int)) (Y:=ownS l bl) (Nat.or_lt_two_pow (n:=64) hrc hcq) how)
 have HE4:=Lib.hid (clr_is (X:=qRch ⟨F,R,l,bl,ca,ps,ha,fu⟩ (n:Int)) (Y:=ownS l bl) hrc how)
 have HR:Hid (qSq ⟨F,R,l,bl,ca,ps,ha,fu⟩ (n:Int)=if kdP (pc l (n:Int))=1 then qPwn ⟨F,R,l,bl,ca,ps,ha,fu⟩ (n:Int) else clr (if kdP (pc l (n:Int))=6 then qRch ⟨F,R,l,bl,ca,ps,ha,fu⟩ (n:Int) ||| qCas ⟨F,R,l,bl,ca,ps,ha,fu⟩ (n:Int) else qRch ⟨F,R,l,bl,ca,ps,ha,fu⟩ (n:Int)) (ownS l bl)):=Lib.hid rfl
 obtain ⟨kd,hkd⟩:∃ kd,kdP (pc l (n:Int))=kd:=⟨_,rfl⟩
 rw [hkd] at HKN HRE HR
 obtain ⟨rc,hrc2⟩:∃ rc,qRch ⟨F,R,l,bl,ca,ps,ha,fu⟩ (n:Int)=rc:=⟨_,rfl⟩
 rw [hrc2] at HRE HR HE2 HE3 HE4
 obtain ⟨cq,hcq2⟩:∃ rc,qCas ⟨F,R,l,bl,ca,ps,ha,fu⟩ (n:Int)=rc:=⟨_,rfl⟩
 rw [hcq2] at HCQ HR HE2 HE3
 have B1:=box1 (w) (.cells #[.int .i64 F,.int .i64 R,.slice A l.length c,.bool bl,.int .u8 (ca:Int),.int .i64 ps,.int .i64 ha,.int .i64 fu] 26)
 have hHP:=Bxs.new (w) [.int .i64 F,.int .i64 R,.slice A l.length c,.bool bl,.int .u8 (ca:Int),.int .i64 ps,.int .i64 ha,.int .i64 fu] 26
 have HP0:=Lib.hid (hHP)
 have hB:=B1
 have HB0:Hid (Bw w (w.alloc (.cells #[.int .i64 F,.int .i64 R,.slice A l.length c,.bool bl,.int .u8 (ca:Int),.int .i64 ps,.int .i64 ha,.int .i64 fu] 26))):=Lib.hid hB
 have HA0:=Lib.hid (rdBo hB hA)
 have HX0:=Lib.hid (hX.below hB hX.lt)
 have HT0:=Lib.hid (hT.below hB)
 clear hB B1 hHP hA hT hl hv h64 hl64 hx how hfo hq hq2 ho hok EO hrc hcq hkd hrc2 hcq2 hp hn hown
 obtain ⟨z0,z1,z2,z3,z4,z5,z6,z7,z8,z9⟩:=hX.h10
 have hxl:=hX.lt
 go_enter Tryz.func141,Tryz.ntmps141
 go_upto_region 2 with fail
 clear hX hxl z0 z1 z2 z3 z4 z5 z6 z7 z8 z9
 generalize w.alloc (.cells #[.int .i64 F,.int .i64 R,.slice A l.length c,.bool bl,.int .u8 (ca:Int),.int .i64 ps,.int .i64 ha,.int .i64 fu] 26)=V at *
 obtain ⟨p0,p1,p2,p3,p4,p5,p6,p7⟩:=HP0.out.h8
 go_wp2_with fail
 refine (HKN.out _ HA0.out).mono ?_
 rintro e w1 ⟨rfl,hq⟩
 have HP_1:=Lib.hid (HP0.out.below hq HP0.out.lt)
 have HB_1:Hid (Bw w _):=Lib.hid (chain HB0.out hq)
 have HA_1:=Lib.hid (rdBo hq HA0.out)
 have HX_1:=Lib.hid (HX0.out.below hq HX0.out.lt)
 have HT_1:=Lib.hid (HT0.out.below hq)
 clear hq HP0 HB0 HA0 HX0 HT0 p0 p1 p2 p3 p4 p5 p6 p7 HKN
 by_cases hk:kd=1
 ·skip
  have e1:(kd == 1)=true:=by simp [hk]
  have HV:=HR.out
  rw [if_pos hk] at HV
  replace HV:=Lib.hid HV
  clear hk HR
  go_wp2_with fail
  refine (HPW.out _ HX_1.out).mono ?_
  rintro e w2 ⟨rfl,hq⟩
  have HP_2:=Lib.hid (HP_1.out.below hq HP_1.out.lt)
  have HB_2:Hid (Bw w _):=Lib.hid (chain HB_1.out hq)
  have HA_2:=Lib.hid (rdBo hq HA_1.out)
  have HX_2:=Lib.hid (HX_1.out.below hq HX_1.out.lt)
  have HT_2:=Lib.hid (HT_1.out.below hq)
  clear hq HP_1 HB_1 HA_1 HX_1 HT_1 HPW
  go_wp2
  go_ret
  exact ⟨by rw [HV.out];rfl,HB_2.out⟩
 ·skip
  have e1:(kd == 1)=false:=by simp [hk]
  have HRX:=Lib.hid (HRE.out hk)
  have HV:=HR.out
  rw [if_neg hk] at HV
  replace HV:=Lib.hid HV
  clear hk HR HRE HPW
  generalize ownS l (!bl)=fo at *
  generalize ownS l bl=ow at *
  generalize occX l=oc at *
  obtain ⟨p0,p1⟩:=HP_1.out.h2
  have z8:=HX_1.out.c 8 rfl
  have z9:=HX_1.out.c 9 rfl
  go_wp2_with fail
  have kq0:=cell_regrown p0
  have kq1:=cell_regrown p1
  have kq2:=cell_regrown z8
  have kq3:=cell_regrown z9
  refine wp_region_quiet_below (by kernel_rfl) (by kernel_rfl) ?_
  repeat (go_big_quiet_step (first | (go_at_call 110;rw [HE1.out];exact Calls.regrown_of (HRX.out _ ((HT_1.out).below (below_regrown _ _ _)).1.2))))
  refine wpQuiet_nil ?_
  rintro _ ⟨⟨dq,osq⟩,rfl⟩
  have hq:=below_regrown w1 dq osq
  generalize grow (redrawn w1 dq) osq=w2 at *
  have HP_2:=Lib.hid (HP_1.out.below hq HP_1.out.lt)
  have HB_2:Hid (Bw w _):=Lib.hid (chain HB_1.out hq)
  have HA_2:=Lib.hid (rdBo hq HA_1.out)
  have HX_2:=Lib.hid (HX_1.out.below hq HX_1.out.lt)
  have HT_2:=Lib.hid (HT_1.out.below hq)
  clear hq HP_1 HB_1 HA_1 HX_1 HT_1 p0 p1 z8 z9 kq0 kq1 kq2 kq3 HRX
  by_cases hk:kd=6
  ·skip
   have e2:(kd == 6)=true:=by simp [hk]
   have HV2:=HV.out
   rw [if_pos hk] at HV2
   replace HV2:=Lib.hid HV2
   clear hk HV
   obtain ⟨p0,p1,p2,p3,p4,p5,p6,p7⟩:=HP_2.out.h8
   go_wp2_with fail
   refine (HCQ.out _ HT_2.out HA_2.out).mono ?_
   rintro e w3 ⟨rfl,hq⟩
   have HP_3:=Lib.hid (HP_2.out.below hq HP_2.out.lt)
   have HB_3:Hid (Bw w _):=Lib.hid (chain HB_2.out hq)
   have HA_3:=Lib.hid (rdBo hq HA_2.out)
   have HX_3:=Lib.hid (HX_2.out.below hq HX_2.out.lt)
   have HT_3:=Lib.hid (HT_2.out.below hq)
   clear hq HP_2 HB_2 HA_2 HX_2 HT_2 p0 p1 p2 p3 p4 p5 p6 p7 HCQ
   have z8:=HX_3.out.c 8 rfl
   go_wp2
   go_ret
   exact ⟨ret_int (by rw [HE2.out,HE3.out,HV2.out]),HB_3.out⟩
  ·skip
   have e2:(kd == 6)=false:=by simp [hk]
   have HV2:=HV.out
   rw [if_neg hk] at HV2
   replace HV2:=Lib.hid HV2
   clear hk HV
   have z8:=HX_2.out.c 8 rfl
   go_wp2
   go_ret
   exact ⟨ret_int (by rw [HE4.out,HV2.out]),HB_2.out⟩
end Go.Proofs.YtbccbgonlmkpkaaGreatDoor
