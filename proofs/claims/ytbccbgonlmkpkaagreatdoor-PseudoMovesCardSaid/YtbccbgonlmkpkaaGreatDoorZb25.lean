/- What the theorem needs, piece Zb25. -/
import Derived.Test.YtbccbgonlmkpkaaGreatDoorZb24
set_option linter.unusedSimpArgs false
set_option linter.unusedVariables false
set_option maxRecDepth 100000
set_option maxHeartbeats 16000000
namespace Go.Proofs.YtbccbgonlmkpkaaGreatDoor
open Go.RowKit Go.Sort
theorem OkP.vbd {p:Po} (h:OkP p):vbd p.F p.R p.l:=⟨h.hv,h.len,fun j _=>by
 have:=h.orth (j:Int)
 rw [pc_nat] at this
 unfold okP
 rcases this with h | h
 ·rw [h];omega
 ·unfold orthB at h
  simp at h
  omega⟩
theorem OkP.orA {p:Po} (h:OkP p):orA p.l=true:=pc_orA h.orth
def dngB (p:Po) (m:Mv):Bool:=decide (pcA p.ca m≠0) && (decide ((atkL p.F p.R p.l (cRt (pcA p.ca m):Int) (!p.bl)).length≠0) || chkB p.F p.R p.l p.bl)
theorem saf_prog {p:Po} {m:Mv} (h:Mov p m):safM p m=(!chkB p.F p.R (aftL p m) p.bl && !dngB p m):=by
 unfold safM dngB
 rw [pcA_mov h]
 congr 1
 by_cases h0:casM p m=0
 ·simp [h0]
 ·rw [decide_eq_false h0,decide_eq_true h0]
  cases chkB p.F p.R p.l p.bl <;> simp
theorem tDng_any (F R:Int) (l:List Int) (A:Option Addr) (c:Nat) (bl:Bool) (ca:Nat) (ps ha fu:Int) (x y t:Int) (kd:Int) (ow fo:Nat) (b:Nat) (hp:OkP ⟨F,R,l,bl,ca,ps,ha,fu⟩) (hown:ownB (pc l x) bl=true) (hca:ca<256) (w:World) (hT:T8 w) (hA:RdP w w.heap.size A l c) (hX:Bxs w b [.int .i64 F,.int .i64 R,.slice A l.length c,.bool bl,.int .u8 (ca:Int),.int .i64 ps,.int .i64 ha,.int .i64 fu,.int .i64 x,.int .i64 y,.int .i8 t,.int .i8 kd,.int .u64 (ow:Int),.int .u64 (fo:Int)]) :
  Calls Tryz.prog 53 #[.pointer (some ⟨b,0,none⟩)] w fun e w'=>e=.returned (.bool (dngB ⟨F,R,l,bl,ca,ps,ha,fu⟩ ⟨x,y,t⟩))/\Below w.heap.size w w':=by
 have hbd:vbd F R l:=hp.vbd
 have ho:orA l=true:=hp.orA
 have HCT:=Lib.hid (fun w hT=>pCsl_any F R l A c bl ca ps ha fu x y t hca w hT)
 have HPL:=Lib.hid (pBrdM_any F R l A c bl ca ps ha fu)
 have HCH:=Lib.hid (fun w hA hT=>pInC_any F R l A c bl ca ps ha fu bl w hbd ho hA hT (by cases bl;exact hp.kw;exact hp.kb))
 have HAT:Hid (pcA ca ⟨x,y,t⟩≠0->∀ w,RdP w w.heap.size A l c->T5 w->Calls Tryz.prog 120 #[.agg #[.int .i64 F,.int .i64 R,.slice A l.length c],.int .i64 (wS (pcA ca ⟨x,y,t⟩)),.bool (!bl)] w fun e w'=>e=.returned (.tuple #[.int .u64 (ofL (atkL F R l (cRt (pcA ca ⟨x,y,t⟩):Int) (!bl)):Int),.int .i64 0])/\Below w.heap.size w w'):=Lib.hid (fun hne w hA hT=>by
  rcases pcA_or ca ⟨x,y,t⟩ with hz | ⟨hor,hh⟩
  ·exact absurd hz hne
  ·have hH:=hit_of (m:=⟨x,y,t⟩) hp hown hor hh
   have e:wS (pcA ca ⟨x,y,t⟩)=(cRt (pcA ca ⟨x,y,t⟩):Int):=by unfold wS;rw [if_neg hne]
   rw [e]
   have f8:F=8:=hH.f8
   have r8:R=8:=hH.r8
   refine gAttackers F R l A c _ (!bl) w hbd ho hA hT ?_
   rw [f8,r8]
   exact vatN88 (way_bd hor).2.2.2.1)
 have HZ:Hid (((ofL (atkL F R l (cRt (pcA ca ⟨x,y,t⟩):Int) (!bl)):Int) != 0)=decide ((atkL F R l (cRt (pcA ca ⟨x,y,t⟩):Int) (!bl)).length≠0)):=Lib.hid (by
  have:=ofL_z (atkL F R l (cRt (pcA ca ⟨x,y,t⟩):Int) (!bl))
  rw [bne,this]
  cases (atkL F R l (cRt (pcA ca ⟨x,y,t⟩):Int) (!bl)) <;> simp)
 have e0:dngB ⟨F,R,l,bl,ca,ps,ha,fu⟩ ⟨x,y,t⟩=(decide (pcA ca ⟨x,y,t⟩≠0) && (decide ((atkL F R l (cRt (pcA ca ⟨x,y,t⟩):Int) (!bl)).length≠0) || chkB F R l bl)):=rfl
 have HB0:=box1 w (.cells #[.int .i64 F,.int .i64 R,.slice A l.length c,.bool bl,.int .u8 (ca:Int),.int .i64 ps,.int .i64 ha,.int .i64 fu] 26)
 have HX:=Lib.hid (hX.below HB0 hX.lt)
 have HP:=Lib.hid (Bxs.new w [.int .i64 F,.int .i64 R,.slice A l.length c,.bool bl,.int .u8 (ca:Int),.int .i64 ps,.int .i64 ha,.int .i64 fu] 26)
 have HT:=Lib.hid (hT.below HB0)
 have HA:=Lib.hid (rdBo HB0 hA)
 have hXl:=hX.lt
 obtain ⟨q0,q1,q2,q3,q4,q5,q6,q7⟩:=hX.h8
 have HW0:Hid (Bw w (w.alloc (.cells #[.int .i64 F,.int .i64 R,.slice A l.length c,.bool bl,.int .u8 (ca:Int),.int .i64 ps,.int .i64 ha,.int .i64 fu] 26))):=Lib.hid HB0
 unfold casW at HCT
 generalize dngB ⟨F,R,l,bl,ca,ps,ha,fu⟩ ⟨x,y,t⟩=r at *
 generalize decide ((atkL F R l (cRt (pcA ca ⟨x,y,t⟩):Int) (!bl)).length≠0)=av at *
 generalize ofL (atkL F R l (cRt (pcA ca ⟨x,y,t⟩):Int) (!bl))=at_ at *
 generalize chkB F R l bl=ch at *
 obtain ⟨ok,hok⟩:∃ ok,decide (pcA ca ⟨x,y,t⟩≠0)=ok:=⟨_,rfl⟩
 have HVB:=Lib.hid (show wayW (pcA ca ⟨x,y,t⟩)=[.int .u8 (pcA ca ⟨x,y,t⟩:Int),.int .i64 (wF (pcA ca ⟨x,y,t⟩)),.int .i64 (wT (pcA ca ⟨x,y,t⟩)),.int .i64 (wR (pcA ca ⟨x,y,t⟩)),.int .i64 (wS (pcA ca ⟨x,y,t⟩))] from rfl)
 rw [HVB.out,hok] at HCT
 rw [hok] at e0
 have HR:=Lib.hid e0
 have HOK:=Lib.hid hok
 clear hok HVB e0 hX hT hA hp hown hca hbd ho HB0
 generalize wF (pcA ca ⟨x,y,t⟩)=f at *
 generalize wT (pcA ca ⟨x,y,t⟩)=f2 at *
 generalize wR (pcA ca ⟨x,y,t⟩)=f3 at *
 generalize wS (pcA ca ⟨x,y,t⟩)=f4 at *
 generalize pcA ca ⟨x,y,t⟩=k at *
 go_enter Tryz.func53,Tryz.ntmps53
 have hz:=hXl
 go_upto_region 2 with fail
 clear q0 q1 q2 q3 q4 q5 q6 q7
 generalize w.alloc (.cells #[.int .i64 F,.int .i64 R,.slice A l.length c,.bool bl,.int .u8 (ca:Int),.int .i64 ps,.int .i64 ha,.int .i64 fu] 26)=V at *
 obtain ⟨p0,p1,p2,p3,p4,p5,p6,p7⟩:=HP.out.h8
 have z8:=HX.out.c 8 rfl
 have z9:=HX.out.c 9 rfl
 have z10:=HX.out.c 10 rfl
 go_cut [4,5] (fun s4 s5 wx=>∃ g:Nat,s4=.pointer (some ⟨g,0,none⟩)/\s5=.bool ok/\V.heap.size<=g/\Bxs wx g [.int .u8 (k:Int),.int .i64 f,.int .i64 f2,.int .i64 f3,.int .i64 f4]/\Bw V wx)
 case first =>
  have KB:∀ W':World,Bw V W'->(W'.cell? ⟨w.heap.size,0,none⟩=some (.int .i64 F)/\W'.cell? ⟨w.heap.size,1,none⟩=some (.int .i64 R)/\W'.cell? ⟨w.heap.size,2,none⟩=some (.slice A l.length c)/\W'.cell? ⟨w.heap.size,3,none⟩=some (.bool bl)/\W'.cell? ⟨w.heap.size,4,none⟩=some (.int .u8 (ca:Int))/\W'.cell? ⟨w.heap.size,5,none⟩=some (.int .i64 ps)/\W'.cell? ⟨w.heap.size,6,none⟩=some (.int .i64 ha)/\W'.cell? ⟨w.heap.size,7,none⟩=some (.int .i64 fu)/\W'.cell? ⟨b,8,none⟩=some (.int .i64 x)/\W'.cell? ⟨b,9,none⟩=some (.int .i64 y)/\W'.cell? ⟨b,10,none⟩=some (.int .i8 t))/\Bw V W':=fun W' hW=>⟨⟨cBo hW (by assumption),cBo hW (by assumption),cBo hW (by assumption),cBo hW (by assumption),cBo hW (by assumption),cBo hW (by assumption),cBo hW (by assumption),cBo hW (by assumption),cBo hW (by assumption),cBo hW (by assumption),cBo hW (by assumption)⟩,hW⟩
  replace KB:=Lib.hid KB
  have hS0:=KB.out V (Below.refl _ _)
  (first | (go_region_held3 (fun w'=>(w'.cell? ⟨w.heap.size,0,none⟩=some (.int .i64 F)/\w'.cell? ⟨w.heap.size,1,none⟩=some (.int .i64 R)/\w'.cell? ⟨w.heap.size,2,none⟩=some (.slice A l.length c)/\w'.cell? ⟨w.heap.size,3,none⟩=some (.bool bl)/\w'.cell? ⟨w.heap.size,4,none⟩=some (.int .u8 (ca:Int))/\w'.cell? ⟨w.heap.size,5,none⟩=some (.int .i64 ps)/\w'.cell? ⟨w.heap.size,6,none⟩=some (.int .i64 ha)/\w'.cell? ⟨w.heap.size,7,none⟩=some (.int .i64 fu)/\w'.cell? ⟨b,8,none⟩=some (.int .i64 x)/\w'.cell? ⟨b,9,none⟩=some (.int .i64 y)/\w'.cell? ⟨b,10,none⟩=some (.int .i8 t))/\Bw V w')
   (first | (simp only [Bw.mark5];exact KB.out _ (bw5 hb1 (by first | exact Nat.le_refl _ | (have e1:=hb1.size;simp at e1 ⊢;omega)) _ _ _ _ _)) | assumption | exact KB.out _ hb1 | exact KB.out _ (Bw.alloc hb1 _) | exact KB.out _ (Bw.step (And.right (by assumption)) (by assumption)) | exact KB.out _ (Bw.drew (And.right (by assumption))) | exact KB.out _ (Bw.alloc (And.right (by assumption)) _))
   (first
    | (go_at_call 114;refine (HCT.out _ (HT.out.below (And.right (by assumption))).2.2).mono ?_;rintro e u1 ⟨rfl,hc1⟩;have hb1:Bw V u1:=Bw.step (And.right (by assumption)) hc1;(try (first | (have yz1:=zbxd hc1) | (have yz1:=zbx hc1)));(try (have e0:=yz1.c 0 rfl;have e1:=yz1.c 1 rfl;have e2:=yz1.c 2 rfl;have e3:=yz1.c 3 rfl;have e4:=yz1.c 4 rfl;have ef:=yz1.2))))) | fail)
  all_goals
   go_wp2_with fail
   (conv=>arg 2;simp [Act.put])
   go_meet
   case rel =>
    refine ⟨_,rfl,rfl,?_,?_,?_⟩
    ·first | exact Nat.le_refl _ | (have e1:=hc1.size;simp at e1 ⊢;omega)
    ·first | exact yz1.put5 _ _ _ _ _ | exact Bxs.new _ _ _
    ·exact And.right (by assumption)
 case rest =>
  obtain ⟨g,rfl,rfl,hg,hC,hW⟩:=hcut
  have HP1:=Lib.hid (HP.out.below hW HP.out.lt)
  have HC1:=Lib.hid hC
  have HT1:=Lib.hid (HT.out.below hW)
  have HA1:=Lib.hid (rdBo hW HA.out)
  have HB1:=Lib.hid (chain HW0.out hW)
  clear hC hW HX HP HT HA HCT HW0 p0 p1 p2 p3 p4 p5 p6 p7 z8 z9 z10 hz hXl
  cases ok
  case false =>
   go_wp2
   go_ret
   exact ⟨by rw [HR.out];rfl,HB1.out⟩
  case true =>
   have HAX:=Lib.hid (HAT.out (of_decide_eq_true HOK.out))
   clear HAT HOK
   obtain ⟨p0,p1,p2,p3,p4,p5,p6,p7⟩:=HP1.out.h8
   have y4:=HC1.out.c 4 rfl
   go_wp2_with fail
   have kq0:=cell_regrown p0
   have kq1:=cell_regrown p1
   have kq2:=cell_regrown p2
   have kq3:=cell_regrown p3
   have kq4:=cell_regrown p4
   have kq5:=cell_regrown p5
   have kq6:=cell_regrown p6
   have kq7:=cell_regrown p7
   have kq8:=cell_regrown y4
   refine wp_region_quiet_below (by kernel_rfl) (by kernel_rfl) ?_
   repeat (go_big_quiet_step (first | (go_at_call 107;exact Calls.regrown_of (HPL.out _)) | (go_at_call 120;exact Calls.regrown_of (HAX.out _ (rdBo (below_regrown _ _ _) HA1.out) (HT1.out.below (below_regrown _ _ _)).1))))
   refine wpQuiet_nil ?_
   rintro _ ⟨⟨dq,osq⟩,rfl⟩
   have hq:=below_regrown wc dq osq
   clear p0 p1 p2 p3 p4 p5 p6 p7 y4 kq0 kq1 kq2 kq3 kq4 kq5 kq6 kq7 kq8
   generalize grow (redrawn wc dq) osq=w2 at *
   have HP2:=Lib.hid (HP1.out.below hq HP1.out.lt)
   have HT2:=Lib.hid (HT1.out.below hq)
   have HA2:=Lib.hid (rdBo hq HA1.out)
   have HB2:=Lib.hid (chain HB1.out hq)
   clear hq HP1 HT1 HA1 HB1 HC1 HAX
   obtain ⟨p0,p1,p2,p3,p4,p5,p6,p7⟩:=HP2.out.h8
   have hzz:=HZ.out
   cases av
   case true =>
    go_wp2
    go_ret
    exact ⟨by rw [HR.out];rfl,HB2.out⟩
   case false =>
    go_wp2_with fail
    refine (HCH.out _ HA2.out HT2.out.1).mono ?_
    rintro e w3 ⟨rfl,hq⟩
    go_wp2
    go_ret
    exact ⟨by rw [HR.out];rfl,chain HB2.out hq⟩
end Go.Proofs.YtbccbgonlmkpkaaGreatDoor
namespace Go.Proofs.YtbccbgonlmkpkaaGreatDoor
open Go.RowKit Go.Sort
def trnV (F R:Int) (l:List Int) (A:Option Addr) (c:Nat) (bl:Bool) (ca:Nat) (ps ha fu:Int) (x y t:Int):Value:=.agg #[.int .i64 F,.int .i64 R,.slice A l.length c,.bool bl,.int .u8 (ca:Int),.int .i64 ps,.int .i64 ha,.int .i64 fu,.int .i64 x,.int .i64 y,.int .i8 t,.int .i8 (kdP (pc l x)),.int .u64 (ownS l bl:Int),.int .u64 (ownS l (!bl):Int)]
theorem pLook_any (F R:Int) (l:List Int) (A:Option Addr) (c:Nat) (bl:Bool) (ca:Nat) (ps ha fu:Int) (x y t:Int) (hbd:vbd F R l) (hx:vat F R x) (w:World) (hA:RdP w w.heap.size A l c) :
  Calls Tryz.prog 47 #[.agg #[.int .i64 F,.int .i64 R,.slice A l.length c,.bool bl,.int .u8 (ca:Int),.int .i64 ps,.int .i64 ha,.int .i64 fu],.agg #[.int .i64 x,.int .i64 y,.int .i8 t]] w fun e w'=>e=.returned (trnV F R l A c bl ca ps ha fu x y t)/\Below w.heap.size w w':=by
 have hl:=hbd.2.1
 have HPL:=Lib.hid (pBrdM_any F R l A c bl ca ps ha fu)
 have HSD:=Lib.hid (fun w hA=>sides_yes F R l A c w hbd hA)
 obtain ⟨n,rfl⟩:∃ n:Nat,x=(n:Int):=⟨x.toNat,by have:=hx.2.1;omega⟩
 have hn:n<l.length:=by have:=hx.2.2;omega
 have hq:=hbd.2.2 n hn
 rw [<- pc_nat] at hq
 unfold okP at hq
 obtain ⟨q1,q2⟩:=hq
 have hw1:IntKind.i8.wrap (-(pc l (n:Int)))=-(pc l (n:Int)):=IntWalk.i8_in _ (by omega)
 have HKD:Hid (kdP (pc l (n:Int))=max (pc l (n:Int)) (-(pc l (n:Int)))):=Lib.hid (by unfold kdP;split <;> omega)
 have HV:Hid (trnV F R l A c bl ca ps ha fu (n:Int) y t=.agg #[.int .i64 F,.int .i64 R,.slice A l.length c,.bool bl,.int .u8 (ca:Int),.int .i64 ps,.int .i64 ha,.int .i64 fu,.int .i64 (n:Int),.int .i64 y,.int .i8 t,.int .i8 (kdP (pc l (n:Int))),.int .u64 (ownS l bl:Int),.int .u64 (ownS l (!bl):Int)]):=Lib.hid rfl
 have e1:setP (sdP 1) l=ownS l false:=rfl
 have e2:setP (sdP (-1)) l=ownS l true:=rfl
 rw [e1,e2] at HSD
 obtain ⟨o1,ho1⟩:∃ o,ownS l false=o:=⟨_,rfl⟩
 obtain ⟨o2,ho2⟩:∃ o,ownS l true=o:=⟨_,rfl⟩
 rw [ho1,ho2] at HSD
 have HO1:=Lib.hid ho1
 have HO2:=Lib.hid ho2
 clear ho1 ho2
 have B1:=box1 w (.cells #[.int .i64 F,.int .i64 R,.slice A l.length c,.bool bl,.int .u8 (ca:Int),.int .i64 ps,.int .i64 ha,.int .i64 fu] 26)
 have B2:=box1 (w.alloc (.cells #[.int .i64 F,.int .i64 R,.slice A l.length c,.bool bl,.int .u8 (ca:Int),.int .i64 ps,.int .i64 ha,.int .i64 fu] 26)) (.cells #[.int .i64 (n:Int),.int .i64 y,.int .i8 t] 30)
 have B3:=box1 ((w.alloc (.cells #[.int .i64 F,.int .i64 R,.slice A l.length c,.bool bl,.int .u8 (ca:Int),.int .i64 ps,.int .i64 ha,.int .i64 fu] 26)).alloc (.cells #[.int .i64 (n:Int),.int .i64 y,.int .i8 t] 30)) (.cells #[.int .i64 0,.int .i64 0,.slice none 0 0,.bool false,.int .u8 0,.int .i64 0,.int .i64 0,.int .i64 0,.int .i64 0,.int .i64 0,.int .i8 0,.int .i8 0,.int .u64 0,.int .u64 0] 87)
 have hP:=(Bxs.new w [.int .i64 F,.int .i64 R,.slice A l.length c,.bool bl,.int .u8 (ca:Int),.int .i64 ps,.int .i64 ha,.int .i64 fu] 26).below B2 (by simp)
 have hM:=Bxs.new (w.alloc (.cells #[.int .i64 F,.int .i64 R,.slice A l.length c,.bool bl,.int .u8 (ca:Int),.int .i64 ps,.int .i64 ha,.int .i64 fu] 26)) [.int .i64 (n:Int),.int .i64 y,.int .i8 t] 30
 have hR:=Bxs.new ((w.alloc (.cells #[.int .i64 F,.int .i64 R,.slice A l.length c,.bool bl,.int .u8 (ca:Int),.int .i64 ps,.int .i64 ha,.int .i64 fu] 26)).alloc (.cells #[.int .i64 (n:Int),.int .i64 y,.int .i8 t] 30)) [.int .i64 0,.int .i64 0,.slice none 0 0,.bool false,.int .u8 0,.int .i64 0,.int .i64 0,.int .i64 0,.int .i64 0,.int .i64 0,.int .i8 0,.int .i8 0,.int .u64 0,.int .u64 0] 87
 rw [World.size_alloc] at hM
 rw [World.size_alloc,World.size_alloc] at hR
 have HP0:=Lib.hid (hP.below B3 hP.lt)
 have HM0:=Lib.hid (hM.below B3 hM.lt)
 have HR0:=Lib.hid hR
 have hB:=chain (chain B1 B2) B3
 have HA0:=Lib.hid (rdBo hB hA)
 have HB0:Hid (Bw w (((w.alloc (.cells #[.int .i64 F,.int .i64 R,.slice A l.length c,.bool bl,.int .u8 (ca:Int),.int .i64 ps,.int .i64 ha,.int .i64 fu] 26)).alloc (.cells #[.int .i64 (n:Int),.int .i64 y,.int .i8 t] 30)).alloc (.cells #[.int .i64 0,.int .i64 0,.slice none 0 0,.bool false,.int .u8 0,.int .i64 0,.int .i64 0,.int .i64 0,.int .i64 0,.int .i64 0,.int .i8 0,.int .i8 0,.int .u64 0,.int .u64 0] 87))):=Lib.hid hB
 have hsz:(((w.alloc (.cells #[.int .i64 F,.int .i64 R,.slice A l.length c,.bool bl,.int .u8 (ca:Int),.int .i64 ps,.int .i64 ha,.int .i64 fu] 26)).alloc (.cells #[.int .i64 (n:Int),.int .i64 y,.int .i8 t] 30)).alloc (.cells #[.int .i64 0,.int .i64 0,.slice none 0 0,.bool false,.int .u8 0,.int .i64 0,.int .i64 0,.int .i64 0,.int .i64 0,.int .i64 0,.int .i8 0,.int .i8 0,.int .u64 0,.int .u64 0] 87)).heap.size=w.heap.size+3:=by simp
 have HSZ:=Lib.hid hsz
 clear hbd hx hA hl B1 B2 B3 hP hM hR hB hsz e1 e2
 go_enter Tryz.func47,Tryz.ntmps47
 go_upto_region 1 with fail
 generalize (((w.alloc (.cells #[.int .i64 F,.int .i64 R,.slice A l.length c,.bool bl,.int .u8 (ca:Int),.int .i64 ps,.int .i64 ha,.int .i64 fu] 26)).alloc (.cells #[.int .i64 (n:Int),.int .i64 y,.int .i8 t] 30)).alloc (.cells #[.int .i64 0,.int .i64 0,.slice none 0 0,.bool false,.int .u8 0,.int .i64 0,.int .i64 0,.int .i64 0,.int .i64 0,.int .i64 0,.int .i8 0,.int .i8 0,.int .u64 0,.int .u64 0] 87))=V at *
 obtain ⟨p0,p1,p2,p3,p4,p5,p6,p7⟩:=HP0.out.h8
 go_wp2_with fail
 refine (HPL.out _).mono ?_
 rintro e w1 ⟨rfl,hb⟩
 clear p0 p1 p2 p3 p4 p5 p6 p7
 have hs1:w.heap.size+3<=w1.heap.size:=by have:=hb.size;have:=HSZ.out;omega
 have HP1:=Lib.hid (HP0.out.below hb HP0.out.lt)
 have HM1:=Lib.hid (HM0.out.below hb HM0.out.lt)
 have HR1:=Lib.hid (HR0.out.below hb HR0.out.lt)
 have HA1:=Lib.hid (rdBo hb HA0.out)
 have HB1:=Lib.hid (chain HB0.out hb)
 clear hb HB0 HA0 HP0 HM0 HR0
 go_wp2_with fail
 refine (HSD.out _ HA1.out).mono ?_
 rintro e w2 ⟨rfl,hb⟩
 have hs2:w.heap.size+3<=w2.heap.size:=by have:=hb.size;omega
 clear hs1 HSZ
 have HP2:=Lib.hid (HP1.out.below hb HP1.out.lt)
 have HM2:=Lib.hid (HM1.out.below hb HM1.out.lt)
 have HR2:=Lib.hid (HR1.out.below hb HR1.out.lt)
 have HA2:=Lib.hid (rdBo hb HA1.out)
 have HB2:=Lib.hid (chain HB1.out hb)
 clear hb HB1 HA1 HP1 HM1 HR1
 obtain ⟨ad,hAe,hadb,hadc⟩:=HA2.out.at_ hn
 rw [<- pc_nat] at hadc
 obtain rfl:=hAe
 obtain ⟨p0,p1,p2,p3,p4,p5,p6,p7⟩:=HP2.out.h8
 obtain ⟨m0,m1,m2⟩:=HM2.out.h3
 have h5:w.heap.size<w2.heap.size:=by omega
 have h6:w.heap.size+1<w2.heap.size:=by omega
 have h7:¬ w.heap.size=w2.heap.size:=by omega
 have h8:¬ w.heap.size+1=w2.heap.size:=by omega
 have h9:¬ ad.block=w2.heap.size:=by omega
 have h10:=hadb
 have hal:∀ o:Obj,(w2.alloc o).cell? (ad.add n)=some (.int .i8 (pc l (n:Int))):=fun o=>alive o hadc
 generalize kdP (pc l (n:Int))=kd at *
 generalize pc l (n:Int)=q at *
 go_upto_region 2 with fail
 go_cut [8] (fun s8 wx=>∃ g:Nat,s8=.pointer (some ⟨g,0,none⟩)/\w2.heap.size<=g/\Bxs wx g [.int .i64 F,.int .i64 R,.slice (some ad) l.length c,.bool bl,.int .u8 (ca:Int),.int .i64 ps,.int .i64 ha,.int .i64 fu,.int .i64 (n:Int),.int .i64 y,.int .i8 t,.int .i8 kd,.int .u64 (o1:Int),.int .u64 (o2:Int)]/\Bw w2 wx)
 case first =>
  have KB:∀ W':World,Bw w2 W'->(W'.cell? ⟨w.heap.size,0,none⟩=some (.int .i64 F)/\W'.cell? ⟨w.heap.size,1,none⟩=some (.int .i64 R)/\W'.cell? ⟨w.heap.size,2,none⟩=some (.slice (some ad) l.length c)/\W'.cell? ⟨w.heap.size,3,none⟩=some (.bool bl)/\W'.cell? ⟨w.heap.size,4,none⟩=some (.int .u8 (ca:Int))/\W'.cell? ⟨w.heap.size,5,none⟩=some (.int .i64 ps)/\W'.cell? ⟨w.heap.size,6,none⟩=some (.int .i64 ha)/\W'.cell? ⟨w.heap.size,7,none⟩=some (.int .i64 fu)/\W'.cell? ⟨w.heap.size+1,0,none⟩=some (.int .i64 (n:Int))/\W'.cell? ⟨w.heap.size+1,1,none⟩=some (.int .i64 y)/\W'.cell? ⟨w.heap.size+1,2,none⟩=some (.int .i8 t)/\W'.cell? (ad.add n)=some (.int .i8 q))/\Bw w2 W':=fun W' hW=>⟨⟨cBo hW (by assumption),cBo hW (by assumption),cBo hW (by assumption),cBo hW (by assumption),cBo hW (by assumption),cBo hW (by assumption),cBo hW (by assumption),cBo hW (by assumption),cBo hW (by assumption),cBo hW (by assumption),cBo hW (by assumption),cBo hW (by assumption)⟩,hW⟩
  replace KB:=Lib.hid KB
  have hS0:=KB.out w2 (Below.refl _ _)
  have hb1:Bw w2 (World.drew w2):=Bw.drew (Below.refl _ _)
  (first | (go_region_held3 (fun w'=>(w'.cell? ⟨w.heap.size,0,none⟩=some (.int .i64 F)/\w'.cell? ⟨w.heap.size,1,none⟩=some (.int .i64 R)/\w'.cell? ⟨w.heap.size,2,none⟩=some (.slice (some ad) l.length c)/\w'.cell? ⟨w.heap.size,3,none⟩=some (.bool bl)/\w'.cell? ⟨w.heap.size,4,none⟩=some (.int .u8 (ca:Int))/\w'.cell? ⟨w.heap.size,5,none⟩=some (.int .i64 ps)/\w'.cell? ⟨w.heap.size,6,none⟩=some (.int .i64 ha)/\w'.cell? ⟨w.heap.size,7,none⟩=some (.int .i64 fu)/\w'.cell? ⟨w.heap.size+1,0,none⟩=some (.int .i64 (n:Int))/\w'.cell? ⟨w.heap.size+1,1,none⟩=some (.int .i64 y)/\w'.cell? ⟨w.heap.size+1,2,none⟩=some (.int .i8 t)/\w'.cell? (ad.add n)=some (.int .i8 q))/\Bw w2 w')
   (first | (simp only [Bw.mark14];exact KB.out _ (bw14 hb1 (by first | exact Nat.le_refl _ | (have e1:=hb1.size;simp at e1 ⊢;omega)) _ _ _ _ _ _ _ _ _ _ _ _ _ _)) | assumption | exact KB.out _ hb1 | exact KB.out _ (Bw.alloc hb1 _) | exact KB.out _ (Bw.step (And.right (by assumption)) (by assumption)) | exact KB.out _ (Bw.drew (And.right (by assumption))) | exact KB.out _ (Bw.alloc (And.right (by assumption)) _))
   (first
    | (fail))) | fail)
  all_goals
   go_wp2_with fail
   (conv=>arg 2;simp [Act.put])
   go_meet
   case rel=>exact ⟨_,rfl,Nat.le_refl _,by rw [HKD.out];exact (tb1 w2 _ _).1,(tb1 w2 _ _).2⟩
 case rest =>
  obtain ⟨g,rfl,hg,hT,hW⟩:=hcut
  have HT:=Lib.hid hT
  have HP3:=Lib.hid (HP2.out.below hW HP2.out.lt)
  have HR3:=Lib.hid (HR2.out.below hW HR2.out.lt)
  have HB3:Hid (Bw w wc):=Lib.hid (chain HB2.out hW)
  clear hT hW HP2 HM2 HR2 HB2 HA2 hal hadb hadc h5 h6 h7 h8 h9 h10 p0 p1 p2 p3 p4 p5 p6 p7 m0 m1 m2 HKD hw1 q1 q2
  have p3:=HP3.out.c 3 rfl
  cases bl
  case false =>
   obtain ⟨t0,t1,t2,t3,t4,t5,t6,t7,t8,t9,t10,t11,t12,t13⟩:=HT.out.h14
   obtain ⟨r0,r1,r2,r3,r4,r5,r6,r7,r8,r9,r10,r11,r12,r13⟩:=HR3.out.h14
   have rf:=HR3.out.2
   go_upto_region 5 with fail
   repeat (first | go_values | go_skip | go_guarded | go_step | go_upon | go_in)
   apply bodyPost_ret (v:=.agg #[.int .i64 F,.int .i64 R,.slice (some ad) l.length c,.bool false,.int .u8 (ca:Int),.int .i64 ps,.int .i64 ha,.int .i64 fu,.int .i64 (n:Int),.int .i64 y,.int .i8 t,.int .i8 kd,.int .u64 (o1:Int),.int .u64 (o2:Int)])
   rotate_left
   ·rfl
   ·exact ⟨by rw [HV.out];simp only [Bool.not_false,Bool.not_true,HO1.out,HO2.out],bw14 HB3.out (by omega) _ _ _ _ _ _ _ _ _ _ _ _ _ _⟩
   have hz:=HR3.out.put14 (.int .i64 F) (.int .i64 R) (.slice (some ad) l.length c) (.bool false) (.int .u8 (ca:Int)) (.int .i64 ps) (.int .i64 ha) (.int .i64 fu) (.int .i64 (n:Int)) (.int .i64 y) (.int .i8 t) (.int .i8 kd) (.int .u64 (o1:Int)) (.int .u64 (o2:Int))
   clear t0 t1 t2 t3 t4 t5 t6 t7 t8 t9 t10 t11 t12 t13 r0 r1 r2 r3 r4 r5 r6 r7 r8 r9 r10 r11 r12 r13 rf
   obtain ⟨r0,r1,r2,r3,r4,r5,r6,r7,r8,r9,r10,r11,r12,r13⟩:=hz.h14
   clear hz
   simp [results,Tryz.results47,go_sem,r0,r1,r2,r3,r4,r5,r6,r7,r8,r9,r10,r11,r12,r13]
  case true =>
   have t12:=HT.out.c 12 rfl
   have t13:=HT.out.c 13 rfl
   have tf:=HT.out.2
   go_upto_region 5 with fail
   have HT4:=Lib.hid (show Bxs (World.setCell (World.setCell wc ⟨g,12,none⟩ (.int .u64 (o2:Int))) ⟨g,13,none⟩ (.int .u64 (o1:Int))) g [.int .i64 F,.int .i64 R,.slice (some ad) l.length c,.bool true,.int .u8 (ca:Int),.int .i64 ps,.int .i64 ha,.int .i64 fu,.int .i64 (n:Int),.int .i64 y,.int .i8 t,.int .i8 kd,.int .u64 (o2:Int),.int .u64 (o1:Int)] from (HT.out.set 12 (by simp) (.int .u64 (o2:Int))).set 13 (by simp) (.int .u64 (o1:Int)))
   have HR4:=Lib.hid (HR3.out.but (((But.refl g wc).setCell 12 (.int .u64 (o2:Int))).setCell 13 (.int .u64 (o1:Int))) (by omega))
   have HB4:=Lib.hid (Bw.set1 (Bw.set1 (V:=w) HB3.out (b:=g) (by omega) 12 (.int .u64 (o2:Int))) (b:=g) (by omega) 13 (.int .u64 (o1:Int)))
   clear HT HR3 HB3 HP3 t12 t13 tf p3
   generalize World.setCell (World.setCell wc ⟨g,12,none⟩ (.int .u64 (o2:Int))) ⟨g,13,none⟩ (.int .u64 (o1:Int))=w5 at *
   obtain ⟨t0,t1,t2,t3,t4,t5,t6,t7,t8,t9,t10,t11,t12,t13⟩:=HT4.out.h14
   obtain ⟨r0,r1,r2,r3,r4,r5,r6,r7,r8,r9,r10,r11,r12,r13⟩:=HR4.out.h14
   have rf:=HR4.out.2
   go_upto_region 5 with fail
   repeat (first | go_values | go_skip | go_guarded | go_step | go_upon | go_in)
   apply bodyPost_ret (v:=.agg #[.int .i64 F,.int .i64 R,.slice (some ad) l.length c,.bool true,.int .u8 (ca:Int),.int .i64 ps,.int .i64 ha,.int .i64 fu,.int .i64 (n:Int),.int .i64 y,.int .i8 t,.int .i8 kd,.int .u64 (o2:Int),.int .u64 (o1:Int)])
   rotate_left
   ·rfl
   ·exact ⟨by rw [HV.out];simp only [Bool.not_false,Bool.not_true,HO1.out,HO2.out],bw14 HB4.out (by omega) _ _ _ _ _ _ _ _ _ _ _ _ _ _⟩
   have hz:=HR4.out.put14 (.int .i64 F) (.int .i64 R) (.slice (some ad) l.length c) (.bool true) (.int .u8 (ca:Int)) (.int .i64 ps) (.int .i64 ha) (.int .i64 fu) (.int .i64 (n:Int)) (.int .i64 y) (.int .i8 t) (.int .i8 kd) (.int .u64 (o2:Int)) (.int .u64 (o1:Int))
   clear t0 t1 t2 t3 t4 t5 t6 t7 t8 t9 t10 t11 t12 t13 r0 r1 r2 r3 r4 r5 r6 r7 r8 r9 r10 r11 r12 r13 rf
   obtain ⟨r0,r1,r2,r3,r4,r5,r6,r7,r8,r9,r10,r11,r12,r13⟩:=hz.h14
   clear hz
   simp [results,Tryz.results47,go_sem,r0,r1,r2,r3,r4,r5,r6,r7,r8,r9,r10,r11,r12,r13]
end Go.Proofs.YtbccbgonlmkpkaaGreatDoor
namespace Go.Proofs.YtbccbgonlmkpkaaGreatDoor
open Go.RowKit Go.Sort
theorem qSing_any (n:Int) (h0:0<=n) (h1:n<64) (w:World) :
  Calls Tryz.prog 80 #[.int .i64 n] w fun e w'=>e=.returned (.int .u64 (bitN n.toNat:Int))/\Below w.heap.size w w':=by
 have E:=Lib.hid (pow_wrap n h1)
 go_enter Tryz.func80,Tryz.ntmps80
 go_wp2
 go_ret
 exact ⟨ret_int E.out,Below.refl _ _⟩
theorem qKnd_any (F R:Int) (l:List Int) (A:Option Addr) (c:Nat) (bl:Bool) (ca:Nat) (ps ha fu:Int) (n:Nat) (hn:n<l.length) (q1:-100<=pc l (n:Int)) (q2:pc l (n:Int)<=100) (w:World) (hA:RdP w w.heap.size A l c) :
  Calls Tryz.prog 85 #[.agg #[.int .i64 F,.int .i64 R,.slice A l.length c,.bool bl,.int .u8 (ca:Int),.int .i64 ps,.int .i64 ha,.int .i64 fu],.int .i64 (n:Int)] w fun e w'=>e=.returned (.int .i8 (kdP (pc l (n:Int))))/\Below w.heap.size w w':=by
 obtain ⟨q,hq⟩:∃ q,pc l (n:Int)=q:=⟨_,rfl⟩
 have HKD:Hid (kdP (pc l (n:Int))=max q (-q)):=Lib.hid (by rw [hq];unfold kdP;split <;> omega)
 rw [hq] at q1 q2
 have HQ:=Lib.hid hq
 clear hq
 have hw1:IntKind.i8.wrap (-q)=-q:=IntWalk.i8_in _ (by omega)
 have B1:=box1 (w) (.cells #[.int .i64 F,.int .i64 R,.slice A l.length c,.bool bl,.int .u8 (ca:Int),.int .i64 ps,.int .i64 ha,.int .i64 fu] 26)
 have hHP:=Bxs.new (w) [.int .i64 F,.int .i64 R,.slice A l.length c,.bool bl,.int .u8 (ca:Int),.int .i64 ps,.int .i64 ha,.int .i64 fu] 26
 have HP0:=Lib.hid (hHP)
 have hB:=B1
 have HB0:Hid (Bw w (w.alloc (.cells #[.int .i64 F,.int .i64 R,.slice A l.length c,.bool bl,.int .u8 (ca:Int),.int .i64 ps,.int .i64 ha,.int .i64 fu] 26))):=Lib.hid hB
 have HA0:=Lib.hid (rdBo hB hA)
 clear hB B1 hHP hA
 go_enter Tryz.func85,Tryz.ntmps85
 go_upto_region 1 with fail
 generalize w.alloc (.cells #[.int .i64 F,.int .i64 R,.slice A l.length c,.bool bl,.int .u8 (ca:Int),.int .i64 ps,.int .i64 ha,.int .i64 fu] 26)=V at *
 obtain ⟨ad,hAe,hadb,hadc⟩:=HA0.out.at_ hn
 rw [<- pc_nat,HQ.out] at hadc
 obtain rfl:=hAe
 obtain ⟨p0,p1,p2,p3,p4,p5,p6,p7⟩:=HP0.out.h8
 have KB:∀ W':World,Bw V W'->(W'.cell? ⟨w.heap.size,2,none⟩=some (.slice (some ad) l.length c)/\W'.cell? (ad.add n)=some (.int .i8 q))/\Bw V W':=fun W' hW=>⟨⟨cBo hW (by assumption),cBo hW (by assumption)⟩,hW⟩
 replace KB:=Lib.hid KB
 have hS0:=KB.out V (Below.refl _ _)
 (first | (go_region_held3 (fun w'=>(w'.cell? ⟨w.heap.size,2,none⟩=some (.slice (some ad) l.length c)/\w'.cell? (ad.add n)=some (.int .i8 q))/\Bw V w')
  (first | assumption | exact KB.out _ (Bw.step (And.right (by assumption)) (by assumption)) | exact KB.out _ (Bw.step (And.right (by assumption)) ((Below.refl _ _).drew)))
  (first
   | (fail))) | fail)
 all_goals
  go_wp2
  go_ret
  exact ⟨by rw [HKD.out];rfl,Bw.drew HB0.out⟩
end Go.Proofs.YtbccbgonlmkpkaaGreatDoor
namespace Go.Proofs.YtbccbgonlmkpkaaGreatDoor
open Go.RowKit Go.Sort
theorem Bxs.put10 {W:World} {b:Nat} {u0 u1 u2 u3 u4 u5 u6 u7 u8 u9:Value} (h:Bxs W b [u0,u1,u2,u3,u4,u5,u6,u7,u8,u9]) (v0 v1 v2 v3 v4 v5 v6 v7 v8 v9:Value):Bxs (World.setCell (World.setCell (World.setCell (World.setCell (World.setCell (World.setCell (World.setCell (World.setCell (World.setCell (World.setCell W ⟨b,0,none⟩ v0) ⟨b,1,none⟩ v1) ⟨b,2,none⟩ v2) ⟨b,3,none⟩ v3) ⟨b,4,none⟩ v4) ⟨b,5,none⟩ v5) ⟨b,6,none⟩ v6) ⟨b,7,none⟩ v7) ⟨b,8,none⟩ v8) ⟨b,9,none⟩ v9) b [v0,v1,v2,v3,v4,v5,v6,v7,v8,v9]:=((((((((((h.set 0 (by simp) v0).set 1 (by simp) v1).set 2 (by simp) v2).set 3 (by simp) v3).set 4 (by simp) v4).set 5 (by simp) v5).set 6 (by simp) v6).set 7 (by simp) v7).set 8 (by simp) v8).set 9 (by simp) v9)
theorem bw10 {V W:World} (h:Bw V W) {b:Nat} (hb:V.heap.size<=b) (v0 v1 v2 v3 v4 v5 v6 v7 v8 v9:Value):Bw V (World.setCell (World.setCell (World.setCell (World.setCell (World.setCell (World.setCell (World.setCell (World.setCell (World.setCell (World.setCell W ⟨b,0,none⟩ v0) ⟨b,1,none⟩ v1) ⟨b,2,none⟩ v2) ⟨b,3,none⟩ v3) ⟨b,4,none⟩ v4) ⟨b,5,none⟩ v5) ⟨b,6,none⟩ v6) ⟨b,7,none⟩ v7) ⟨b,8,none⟩ v8) ⟨b,9,none⟩ v9):=((((((((((h.setCell hb v0).setCell hb v1).setCell hb v2).setCell hb v3).setCell hb v4).setCell hb v5).setCell hb v6).setCell hb v7).setCell hb v8).setCell hb v9)
def trq (F R:Int) (l:List Int) (A:Option Addr) (c:Nat) (bl:Bool) (ca:Nat) (ps ha fu:Int):Value:=.agg #[.int .i64 F,.int .i64 R,.slice A l.length c,.bool bl,.int .u8 (ca:Int),.int .i64 ps,.int .i64 ha,.int .i64 fu,.int .u64 (ownS l bl:Int),.int .u64 (ownS l (!bl):Int)]
def trz:Value:=.agg #[.int .i64 0,.int .i64 0,.slice none 0 0,.bool false,.int .u8 0,.int .i64 0,.int .i64 0,.int .i64 0,.int .u64 0,.int .u64 0]
theorem qLook_no (F R:Int) (l:List Int) (A:Option Addr) (c:Nat) (bl:Bool) (ca:Nat) (ps ha fu:Int) (hca:ca<256) (hlen:l.length<=100000) (hcap:l.length<=c) (hok:okPo ⟨F,R,l,bl,ca,ps,ha,fu⟩=false) (w:World) (hT:T8 w) (hA:RdP w w.heap.size A l c) :
  Calls Tryz.prog 77 #[.agg #[.int .i64 F,.int .i64 R,.slice A l.length c,.bool bl,.int .u8 (ca:Int),.int .i64 ps,.int .i64 ha,.int .i64 fu]] w fun e w'=>e=.returned (.tuple #[trz,.int .i64 2])/\Below w.heap.size w w':=by
 have HV:=Lib.hid (fun w hT hR hA=>pValid_any F R l A c bl ca ps ha fu hca hlen hcap w hT hR hA)
 rw [hok] at HV
 have B1:=box1 (w) (.cells #[.int .i64 F,.int .i64 R,.slice A l.length c,.bool bl,.int .u8 (ca:Int),.int .i64 ps,.int .i64 ha,.int .i64 fu] 26)
 have B2:=box1 (w.alloc (.cells #[.int .i64 F,.int .i64 R,.slice A l.length c,.bool bl,.int .u8 (ca:Int),.int .i64 ps,.int .i64 ha,.int .i64 fu] 26)) (.cells #[.int .i64 0,.int .i64 0,.slice none 0 0,.bool false,.int .u8 0,.int .i64 0,.int .i64 0,.int .i64 0,.int .u64 0,.int .u64 0] 116)
 have hHP:=Bxs.new (w) [.int .i64 F,.int .i64 R,.slice A l.length c,.bool bl,.int .u8 (ca:Int),.int .i64 ps,.int .i64 ha,.int .i64 fu] 26
 have hHR:=Bxs.new (w.alloc (.cells #[.int .i64 F,.int .i64 R,.slice A l.length c,.bool bl,.int .u8 (ca:Int),.int .i64 ps,.int .i64 ha,.int .i64 fu] 26)) [.int .i64 0,.int .i64 0,.slice none 0 0,.bool false,.int .u8 0,.int .i64 0,.int .i64 0,.int .i64 0,.int .u64 0,.int .u64 0] 116
 rw [World.size_alloc] at hHR
 have HP0:=Lib.hid (hHP.below B2 hHP.lt)
 have HR0:=Lib.hid (hHR)
 have hB:=(chain B1 B2)
 have HB0:Hid (Bw w ((w.alloc (.cells #[.int .i64 F,.int .i64 R,.slice A l.length c,.bool bl,.int .u8 (ca:Int),.int .i64 ps,.int .i64 ha,.int .i64 fu] 26)).alloc (.cells #[.int .i64 0,.int .i64 0,.slice none 0 0,.bool false,.int .u8 0,.int .i64 0,.int .i64 0,.int .i64 0,.int .u64 0,.int .u64 0] 116))):=Lib.hid hB
 have HA0:=Lib.hid (rdBo hB hA)
 have HT0:=Lib.hid (hT.below hB)
 clear hB B1 B2 hHP hHR hA hT
 go_enter Tryz.func77,Tryz.ntmps77
 go_upto_region 1 with fail
 generalize (w.alloc (.cells #[.int .i64 F,.int .i64 R,.slice A l.length c,.bool bl,.int .u8 (ca:Int),.int .i64 ps,.int .i64 ha,.int .i64 fu] 26)).alloc (.cells #[.int .i64 0,.int .i64 0,.slice none 0 0,.bool false,.int .u8 0,.int .i64 0,.int .i64 0,.int .i64 0,.int .u64 0,.int .u64 0] 116)=V at *
 obtain ⟨p0,p1,p2,p3,p4,p5,p6,p7⟩:=HP0.out.h8
 go_wp2_with fail
 refine (HV.out _ HT0.out.1 HT0.out.2.1 HA0.out).mono ?_
 rintro e w1 ⟨rfl,hq⟩
 have HP_1:=Lib.hid (HP0.out.below hq HP0.out.lt)
 have HR_1:=Lib.hid (HR0.out.below hq HR0.out.lt)
 have HB_1:Hid (Bw w _):=Lib.hid (chain HB0.out hq)
 have HA_1:=Lib.hid (rdBo hq HA0.out)
 have HT_1:=Lib.hid (HT0.out.below hq)
 clear hq HP0 HR0 HB0 HA0 HT0 p0 p1 p2 p3 p4 p5 p6 p7
 obtain ⟨r0,r1,r2,r3,r4,r5,r6,r7,r8,r9⟩:=HR_1.out.h10
 have rf:=HR_1.out.2
 go_upto_region 2 with fail
 repeat (first | go_values | go_skip | go_guarded | go_step | go_upon | go_in)
 apply bodyPost_ret (v:=.tuple #[.agg #[.int .i64 0,.int .i64 0,.slice none 0 0,.bool false,.int .u8 0,.int .i64 0,.int .i64 0,.int .i64 0,.int .u64 0,.int .u64 0],.int .i64 2])
 rotate_left
 ·rfl
 ·exact ⟨rfl,bw10 HB_1.out (by omega) _ _ _ _ _ _ _ _ _ _⟩
 have hz:=HR_1.out.put10 (.int .i64 0) (.int .i64 0) (.slice none 0 0) (.bool false) (.int .u8 0) (.int .i64 0) (.int .i64 0) (.int .i64 0) (.int .u64 0) (.int .u64 0)
 clear r0 r1 r2 r3 r4 r5 r6 r7 r8 r9 rf
 obtain ⟨r0,r1,r2,r3,r4,r5,r6,r7,r8,r9⟩:=hz.h10
 clear hz
 simp [results,Tryz.results77,go_sem,r0,r1,r2,r3,r4,r5,r6,r7,r8,r9]
theorem qLook_yes (F R:Int) (l:List Int) (A:Option Addr) (c:Nat) (bl:Bool) (ca:Nat) (ps ha fu:Int) (hca:ca<256) (hlen:l.length<=100000) (hcap:l.length<=c) (hok:okPo ⟨F,R,l,bl,ca,ps,ha,fu⟩=true) (w:World) (hT:T8 w) (hA:RdP w w.heap.size A l c) :
  Calls Tryz.prog 77 #[.agg #[.int .i64 F,.int .i64 R,.slice A l.length c,.bool bl,.int .u8 (ca:Int),.int .i64 ps,.int .i64 ha,.int .i64 fu]] w fun e w'=>e=.returned (.tuple #[trq F R l A c bl ca ps ha fu,.int .i64 0])/\Below w.heap.size w w':=by
 have HV:=Lib.hid (fun w hT hR hA=>pValid_any F R l A c bl ca ps ha fu hca hlen hcap w hT hR hA)
 rw [hok] at HV
 have hp:OkP ⟨F,R,l,bl,ca,ps,ha,fu⟩:=(okPo_iff _).1 hok
 have HPL:=Lib.hid (fun w hA=>sides_yes F R l A c w hp.vbd hA)
 have HV0:Hid (trq F R l A c bl ca ps ha fu=.agg #[.int .i64 F,.int .i64 R,.slice A l.length c,.bool bl,.int .u8 (ca:Int),.int .i64 ps,.int .i64 ha,.int .i64 fu,.int .u64 (ownS l bl:Int),.int .u64 (ownS l (!bl):Int)]):=Lib.hid rfl
 have e1:setP (sdP 1) l=ownS l false:=rfl
 have e2:setP (sdP (-1)) l=ownS l true:=rfl
 rw [e1,e2] at HPL
 obtain ⟨o1,ho1⟩:∃ o,ownS l false=o:=⟨_,rfl⟩
 obtain ⟨o2,ho2⟩:∃ o,ownS l true=o:=⟨_,rfl⟩
 rw [ho1,ho2] at HPL
 have HO1:=Lib.hid ho1
 have HO2:=Lib.hid ho2
 clear ho1 ho2 e1 e2 hp hok
 have B1:=box1 (w) (.cells #[.int .i64 F,.int .i64 R,.slice A l.length c,.bool bl,.int .u8 (ca:Int),.int .i64 ps,.int .i64 ha,.int .i64 fu] 26)
 have B2:=box1 (w.alloc (.cells #[.int .i64 F,.int .i64 R,.slice A l.length c,.bool bl,.int .u8 (ca:Int),.int .i64 ps,.int .i64 ha,.int .i64 fu] 26)) (.cells #[.int .i64 0,.int .i64 0,.slice none 0 0,.bool false,.int .u8 0,.int .i64 0,.int .i64 0,.int .i64 0,.int .u64 0,.int .u64 0] 116)
 have hHP:=Bxs.new (w) [.int .i64 F,.int .i64 R,.slice A l.length c,.bool bl,.int .u8 (ca:Int),.int .i64 ps,.int .i64 ha,.int .i64 fu] 26
 have hHR:=Bxs.new (w.alloc (.cells #[.int .i64 F,.int .i64 R,.slice A l.length c,.bool bl,.int .u8 (ca:Int),.int .i64 ps,.int .i64 ha,.int .i64 fu] 26)) [.int .i64 0,.int .i64 0,.slice none 0 0,.bool false,.int .u8 0,.int .i64 0,.int .i64 0,.int .i64 0,.int .u64 0,.int .u64 0] 116
 rw [World.size_alloc] at hHR
 have HP0:=Lib.hid (hHP.below B2 hHP.lt)
 have HR0:=Lib.hid (hHR)
 have hB:=(chain B1 B2)
 have HB0:Hid (Bw w ((w.alloc (.cells #[.int .i64 F,.int .i64 R,.slice A l.length c,.bool bl,.int .u8 (ca:Int),.int .i64 ps,.int .i64 ha,.int .i64 fu] 26)).alloc (.cells #[.int .i64 0,.int .i64 0,.slice none 0 0,.bool false,.int .u8 0,.int .i64 0,.int .i64 0,.int .i64 0,.int .u64 0,.int .u64 0] 116))):=Lib.hid hB
 have HA0:=Lib.hid (rdBo hB hA)
 have HT0:=Lib.hid (hT.below hB)
 clear hB B1 B2 hHP hHR hA hT
 go_enter Tryz.func77,Tryz.ntmps77
 go_upto_region 1 with fail
 generalize (w.alloc (.cells #[.int .i64 F,.int .i64 R,.slice A l.length c,.bool bl,.int .u8 (ca:Int),.int .i64 ps,.int .i64 ha,.int .i64 fu] 26)).alloc (.cells #[.int .i64 0,.int .i64 0,.slice none 0 0,.bool false,.int .u8 0,.int .i64 0,.int .i64 0,.int .i64 0,.int .u64 0,.int .u64 0] 116)=V at *
 obtain ⟨p0,p1,p2,p3,p4,p5,p6,p7⟩:=HP0.out.h8
 go_wp2_with fail
 refine (HV.out _ HT0.out.1 HT0.out.2.1 HA0.out).mono ?_
 rintro e w1 ⟨rfl,hq⟩
 have HP_1:=Lib.hid (HP0.out.below hq HP0.out.lt)
 have HR_1:=Lib.hid (HR0.out.below hq HR0.out.lt)
 have HB_1:Hid (Bw w _):=Lib.hid (chain HB0.out hq)
 have HA_1:=Lib.hid (rdBo hq HA0.out)
 have HT_1:=Lib.hid (HT0.out.below hq)
 clear hq HP0 HR0 HB0 HA0 HT0 p0 p1 p2 p3 p4 p5 p6 p7 HV
 obtain ⟨p0,p1,p2,p3,p4,p5,p6,p7⟩:=HP_1.out.h8
 go_wp2_with fail
 refine (HPL.out _ HA_1.out).mono ?_
 rintro e w2 ⟨rfl,hq⟩
 have HP_2:=Lib.hid (HP_1.out.below hq HP_1.out.lt)
 have HR_2:=Lib.hid (HR_1.out.below hq HR_1.out.lt)
 have HB_2:Hid (Bw w _):=Lib.hid (chain HB_1.out hq)
 have HA_2:=Lib.hid (rdBo hq HA_1.out)
 have HT_2:=Lib.hid (HT_1.out.below hq)
 clear hq HP_1 HR_1 HB_1 HA_1 HT_1 p0 p1 p2 p3 p4 p5 p6 p7 HPL
 obtain ⟨p0,p1,p2,p3,p4,p5,p6,p7⟩:=HP_2.out.h8
 cases bl
 case false =>
  obtain ⟨r0,r1,r2,r3,r4,r5,r6,r7,r8,r9⟩:=HR_2.out.h10
  have rf:=HR_2.out.2
  go_upto_region 6 with fail
  repeat (first | go_values | go_skip | go_guarded | go_step | go_upon | go_in)
  apply bodyPost_ret (v:=.tuple #[.agg #[.int .i64 F,.int .i64 R,.slice A l.length c,.bool false,.int .u8 (ca:Int),.int .i64 ps,.int .i64 ha,.int .i64 fu,.int .u64 (o1:Int),.int .u64 (o2:Int)],.int .i64 0])
  rotate_left
  ·rfl
  ·exact ⟨by rw [HV0.out];simp only [Bool.not_false,Bool.not_true,HO1.out,HO2.out],bw10 HB_2.out (by omega) _ _ _ _ _ _ _ _ _ _⟩
  have hz:=HR_2.out.put10 (.int .i64 F) (.int .i64 R) (.slice A l.length c) (.bool false) (.int .u8 (ca:Int)) (.int .i64 ps) (.int .i64 ha) (.int .i64 fu) (.int .u64 (o1:Int)) (.int .u64 (o2:Int))
  clear r0 r1 r2 r3 r4 r5 r6 r7 r8 r9 rf p0 p1 p2 p3 p4 p5 p6 p7
  obtain ⟨r0,r1,r2,r3,r4,r5,r6,r7,r8,r9⟩:=hz.h10
  clear hz
  simp [results,Tryz.results77,go_sem,r0,r1,r2,r3,r4,r5,r6,r7,r8,r9]
 case true =>
  obtain ⟨r0,r1,r2,r3,r4,r5,r6,r7,r8,r9⟩:=HR_2.out.h10
  have rf:=HR_2.out.2
  go_upto_region 5 with fail
  repeat (first | go_values | go_skip | go_guarded | go_step | go_upon | go_in)
  apply bodyPost_ret (v:=.tuple #[.agg #[.int .i64 F,.int .i64 R,.slice A l.length c,.bool true,.int .u8 (ca:Int),.int .i64 ps,.int .i64 ha,.int .i64 fu,.int .u64 (o2:Int),.int .u64 (o1:Int)],.int .i64 0])
  rotate_left
  ·rfl
  ·exact ⟨by rw [HV0.out];simp only [Bool.not_false,Bool.not_true,HO1.out,HO2.out],bw10 HB_2.out (by omega) _ _ _ _ _ _ _ _ _ _⟩
  have hz:=HR_2.out.put10 (.int .i64 F) (.int .i64 R) (.slice A l.length c) (.bool true) (.int .u8 (ca:Int)) (.int .i64 ps) (.int .i64 ha) (.int .i64 fu) (.int .u64 (o2:Int)) (.int .u64 (o1:Int))
  clear r0 r1 r2 r3 r4 r5 r6 r7 r8 r9 rf p0 p1 p2 p3 p4 p5 p6 p7
  obtain ⟨r0,r1,r2,r3,r4,r5,r6,r7,r8,r9⟩:=hz.h10
  clear hz
  simp [results,Tryz.results77,go_sem,r0,r1,r2,r3,r4,r5,r6,r7,r8,r9]
end Go.Proofs.YtbccbgonlmkpkaaGreatDoor
