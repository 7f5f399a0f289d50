/- What the theorem needs, piece Zb32. -/
import Derived.StillTailTactics
import Derived.Test.YtbccbgonlmkpkaaGreatDoorZb27
import Derived.Test.YtbccbgonlmkpkaaGreatDoorZb25
import Derived.Test.YtbccbgonlmkpkaaGreatDoorZb31
import Derived.Test.YtbccbgonlmkpkaaGreatDoorZb29
import Derived.Test.YtbccbgonlmkpkaaGreatDoorZb19
import Derived.Test.YtbccbgonlmkpkaaGreatDoorZb21
import Derived.Test.YtbccbgonlmkpkaaGreatDoorZb20
import Derived.Test.YtbccbgonlmkpkaaGreatDoorZb07
set_option linter.unusedSimpArgs false
set_option linter.unusedVariables false
set_option maxRecDepth 100000
set_option maxHeartbeats 16000000
namespace Go.Proofs.YtbccbgonlmkpkaaGreatDoor
open Go.RowKit Go.Sort
theorem cs1 {V u:World} {k:Nat} {kf kt kr ks:Int} {T:TypeId} (hb:Bw V u):Bxs (u.alloc (.cells #[.int .u8 (k:Int),.int .i64 kf,.int .i64 kt,.int .i64 kr,.int .i64 ks] T)) u.heap.size [.int .u8 (k:Int),.int .i64 kf,.int .i64 kt,.int .i64 kr,.int .i64 ks]/\V.heap.size<=u.heap.size/\Bw V (u.alloc (.cells #[.int .u8 (k:Int),.int .i64 kf,.int .i64 kt,.int .i64 kr,.int .i64 ks] T)) :=
 ⟨Bxs.new u [.int .u8 (k:Int),.int .i64 kf,.int .i64 kt,.int .i64 kr,.int .i64 ks] T,hb.size,hb.alloc _⟩
theorem pCarryS2 {V W:World} {g r n cap:Nat} {F R:Int} {l:List Int} {bl:Bool} {ca:Nat} {ps ha fu:Int} (h:Pst V W g r n cap F R l bl ca ps ha fu) (hn:n<=100000) (a b:Nat) (ha':a<n) (hb:b<n) (hne:a≠b) :
  Calls Tryz.prog 115 #[.slice (some ⟨r,0,none⟩) n cap,.int .i64 (a:Int),.int .i64 (b:Int)] W fun e w'=>e=.returned (.tuple #[])/\Pst V w' g r n cap F R (carP l (a:Int) (b:Int)) bl ca ps ha fu/\But r W w' :=
 (pCarry_any r n cap a b _ _ W ha' hb hn hne (h.cell ha') (h.cell hb) (h.fz a) (h.fz b)).mono (by
  rintro e w' ⟨rfl,rfl⟩
  refine ⟨rfl,?_,((But.refl r W).setCell b _).setCell a _⟩
  unfold carP
  rw [upd_nat,upd_nat,pc_get]
  exact (h.put b _).put a 0)
theorem tAft_any (F R:Int) (l:List Int) (A:Option Addr) (c:Nat) (bl:Bool) (ca:Nat) (ps ha fu:Int) (x y t:Int) (ow fo:Nat) (b:Nat) (hm:Mov ⟨F,R,l,bl,ca,ps,ha,fu⟩ ⟨x,y,t⟩) (hca:ca<=15) (w:World) (hT:T8 w) (hA:RdP w w.heap.size A l c) (hX:Bxs w b [.int .i64 F,.int .i64 R,.slice A l.length c,.bool bl,.int .u8 (ca:Int),.int .i64 ps,.int .i64 ha,.int .i64 fu,.int .i64 x,.int .i64 y,.int .i8 t,.int .i8 (kdP (pc l x)),.int .u64 (ow:Int),.int .u64 (fo:Int)]) :
  Calls Tryz.prog 51 #[.pointer (some ⟨b,0,none⟩),.int .i64 (capM ⟨F,R,l,bl,ca,ps,ha,fu⟩ ⟨x,y,t⟩)] w (NewP w F R (aftL ⟨F,R,l,bl,ca,ps,ha,fu⟩ ⟨x,y,t⟩) (!bl) (aftC ⟨F,R,l,bl,ca,ps,ha,fu⟩ ⟨x,y,t⟩) (aftP ⟨F,R,l,bl,ca,ps,ha,fu⟩ ⟨x,y,t⟩) (if kdP (pc l x)=1\/0<=capM ⟨F,R,l,bl,ca,ps,ha,fu⟩ ⟨x,y,t⟩ then 0 else ha+1) (if bl then fu+1 else fu)):=by
 have hl:(l.length:Int)=F * R:=hm.hp.len
 have hv:vsz F R:=hm.hp.hv
 have h64:F * R<=64:=(vsz_mul hv).2
 have h9:=(vsz_mul hv).1
 have hl0:0<l.length:=by omega
 have hl64:l.length<=64:=by omega
 have HCO:=Lib.hid (fun w hA=>pCopy_any F R l A c bl ca ps ha fu w (by omega) hA)
 have HX0:=Lib.hid hX
 have B1:=box1 w (.cells #[.int .i64 0,.int .i64 0,.slice none 0 0,.bool false,.int .u8 0,.int .i64 0,.int .i64 0,.int .i64 0] 26)
 have HX:=Lib.hid (hX.below B1 hX.lt)
 have HRZ:=Lib.hid (Bxs.new w [.int .i64 0,.int .i64 0,.slice none 0 0,.bool false,.int .u8 0,.int .i64 0,.int .i64 0,.int .i64 0] 26)
 have HT:=Lib.hid (hT.below B1)
 have HA:=Lib.hid (rdBo B1 hA)
 have HW:Hid (Bw w (w.alloc (.cells #[.int .i64 0,.int .i64 0,.slice none 0 0,.bool false,.int .u8 0,.int .i64 0,.int .i64 0,.int .i64 0] 26))):=Lib.hid B1
 have hXl:=hX.lt
 have hsz:(w.alloc (.cells #[.int .i64 0,.int .i64 0,.slice none 0 0,.bool false,.int .u8 0,.int .i64 0,.int .i64 0,.int .i64 0] 26)).heap.size=w.heap.size+1:=by simp
 clear hX hT hA B1
 go_enter Tryz.func51,Tryz.ntmps51
 go_upto_region 1 with fail
 generalize hVe:w.alloc (.cells #[.int .i64 0,.int .i64 0,.slice none 0 0,.bool false,.int .u8 0,.int .i64 0,.int .i64 0,.int .i64 0] 26)=V at *
 have hXV:b<V.heap.size:=by omega
 clear hVe hsz
 obtain ⟨z0,z1,z2,z3,z4,z5,z6,z7,z8,z9,z10⟩:=HX.out.h11
 go_cut [5,6] (fun s5 s6 wx=>∃ g g' r cap:Nat,s5=.pointer (some ⟨g,0,none⟩)/\s6=.pointer (some ⟨g',0,none⟩)/\Pst V wx g r l.length cap F R l bl ca ps ha fu/\Bxs wx g' [.int .i64 x,.int .i64 y,.int .i8 t]/\V.heap.size<=g'/\g'≠g/\g'≠r)
 case first =>
  have KB:∀ W':World,Bw V W'->(W'.cell? ⟨b,0,none⟩=some (.int .i64 F)/\W'.cell? ⟨b,1,none⟩=some (.int .i64 R)/\W'.cell? ⟨b,2,none⟩=some (.slice A l.length c)/\W'.cell? ⟨b,3,none⟩=some (.bool bl)/\W'.cell? ⟨b,4,none⟩=some (.int .u8 (ca:Int))/\W'.cell? ⟨b,5,none⟩=some (.int .i64 ps)/\W'.cell? ⟨b,6,none⟩=some (.int .i64 ha)/\W'.cell? ⟨b,7,none⟩=some (.int .i64 fu)/\W'.cell? ⟨b,8,none⟩=some (.int .i64 x)/\W'.cell? ⟨b,9,none⟩=some (.int .i64 y)/\W'.cell? ⟨b,10,none⟩=some (.int .i8 t))/\Bw V W':=fun W' hW=>⟨⟨cBo hW (by assumption),cBo hW (by assumption),cBo hW (by assumption),cBo hW (by assumption),cBo hW (by assumption),cBo hW (by assumption),cBo hW (by assumption),cBo hW (by assumption),cBo hW (by assumption),cBo hW (by assumption),cBo hW (by assumption)⟩,hW⟩
  replace KB:=Lib.hid KB
  have hbd:Bw V (World.drew V):=Bw.drew (Below.refl _ _)
  have hS0:=KB.out V (Below.refl _ _)
  (first | (go_region_held3 (fun w'=>(w'.cell? ⟨b,0,none⟩=some (.int .i64 F)/\w'.cell? ⟨b,1,none⟩=some (.int .i64 R)/\w'.cell? ⟨b,2,none⟩=some (.slice A l.length c)/\w'.cell? ⟨b,3,none⟩=some (.bool bl)/\w'.cell? ⟨b,4,none⟩=some (.int .u8 (ca:Int))/\w'.cell? ⟨b,5,none⟩=some (.int .i64 ps)/\w'.cell? ⟨b,6,none⟩=some (.int .i64 ha)/\w'.cell? ⟨b,7,none⟩=some (.int .i64 fu)/\w'.cell? ⟨b,8,none⟩=some (.int .i64 x)/\w'.cell? ⟨b,9,none⟩=some (.int .i64 y)/\w'.cell? ⟨b,10,none⟩=some (.int .i8 t))/\Bw V w')
   (first | (with_reducible assumption) | (refine KB.out _ ?_;(repeat' (first | (with_reducible exact hb1) | (with_reducible exact Bw.self _) | (with_reducible exact hbd) | (with_reducible refine Bw.setCell ?_ ?_ _) | (with_reducible refine Bw.alloc ?_ _) | (with_reducible refine Bw.drew ?_) | (with_reducible exact Nat.le_refl _) | (with_reducible exact Nat.le_succ _) | (with_reducible exact hu1) | (with_reducible exact hu2) | exact And.right (by assumption) | (simp;done)))))
   (first
    | (go_at_call 72;refine (HCO.out _ (rdBo (And.right (by assumption:_/\Bw V _)) HA.out)).mono ?_;intro e u1 hN;obtain ⟨r,cap,rfl,hrow,hr0,hr1,hc1⟩:=newP_row hN (by assumption);have hb1:Bw V u1:=Bw.step (And.right (by assumption)) hc1;have hr2:V.heap.size<=r:=Nat.le_trans (Bw.size (And.right (by assumption))) hr0;have hu1:=hb1.size;have hu2:=Nat.le_succ_of_le hu1;clear hN;have yq:Bxs u1 V.heap.size [.int .i64 0,.int .i64 0,.slice none 0 0,.bool false,.int .u8 0,.int .i64 0,.int .i64 0,.int .i64 0]/\Bxs u1 (V.heap.size+1) [.int .i64 0,.int .i64 0,.int .i8 0]:=zbx2d hc1;have ya:=yq.1;have yb:=yq.2;have ef:=ya.2;have e0:=ya.c 0 rfl;have e1:=ya.c 1 rfl;have e2:=ya.c 2 rfl;have e3:=ya.c 3 rfl;have e4:=ya.c 4 rfl;have e5:=ya.c 5 rfl;have e6:=ya.c 6 rfl;have e7:=ya.c 7 rfl;have df:=yb.2;have d0:=yb.c 0 rfl;have d1:=yb.c 1 rfl;have d2:=yb.c 2 rfl;have hr3:=al2_lt hr0;clear hc1 hr0)
    | (go_at_call 72;refine (HCO.out _ (rdBo (And.right (by assumption:_/\Bw V _)) HA.out)).mono ?_;intro e u1 hN;obtain ⟨r,cap,rfl,hrow,hr0,hr1,hc1⟩:=newP_row hN (by assumption);have hb1:Bw V u1:=Bw.step (And.right (by assumption)) hc1;have hr2:V.heap.size<=r:=Nat.le_trans (Bw.size (And.right (by assumption))) hr0;have hu1:=hb1.size;have hu2:=Nat.le_succ_of_le hu1;clear hN;have yq:Bxs u1 V.heap.size [.int .i64 0,.int .i64 0,.int .i8 0]/\Bxs u1 (V.heap.size+1) [.int .i64 0,.int .i64 0,.slice none 0 0,.bool false,.int .u8 0,.int .i64 0,.int .i64 0,.int .i64 0]:=zbx2d hc1;have ya:=yq.1;have yb:=yq.2;have ef:=ya.2;have e0:=ya.c 0 rfl;have e1:=ya.c 1 rfl;have e2:=ya.c 2 rfl;have df:=yb.2;have d0:=yb.c 0 rfl;have d1:=yb.c 1 rfl;have d2:=yb.c 2 rfl;have d3:=yb.c 3 rfl;have d4:=yb.c 4 rfl;have d5:=yb.c 5 rfl;have d6:=yb.c 6 rfl;have d7:=yb.c 7 rfl;have hr3:=al2_lt hr0;clear hc1 hr0)
    | (go_at_call 72;refine (HCO.out _ (rdBo (And.right (by assumption:_/\Bw V _)) HA.out)).mono ?_;intro e u1 hN;obtain ⟨r,cap,rfl,hrow,hr0,hr1,hc1⟩:=newP_row hN (by assumption);have hb1:Bw V u1:=Bw.step (And.right (by assumption)) hc1;have hr2:V.heap.size<=r:=Nat.le_trans (Bw.size (And.right (by assumption))) hr0;have hu1:=hb1.size;have hu2:=Nat.le_succ_of_le hu1;clear hN;(first | (have yz1:Bxs u1 V.heap.size [.int .i64 0,.int .i64 0,.slice none 0 0,.bool false,.int .u8 0,.int .i64 0,.int .i64 0,.int .i64 0]:=zbxd hc1) | (have yz1:Bxs u1 V.heap.size [.int .i64 0,.int .i64 0,.slice none 0 0,.bool false,.int .u8 0,.int .i64 0,.int .i64 0,.int .i64 0]:=zbx hc1));have ef:=yz1.2;have e0:=yz1.c 0 rfl;have e1:=yz1.c 1 rfl;have e2:=yz1.c 2 rfl;have e3:=yz1.c 3 rfl;have e4:=yz1.c 4 rfl;have e5:=yz1.c 5 rfl;have e6:=yz1.c 6 rfl;have e7:=yz1.c 7 rfl;have hz1:=bnew_ltd hc1;have hr3:=al_lt hr0;have hz2:=Nat.ne_of_lt hz1;have hz3:=Nat.ne_of_gt hz1;clear hc1 hr0)
    | (go_at_call 72;refine (HCO.out _ (rdBo (And.right (by assumption:_/\Bw V _)) HA.out)).mono ?_;intro e u1 hN;obtain ⟨r,cap,rfl,hrow,hr0,hr1,hc1⟩:=newP_row hN (by assumption);have hb1:Bw V u1:=Bw.step (And.right (by assumption)) hc1;have hr2:V.heap.size<=r:=Nat.le_trans (Bw.size (And.right (by assumption))) hr0;have hu1:=hb1.size;have hu2:=Nat.le_succ_of_le hu1;clear hN;(first | (have yz1:Bxs u1 V.heap.size [.int .i64 0,.int .i64 0,.int .i8 0]:=zbxd hc1) | (have yz1:Bxs u1 V.heap.size [.int .i64 0,.int .i64 0,.int .i8 0]:=zbx hc1));have ef:=yz1.2;have e0:=yz1.c 0 rfl;have e1:=yz1.c 1 rfl;have e2:=yz1.c 2 rfl;have hz1:=bnew_ltd hc1;have hr3:=al_lt hr0;have hz2:=Nat.ne_of_lt hz1;have hz3:=Nat.ne_of_gt hz1;clear hc1 hr0)
    | (go_at_call 72;refine (HCO.out _ (rdBo (And.right (by assumption:_/\Bw V _)) HA.out)).mono ?_;intro e u1 hN;obtain ⟨r,cap,rfl,hrow,hr0,hr1,hc1⟩:=newP_row hN (by assumption);have hb1:Bw V u1:=Bw.step (And.right (by assumption)) hc1;have hr2:V.heap.size<=r:=Nat.le_trans (Bw.size (And.right (by assumption))) hr0;have hu1:=hb1.size;have hu2:=Nat.le_succ_of_le hu1;clear hN;clear hc1 hr0))) | fail)
  all_goals
   go_wp2_with fail
   (conv=>arg 2;simp [Act.put])
   go_meet
   case rel =>
    first
    | with_reducible exact ⟨_,_,_,_,rfl,rfl,aft1 rfl hrow hb1 hr2 hr1⟩
    | with_reducible exact ⟨_,_,_,_,rfl,rfl,aft2 rfl hrow hb1 hr2 hr1⟩
    | with_reducible exact ⟨_,_,_,_,rfl,rfl,aft3 rfl hrow hb1 yz1 hr3 hr1⟩
    | with_reducible exact ⟨_,_,_,_,rfl,rfl,aft4 rfl hrow hb1 ya yb hr3⟩
    | with_reducible exact ⟨_,_,_,_,rfl,rfl,aft5 rfl hrow hb1 yz1 hr3 hr1⟩
    | with_reducible exact ⟨_,_,_,_,rfl,rfl,aft6 rfl hrow hb1 yb ya hr3⟩
 case rest =>
  obtain ⟨g,g',r,cap,rfl,rfl,hP,hM,hg',hne,hne'⟩:=hcut
  have HX1:=Lib.hid (HX.out.below hP.bw HX.out.lt)
  have HT1:=Lib.hid (HT.out.below hP.bw)
  have HRZ1:=Lib.hid (HRZ.out.below hP.bw HRZ.out.lt)
  have HP:=Lib.hid hP
  have HM:=Lib.hid hM
  clear HA HX0 z0 z1 z2 z3 z4 z5 z6 z7 z8 z9 z10
  have p0:=hP.bx.c 0 rfl
  have p1:=hP.bx.c 1 rfl
  have p2:=hP.bx.c 2 rfl
  have p3:=hP.bx.c 3 rfl
  have p4:=hP.bx.c 4 rfl
  have p5:=hP.bx.c 5 rfl
  have p6:=hP.bx.c 6 rfl
  have p7:=hP.bx.c 7 rfl
  obtain ⟨m0,m1,m2⟩:=hM.h3
  clear hP hM
  obtain ⟨k,hk⟩:∃ k,k=casM ⟨F,R,l,bl,ca,ps,ha,fu⟩ ⟨x,y,t⟩:=⟨_,rfl⟩
  obtain ⟨kf,hkf⟩:∃ z,z=wF k:=⟨_,rfl⟩
  obtain ⟨kt,hkt⟩:∃ z,z=wT k:=⟨_,rfl⟩
  obtain ⟨kr,hkr⟩:∃ z,z=wR k:=⟨_,rfl⟩
  obtain ⟨ks,hks⟩:∃ z,z=wS k:=⟨_,rfl⟩
  obtain ⟨cb,hcb⟩:∃ z,z=decide (k≠0):=⟨_,rfl⟩
  have hq:casW (pcA ca ⟨x,y,t⟩)=.tuple #[.agg #[.int .u8 (k:Int),.int .i64 kf,.int .i64 kt,.int .i64 kr,.int .i64 ks],.bool cb]:=by
   have e:=pcA_mov hm
   simp only at e
   rw [e,<- hk,hkf,hkt,hkr,hks,hcb]
   rfl
  have HCS:=Lib.hid (fun w' (hT':Cst w')=>(pCsl_any F R l (some ⟨r,0,none⟩) cap bl ca ps ha fu x y t (by omega) w' hT').mono (fun e w'' h=>(⟨h.1.trans (by rw [hq]),h.2⟩:e=.returned (.tuple #[.agg #[.int .u8 (k:Int),.int .i64 kf,.int .i64 kt,.int .i64 kr,.int .i64 ks],.bool cb])/\Below w'.heap.size w' w'')))
  have HK:=Lib.hid hk
  have HKF:=Lib.hid hkf
  have HKT:=Lib.hid hkt
  have HKR:=Lib.hid hkr
  have HKS:=Lib.hid hks
  have HCB:=Lib.hid hcb
  have HC1:Hid (∀ W',Bw wc W'->Cst W'):=Lib.hid (fun W' hW=>HT1.out.2.2.below hW)
  clear hq hk hkf hkt hkr hks hcb
  go_upto_region 2 with fail
  go_cut [7,8] (fun s7 s8 wy=>∃ q:Nat,s7=.pointer (some ⟨q,0,none⟩)/\s8=.bool cb/\Bxs wy q [.int .u8 (k:Int),.int .i64 kf,.int .i64 kt,.int .i64 kr,.int .i64 ks]/\wc.heap.size<=q/\Bw wc wy)
  case first =>
   go_wp2_with (go_at_call 114;refine (HCS.out _ HT1.out.2.2).mono ?_;rintro e u1 ⟨rfl,hc1⟩;have hb1:Bw wc u1:=hc1)
   (conv=>arg 2;simp [Act.put])
   go_meet
   case rel=>with_reducible exact ⟨_,rfl,rfl,cs1 hb1⟩
  case rest =>
   obtain ⟨q,rfl,rfl,hQ,hq,hW⟩:=hcut
   have hgq:g<q:=Nat.lt_of_lt_of_le HP.out.glt hq
   have hrq:r<q:=Nat.lt_of_lt_of_le HP.out.rlt.2 hq
   have hgq':g'<q:=Nat.lt_of_lt_of_le HM.out.lt hq
   have HP2:=Lib.hid (HP.out.below hW)
   have HX2:=Lib.hid (HX1.out.below hW HX1.out.lt)
   have HM2:=Lib.hid (HM.out.below hW HM.out.lt)
   have HT2:=Lib.hid (HT1.out.below hW)
   have HRZ2:=Lib.hid (HRZ1.out.below hW HRZ1.out.lt)
   have HQ:=Lib.hid hQ
   clear HP HX1 HM HT1 HRZ1 hQ hq hW HCS HC1 p0 p1 p2 p3 p4 p5 p6 p7 m0 m1 m2
   obtain ⟨l1,hl1⟩:∃ l1,l1=(if capM ⟨F,R,l,bl,ca,ps,ha,fu⟩ ⟨x,y,t⟩≠-1 then upd l (capM ⟨F,R,l,bl,ca,ps,ha,fu⟩ ⟨x,y,t⟩) 0 else l):=⟨_,rfl⟩
   have HL1:=Lib.hid hl1
   have hcn:=hm.capN
   generalize hcv:capM ⟨F,R,l,bl,ca,ps,ha,fu⟩ ⟨x,y,t⟩=cv at *
   have HCV:=Lib.hid hcv
   clear hcv
   have p2:=HP2.out.bx.c 2 rfl
   go_upto_if 25 with fail
   go_cut [] (fun wy=>Pst V wy g r l.length cap F R l1 bl ca ps ha fu/\Bxs wy g' [.int .i64 x,.int .i64 y,.int .i8 t]/\Bxs wy q [.int .u8 (k:Int),.int .i64 kf,.int .i64 kt,.int .i64 kr,.int .i64 ks])
   case first =>
    rcases hcn with hcn | hcn
    ·subst hcn
     go_wp2_with fail
     go_meet
     case rel=>exact ⟨by rw [hl1];exact HP2.out,HM2.out,HQ.out⟩
    ·have hc0:0<=cv:=hcn.1
     have hc1:cv<(l.length:Int):=hcn.2.1
     obtain ⟨cn,rfl⟩:∃ cn:Nat,cv=(cn:Int):=⟨cv.toNat,by omega⟩
     have hc2:cn<l.length:=by omega
     have q0:=HP2.out.cell hc2
     have qf:=HP2.out.fz cn
     go_wp2_with fail
     go_meet
     case rel=>exact ⟨by rw [hl1,if_pos (by omega),upd_nat];exact HP2.out.put cn 0,HM2.out.but ((But.refl r wc).setCell cn _) hne',HQ.out.but ((But.refl r wc).setCell cn _) (Nat.ne_of_gt hrq)⟩
   case rest =>
    obtain ⟨hP3,hM3,hQ3⟩:=hcut
    have HP3:=Lib.hid hP3
    have HM3:=Lib.hid hM3
    have HQ3:=Lib.hid hQ3
    clear HP2 HM2 HQ hP3 hM3 hQ3 p2 HX2 HT2 HRZ2
    obtain ⟨l2,hl2⟩:∃ l2,l2=carP l1 x y:=⟨_,rfl⟩
    have HL2:=Lib.hid hl2
    have HCY:Hid (∀ w',Pst V w' g r l.length cap F R l1 bl ca ps ha fu->Calls Tryz.prog 115 #[.slice (some ⟨r,0,none⟩) l.length cap,.int .i64 x,.int .i64 y] w' fun e w2=>e=.returned (.tuple #[])/\Pst V w2 g r l.length cap F R l2 bl ca ps ha fu/\But r w' w2):=Lib.hid (by
     intro w' h
     have e1:((x.toNat:Nat):Int)=x:=by have:=hm.la.1;simp only at this;omega
     have e2:((y.toNat:Nat):Int)=y:=by have:=hm.lb.1;simp only at this;omega
     have h1:x.toNat<l.length:=by have:=hm.la.2;simp only at this;omega
     have h2:y.toNat<l.length:=by have:=hm.lb.2;simp only at this;omega
     have h3:x.toNat≠y.toNat:=by have:=hm.hm.2.2.1;simp only at this;omega
     have hh:=pCarryS2 h (by omega) x.toNat y.toNat h1 h2 h3
     rw [e1,e2,<- hl2] at hh
     exact hh)
    have p2:=HP3.out.bx.c 2 rfl
    obtain ⟨m0,m1⟩:=HM3.out.h2
    clear hl1 hl2
    go_upto_if 39 with (go_at_call 115;refine (HCY.out _ HP3.out).mono ?_;rintro e u1 ⟨rfl,hP4,hBu⟩;have HM4:=Lib.hid (HM3.out.but hBu hne');have HQ4:=Lib.hid (HQ3.out.but hBu (Nat.ne_of_gt hrq));have m2:=HM4.out.c 2 rfl;have HP4:=Lib.hid hP4;clear hP4 hBu)
    clear p2 m0 m1 HP3 HM3 HQ3 HCY
    obtain ⟨l3,hl3⟩:∃ l3,l3=(if t≠0 then upd l2 y (if bl then -t else t) else l2):=⟨_,rfl⟩
    have HL3:=Lib.hid hl3
    go_cut [] (fun wy=>Pst V wy g r l.length cap F R l3 bl ca ps ha fu/\Bxs wy g' [.int .i64 x,.int .i64 y,.int .i8 t]/\Bxs wy q [.int .u8 (k:Int),.int .i64 kf,.int .i64 kt,.int .i64 kr,.int .i64 ks])
    case first =>
     by_cases ht:t=0
     ·subst ht
      go_wp2_with fail
      go_meet
      case rel=>exact ⟨by rw [hl3];exact HP4.out,HM4.out,HQ4.out⟩
     ·have p2:=HP4.out.bx.c 2 rfl
      have p3:=HP4.out.bx.c 3 rfl
      have m1:=HM4.out.c 1 rfl
      have e2:((y.toNat:Nat):Int)=y:=by have:=hm.lb.1;simp only at this;omega
      obtain ⟨yn,hyn⟩:∃ yn:Nat,y=(yn:Int):=⟨y.toNat,e2.symm⟩
      have hy2:yn<l.length:=by have:=hm.lb.2;simp only at this;omega
      have hy3:(0:Int)<=(yn:Int):=by omega
      have hy4:(yn:Int)<(l.length:Int):=by omega
      obtain ⟨pv,hpv⟩:∃ pv,pv=(if bl then -t else t):=⟨_,rfl⟩
      have HPV:=Lib.hid hpv
      have hpr:=hm.pr
      simp only at hpr
      have HOS:=Lib.hid (fun w'=>(pOfS_any t (by omega) (by omega) bl w').mono (fun e w'' h=>(⟨h.1.trans (by rw [<- hpv]),h.2⟩:e=.returned (.int .i8 pv)/\w'=w'')))
      clear hpr hpv
      have q0:=HP4.out.cell hy2
      have qf:=HP4.out.fz yn
      have hn1:¬ g=r:=HP4.out.ne
      have hn2:¬ r=g:=fun h=>hn1 h.symm
      have hn3:¬ g'=r:=hne'
      have hn4:¬ r=g':=fun h=>hn3 h.symm
      rw [hyn] at m1
      go_upto_region 7 with fail
      -- R7
      have hcpn:=HP4.out.capn
      have HOQ:Hid (∀ w',Calls Tryz.prog 116 #[.int .i8 t,.bool bl] w' fun e w''=>e=.returned (.int .i8 pv)/\w''=w'):=Lib.hid (fun w'=>(HOS.out w').mono (fun e w'' h=>⟨h.1,h.2.symm⟩))
      clear e2 HOS hl h64 h9
      refine wp_region_still_tail 10 (by kernel_rfl) (by kernel_rfl) ?_
      simp only [List.take_succ_cons,List.take_zero,List.drop_succ_cons,List.drop_zero]
      repeat still_step
      still_call (HOQ.out _)
      refine wpStill_step (fun K hK=>?_)
      go_simp
      refine hK _ ?_
      clear hK K
      refine wpStill_nil ?_
      go_wp2_with fail
      go_meet
      case rel=>exact ⟨by rw [hl3,if_pos ht,hyn,<- HPV.out,upd_nat];exact (HP4.out.put yn pv).below ((Below.refl _ _).drew),(HM4.out.but ((But.refl r u1).setCell yn _) hne').dr,(HQ4.out.but ((But.refl r u1).setCell yn _) (Nat.ne_of_gt hrq)).dr⟩
    case rest =>
     obtain ⟨hP5,hM5,hQ5⟩:=hcut
     have HP5:=Lib.hid hP5
     have HM5:=Lib.hid hM5
     have HQ5:=Lib.hid hQ5
     clear HP4 HM4 HQ4 hP5 hM5 hQ5 m2 hl3
     obtain ⟨l4,hl4⟩:∃ l4,l4=(if k≠0 then carP l3 (cRf k:Int) (cRt k:Int) else l3):=⟨_,rfl⟩
     have HL4:=Lib.hid hl4
     clear hl4
     go_upto_if 50 with fail
     go_cut [] (fun wy=>Pst V wy g r l.length cap F R l4 bl ca ps ha fu/\Bxs wy g' [.int .i64 x,.int .i64 y,.int .i8 t])
     case first =>
      by_cases hk0:k=0
      ·have hcf:cb=false:=by rw [HCB.out];simp [hk0]
       subst hcf
       have HL5:Hid (l4=l3):=Lib.hid (by rw [HL4.out,if_neg (by simp [hk0])])
       clear hk0
       go_wp2_with fail
       go_meet
       case rel=>exact ⟨by rw [HL5.out];exact HP5.out,HM5.out⟩
      ·have hcf:cb=true:=by rw [HCB.out];simp [hk0]
       subst hcf
       have hC:Cas ⟨F,R,l,bl,ca,ps,ha,fu⟩ ⟨x,y,t⟩ k:=by
        have h1:=casM_or (m:=⟨x,y,t⟩) hm.hp
        rw [<- HK.out] at h1
        rcases h1 with h1 | h1
        ·exact absurd h1 hk0
        ·exact h1
       have h64':=hC.len hm.hp
       have hsq:=hC.sq
       have hrn:cRf k<l.length:=by simp only at h64';omega
       have hsn:cRt k<l.length:=by simp only at h64';omega
       have hrs:cRf k≠cRt k:=by omega
       have er:kr=(cRf k:Int):=by rw [HKR.out];unfold wR;rw [if_neg hk0]
       have es:ks=(cRt k:Int):=by rw [HKS.out];unfold wS;rw [if_neg hk0]
       have HCY:Hid (∀ w',Pst V w' g r l.length cap F R l3 bl ca ps ha fu->Calls Tryz.prog 115 #[.slice (some ⟨r,0,none⟩) l.length cap,.int .i64 kr,.int .i64 ks] w' fun e w2=>e=.returned (.tuple #[])/\Pst V w2 g r l.length cap F R l4 bl ca ps ha fu/\But r w' w2):=Lib.hid (by
        intro w' h
        have hh:=pCarryS2 h (by omega) (cRf k) (cRt k) hrn hsn hrs
        rw [<- er,<- es] at hh
        rw [HL4.out,if_pos hk0,<- er,<- es]
        exact hh)
       clear er es hrs hrn hsn hsq h64' hC hk0
       have p2:=HP5.out.bx.c 2 rfl
       have m3:=HQ5.out.c 3 rfl
       have m4:=HQ5.out.c 4 rfl
       go_wp2_with (go_at_call 115;refine (HCY.out _ HP5.out).mono ?_;rintro e u5 ⟨rfl,hP6,hBu⟩;have HM6:=Lib.hid (HM5.out.but hBu hne');have HP6:=Lib.hid hP6;clear hP6 hBu)
       go_meet
       case rel=>exact ⟨HP6.out,HM6.out⟩
     case rest =>
      obtain ⟨hP6,hM6⟩:=hcut
      have HP6:=Lib.hid hP6
      have HM6:=Lib.hid hM6
      clear HP5 HM5 HQ5
      have hT6:T8 wc:=HT.out.below hP6.bw
      have HX6:=Lib.hid (HX.out.below hP6.bw HX.out.lt)
      have HRA:=Lib.hid (pRts_any ca x y t hca wc hT6.2.2)
      clear hT6 hP6 hM6
      have HAC:Hid (cutK ⟨x,y,t⟩ ca 4=aftC ⟨F,R,l,bl,ca,ps,ha,fu⟩ ⟨x,y,t⟩):=Lib.hid (cutK_all ⟨F,R,l,bl,ca,ps,ha,fu⟩ ⟨x,y,t⟩)
      obtain ⟨ca2,hca2⟩:∃ z,z=cutK ⟨x,y,t⟩ ca 4:=⟨_,rfl⟩
      have HCA2:Hid (ca2=aftC ⟨F,R,l,bl,ca,ps,ha,fu⟩ ⟨x,y,t⟩):=Lib.hid (hca2.trans HAC.out)
      rw [<- hca2] at HRA
      clear hca2 HAC
      have p4:=HP6.out.bx.c 4 rfl
      obtain ⟨m0,m1,m2⟩:=HM6.out.h3
      have hgf:=HP6.out.bx.2
      go_upto_region 11 with (go_at_call 117;refine HRA.out.mono ?_;rintro e u7 ⟨rfl,hb7⟩;have HP7:=Lib.hid (HP6.out.below hb7);have hgf:=HP7.out.bx.2;have p4:=HP7.out.bx.c 4 rfl;clear hb7)
      have HP8:=Lib.hid (HP7.out.setCa ca2)
      clear HP7 p4 hgf m0 m1 m2 HM6 HP6 HRA
      generalize World.setCell u7 ⟨g,4,none⟩ (.int .u8 (ca2:Int))=w8 at *
      have HX8:=Lib.hid (HX.out.below HP8.out.bw HX.out.lt)
      have HPA:=Lib.hid (tPass_any F R l A c bl ca ps ha fu x y t (kdP (pc l x)) ow fo b hm.hm.1 hm.hm.2.1 w8 HX8.out)
      obtain ⟨pn,hpn⟩:∃ z,z=(if kdP (pc l x)=1/\dist F x y=2 then (x+y).tdiv 2 else -1):=⟨_,rfl⟩
      have HPN:Hid (pn=aftP ⟨F,R,l,bl,ca,ps,ha,fu⟩ ⟨x,y,t⟩):=Lib.hid (hpn.trans (pass_prog hm))
      rw [<- hpn] at HPA
      clear hpn HX8
      go_upto_region 12 with (go_at_call 118;refine HPA.out.mono ?_;rintro e u9 ⟨rfl,hb9⟩;have HP9:=Lib.hid (HP8.out.below hb9);have hgf:=HP9.out.bx.2;have p5:=HP9.out.bx.c 5 rfl;clear hb9)
      have HP10:=Lib.hid (HP9.out.setPs pn)
      clear HP9 p5 hgf HP8 HPA
      generalize World.setCell u9 ⟨g,5,none⟩ (.int .i64 pn)=w10 at *
      have ha0:0<=ha:=hm.hp.ha0
      have ha1:ha<=10000:=hm.hp.ha1
      have p6:=HP10.out.bx.c 6 rfl
      have hgf:=HP10.out.bx.2
      go_upto_region 13 with fail
      have HP11:=Lib.hid (HP10.out.setHa (ha+1))
      clear HP10 p6 hgf
      generalize World.setCell w10 ⟨g,6,none⟩ (.int .i64 (ha+1))=w11 at *
      have HX11:=Lib.hid (HX.out.below HP11.out.bw HX.out.lt)
      obtain ⟨tb,htb⟩:∃ z,z=(decide (kdP (pc l x)=1) || decide (0<=cv)):=⟨_,rfl⟩
      obtain ⟨haN,hhaN⟩:∃ z,z=(if kdP (pc l x)=1\/0<=cv then 0 else ha+1):=⟨_,rfl⟩
      have HHN:Hid (haN=if tb=true then 0 else ha+1):=Lib.hid (by rw [hhaN,htb];by_cases h1:kdP (pc l x)=1 <;> by_cases h2:0<=cv <;> simp [h1,h2])
      have HTB:=Lib.hid htb
      have HHA:=Lib.hid hhaN
      clear htb hhaN ha0 ha1
      obtain ⟨fuN,hfuN⟩:∃ z,z=(if bl=true then fu+1 else fu):=⟨_,rfl⟩
      have HFN:=Lib.hid hfuN
      clear hfuN
      generalize kdP (pc l x)=kd at *
      have z11:=HX11.out.c 11 rfl
      go_cut [78] (fun s78 wy=>s78=.bool tb/\wy=w11)
      case first =>
       by_cases h1:kd=1
       ·have h2:tb=true:=by rw [HTB.out];simp [h1]
        have e1:(kd == 1)=true:=by simp [h1]
        subst h2
        clear h1
        go_wp2_with fail
        go_meet
        case rel=>exact ⟨rfl,rfl⟩
       ·have e1:(kd == 1)=false:=by simp [h1]
        rcases hcn with hcn | hcn
        ·have h2:tb=false:=by rw [HTB.out];simp [h1];omega
         subst h2
         subst hcn
         clear h1
         go_wp2_with fail
         go_meet
         case rel=>exact ⟨rfl,rfl⟩
        ·have h2:tb=true:=by rw [HTB.out];simp [h1];omega
         have e2:(cv != -1)=true:=by simp;omega
         subst h2
         clear h1 hcn
         go_wp2_with fail
         go_meet
         case rel=>exact ⟨rfl,rfl⟩
      case rest =>
       obtain ⟨rfl,rfl⟩:=hcut
       clear z11 HX11
       go_upto_if 78 with fail
       go_cut [] (fun wy=>Pst V wy g r l.length cap F R l4 bl ca2 pn haN fu)
       case first =>
        cases tb
        ·have HH2:Hid (haN=ha+1):=Lib.hid (by rw [HHN.out];rfl)
         go_wp2_with fail
         go_meet
         case rel=>rw [HH2.out];exact HP11.out
        ·have HH2:Hid (haN=0):=Lib.hid (by rw [HHN.out];rfl)
         have p6:=HP11.out.bx.c 6 rfl
         have hgf:=HP11.out.bx.2
         go_wp2_with fail
         go_meet
         case rel=>rw [HH2.out];exact HP11.out.setHa 0
       case rest =>
        have HP12:=Lib.hid hcut
        clear HP11 hcut
        have fu0:1<=fu:=hm.hp.fu0
        have fu1:fu<=10000:=hm.hp.fu1
        have p3:=HP12.out.bx.c 3 rfl
        go_upto_if 81 with fail
        go_cut [] (fun wy=>Pst V wy g r l.length cap F R l4 bl ca2 pn haN fuN)
        case first =>
         cases bl
         ·have HH2:Hid (fuN=fu):=Lib.hid (by rw [HFN.out];rfl)
          go_wp2_with fail
          go_meet
          case rel=>rw [HH2.out];exact HP12.out
         ·have HH2:Hid (fuN=fu+1):=Lib.hid (by rw [HFN.out];rfl)
          have p7:=HP12.out.bx.c 7 rfl
          have hgf:=HP12.out.bx.2
          go_wp2_with fail
          go_meet
          case rel=>rw [HH2.out];exact HP12.out.setFu (fu+1)
        case rest =>
         have HP13:=Lib.hid hcut
         clear HP12 hcut p3 fu0 fu1
         have p3:=HP13.out.bx.c 3 rfl
         have hgf:=HP13.out.bx.2
         go_upto_region 18 with fail
         have HP14:=Lib.hid (HP13.out.setBl (!bl))
         clear HP13 p3 hgf
         generalize World.setCell wc ⟨g,3,none⟩ (.bool (!bl))=w14 at *
         have HL5:Hid (l4=aftL ⟨F,R,l,bl,ca,ps,ha,fu⟩ ⟨x,y,t⟩):=Lib.hid (by
          have e:=aftQ_eq hm
          have h1:=HL1.out
          have h2:=HL2.out
          have h3:=HL3.out
          have h4:=HL4.out
          rw [HCV.out,<- HK.out] at e
          rw [<- e,h4,h3,h2,h1]
          rfl)
         have HRF:=Lib.hid (HRZ.out.below HP14.out.bw HRZ.out.lt)
         have hrw:w.heap.size<=r:=Nat.le_trans HW.out.size HP14.out.rlt.1
         have hrn:r≠w.heap.size:=Nat.ne_of_gt (Nat.lt_of_lt_of_le HRZ.out.lt HP14.out.rlt.1)
         have hll:(aftL ⟨F,R,l,bl,ca,ps,ha,fu⟩ ⟨x,y,t⟩).length=l.length:=aft_len ⟨F,R,l,bl,ca,ps,ha,fu⟩ ⟨x,y,t⟩
         have HLL:=Lib.hid hll
         clear hll
         have p0:=HP14.out.bx.c 0 rfl
         have p1:=HP14.out.bx.c 1 rfl
         have p2:=HP14.out.bx.c 2 rfl
         have p3:=HP14.out.bx.c 3 rfl
         have p4:=HP14.out.bx.c 4 rfl
         have p5:=HP14.out.bx.c 5 rfl
         have p6:=HP14.out.bx.c 6 rfl
         have p7:=HP14.out.bx.c 7 rfl
         obtain ⟨r0,r1,r2,r3,r4,r5,r6,r7⟩:=HRF.out.h8
         have rf:=HRF.out.2
         repeat (first | go_values | go_skip | go_guarded | go_step | go_upon | go_in)
         apply bodyPost_ret (v:=.agg #[.int .i64 F,.int .i64 R,.slice (some ⟨r,0,none⟩) l.length cap,.bool (!bl),.int .u8 (ca2:Int),.int .i64 pn,.int .i64 haN,.int .i64 fuN])
         rotate_left
         ·rfl
         ·refine ⟨.slice (some ⟨r,0,none⟩) l.length cap,by rw [HCA2.out,HPN.out,HHA.out,HFN.out],?_,bw8 (chain HW.out HP14.out.bw) (Nat.le_refl _) _ _ _ _ _ _ _ _⟩
          have ho:=own_o8 (own_low HP14.out.row hrw) hrn (.int .i64 F) (.int .i64 R) (.slice (some ⟨r,0,none⟩) l.length cap) (.bool (!bl)) (.int .u8 (ca2:Int)) (.int .i64 pn) (.int .i64 haN) (.int .i64 fuN)
          rw [HLL.out,<- HL5.out]
          exact ho
         have hz:=HRF.out.put8 (.int .i64 F) (.int .i64 R) (.slice (some ⟨r,0,none⟩) l.length cap) (.bool (!bl)) (.int .u8 (ca2:Int)) (.int .i64 pn) (.int .i64 haN) (.int .i64 fuN)
         clear r0 r1 r2 r3 r4 r5 r6 r7 rf p0 p1 p2 p3 p4 p5 p6 p7
         obtain ⟨r0,r1,r2,r3,r4,r5,r6,r7⟩:=hz.h8
         clear hz
         simp [results,Tryz.results51,go_sem,r0,r1,r2,r3,r4,r5,r6,r7]
end Go.Proofs.YtbccbgonlmkpkaaGreatDoor
namespace Go.Proofs.YtbccbgonlmkpkaaGreatDoor
open Go.RowKit Go.Sort
theorem Bxs.o1 {W:World} {b g:Nat} {vs:List Value} (h:Bxs W b vs) (hne:b≠g) (k:Nat) (v:Value):Bxs (W.setCell ⟨g,k,none⟩ v) b vs:=h.but ((But.refl g W).setCell k v) hne
section
variable {w V u:World} {gp gu gz g' r B n cap:Nat} {F R:Int} {l:List Int} {bl:Bool} {ca:Nat} {ps ha fu x y:Int} {t:Int} {T:TypeId} {e0 e1 e2 e3 e4 e5 e6 e7 d0 d1 d2 u0:Value} {us:List Value}
end
end Go.Proofs.YtbccbgonlmkpkaaGreatDoor
namespace Go.Proofs.YtbccbgonlmkpkaaGreatDoor
open Go.RowKit Go.Sort
theorem own_form {w:World} {B n:Nat} {v:Value} {l:List Int} (ho:w.ownsRow B 28 1 v l.length (vpcs l)) (hl:0<l.length) :
  ∃ r cap:Nat,v=.slice (some ⟨r,0,none⟩) l.length cap/\RdP w w.heap.size (some ⟨r,0,none⟩) l cap/\B<=r/\r<w.heap.size/\l.length<=cap:=by
 obtain ⟨r,cap,rfl⟩:=Joins.ownsRow_form ho hl
 obtain ⟨h0,h1⟩:=World.ownsRow.lt ho r rfl
 obtain ⟨A,c,e2,hc,hr⟩:=RdP.own ho
 injection e2 with e3 _ e4
 exact ⟨r,cap,rfl,by rw [e3,e4];exact hr,h0,h1,by rw [e4];exact hc⟩
end Go.Proofs.YtbccbgonlmkpkaaGreatDoor
namespace Go.Proofs.YtbccbgonlmkpkaaGreatDoor
open Go.RowKit
def Un.cells (u:Un):List Value:=[.int .i64 u.m.a,.int .i64 u.m.b,.int .i8 u.m.p,.int .i8 u.cp,.int .i64 u.sq,.int .u8 (u.ca:Int),.int .i64 u.ps,.int .i64 u.ha,.int .i64 u.fu]
def vuns (l:List Un):List Value:=l.flatMap Un.cells
theorem vuns_get:∀ {l:List Un} {k:Nat} {u:Un},l[k]?=some u->∀ (j:Nat) (v:Value),u.cells[j]?=some v->(vuns l)[k * 9+j]?=some v
 | [],_,_,h,_,_,_=>by simp at h
 | x :: l,0,u,h,j,v,hv=>by
  simp at h
  subst h
  have hj:=(List.getElem?_eq_some_iff.1 hv).1
  unfold vuns
  rw [List.flatMap_cons,List.getElem?_append_left (by omega)]
  simpa using hv
 | x :: l,k+1,u,h,j,v,hv=>by
  have ih:=vuns_get (l:=l) (k:=k) (u:=u) (by simpa using h) j v hv
  have e:vuns (x :: l)=x.cells ++ vuns l:=rfl
  have hx:x.cells.length=9:=rfl
  rw [e,List.getElem?_append_right (by omega),hx,show (k+1) * 9+j - 9=k * 9+j from by omega]
  exact ih
theorem add_mo9 (ad:Addr) (n i:Nat) (hi:0<i):(⟨(ad.add n).block,(ad.add n).off+i,none⟩:Addr)=ad.add (n+i):=by
 obtain ⟨k,rfl⟩:∃ k,i=k+1:=⟨i - 1,by omega⟩
 exact add_more ad n k
def RdU (w:World) (B:Nat) (A:Option Addr) (l:List Un):Prop :=
 0<l.length->∃ ad,A=some ad/\ad.block<B/\∀ j u,(vuns l)[j]?=some u->w.cell? (ad.add j)=some u
def Uat (w:World) (ad:Addr) (n:Nat) (m:Un):Prop :=
 w.cell? (ad.add n)=some (.int .i64 m.m.a)/\∀ j,0<j->∀ v,m.cells[j]?=some v->w.cell? ⟨(ad.add n).block,(ad.add n).off+j,none⟩=some v
theorem RdU.at_ {w:World} {B:Nat} {A:Option Addr} {l:List Un} (h:RdU w B A l) {k:Nat} {m:Un} (hm:l[k]?=some m):∃ ad,A=some ad/\ad.block<B/\Uat w ad (k * 9) m:=by
 have hk:=(List.getElem?_eq_some_iff.1 hm).1
 obtain ⟨ad,e,hb,hc⟩:=h (by omega)
 exact ⟨ad,e,hb,hc _ _ (vuns_get hm 0 _ rfl),fun j hj v hv=>by rw [add_mo9 ad _ j hj];exact hc _ _ (vuns_get hm j v hv)⟩
theorem RdU.below {w w':World} {B:Nat} {A:Option Addr} {l:List Un} (h:RdU w B A l) (hb:Below B w w'):RdU w' B A l:=fun hl=>by
 obtain ⟨ad,e,h1,h2⟩:=h hl
 exact ⟨ad,e,h1,fun j u hu=>(hb.cell (by rw [blk_add];exact h1)).trans (h2 j u hu)⟩
theorem RdU.grow {w:World} {B B':Nat} {A:Option Addr} {l:List Un} (h:RdU w B A l) (hB:B<=B'):RdU w B' A l:=fun hl=>by
 obtain ⟨ad,e,h1,h2⟩:=h hl
 exact ⟨ad,e,Nat.lt_of_lt_of_le h1 hB,h2⟩
theorem rdU_nil (w:World) (B:Nat) (A:Option Addr):RdU w B A []:=fun h=>absurd h (by simp)
theorem RdU.own {w:World} {B e:Nat} {v:Value} {l:List Un} (h:w.ownsRow B e 9 v l.length (vuns l)):∃ A c,v=.slice A l.length c/\l.length<=c/\RdU w w.heap.size A l:=by
 have h0:=h
 obtain ⟨hl,⟨rfl,hz⟩ | ⟨g,cap,cur,rfl,hg,hh,hn,hc,hs,ht⟩⟩:=h
 ·have:l=[]:=List.eq_nil_of_length_eq_zero hz
  subst this
  exact ⟨none,0,rfl,by simp,rdU_nil _ _ _⟩
 ·refine ⟨some ⟨g,0,none⟩,cap,rfl,hn,fun _=>⟨_,rfl,(Array.getElem?_eq_some_iff.1 hh).1,fun j u hu=>?_⟩⟩
  have hj:=(List.getElem?_eq_some_iff.1 hu).1
  rw [show (⟨g,0,none⟩:Addr).add j=⟨g,j,none⟩ by (by_cases hj0:j=0 <;> simp [Addr.add,hj0]),h0.cellAt j (by omega)]
  exact hu
end Go.Proofs.YtbccbgonlmkpkaaGreatDoor
namespace Go.Proofs.YtbccbgonlmkpkaaGreatDoor
open Go.RowKit Go.Sort
theorem Bxs.grown {W W':World} {b:Nat} {v:Value} {vs:List Value} {row:Option Nat} (h:Bxs W b (v :: vs)) (hg:W.grownBy W' row) (hne:some b≠row):Bxs W' b (v :: vs) :=
 ⟨fun j u hu=>(hg.cell_far ⟨b,j,none⟩ h.lt hne).trans (h.1 j u hu),fun o=>(hg.frozen_far ⟨b,o,none⟩ h.lt hne).trans (h.2 o)⟩
theorem own_keep {W W':World} {B e sz n:Nat} {v:Value} {xs:List Value} (ho:W.ownsRow B e sz v n xs) (hb:∀ k,v.ownBlock=some k->W'.heap[k]?=W.heap[k]?):W'.ownsRow B e sz v n xs:=by
 obtain ⟨hl,hh | ⟨g2,cap2,cur,hv,hgB,hh,hr⟩⟩:=ho
 ·exact ⟨hl,.inl hh⟩
 ·exact ⟨hl,.inr ⟨g2,cap2,cur,hv,hgB,(hb g2 (by rw [hv];rfl)).trans hh,hr⟩⟩
theorem own_blt {W:World} {B e sz n b:Nat} {v:Value} {xs:List Value} (ho:W.ownsRow B e sz v n xs) (hb:v.ownBlock=some b):B<=b/\b<W.heap.size:=World.ownsRow.lt ho b hb
theorem Mk.of {p:Po} {m:Mv} (h:errM p m=0):Mk p m:=by
 have h1:mkM p m=some (aftM p m,recM p m):=by unfold mkM;rw [if_pos h]
 exact (mkM_some h1).1
end Go.Proofs.YtbccbgonlmkpkaaGreatDoor
namespace Go.Proofs.YtbccbgonlmkpkaaGreatDoor
open Go.RowKit Go.Shelf
attribute [local go_sem] Oper.semAt_some
def KpB (n₀ Bs:Nat) (W W':World):Prop:=Below n₀ W W'/\W'.heap[Bs]?=W.heap[Bs]?
theorem KpB.trans {n₀ Bs:Nat} {A B C:World} (h:KpB n₀ Bs A B) (k:KpB n₀ Bs B C):KpB n₀ Bs A C:=⟨h.1.trans k.1,k.2.trans h.2⟩
theorem KpB.refl (n₀ Bs:Nat) (A:World):KpB n₀ Bs A A:=⟨Below.refl _ _,rfl⟩
theorem KpB.s {n₀ Bs:Nat} {A B:World} (h:KpB n₀ Bs A B):B.cell? ⟨Bs,0,none⟩=A.cell? ⟨Bs,0,none⟩:=World.cell?_of_block h.2
end Go.Proofs.YtbccbgonlmkpkaaGreatDoor
namespace Go.Proofs.YtbccbgonlmkpkaaGreatDoor
open Go.RowKit Go.Shelf Go.Sort
attribute [local go_sem] Oper.semAt_some
attribute [local irreducible] unM
theorem Bxs.putObj {W:World} {b D:Nat} {vs:List Value} (h:Bxs W b vs) (hne:b≠D) (o:Obj):Bxs (W.putObj D o) b vs :=
 ⟨fun j v hv=>(World.cell?_of_block (a:=⟨b,j,none⟩) (World.putObj_heap_other hne)).trans (h.1 j v hv),fun j=>(World.frozen?_of_block (a:=⟨b,j,none⟩) (World.putObj_heap_other hne)).trans (h.2 j)⟩
end Go.Proofs.YtbccbgonlmkpkaaGreatDoor
