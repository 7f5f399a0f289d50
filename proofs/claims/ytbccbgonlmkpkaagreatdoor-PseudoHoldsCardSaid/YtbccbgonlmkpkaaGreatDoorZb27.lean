/- What the theorem needs, piece Zb27. -/
import Derived.Test.YtbccbgonlmkpkaaGreatDoorZb25
import Derived.Deep.RegionHeld3
import Derived.Lib.AppendIntMem
import Derived.Maps.AppendAt
import Derived.Deep.RegionLaw
import Derived.Laws.OwnMore
import Derived.Sort.QuietTacIn
import Derived.Sort.BigQuietIn
import Derived.RangeFuncCalls
import Derived.Test.YtbccbgonlmkpkaaGreatDoorZb07
import Derived.Test.YtbccbgonlmkpkaaGreatDoorZb05
import Derived.Test.YtbccbgonlmkpkaaGreatDoorZb18
import Derived.Test.YtbccbgonlmkpkaaGreatDoorZb09
import Derived.Recover
set_option linter.unusedSimpArgs false
set_option linter.unusedVariables false
set_option maxRecDepth 100000
set_option maxHeartbeats 16000000
namespace Go.Proofs.YtbccbgonlmkpkaaGreatDoor
open Go.RowKit Go.Sort
def unV (u:Un):Value:=.agg #[.int .i64 u.m.a,.int .i64 u.m.b,.int .i8 u.m.p,.int .i8 u.cp,.int .i64 u.sq,.int .u8 (u.ca:Int),.int .i64 u.ps,.int .i64 u.ha,.int .i64 u.fu]
theorem rec_no {p:Po} {m:Mv} (h:Mov p m) (h1:ownB (pc p.l m.b) (!p.bl)=false) (h2:¬ (kdP (pc p.l m.a)=1/\m.b=p.ps)):recM p m=⟨m,0,-1,p.ca,p.ps,p.ha,p.fu⟩:=by
 have e:=capP_eq h
 unfold capP at e
 rw [h1,if_neg (by simp),if_neg h2] at e
 unfold recM
 rw [<- e]
 rfl
theorem rec_yes {p:Po} {m:Mv} (h:Mov p m) {s:Int} (hs:0<=s) (e:capP p m=s):recM p m=⟨m,pc p.l s,s,p.ca,p.ps,p.ha,p.fu⟩:=by
 unfold recM
 rw [<- capP_eq h,e,if_pos hs]
theorem tRec_any (F R:Int) (l:List Int) (A:Option Addr) (c:Nat) (bl:Bool) (ca:Nat) (ps ha fu:Int) (x y t:Int) (ow fo:Nat) (b:Nat) (hm:Mov ⟨F,R,l,bl,ca,ps,ha,fu⟩ ⟨x,y,t⟩) (hfe:fo=ownS l (!bl)) (w:World) (hA:RdP w w.heap.size A l c) (hX:Bxs w b [.int .i64 F,.int .i64 R,.slice A l.length c,.bool bl,.int .u8 (ca:Int),.int .i64 ps,.int .i64 ha,.int .i64 fu,.int .i64 x,.int .i64 y,.int .i8 t,.int .i8 (kdP (pc l x)),.int .u64 (ow:Int),.int .u64 (fo:Int)]) :
  Calls Tryz.prog 50 #[.pointer (some ⟨b,0,none⟩)] w fun e w'=>e=.returned (unV (recM ⟨F,R,l,bl,ca,ps,ha,fu⟩ ⟨x,y,t⟩))/\Below w.heap.size w w':=by
 have hl:(l.length:Int)=F * R:=hm.hp.len
 have hv:vsz F R:=hm.hp.hv
 have h64:F * R<=64:=(vsz_mul hv).2
 have hx:vat F R x:=hm.hm.1
 have hy:vat F R y:=hm.hm.2.1
 have y0:=hy.2.1
 have y1:y<64:=by have:=hy.2.2;omega
 have hfo:fo<18446744073709551616:=by rw [hfe];exact ownS_lt (!bl) (by omega)
 have HO:=Lib.hid (fun w=>has_bel (v:=ownB (pc l y) (!bl)) hfo y0 y1 (by rw [hfe];exact ownS_bit (!bl) y0 (by have:=hy.2.2;omega)) w)
 have HBS:=Lib.hid (pBes_any F R x y t hx hy)
 have HCAP:Hid (capP ⟨F,R,l,bl,ca,ps,ha,fu⟩ ⟨x,y,t⟩=if ownB (pc l y) (!bl)=true then y else if kdP (pc l x)=1/\y=ps then numV F R (y % F) (x / F) else -1):=Lib.hid rfl
 have HY1:Hid (y<(l.length:Int)):=Lib.hid (by have:=hy.2.2;omega)
 have hon:0<=numV F R (y % F) (x / F)/\numV F R (y % F) (x / F)<(l.length:Int):=by
  obtain ⟨a1,a2,a3,a4⟩:=place_bd hv hy.2.1 hy.2.2
  obtain ⟨b1,b2,b3,b4⟩:=place_bd hv hx.2.1 hx.2.2
  rw [numV_on ⟨a1,a2,b3,b4⟩]
  have h3:=(num_at hv (f:=y % F) (r:=x / F) ⟨a1,a2,b3,b4⟩).1
  exact ⟨h3.2.1,by have:=h3.2.2;omega⟩
 have HON:=Lib.hid hon
 clear hon
 have HRN:=Lib.hid (fun h1 h2=>rec_no hm h1 h2)
 have HRY:=Lib.hid (fun s hs e=>rec_yes hm (s:=s) hs e)
 have HAT:Hid (∀ s:Int,0<=s->s<(l.length:Int)->∃ ad,A=some ad/\ad.block<w.heap.size/\w.cell? (ad.add s.toNat)=some (.int .i8 (pc l s))):=Lib.hid (fun s h0 h1=>by
  obtain ⟨ad,e,hb,hc⟩:=hA.at_ (k:=s.toNat) (by omega)
  exact ⟨ad,e,hb,hc⟩)
 have HX0:=Lib.hid hX
 have hXl:=hX.lt
 have B1:=box1 w (.cells #[.int .i64 0,.int .i64 0,.int .i8 0,.int .i8 0,.int .i64 0,.int .u8 0,.int .i64 0,.int .i64 0,.int .i64 0] 35)
 have B2:=box1 (w.alloc (.cells #[.int .i64 0,.int .i64 0,.int .i8 0,.int .i8 0,.int .i64 0,.int .u8 0,.int .i64 0,.int .i64 0,.int .i64 0] 35)) (.cells #[.int .i64 F,.int .i64 R,.slice A l.length c,.bool bl,.int .u8 (ca:Int),.int .i64 ps,.int .i64 ha,.int .i64 fu] 26)
 have HX:=Lib.hid ((hX.below B1 hX.lt).below B2 (by simp;omega))
 have HR:=Lib.hid ((Bxs.new w [.int .i64 0,.int .i64 0,.int .i8 0,.int .i8 0,.int .i64 0,.int .u8 0,.int .i64 0,.int .i64 0,.int .i64 0] 35).below B2 (by simp))
 have hP:=Bxs.new (w.alloc (.cells #[.int .i64 0,.int .i64 0,.int .i8 0,.int .i8 0,.int .i64 0,.int .u8 0,.int .i64 0,.int .i64 0,.int .i64 0] 35)) [.int .i64 F,.int .i64 R,.slice A l.length c,.bool bl,.int .u8 (ca:Int),.int .i64 ps,.int .i64 ha,.int .i64 fu] 26
 rw [World.size_alloc] at hP
 have HP:=Lib.hid hP
 have HB:Hid (Bw w ((w.alloc (.cells #[.int .i64 0,.int .i64 0,.int .i8 0,.int .i8 0,.int .i64 0,.int .u8 0,.int .i64 0,.int .i64 0,.int .i64 0] 35)).alloc (.cells #[.int .i64 F,.int .i64 R,.slice A l.length c,.bool bl,.int .u8 (ca:Int),.int .i64 ps,.int .i64 ha,.int .i64 fu] 26))):=Lib.hid (chain B1 B2)
 have hsz:((w.alloc (.cells #[.int .i64 0,.int .i64 0,.int .i8 0,.int .i8 0,.int .i64 0,.int .u8 0,.int .i64 0,.int .i64 0,.int .i64 0] 35)).alloc (.cells #[.int .i64 F,.int .i64 R,.slice A l.length c,.bool bl,.int .u8 (ca:Int),.int .i64 ps,.int .i64 ha,.int .i64 fu] 26)).heap.size=w.heap.size+2:=by simp
 have HSZ:=Lib.hid hsz
 have hb1:¬ b=w.heap.size:=by omega
 have hb2:¬ b=w.heap.size+1:=by omega
 have hb3:b<w.heap.size+1:=by omega
 have hb4:b<w.heap.size+2:=by omega
 obtain ⟨q0,q1,q2,q3,q4,q5,q6,q7⟩:=HX0.out.h8
 have HY0:=Lib.hid y0
 clear hX hm hl hv h64 hx hy y0 y1 hfo hA B1 B2 hP hfe hsz
 generalize ownB (pc l y) (!bl)=ob at *
 generalize kdP (pc l x)=kd at *
 generalize numV F R (y % F) (x / F)=nv at *
 generalize hrm:recM ⟨F,R,l,bl,ca,ps,ha,fu⟩ ⟨x,y,t⟩=rm at *
 clear hrm
 go_enter Tryz.func50,Tryz.ntmps50
 go_upto_region 2 with fail
 clear q0 q1 q2 q3 q4 q5 q6 q7 hXl HX0 hb1 hb2 hb3
 generalize (w.alloc (.cells #[.int .i64 0,.int .i64 0,.int .i8 0,.int .i8 0,.int .i64 0,.int .u8 0,.int .i64 0,.int .i64 0,.int .i64 0] 35)).alloc (.cells #[.int .i64 F,.int .i64 R,.slice A l.length c,.bool bl,.int .u8 (ca:Int),.int .i64 ps,.int .i64 ha,.int .i64 fu] 26)=V at *
 have hb5:b<V.heap.size:=by rw [HSZ.out];omega
 have hb6:¬ b=V.heap.size:=by rw [HSZ.out];omega
 have hb7:¬ w.heap.size+1=V.heap.size:=by rw [HSZ.out];omega
 have hb8:w.heap.size+1<V.heap.size:=by rw [HSZ.out];omega
 have z8:=HX.out.c 8 rfl
 have z9:=HX.out.c 9 rfl
 have z10:=HX.out.c 10 rfl
 obtain ⟨p0,p1,p2,p3,p4,p5,p6,p7⟩:=HP.out.h8
 go_cut [4] (fun s4 wx=>∃ g:Nat,s4=.pointer (some ⟨g,0,none⟩)/\V.heap.size<=g/\Bxs wx g [.int .i64 x,.int .i64 y,.int .i8 t,.int .i8 0,.int .i64 (-1),.int .u8 (ca:Int),.int .i64 ps,.int .i64 ha,.int .i64 fu]/\Bw V wx)
 case first =>
  go_region
  all_goals
   go_wp2_with fail
   (conv=>arg 2;simp [Act.put])
   go_meet
   case rel=>exact ⟨_,rfl,Nat.le_refl _,(tb1 V _ _).1,(tb1 V _ _).2⟩
 case rest =>
  obtain ⟨g,rfl,hg,hU,hW⟩:=hcut
  have hg0:w.heap.size+2<=g:=by have:=HSZ.out;omega
  have HX1:=Lib.hid (HX.out.below hW HX.out.lt)
  have HP1:=Lib.hid (HP.out.below hW HP.out.lt)
  have HR1:=Lib.hid (HR.out.below hW HR.out.lt)
  have HU1:=Lib.hid hU
  have HB1:=Lib.hid (chain HB.out hW)
  clear hU hW HX HP HR HB HSZ hb4 hb5 hb6 hb7 hb8 z8 z9 z10 p0 p1 p2 p3 p4 p5 p6 p7
  have z9:=HX1.out.c 9 rfl
  have z13:=HX1.out.c 13 rfl
  go_wp2_with fail
  have kq0:=cell_regrown z9
  have kq1:=cell_regrown z13
  refine wp_region_quiet_below (by kernel_rfl) (by kernel_rfl) ?_
  repeat (go_big_quiet_step (first | (go_at_call 48;exact Calls.regrown_of (HO.out _))))
  refine wpQuiet_nil ?_
  rintro _ ⟨⟨dq,osq⟩,rfl⟩
  have hq:=below_regrown wc dq osq
  clear z9 z13 kq0 kq1
  generalize grow (redrawn wc dq) osq=w1 at *
  have HX2:=Lib.hid (HX1.out.below hq HX1.out.lt)
  have HP2:=Lib.hid (HP1.out.below hq HP1.out.lt)
  have HR2:=Lib.hid (HR1.out.below hq HR1.out.lt)
  have HU2:=Lib.hid (HU1.out.below hq HU1.out.lt)
  have HB2:=Lib.hid (chain HB1.out hq)
  clear hq HB1 HX1 HP1 HR1 HU1
  have z8:=HX2.out.c 8 rfl
  have z9:=HX2.out.c 9 rfl
  have z10:=HX2.out.c 10 rfl
  have z11:=HX2.out.c 11 rfl
  cases ob
  case true =>
   have hy0:=HCAP.out
   rw [if_pos rfl] at hy0
   obtain ⟨sq,hsy⟩:∃ sq:Int,sq=y:=⟨y,rfl⟩
   have HS0:Hid (0<=sq):=Lib.hid (by rw [hsy];exact HY0.out)
   have HS1:Hid (sq<(l.length:Int)):=Lib.hid (by rw [hsy];exact HY1.out)
   replace hy0:=hy0.trans hsy.symm
   have HE:=Lib.hid hy0
   have HSY:=Lib.hid hsy
   clear hy0 hsy HCAP HON HY0 HY1
   have u4:=HU2.out.c 4 rfl
   have uf:=HU2.out.2
   go_upto_region 8 with fail
   have HU3:=Lib.hid (show Bxs (World.setCell w1 ⟨g,4,none⟩ (.int .i64 y)) g [.int .i64 x,.int .i64 y,.int .i8 t,.int .i8 0,.int .i64 sq,.int .u8 (ca:Int),.int .i64 ps,.int .i64 ha,.int .i64 fu] from by rw [HSY.out];exact HU2.out.set 4 (by simp) (.int .i64 y))
   have HP3:=Lib.hid (HP2.out.but ((But.refl g w1).setCell 4 (.int .i64 y)) (by omega))
   have HR3:=Lib.hid (HR2.out.but ((But.refl g w1).setCell 4 (.int .i64 y)) (by omega))
   have HB3:=Lib.hid (Bw.set1 (V:=w) HB2.out (b:=g) (by omega) 4 (.int .i64 y))
   clear HU2 HP2 HR2 HB2 HX2 u4 uf z8 z9 z10 z11
   generalize World.setCell w1 ⟨g,4,none⟩ (.int .i64 y)=w3 at *
   clear HSY
   have hs0:0<=sq:=HS0.out
   have hs1:sq<(l.length:Int):=HS1.out
   obtain ⟨ad,hAe,hadb,hadc⟩:=HAT.out sq hs0 hs1
   obtain ⟨sn,hsn⟩:∃ sn:Nat,sq=(sn:Int):=⟨sq.toNat,by omega⟩
   have HRV:=Lib.hid (HRY.out sq hs0 HE.out)
   rw [hsn] at hs0 hs1 hadc HRV HU3
   rw [hAe] at HP3
   rw [Int.toNat_natCast] at hadc
   have hs2:sn<l.length:=by omega
   have had2:=(HB3.out.cell (p:=ad.add sn) (by rw [blk_add];exact hadb)).trans hadc
   generalize pc l (sn:Int)=pq at *
   clear hAe hadc HAT HS0 HS1 HE HRY HRN hs0 hs1 hsn
   have p2:=HP3.out.c 2 rfl
   have u4:=HU3.out.c 4 rfl
   have uf:=HU3.out.2
   have u3:=HU3.out.c 3 rfl
   go_upto_region 9 with fail
   have HU8:=Lib.hid (show Bxs (World.setCell w3 ⟨g,3,none⟩ (.int .i8 pq)) g [.int .i64 x,.int .i64 y,.int .i8 t,.int .i8 pq,.int .i64 (sn:Int),.int .u8 (ca:Int),.int .i64 ps,.int .i64 ha,.int .i64 fu] from HU3.out.set 3 (by simp) (.int .i8 pq))
   have HR8:=Lib.hid (HR3.out.but ((But.refl g w3).setCell 3 (.int .i8 pq)) (by omega))
   have HB8:=Lib.hid (Bw.set1 (V:=w) HB3.out (b:=g) (by omega) 3 (.int .i8 pq))
   clear HU3 HR3 HB3 HP3 p2 u4 u3 uf had2
   generalize World.setCell w3 ⟨g,3,none⟩ (.int .i8 pq)=w8 at *
   obtain ⟨u0,u1,u2,u3,u4,u5,u6,u7,u8⟩:=HU8.out.h9
   obtain ⟨r0,r1,r2,r3,r4,r5,r6,r7,r8⟩:=HR8.out.h9
   have rf:=HR8.out.2
   repeat (first | go_values | go_skip | go_guarded | go_step | go_upon | go_in)
   apply bodyPost_ret (v:=unV rm)
   rotate_left
   ·rfl
   ·exact ⟨rfl,bw9 HB8.out (by omega) _ _ _ _ _ _ _ _ _⟩
   rw [HRV.out]
   have hz:=HR8.out.put9 (.int .i64 x) (.int .i64 y) (.int .i8 t) (.int .i8 pq) (.int .i64 (sn:Int)) (.int .u8 (ca:Int)) (.int .i64 ps) (.int .i64 ha) (.int .i64 fu)
   clear u0 u1 u2 u3 u4 u5 u6 u7 u8 r0 r1 r2 r3 r4 r5 r6 r7 r8 rf
   obtain ⟨r0,r1,r2,r3,r4,r5,r6,r7,r8⟩:=hz.h9
   clear hz
   simp [results,Tryz.results50,go_sem,unV,r0,r1,r2,r3,r4,r5,r6,r7,r8]
  case false =>
   by_cases hk:kd=1
   ·have e1:(kd == 1)=true:=by simp [hk]
    by_cases hp:y=ps
    ·have e2:(y == ps)=true:=by simp [hp]
     have hy0:=HCAP.out
     rw [if_neg (by simp),if_pos ⟨hk,hp⟩] at hy0
     have HE:=Lib.hid hy0
     have HS0:=Lib.hid HON.out.1
     have HS1:=Lib.hid HON.out.2
     clear hy0 HCAP HON HY0 HY1 hk hp
     have p5:=HP2.out.c 5 rfl
     go_wp2_with fail
     have kq0:=cell_regrown z11
     have kq1:=cell_regrown z9
     have kq2:=cell_regrown p5
     refine wp_region_quiet_below (by kernel_rfl) (by kernel_rfl) ?_
     repeat (go_big_quiet_step (first | fail))
     refine wpQuiet_nil ?_
     rintro _ ⟨⟨dq,osq⟩,rfl⟩
     have hq:=below_regrown w1 dq osq
     clear z8 z9 z10 z11 p5 kq0 kq1 kq2
     generalize grow (redrawn w1 dq) osq=w2 at *
     have HX3:=Lib.hid (HX2.out.below hq HX2.out.lt)
     have HP3:=Lib.hid (HP2.out.below hq HP2.out.lt)
     have HR3:=Lib.hid (HR2.out.below hq HR2.out.lt)
     have HU3:=Lib.hid (HU2.out.below hq HU2.out.lt)
     have HB3:=Lib.hid (chain HB2.out hq)
     clear hq HB2 HX2 HP2 HR2 HU2
     obtain ⟨p0,p1⟩:=HP3.out.h2
     have z8:=HX3.out.c 8 rfl
     have z9:=HX3.out.c 9 rfl
     have z10:=HX3.out.c 10 rfl
     have u4:=HU3.out.c 4 rfl
     have uf:=HU3.out.2
     go_upto_region 7 with fail
     go_region_with (go_at_call 113;refine (HBS.out _).mono ?_;rintro e w4 ⟨rfl,hq⟩;have hq2:=chain ((Below.refl w2.heap.size w2).drew) hq;have u4q:=cBo hq2 u4;have ufq:=(HU3.out.below hq2 HU3.out.lt).2)
     all_goals
      have hU4:=HU3.out.below hq2 HU3.out.lt
      have hP4:=HP3.out.below hq2 HP3.out.lt
      have hR4:=HR3.out.below hq2 HR3.out.lt
      have HU4:=Lib.hid (show Bxs (World.setCell w4 ⟨g,4,none⟩ (.int .i64 nv)) g [.int .i64 x,.int .i64 y,.int .i8 t,.int .i8 0,.int .i64 nv,.int .u8 (ca:Int),.int .i64 ps,.int .i64 ha,.int .i64 fu] from hU4.set 4 (by simp) (.int .i64 nv))
      have HP4:=Lib.hid (hP4.but ((But.refl g w4).setCell 4 (.int .i64 nv)) (by omega))
      have HR4:=Lib.hid (hR4.but ((But.refl g w4).setCell 4 (.int .i64 nv)) (by omega))
      have HB4:=Lib.hid (Bw.set1 (V:=w) (chain HB3.out hq2) (b:=g) (by omega) 4 (.int .i64 nv))
      clear HU3 HP3 HR3 HB3 HX3 u4 uf z8 z9 z10 p0 p1 u4q ufq hU4 hP4 hR4 hq hq2
      generalize World.setCell w4 ⟨g,4,none⟩ (.int .i64 nv)=w5 at *
      have hs0:0<=nv:=HS0.out
      have hs1:nv<(l.length:Int):=HS1.out
      obtain ⟨ad,hAe,hadb,hadc⟩:=HAT.out nv hs0 hs1
      obtain ⟨sn,hsn⟩:∃ sn:Nat,nv=(sn:Int):=⟨nv.toNat,by omega⟩
      have HRV:=Lib.hid (HRY.out nv hs0 HE.out)
      rw [hsn] at hs0 hs1 hadc HRV HU4
      rw [hAe] at HP4
      rw [Int.toNat_natCast] at hadc
      have hs2:sn<l.length:=by omega
      have had2:=(HB4.out.cell (p:=ad.add sn) (by rw [blk_add];exact hadb)).trans hadc
      generalize pc l (sn:Int)=pq at *
      clear hAe hadc HAT HS0 HS1 HE HRY HRN hs0 hs1 hsn
      have p2:=HP4.out.c 2 rfl
      have u4:=HU4.out.c 4 rfl
      have uf:=HU4.out.2
      have u3:=HU4.out.c 3 rfl
      go_upto_region 9 with fail
      have HU8:=Lib.hid (show Bxs (World.setCell w5 ⟨g,3,none⟩ (.int .i8 pq)) g [.int .i64 x,.int .i64 y,.int .i8 t,.int .i8 pq,.int .i64 (sn:Int),.int .u8 (ca:Int),.int .i64 ps,.int .i64 ha,.int .i64 fu] from HU4.out.set 3 (by simp) (.int .i8 pq))
      have HR8:=Lib.hid (HR4.out.but ((But.refl g w5).setCell 3 (.int .i8 pq)) (by omega))
      have HB8:=Lib.hid (Bw.set1 (V:=w) HB4.out (b:=g) (by omega) 3 (.int .i8 pq))
      clear HU4 HR4 HB4 HP4 p2 u4 u3 uf had2
      generalize World.setCell w5 ⟨g,3,none⟩ (.int .i8 pq)=w8 at *
      obtain ⟨u0,u1,u2,u3,u4,u5,u6,u7,u8⟩:=HU8.out.h9
      obtain ⟨r0,r1,r2,r3,r4,r5,r6,r7,r8⟩:=HR8.out.h9
      have rf:=HR8.out.2
      repeat (first | go_values | go_skip | go_guarded | go_step | go_upon | go_in)
      apply bodyPost_ret (v:=unV rm)
      rotate_left
      ·rfl
      ·exact ⟨rfl,bw9 HB8.out (by omega) _ _ _ _ _ _ _ _ _⟩
      rw [HRV.out]
      have hz:=HR8.out.put9 (.int .i64 x) (.int .i64 y) (.int .i8 t) (.int .i8 pq) (.int .i64 (sn:Int)) (.int .u8 (ca:Int)) (.int .i64 ps) (.int .i64 ha) (.int .i64 fu)
      clear u0 u1 u2 u3 u4 u5 u6 u7 u8 r0 r1 r2 r3 r4 r5 r6 r7 r8 rf
      obtain ⟨r0,r1,r2,r3,r4,r5,r6,r7,r8⟩:=hz.h9
      clear hz
      simp [results,Tryz.results50,go_sem,unV,r0,r1,r2,r3,r4,r5,r6,r7,r8]
    ·have e2:(y == ps)=false:=by simp [hp]
     have HRV:=Lib.hid (HRN.out (by simp) (fun h=>hp h.2))
     clear hk hp HCAP HON HY0 HY1 HRY HAT
     have p5:=HP2.out.c 5 rfl
     go_wp2_with fail
     have kq0:=cell_regrown z11
     have kq1:=cell_regrown z9
     have kq2:=cell_regrown p5
     refine wp_region_quiet_below (by kernel_rfl) (by kernel_rfl) ?_
     repeat (go_big_quiet_step (first | fail))
     refine wpQuiet_nil ?_
     rintro _ ⟨⟨dq,osq⟩,rfl⟩
     have hq:=below_regrown w1 dq osq
     clear z8 z9 z10 z11 p5 kq0 kq1 kq2
     generalize grow (redrawn w1 dq) osq=w2 at *
     have HX3:=Lib.hid (HX2.out.below hq HX2.out.lt)
     have HP3:=Lib.hid (HP2.out.below hq HP2.out.lt)
     have HR3:=Lib.hid (HR2.out.below hq HR2.out.lt)
     have HU3:=Lib.hid (HU2.out.below hq HU2.out.lt)
     have HB3:=Lib.hid (chain HB2.out hq)
     clear hq HB2 HX2 HP2 HR2 HU2
     obtain ⟨u0,u1,u2,u3,u4,u5,u6,u7,u8⟩:=HU3.out.h9
     obtain ⟨r0,r1,r2,r3,r4,r5,r6,r7,r8⟩:=HR3.out.h9
     have rf:=HR3.out.2
     go_upto_region 3 with fail
     repeat (first | go_values | go_skip | go_guarded | go_step | go_upon | go_in)
     apply bodyPost_ret (v:=unV rm)
     rotate_left
     ·rfl
     ·exact ⟨rfl,bw9 HB3.out (by omega) _ _ _ _ _ _ _ _ _⟩
     rw [HRV.out]
     have hz:=HR3.out.put9 (.int .i64 x) (.int .i64 y) (.int .i8 t) (.int .i8 0) (.int .i64 (-1)) (.int .u8 (ca:Int)) (.int .i64 ps) (.int .i64 ha) (.int .i64 fu)
     clear u0 u1 u2 u3 u4 u5 u6 u7 u8 r0 r1 r2 r3 r4 r5 r6 r7 r8 rf
     obtain ⟨r0,r1,r2,r3,r4,r5,r6,r7,r8⟩:=hz.h9
     clear hz
     simp [results,Tryz.results50,go_sem,unV,r0,r1,r2,r3,r4,r5,r6,r7,r8]
   ·have e1:(kd == 1)=false:=by simp [hk]
    have HRV:=Lib.hid (HRN.out (by simp) (fun h=>hk h.1))
    clear hk HCAP HON HY0 HY1 HRY HAT
    go_wp2_with fail
    have kq0:=cell_regrown z11
    refine wp_region_quiet_below (by kernel_rfl) (by kernel_rfl) ?_
    repeat (go_big_quiet_step (first | fail))
    refine wpQuiet_nil ?_
    rintro _ ⟨⟨dq,osq⟩,rfl⟩
    have hq:=below_regrown w1 dq osq
    clear z8 z9 z10 z11 kq0
    generalize grow (redrawn w1 dq) osq=w2 at *
    have HX3:=Lib.hid (HX2.out.below hq HX2.out.lt)
    have HP3:=Lib.hid (HP2.out.below hq HP2.out.lt)
    have HR3:=Lib.hid (HR2.out.below hq HR2.out.lt)
    have HU3:=Lib.hid (HU2.out.below hq HU2.out.lt)
    have HB3:=Lib.hid (chain HB2.out hq)
    clear hq HB2 HX2 HP2 HR2 HU2
    obtain ⟨u0,u1,u2,u3,u4,u5,u6,u7,u8⟩:=HU3.out.h9
    obtain ⟨r0,r1,r2,r3,r4,r5,r6,r7,r8⟩:=HR3.out.h9
    have rf:=HR3.out.2
    go_upto_region 3 with fail
    repeat (first | go_values | go_skip | go_guarded | go_step | go_upon | go_in)
    apply bodyPost_ret (v:=unV rm)
    rotate_left
    ·rfl
    ·exact ⟨rfl,bw9 HB3.out (by omega) _ _ _ _ _ _ _ _ _⟩
    rw [HRV.out]
    have hz:=HR3.out.put9 (.int .i64 x) (.int .i64 y) (.int .i8 t) (.int .i8 0) (.int .i64 (-1)) (.int .u8 (ca:Int)) (.int .i64 ps) (.int .i64 ha) (.int .i64 fu)
    clear u0 u1 u2 u3 u4 u5 u6 u7 u8 r0 r1 r2 r3 r4 r5 r6 r7 r8 rf
    obtain ⟨r0,r1,r2,r3,r4,r5,r6,r7,r8⟩:=hz.h9
    clear hz
    simp [results,Tryz.results50,go_sem,unV,r0,r1,r2,r3,r4,r5,r6,r7,r8]
end Go.Proofs.YtbccbgonlmkpkaaGreatDoor
namespace Go.Proofs.YtbccbgonlmkpkaaGreatDoor
open Go.RowKit Go.Sort
def ParsedQ (w:World) (o:Option Po) (e:Ending) (w':World):Prop :=
 match o with
 | none=>e=.returned (.tuple #[.agg #[.int .i64 0,.int .i64 0,.slice none 0 0,.bool false,.int .u8 0,.int .i64 0,.int .i64 0,.int .i64 0],.int .i64 6])/\Below w.heap.size w w'
 | some p=>∃ v,e=.returned (.tuple #[.agg #[.int .i64 p.F,.int .i64 p.R,v,.bool p.bl,.int .u8 (p.ca:Int),.int .i64 p.ps,.int .i64 p.ha,.int .i64 p.fu],.int .i64 0])/\w'.ownsRow w.heap.size 28 1 v p.l.length (vpcs p.l)/\Below w.heap.size w w'
theorem ParsedQ.no {w w':World} {o:Option Po} (h:o=none) (hb:Below w.heap.size w w'):ParsedQ w o (.returned (.tuple #[.agg #[.int .i64 0,.int .i64 0,.slice none 0 0,.bool false,.int .u8 0,.int .i64 0,.int .i64 0,.int .i64 0],.int .i64 6])) w':=by
 subst h
 exact ⟨rfl,hb⟩
theorem ParsedQ.yes {w w':World} {o:Option Po} {F R:Int} {l:List Int} {bl:Bool} {ca:Nat} {ps ha fu:Int} {v:Value} (h:o=some ⟨F,R,l,bl,ca,ps,ha,fu⟩) (ho:w'.ownsRow w.heap.size 28 1 v l.length (vpcs l)) (hb:Below w.heap.size w w'):ParsedQ w o (.returned (.tuple #[.agg #[.int .i64 F,.int .i64 R,v,.bool bl,.int .u8 (ca:Int),.int .i64 ps,.int .i64 ha,.int .i64 fu],.int .i64 0])) w':=by
 subst h
 exact ⟨_,rfl,ho,hb⟩
theorem st8 {W:World} {b:Nat} {F0 R0:Int} {v0:Value} {bl0:Bool} {ca0:Nat} {ps0 ha0 fu0:Int} (h:Bx8 W b F0 R0 v0 bl0 ca0 ps0 ha0 fu0) (F R:Int) (v:Value) (bl:Bool) (ca:Nat) (ps ha fu:Int) :
  Bx8 ((((((((W.setCell ⟨b,0,none⟩ (.int .i64 F)).setCell ⟨b,1,none⟩ (.int .i64 R)).setCell ⟨b,2,none⟩ v).setCell ⟨b,3,none⟩ (.bool bl)).setCell ⟨b,4,none⟩ (.int .u8 (ca:Int))).setCell ⟨b,5,none⟩ (.int .i64 ps)).setCell ⟨b,6,none⟩ (.int .i64 ha)).setCell ⟨b,7,none⟩ (.int .i64 fu)) b F R v bl ca ps ha fu:=by
 obtain ⟨⟨x0,x1,x2,x3,x4,x5,x6,x7⟩,xf⟩:=h
 refine ⟨⟨?_,?_,?_,?_,?_,?_,?_,?_⟩,fun o=>?_⟩ <;> simp [go_sem,x0,x1,x2,x3,x4,x5,x6,x7,xf]
theorem below8 {B b:Nat} {V W:World} (h:Below B V W) (hb:B<=b) (v0 v1 v2 v3 v4 v5 v6 v7:Value) :
  Below B V ((((((((W.setCell ⟨b,0,none⟩ v0).setCell ⟨b,1,none⟩ v1).setCell ⟨b,2,none⟩ v2).setCell ⟨b,3,none⟩ v3).setCell ⟨b,4,none⟩ v4).setCell ⟨b,5,none⟩ v5).setCell ⟨b,6,none⟩ v6).setCell ⟨b,7,none⟩ v7) :=
 (((((((h.setCell (p:=⟨b,0,none⟩) hb _).setCell (p:=⟨b,1,none⟩) hb _).setCell (p:=⟨b,2,none⟩) hb _).setCell (p:=⟨b,3,none⟩) hb _).setCell (p:=⟨b,4,none⟩) hb _).setCell (p:=⟨b,5,none⟩) hb _).setCell (p:=⟨b,6,none⟩) hb _).setCell (p:=⟨b,7,none⟩) hb _
theorem own8 {B b:Nat} {W:World} {e:TypeId} {sz:Nat} {v:Value} {n:Nat} {xs:List Value} (h:W.ownsRow B e sz v n xs) (hb:b<B) (v0 v1 v2 v3 v4 v5 v6 v7:Value) :
  World.ownsRow ((((((((W.setCell ⟨b,0,none⟩ v0).setCell ⟨b,1,none⟩ v1).setCell ⟨b,2,none⟩ v2).setCell ⟨b,3,none⟩ v3).setCell ⟨b,4,none⟩ v4).setCell ⟨b,5,none⟩ v5).setCell ⟨b,6,none⟩ v6).setCell ⟨b,7,none⟩ v7) B e sz v n xs :=
 ownsRow_setCell_below (ownsRow_setCell_below (ownsRow_setCell_below (ownsRow_setCell_below (ownsRow_setCell_below (ownsRow_setCell_below (ownsRow_setCell_below (ownsRow_setCell_below h (a:=⟨b,0,none⟩) hb v0) (a:=⟨b,1,none⟩) hb v1) (a:=⟨b,2,none⟩) hb v2) (a:=⟨b,3,none⟩) hb v3) (a:=⟨b,4,none⟩) hb v4) (a:=⟨b,5,none⟩) hb v5) (a:=⟨b,6,none⟩) hb v6) (a:=⟨b,7,none⟩) hb v7
end Go.Proofs.YtbccbgonlmkpkaaGreatDoor
namespace Go.Proofs.YtbccbgonlmkpkaaGreatDoor
open Go.RowKit Go.Sort
def C8 (W:World) (b:Nat) (v0 v1 v2 v3 v4 v5 v6 v7:Value):Prop :=
 W.cell? ⟨b,0,none⟩=some v0/\W.cell? ⟨b,1,none⟩=some v1/\W.cell? ⟨b,2,none⟩=some v2/\W.cell? ⟨b,3,none⟩=some v3/\W.cell? ⟨b,4,none⟩=some v4/\W.cell? ⟨b,5,none⟩=some v5/\W.cell? ⟨b,6,none⟩=some v6/\W.cell? ⟨b,7,none⟩=some v7
theorem C8.below {W W':World} {b:Nat} {v0 v1 v2 v3 v4 v5 v6 v7:Value} (h:C8 W b v0 v1 v2 v3 v4 v5 v6 v7) (hb:Below W.heap.size W W'):C8 W' b v0 v1 v2 v3 v4 v5 v6 v7 :=
 ⟨cBo hb h.1,cBo hb h.2.1,cBo hb h.2.2.1,cBo hb h.2.2.2.1,cBo hb h.2.2.2.2.1,cBo hb h.2.2.2.2.2.1,cBo hb h.2.2.2.2.2.2.1,cBo hb h.2.2.2.2.2.2.2⟩
end Go.Proofs.YtbccbgonlmkpkaaGreatDoor
namespace Go.Proofs.YtbccbgonlmkpkaaGreatDoor
open Go.RowKit Go.Sort
def posL (F R:Int) (v:Value) (bl:Bool) (ca:Nat) (ps ha fu:Int):List Value:=[.int .i64 F,.int .i64 R,v,.bool bl,.int .u8 (ca:Int),.int .i64 ps,.int .i64 ha,.int .i64 fu]
structure Pst (V W:World) (g r n cap:Nat) (F R:Int) (l:List Int) (bl:Bool) (ca:Nat) (ps ha fu:Int):Prop where
 len:l.length=n
 bx:Bxs W g (posL F R (.slice (some ⟨r,0,none⟩) n cap) bl ca ps ha fu)
 row:W.ownsRow V.heap.size 28 1 (.slice (some ⟨r,0,none⟩) n cap) n (vpcs l)
 hg:V.heap.size<=g
 ne:g≠r
 bw:Bw V W
section
variable {V W:World} {g r n cap:Nat} {F R:Int} {l:List Int} {bl:Bool} {ca:Nat} {ps ha fu:Int}
theorem Pst.rlt (h:Pst V W g r n cap F R l bl ca ps ha fu):V.heap.size<=r/\r<W.heap.size:=World.ownsRow.lt h.row r rfl
theorem Pst.glt (h:Pst V W g r n cap F R l bl ca ps ha fu):g<W.heap.size:=h.bx.lt
theorem Pst.below {W':World} (h:Pst V W g r n cap F R l bl ca ps ha fu) (hb:Below W.heap.size W W'):Pst V W' g r n cap F R l bl ca ps ha fu :=
 ⟨h.len,h.bx.below hb h.bx.lt,own_below h.row hb,h.hg,h.ne,h.bw.step hb⟩
theorem Pst.cell (h:Pst V W g r n cap F R l bl ca ps ha fu) {k:Nat} (hk:k<n):W.cell? ⟨r,k,none⟩=some (.int .i8 (l[k]?.getD 0)):=by
 rw [h.row.cellAt k (by omega)]
 have:=h.len
 simp [vpcs,vpc,List.getElem?_eq_getElem (show k<l.length by omega)]
theorem Pst.fz (h:Pst V W g r n cap F R l bl ca ps ha fu) (k:Nat):W.frozen? ⟨r,k,none⟩=false:=h.row.frozenAt k
theorem Pst.rd (h:Pst V W g r n cap F R l bl ca ps ha fu):RdP W W.heap.size (some ⟨r,0,none⟩) l cap:=by
 have h1:=h.row
 rw [<- h.len] at h1
 obtain ⟨A,c,e,_,hr⟩:=RdP.own h1
 injection e with e1 _ e3
 rw [e1,e3]
 exact hr
theorem Pst.capn (h:Pst V W g r n cap F R l bl ca ps ha fu):n<=cap:=by
 have h1:=h.row
 rw [<- h.len] at h1
 obtain ⟨A,c,e,hc,_⟩:=RdP.own h1
 injection e with _ _ e3
 rw [e3,<- h.len]
 exact hc
theorem own_oth {b:Nat} {B e sz m:Nat} {xs:List Value} (ho:W.ownsRow B e sz (.slice (some ⟨r,0,none⟩) m cap) m xs) (hne:r≠b) (k:Nat) (v:Value):(W.setCell ⟨b,k,none⟩ v).ownsRow B e sz (.slice (some ⟨r,0,none⟩) m cap) m xs:=by
 obtain ⟨hl,hh | ⟨g2,cap2,cur,hv,hg,hh,hr⟩⟩:=ho
 ·exact ⟨hl,.inl hh⟩
 ·have hgg:g2≠b:=by
   injection hv with h3 _ _
   injection h3 with h4
   injection h4 with h5 _ _
   rw [<- h5]
   exact hne
  exact ⟨hl,.inr ⟨g2,cap2,cur,hv,hg,(((But.refl b W).setCell k v).block g2 hgg).trans hh,hr⟩⟩
theorem Pst.put (h:Pst V W g r n cap F R l bl ca ps ha fu) (k:Nat) (p:Int):Pst V (W.setCell ⟨r,k,none⟩ (.int .i8 p)) g r n cap F R (l.set k p) bl ca ps ha fu:=by
 have ho:=(h.row.stored k (.int .i8 p)).1
 rw [set_vpcs] at ho
 exact ⟨by rw [List.length_set];exact h.len,h.bx.but ((But.refl r W).setCell k (.int .i8 p)) h.ne,ho,h.hg,h.ne,h.bw.set1 h.rlt.1 k _⟩
theorem Pst.oth (h:Pst V W g r n cap F R l bl ca ps ha fu) {b:Nat} (hb:V.heap.size<=b) (h1:g≠b) (h2:r≠b) (k:Nat) (v:Value):Pst V (W.setCell ⟨b,k,none⟩ v) g r n cap F R l bl ca ps ha fu :=
 ⟨h.len,h.bx.but ((But.refl b W).setCell k v) h1,own_oth h.row h2 k v,h.hg,h.ne,h.bw.set1 hb k _⟩
theorem Pst.setBl (h:Pst V W g r n cap F R l bl ca ps ha fu) (x:Bool):Pst V (W.setCell ⟨g,3,none⟩ (.bool x)) g r n cap F R l x ca ps ha fu :=
 ⟨h.len,h.bx.set 3 (by simp [posL]) (.bool x),own_oth h.row h.ne.symm 3 _,h.hg,h.ne,h.bw.set1 h.hg 3 _⟩
theorem Pst.setCa (h:Pst V W g r n cap F R l bl ca ps ha fu) (x:Nat):Pst V (W.setCell ⟨g,4,none⟩ (.int .u8 (x:Int))) g r n cap F R l bl x ps ha fu :=
 ⟨h.len,h.bx.set 4 (by simp [posL]) (.int .u8 (x:Int)),own_oth h.row h.ne.symm 4 _,h.hg,h.ne,h.bw.set1 h.hg 4 _⟩
theorem Pst.setPs (h:Pst V W g r n cap F R l bl ca ps ha fu) (x:Int):Pst V (W.setCell ⟨g,5,none⟩ (.int .i64 x)) g r n cap F R l bl ca x ha fu :=
 ⟨h.len,h.bx.set 5 (by simp [posL]) (.int .i64 x),own_oth h.row h.ne.symm 5 _,h.hg,h.ne,h.bw.set1 h.hg 5 _⟩
theorem Pst.setHa (h:Pst V W g r n cap F R l bl ca ps ha fu) (x:Int):Pst V (W.setCell ⟨g,6,none⟩ (.int .i64 x)) g r n cap F R l bl ca ps x fu :=
 ⟨h.len,h.bx.set 6 (by simp [posL]) (.int .i64 x),own_oth h.row h.ne.symm 6 _,h.hg,h.ne,h.bw.set1 h.hg 6 _⟩
theorem Pst.setFu (h:Pst V W g r n cap F R l bl ca ps ha fu) (x:Int):Pst V (W.setCell ⟨g,7,none⟩ (.int .i64 x)) g r n cap F R l bl ca ps ha x :=
 ⟨h.len,h.bx.set 7 (by simp [posL]) (.int .i64 x),own_oth h.row h.ne.symm 7 _,h.hg,h.ne,h.bw.set1 h.hg 7 _⟩
end
theorem Bw.self (V:World):Bw V V:=Below.refl _ _
theorem Bxs.al {u:World} {b:Nat} {v:Value} {vs:List Value} (h:Bxs u b (v :: vs)) (o:Obj):Bxs (u.alloc o) b (v :: vs):=h.below (box1 _ _) h.lt
theorem zbx2d {X u:World} {v:Value} {vs us:List Value} {T U:TypeId} (h:Below ((X.alloc (.cells (v :: vs).toArray T)).alloc (.cells us.toArray U)).drew.heap.size ((X.alloc (.cells (v :: vs).toArray T)).alloc (.cells us.toArray U)).drew u):Bxs u X.heap.size (v :: vs)/\Bxs u (X.heap.size+1) us:=by
 obtain ⟨h1,h2,h3⟩:=tb2 X (v :: vs) us T U ⟨_,_,rfl⟩
 exact ⟨h1.below h (by simp;omega),h2.below h (by simp)⟩
theorem pc_get {l:List Int} {k:Nat}:pc l (k:Int)=l[k]?.getD 0:=pc_nat l k
theorem upd_nat (l:List Int) (k:Nat) (p:Int):upd l (k:Int) p=l.set k p:=by unfold upd;rw [Int.toNat_natCast]
theorem newP_row {w:World} {F R:Int} {l:List Int} {bl:Bool} {ca:Nat} {ps ha fu:Int} {e:Ending} {w':World} (h:NewP w F R l bl ca ps ha fu e w') (hl:0<l.length) :
  ∃ r cap:Nat,e=.returned (.agg #[.int .i64 F,.int .i64 R,.slice (some ⟨r,0,none⟩) l.length cap,.bool bl,.int .u8 (ca:Int),.int .i64 ps,.int .i64 ha,.int .i64 fu])/\w'.ownsRow w.heap.size 28 1 (.slice (some ⟨r,0,none⟩) l.length cap) l.length (vpcs l)/\w.heap.size<=r/\r<w'.heap.size/\Below w.heap.size w w':=by
 obtain ⟨v,he,ho,hb⟩:=h
 obtain ⟨r,cap,rfl⟩:=Joins.ownsRow_form ho hl
 obtain ⟨h0,h1⟩:=World.ownsRow.lt ho r rfl
 exact ⟨r,cap,he,ho,h0,h1,hb⟩
end Go.Proofs.YtbccbgonlmkpkaaGreatDoor
namespace Go.Proofs.YtbccbgonlmkpkaaGreatDoor
open Go.RowKit Go.Sort
def brkV (e:Int):Value:=.iface 81 (.int .i64 e)
theorem pRule_yes (e:Int) (w:World) :
  Calls Tryz.prog 44 #[.bool true,.int .i64 e] w fun e' w'=>e'=.returned (.tuple #[])/\w=w':=by
 go_enter Tryz.func44,Tryz.ntmps44
 go_wp2
 go_end0
 exact ⟨rfl,rfl⟩
theorem pRule_no (e:Int) (w:World) :
  Calls Tryz.prog 44 #[.bool false,.int .i64 e] w fun e' w'=>e'=.panicked [{ v:=brkV e,recovered:=false }]/\w=w':=by
 unfold brkV
 go_enter Tryz.func44,Tryz.ntmps44
 go_wp2
 exact ⟨rfl,rfl,rfl⟩
theorem ta_yes (e:Int) (w:World):(Instr.typeAssert (.iface 81 (.int .i64 e)) 20 81 true).run Tryz.prog w=.ok (.tuple #[.int .i64 e,.bool true]) w:=by kernel_rfl
theorem ta_no (w:World):(Instr.typeAssert .nilIface 20 81 true).run Tryz.prog w=.ok (.tuple #[.int .i64 0,.bool false]) w:=by kernel_rfl
def Caught (W W':World) (ga gu ge:Nat) (e:Int):Prop :=
 Bxs W' ga [.int .i64 0,.int .i64 0,.slice none 0 0,.bool false,.int .u8 0,.int .i64 0,.int .i64 0,.int .i64 0]/\Bxs W' gu [.int .i64 0,.int .i64 0,.int .i8 0,.int .i8 0,.int .i64 0,.int .u8 0,.int .i64 0,.int .i64 0,.int .i64 0]/\Bxs W' ge [.int .i64 e]/\∀ V,Bw V W->V.heap.size<=ga->V.heap.size<=gu->V.heap.size<=ge->Bw V W'
theorem catch_yes (ga gu ge:Nat) (h1:ga≠gu) (h2:ga≠ge) (h3:gu≠ge) (e:Int) (w:World) {a0 a1 a2 a3 a4 a5 a6 a7 u0 u1 u2 u3 u4 u5 u6 u7 u8 v0:Value} (ha:Bxs w ga [a0,a1,a2,a3,a4,a5,a6,a7]) (hu9:Bxs w gu [u0,u1,u2,u3,u4,u5,u6,u7,u8]) (he:Bxs w ge [v0]) :
  CallsD Tryz.prog 43 #[.pointer (some ⟨ga,0,none⟩),.pointer (some ⟨gu,0,none⟩),.pointer (some ⟨ge,0,none⟩)] (.panicking ({ v:=brkV e,recovered:=false } :: [])) w fun e' u' w' =>
   e'=.returned (.tuple #[])/\u'=.panicking ({ v:=brkV e,recovered:=true } :: [])/\Caught w w' ga gu ge e:=by
 have HA:=Lib.hid ha
 have HU:=Lib.hid hu9
 have HE:=Lib.hid he
 have hta:=ta_yes e
 clear ha hu9 he
 unfold brkV
 refine callsD_of_wpS Tryz.func43 rfl fun c₀ cs hu=>?_
 apply wpS_seq
 apply wpS_region
 simp [wpOpsS,go_sem,recoverD,hu,Tryz.ntmps43,Exit.thenS,hta]
 apply wpS_seq
 apply wpS_region
 simp [wpOpsS,go_sem,Exit.thenS]
 refine wpS_cond (t:=true) (by simp [Act.eval]) ?_
 simp only [if_true]
 have h4:¬ gu=ga:=Ne.symm h1
 have h5:¬ ge=ga:=Ne.symm h2
 have h6:¬ ge=gu:=Ne.symm h3
 obtain ⟨a_0,a_1,a_2,a_3,a_4,a_5,a_6,a_7⟩:=HA.out.h8
 have af:=HA.out.2
 obtain ⟨u_0,u_1,u_2,u_3,u_4,u_5,u_6,u_7,u_8⟩:=HU.out.h9
 have uf:=HU.out.2
 have e_0:=HE.out.c 0 rfl
 have ef:=HE.out.2
 refine wpS_of_wp ?_
 go_wp2
 refine ⟨rfl,_,rfl,.tuple #[],by simp [results,Tryz.results43],rfl,rfl,?_⟩
 refine ⟨?_,?_,?_,fun V hV v1 v2 v3=>?_⟩
 ·exact ((HA.out.put8 (.int .i64 0) (.int .i64 0) (.slice none 0 0) (.bool false) (.int .u8 0) (.int .i64 0) (.int .i64 0) (.int .i64 0)).oth9 (g:=gu) h1 (.int .i64 0) (.int .i64 0) (.int .i8 0) (.int .i8 0) (.int .i64 0) (.int .u8 0) (.int .i64 0) (.int .i64 0) (.int .i64 0)).but ((But.refl ge _).setCell 0 _) h2
 ·exact ((HU.out.oth8 (g:=ga) h4 (.int .i64 0) (.int .i64 0) (.slice none 0 0) (.bool false) (.int .u8 0) (.int .i64 0) (.int .i64 0) (.int .i64 0)).put9 (.int .i64 0) (.int .i64 0) (.int .i8 0) (.int .i8 0) (.int .i64 0) (.int .u8 0) (.int .i64 0) (.int .i64 0) (.int .i64 0)).but ((But.refl ge _).setCell 0 _) h3
 ·exact ((HE.out.oth8 (g:=ga) h5 (.int .i64 0) (.int .i64 0) (.slice none 0 0) (.bool false) (.int .u8 0) (.int .i64 0) (.int .i64 0) (.int .i64 0)).oth9 (g:=gu) h6 (.int .i64 0) (.int .i64 0) (.int .i8 0) (.int .i8 0) (.int .i64 0) (.int .u8 0) (.int .i64 0) (.int .i64 0) (.int .i64 0)).set 0 (by simp) (.int .i64 e)
 ·exact (bw9 (bw8 hV v1 (.int .i64 0) (.int .i64 0) (.slice none 0 0) (.bool false) (.int .u8 0) (.int .i64 0) (.int .i64 0) (.int .i64 0)) v2 (.int .i64 0) (.int .i64 0) (.int .i8 0) (.int .i8 0) (.int .i64 0) (.int .u8 0) (.int .i64 0) (.int .i64 0) (.int .i64 0)).set1 v3 0 _
theorem catch_no (ga gu ge:Nat) (w:World) :
  CallsD Tryz.prog 43 #[.pointer (some ⟨ga,0,none⟩),.pointer (some ⟨gu,0,none⟩),.pointer (some ⟨ge,0,none⟩)] .returning w fun e' u' w'=>e'=.returned (.tuple #[])/\u'=.returning/\w'=w:=by
 have hta:=ta_no
 refine callsD_of_wpS Tryz.func43 rfl fun c₀ cs hu=>?_
 apply wpS_seq
 apply wpS_region
 simp [wpOpsS,go_sem,recoverD,hu,Tryz.ntmps43,Exit.thenS,hta]
 apply wpS_seq
 apply wpS_region
 simp [wpOpsS,go_sem,Exit.thenS]
 refine wpS_cond (t:=false) (by simp [Act.eval]) ?_
 simp only [Bool.false_eq_true,if_false]
 refine wpS_of_wp (wp_skip ?_)
 cases c₀
 simp_all [bodyPostS,results,Tryz.results43]
end Go.Proofs.YtbccbgonlmkpkaaGreatDoor
