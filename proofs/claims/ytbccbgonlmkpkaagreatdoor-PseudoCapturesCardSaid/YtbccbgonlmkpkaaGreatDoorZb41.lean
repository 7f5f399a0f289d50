/- What the theorem needs, piece Zb41. -/
import Derived.Test.YtbccbgonlmkpkaaGreatDoorZb40
import Derived.Laws.AppendOwnNone
import Derived.OwnWalk
import Derived.Test.YtbccbgonlmkpkaaGreatDoorZb21
import Derived.Test.YtbccbgonlmkpkaaGreatDoorZb25
import Derived.Test.YtbccbgonlmkpkaaGreatDoorZb35
import Derived.Test.YtbccbgonlmkpkaaGreatDoorZb20
import Derived.Test.YtbccbgonlmkpkaaGreatDoorZb26
import Derived.Test.YtbccbgonlmkpkaaGreatDoorZb06
import Derived.Test.YtbccbgonlmkpkaaGreatDoorZb38
set_option linter.unusedSimpArgs false
set_option linter.unusedVariables false
set_option maxRecDepth 100000
set_option maxHeartbeats 16000000
namespace Go.Proofs.YtbccbgonlmkpkaaGreatDoor
open Go.RowKit Go.Sort
theorem rSo_any (F R:Int) (l:List Int) (A:Option Addr) (c:Nat) (bl:Bool) (ca:Nat) (ps ha fu:Int) (x y t:Int) (hbd:vbd F R l) (hca:ca<256) (hx:vat F R x) (hy:vat F R y) (ho:orthB (pc l x)=true) (hc8:∀ bit,bit=1\/bit=2\/bit=4\/bit=8->poBit ca bit=true->F=8/\R=8) (w:World) (hA:RdP w w.heap.size A l c) :
  Calls Tryz.prog 55 #[.agg #[.int .i64 F,.int .i64 R,.slice A l.length c,.bool bl,.int .u8 (ca:Int),.int .i64 ps,.int .i64 ha,.int .i64 fu],.agg #[.int .i64 x,.int .i64 y,.int .i8 t]] w fun e w'=>e=.returned (.bool (soM ⟨F,R,l,bl,ca,ps,ha,fu⟩ ⟨x,y,t⟩))/\Below w.heap.size w w':=by
 have hl:=hbd.2.1
 have hl64:l.length<=64:=by have:=(vsz_mul hbd.1).2;omega
 have HK:=Lib.hid (fun w=>rKind_or (pc l x) ho w)
 have HKB:Hid (∀ w,Calls Tryz.prog 65 #[.int .i8 (pc l x)] w fun e w'=>e=.returned (.int .i8 (kdP (pc l x)))/\Below w.heap.size w w'):=Lib.hid (fun w=>(rKind_or (pc l x) ho w).mono (by
  rintro e w' ⟨rfl,rfl⟩
  exact ⟨rfl,Below.refl _ _⟩))
 have HOW:Hid (∀ w,Calls Tryz.prog 54 #[.int .i8 (pc l y),.bool bl] w fun e w'=>e=.returned (.bool (ownB (pc l y) bl))/\Below w.heap.size w w'):=Lib.hid (fun w=>(rOwn_any (pc l y) bl w).mono (by
  rintro e w' ⟨rfl,rfl⟩
  exact ⟨rfl,Below.refl _ _⟩))
 have HPW:=Lib.hid (fun w hA=>rPwnM_any F R l A c bl ca ps ha fu x y t hbd hx hy w hA)
 have HCS:=Lib.hid (fun w hA=>rCstl_any F R l A c bl ca ps ha fu x y t hca hl64 ⟨hx.2.1,by have:=hx.2.2;omega⟩ ho hc8 hl w hA)
 have HOC:=Lib.hid (fun w hA=>rOcc_any F R l A c w hl64 hbd.2.2 hA)
 have eX:occX l=ofL (occL l):=rfl
 rw [<- eX] at HOC
 have HOF:=Lib.hid (rOf_any F R l A c bl ca ps ha fu)
 have hX:occX l<18446744073709551616:=by
  have:=ofL_lt (l:=occL l) (n:=64) (fun i hi=>by
   unfold occL at hi
   rcases List.mem_append.1 hi with h | h <;> have:=idx_lt h <;> omega)
  simpa [occX] using this
 have HRE:Hid (kdP (pc l x)≠1->∀ w,Calls Tryz.prog 122 #[.agg #[.int .i64 F,.int .i64 R],.int .i8 (kdP (pc l x)),.int .i64 x,.int .i64 y,.int .u64 (occX l:Int)] w fun e w'=>e=.returned (.bool (reachB F R (kdP (pc l x)) x y (occX l)))/\Below w.heap.size w w'):=Lib.hid (fun h=>reaches_any F R (kdP (pc l x)) x y ((kdP_or ho).resolve_left h) hx hy (occX l) hX)
 have HCV:Hid (soM ⟨F,R,l,bl,ca,ps,ha,fu⟩ ⟨x,y,t⟩=(!ownB (pc l y) bl && (if kdP (pc l x)=1 then pwnM ⟨F,R,l,bl,ca,ps,ha,fu⟩ ⟨x,y,t⟩ else (decide (casM ⟨F,R,l,bl,ca,ps,ha,fu⟩ ⟨x,y,t⟩≠0) || (t == 0 && reachB F R (kdP (pc l x)) x y (occX l)))))):=Lib.hid rfl
 generalize casM ⟨F,R,l,bl,ca,ps,ha,fu⟩ ⟨x,y,t⟩=cs at *
 generalize pwnM ⟨F,R,l,bl,ca,ps,ha,fu⟩ ⟨x,y,t⟩=pm at *
 obtain ⟨n,rfl⟩:∃ n:Nat,x=(n:Int):=⟨x.toNat,by have:=hx.2.1;omega⟩
 obtain ⟨k,rfl⟩:∃ k:Nat,y=(k:Int):=⟨y.toNat,by have:=hy.2.1;omega⟩
 have hn:n<l.length:=by have:=hx.2.2;omega
 have hk:k<l.length:=by have:=hy.2.2;omega
 obtain ⟨ad,rfl,hb,hc⟩:=hA.at_ hk
 obtain ⟨ad2,e2,hb2,hc2⟩:=hA.at_ hn
 obtain rfl:ad=ad2:=by simpa using e2
 rw [<- pc_nat] at hc hc2
 clear hx hy hbd hl hX eX e2 hb2 ho hc8
 have B1:=box1 w (.cells #[.int .i64 F,.int .i64 R,.slice (some ad) l.length c,.bool bl,.int .u8 (ca:Int),.int .i64 ps,.int .i64 ha,.int .i64 fu] 26)
 have B2:=box1 (w.alloc (.cells #[.int .i64 F,.int .i64 R,.slice (some ad) l.length c,.bool bl,.int .u8 (ca:Int),.int .i64 ps,.int .i64 ha,.int .i64 fu] 26)) (.cells #[.int .i64 (n:Int),.int .i64 (k:Int),.int .i8 t] 30)
 have HX0:=Lib.hid ((box8 w F R (.slice (some ad) l.length c) bl ca ps ha fu).below B2 (by simp))
 have HM0:=(box3 (w.alloc (.cells #[.int .i64 F,.int .i64 R,.slice (some ad) l.length c,.bool bl,.int .u8 (ca:Int),.int .i64 ps,.int .i64 ha,.int .i64 fu] 26)) (n:Int) (k:Int) t)
 rw [World.size_alloc] at HM0
 replace HM0:=Lib.hid HM0
 have hcy:=cBo B2 (cBo B1 hc)
 have hcx0:=cBo B2 (cBo B1 hc2)
 have HA0:=Lib.hid (rdBo B2 (rdBo B1 hA))
 have hB0:=chain B1 B2
 clear hc hc2 B1 B2 hA
 generalize reachB F R (kdP (pc l (n:Int))) (n:Int) (k:Int) (occX l)=rb at *
 generalize occX l=X at *
 generalize ownB (pc l (k:Int)) bl=ow at *
 generalize hkd:kdP (pc l (n:Int))=kd at *
 clear hkd
 generalize pc l (n:Int)=q at *
 generalize pc l (k:Int)=r at *
 go_enter Tryz.func55,Tryz.ntmps55
 obtain ⟨⟨z0,z1,z2,z3,z4,z5,z6,z7⟩,zf⟩:=HX0.out
 obtain ⟨⟨m0,m1,m2⟩,mf⟩:=HM0.out
 clear zf mf
 go_wp2_with fail
 generalize (w.alloc (.cells #[.int .i64 F,.int .i64 R,.slice (some ad) l.length c,.bool bl,.int .u8 (ca:Int),.int .i64 ps,.int .i64 ha,.int .i64 fu] 26)).alloc (.cells #[.int .i64 (n:Int),.int .i64 (k:Int),.int .i8 t] 30)=V at *
 have kq0:=cell_regrown z1
 have kq1:=cell_regrown z2
 have kq2:=cell_regrown z3
 have kq3:=cell_regrown m1
 have kq4:=cell_regrown hcy
 refine wp_region_quiet_below (by kernel_rfl) (by kernel_rfl) ?_
 repeat (go_big_quiet_step (first | (go_at_call 54;exact Calls.regrown_of (HOW.out _))))
 refine wpQuiet_nil ?_
 rintro _ ⟨⟨dq,osq⟩,rfl⟩
 have hQ:=below_regrown V dq osq
 have hq1:=hQ
 clear kq0 kq1 kq2 kq3 kq4 hQ hcy HOW
 generalize grow (redrawn V dq) osq=w1 at *
 have HX1:=Lib.hid (HX0.out.below hq1 (by have:=HX0.out.lt;omega))
 have HM1:=Lib.hid (HM0.out.below hq1 (by have:=HM0.out.lt;omega))
 have HA1:=Lib.hid (rdBo hq1 HA0.out)
 have hcx1:=cBo hq1 hcx0
 have hB1:=chain hB0 hq1
 clear hB0 hq1 HX0 HM0 HA0 hcx0 z0 z1 z2 z3 z4 z5 z6 z7 m0 m1 m2
 obtain ⟨⟨z0,z1,z2,z3,z4,z5,z6,z7⟩,zf⟩:=HX1.out
 obtain ⟨⟨m0,m1,m2⟩,mf⟩:=HM1.out
 clear zf mf
 cases ow
 case true =>
  go_wp2
  go_ret
  exact ⟨by rw [HCV.out];rfl,hB1⟩
 case false =>
  go_wp2_with fail
  refine (HK.out _).mono ?_
  rintro e wk ⟨rfl,rfl⟩
  by_cases h1:kd=1
  ·have e1:(kd == 1)=true:=by simp [h1]
   have HV:=HCV.out
   rw [if_pos h1] at HV
   replace HV:=Lib.hid HV
   clear h1 HCV
   go_wp2_with fail
   refine (HPW.out _ HA1.out).mono ?_
   rintro e w2 ⟨rfl,hq⟩
   go_wp2
   go_ret
   exact ⟨by rw [HV.out];rfl,chain hB1 hq⟩
  ·have e1:(kd == 1)=false:=by simp [h1]
   have HV:=HCV.out
   rw [if_neg h1] at HV
   replace HV:=Lib.hid HV
   have HR1:=Lib.hid (HRE.out h1)
   clear h1 HCV HRE HPW
   go_wp2_with fail
   refine (HCS.out _ HA1.out).mono ?_
   rintro e w2 ⟨rfl,hq2⟩
   have HX2:=Lib.hid (HX1.out.below hq2 (by have:=HX1.out.lt;omega))
   have HM2:=Lib.hid (HM1.out.below hq2 (by have:=HM1.out.lt;omega))
   have HA2:=Lib.hid (rdBo hq2 HA1.out)
   have hcx2:=cBo hq2 hcx1
   have hB2:=chain hB1 hq2
   clear hB1 hq2 HX1 HM1 HA1 hcx1 z0 z1 z2 z3 z4 z5 z6 z7 m0 m1 m2
   obtain ⟨⟨z0,z1,z2,z3,z4,z5,z6,z7⟩,zf⟩:=HX2.out
   obtain ⟨⟨m0,m1,m2⟩,mf⟩:=HM2.out
   clear zf mf
   by_cases hc0:cs=0
   ·have ec:((cs:Int) != 0)=false:=by simp [hc0]
    have HV2:=HV.out
    rw [decide_eq_false (by simp [hc0])] at HV2
    replace HV2:=Lib.hid HV2
    clear hc0 HV
    by_cases ht:t=0
    ·have et:(t == 0)=true:=by simp [ht]
     rw [et] at HV2
     clear ht
     go_wp2_with fail
     have kq0:=cell_regrown z0
     have kq1:=cell_regrown z1
     have kq2:=cell_regrown z2
     have kq3:=cell_regrown z3
     have kq4:=cell_regrown z4
     have kq5:=cell_regrown z5
     have kq6:=cell_regrown z6
     have kq7:=cell_regrown z7
     have kq8:=cell_regrown m0
     have kq9:=cell_regrown m1
     have kq10:=cell_regrown m2
     have kq11:=cell_regrown hcx2
     refine wp_region_quiet_below (by kernel_rfl) (by kernel_rfl) ?_
     repeat (go_big_quiet_step (first | (go_at_call 65;exact Calls.regrown_of (HKB.out _)) | (go_at_call 61;exact Calls.regrown_of (HOF.out _)) | (go_at_call 123;exact Calls.regrown_of (HOC.out _ (rdBo (below_regrown w2 _ _) HA2.out))) | (go_at_call 122;exact Calls.regrown_of (HR1.out _))))
     refine wpQuiet_nil ?_
     rintro _ ⟨⟨dq,osq⟩,rfl⟩
     have hQ:=below_regrown w2 dq osq
     go_wp2
     go_ret
     exact ⟨by rw [HV2.out];rfl,chain hB2 hQ⟩
    ·have et:(t == 0)=false:=by simp [ht]
     rw [et] at HV2
     clear ht
     go_wp2_with fail
     have kq0:=cell_regrown z0
     have kq1:=cell_regrown z1
     have kq2:=cell_regrown z2
     have kq3:=cell_regrown z3
     have kq4:=cell_regrown z4
     have kq5:=cell_regrown z5
     have kq6:=cell_regrown z6
     have kq7:=cell_regrown z7
     have kq8:=cell_regrown m0
     have kq9:=cell_regrown m1
     have kq10:=cell_regrown m2
     have kq11:=cell_regrown hcx2
     refine wp_region_quiet_below (by kernel_rfl) (by kernel_rfl) ?_
     repeat (go_big_quiet_step (first | (go_at_call 65;exact Calls.regrown_of (HKB.out _)) | (go_at_call 61;exact Calls.regrown_of (HOF.out _)) | (go_at_call 123;exact Calls.regrown_of (HOC.out _ (rdBo (below_regrown w2 _ _) HA2.out))) | (go_at_call 122;exact Calls.regrown_of (HR1.out _))))
     refine wpQuiet_nil ?_
     rintro _ ⟨⟨dq,osq⟩,rfl⟩
     have hQ:=below_regrown w2 dq osq
     go_wp2
     go_ret
     exact ⟨by rw [HV2.out];rfl,chain hB2 hQ⟩
   ·have ec:((cs:Int) != 0)=true:=by simp [hc0]
    have HV2:=HV.out
    rw [decide_eq_true hc0] at HV2
    replace HV2:=Lib.hid HV2
    clear hc0 HV
    go_wp2
    go_ret
    exact ⟨by rw [HV2.out];rfl,hB2⟩
end Go.Proofs.YtbccbgonlmkpkaaGreatDoor
namespace Go.Proofs.YtbccbgonlmkpkaaGreatDoor
open Go.RowKit Go.Sort
theorem wpList_append_mvs {w:World} {ops:Array Oper} {rest:List Oper} {o:Oper} {a:Act} {Q:Exit->Act->World->Prop} (hgd:o.guard=none) (s x:Operand)
  (ho:o.op=.call { callee:=.builtin .append,args:=#[s,x],argTypes:=#[49,49] }) (base b2:Nat) (v v2:Value) (L1 L2:List Mv) (hs:a.eval s=v) (hown:w.ownsRow base 30 3 v L1.length (vmvs L1))
  (hx:a.eval x=v2) (hown2:w.ownsRow b2 30 3 v2 L2.length (vmvs L2)) (hlen:L1.length+L2.length<=100000) (hb:base<=w.heap.size)
  (h:∀ v' w',w'.ownsRow base 30 3 v' (L1 ++ L2).length (vmvs (L1 ++ L2))->w.grownBy w' v.ownBlock->wpList Tryz.prog ops Q rest (a.put o.dst v') w'):wpList Tryz.prog ops Q (o :: rest) a w:=by
 obtain ⟨i0,hi,hz0,hz1,hz2⟩:=info_parts infoMv
 obtain ⟨hl2,⟨rfl,hn⟩ | ⟨g,cap,cur,rfl,_⟩⟩:=id hown2
 ·have he:L2=[]:=List.length_eq_zero_iff.1 hn
  subst he
  refine wpList_append_own_none hgd s x 49 ho base 30 i0 3 Tryz.underlying49 hi v _ _ hs hown hx ?_
  exact h v w (by simpa using hown) ⟨rfl,rfl,rfl,Nat.le_refl _,fun _ _ _=>rfl⟩
 ·refine wpList_append_own w hgd s x 49 ho base 30 i0 (.agg #[.int .i64 0,.int .i64 0,.int .i8 0]) 3 24 Tryz.underlying49 hi hz0 hz1 hz2 rfl (by decide) v _ _ hs hown ⟨g,0,none⟩ L2.length cap (vmvs L2) hx (vmvs_len L2) ?_ vmvs_cell (by unfold maxLen;omega) (by omega) hb ?_
  ·intro j u hj
   have hjl:j<L2.length * 3:=by
    have:=List.getElem?_eq_some_iff.1 hj
    obtain ⟨h1,_⟩:=this
    rw [vmvs_len] at h1
    exact h1
   have:=hown2.cellAt j hjl
   rw [hj] at this
   by_cases hj0:j=0
   ·subst hj0;simpa [Addr.add] using this
   ·simpa [Addr.add,hj0] using this
  ·intro v' w' h1 h2 _
   exact h v' w' (by rw [List.length_append,vmvs_app];exact h1) h2
theorem heap_bel {W W':World} {g:Nat} {o:Obj} (h:W.heap[g]?=some o) (hb:Below W.heap.size W W'):W'.heap[g]?=some o:=(hb.block g (Array.getElem?_eq_some_iff.1 h).1).trans h
theorem heap_al {W:World} {g:Nat} {o:Obj} (h:W.heap[g]?=some o) (o2:Obj):(W.alloc o2).heap[g]?=some o:=heap_bel h (box1 W o2)
theorem heap_grow {W W':World} {g:Nat} {o:Obj} {row:Option Nat} (h:W.heap[g]?=some o) (hg:W.grownBy W' row) (hne:some g≠row):W'.heap[g]?=some o:=(hg.block g (Array.getElem?_eq_some_iff.1 h).1 hne).trans h
theorem row_ne {W:World} {g:Nat} {cs:Array Value} {t e:TypeId} (h:W.heap[g]?=some (.cells cs t (0,0))) (hte:t≠e) {base size k:Nat} {v:Value} {xs:List Value} (hr:W.ownsRow base e size v k xs):some g≠v.ownBlock:=by
 rcases hr.2 with ⟨rfl,_⟩ | ⟨g2,cap,cur,rfl,_,hgb,_⟩
 ·simp [Value.ownBlock]
 ·intro e'
  obtain rfl:g=g2:=by simpa [Value.ownBlock] using e'
  have:=h.symm.trans hgb
  simp at this
  exact hte this.2
theorem rIs9_any (F R:Int) (l:List Int) (A:Option Addr) (c:Nat) (bl:Bool) (ca:Nat) (ps ha fu:Int) (x y t:Int) (hp:OkP ⟨F,R,l,bl,ca,ps,ha,fu⟩) (hm:okM F R ⟨x,y,t⟩) (w:World) (hA:RdP w w.heap.size A l c) :
  Calls Tryz.prog 35 #[.agg #[.int .i64 F,.int .i64 R,.slice A l.length c,.bool bl,.int .u8 (ca:Int),.int .i64 ps,.int .i64 ha,.int .i64 fu],.agg #[.int .i64 x,.int .i64 y,.int .i8 t]] w fun e w'=>e=.returned (.bool (psB ⟨F,R,l,bl,ca,ps,ha,fu⟩ ⟨x,y,t⟩))/\Below w.heap.size w w':=by
 have hx:vat F R x:=hm.1
 have hca:ca<256:=by have h1:ca<=15:=cas_ca hp.cas;omega
 have HSO:=Lib.hid (fun ho w hA=>rSo_any F R l A c bl ca ps ha fu x y t hp.vbd hca hx hm.2.1 ho (fun bit hb hc=>by obtain ⟨a,b,_⟩:=cas_home hp.cas hb hc;exact ⟨a,b⟩) w hA)
 have HOR:=Lib.hid (hp.orth x)
 simp only at HOR
 have HR:Hid (psB ⟨F,R,l,bl,ca,ps,ha,fu⟩ ⟨x,y,t⟩=(ownB (pc l x) bl && soM ⟨F,R,l,bl,ca,ps,ha,fu⟩ ⟨x,y,t⟩)):=Lib.hid rfl
 obtain ⟨n,rfl⟩:∃ n:Nat,x=(n:Int):=⟨x.toNat,by have:=hx.2.1;omega⟩
 have hn:n<l.length:=by have:=hx.2.2;have h2:(l.length:Int)=F * R:=hp.len;omega
 have B1:=box1 (w) (.cells #[.int .i64 F,.int .i64 R,.slice A l.length c,.bool bl,.int .u8 (ca:Int),.int .i64 ps,.int .i64 ha,.int .i64 fu] 26)
 have B2:=box1 (w.alloc (.cells #[.int .i64 F,.int .i64 R,.slice A l.length c,.bool bl,.int .u8 (ca:Int),.int .i64 ps,.int .i64 ha,.int .i64 fu] 26)) (.cells #[.int .i64 (n:Int),.int .i64 y,.int .i8 t] 30)
 have hHP:=Bxs.new (w) [.int .i64 F,.int .i64 R,.slice A l.length c,.bool bl,.int .u8 (ca:Int),.int .i64 ps,.int .i64 ha,.int .i64 fu] 26
 have hHM:=Bxs.new (w.alloc (.cells #[.int .i64 F,.int .i64 R,.slice A l.length c,.bool bl,.int .u8 (ca:Int),.int .i64 ps,.int .i64 ha,.int .i64 fu] 26)) [.int .i64 (n:Int),.int .i64 y,.int .i8 t] 30
 rw [World.size_alloc] at hHM
 have HP0:=Lib.hid (hHP.below B2 hHP.lt)
 have HM0:=Lib.hid (hHM)
 have hB:=(chain B1 B2)
 have HB0:Hid (Bw w ((w.alloc (.cells #[.int .i64 F,.int .i64 R,.slice A l.length c,.bool bl,.int .u8 (ca:Int),.int .i64 ps,.int .i64 ha,.int .i64 fu] 26)).alloc (.cells #[.int .i64 (n:Int),.int .i64 y,.int .i8 t] 30))):=Lib.hid hB
 have HA0:=Lib.hid (rdBo hB hA)
 clear hB B1 B2 hHP hHM hA hx hca hp hm
 obtain ⟨q,hq⟩:∃ q,pc l (n:Int)=q:=⟨_,rfl⟩
 rw [hq] at HSO HOR HR
 have HQ:=Lib.hid hq
 clear hq
 go_enter Tryz.func35,Tryz.ntmps35
 go_upto_region 1 with fail
 generalize (w.alloc (.cells #[.int .i64 F,.int .i64 R,.slice A l.length c,.bool bl,.int .u8 (ca:Int),.int .i64 ps,.int .i64 ha,.int .i64 fu] 26)).alloc (.cells #[.int .i64 (n:Int),.int .i64 y,.int .i8 t] 30)=V at *
 obtain ⟨ad,hAe,hadb,hadc⟩:=HA0.out.at_ hn
 rw [<- pc_nat,HQ.out] at hadc
 obtain rfl:=hAe
 have hn2:(n:Int)<(l.length:Int):=by omega
 have hn0:(0:Int)<=(n:Int):=by omega
 obtain ⟨p0,p1,p2,p3,p4,p5,p6,p7⟩:=HP0.out.h8
 obtain ⟨m0,m1,m2⟩:=HM0.out.h3
 go_upto_region 2 with fail
 by_cases h0:q=0
 ·have hz:(q != 0)=false:=by simp [h0]
  have HV:Hid (ownB q bl=false):=Lib.hid (by unfold ownB;rw [decide_eq_false (fun h=>h h0)];rfl)
  clear h0
  go_wp2
  go_ret
  exact ⟨by rw [HR.out,HV.out];rfl,HB0.out⟩
 ·have hz:(q != 0)=true:=by simp [h0]
  have HV:Hid (ownB q bl=(decide (q<0) == bl)):=Lib.hid (by unfold ownB;rw [decide_eq_true h0];rfl)
  have HS1:=Lib.hid (HSO.out (HOR.out.resolve_left h0))
  clear h0
  by_cases hs:q<0
  ·cases bl
   ·skip
    have HV2:Hid (ownB q false=false):=Lib.hid (by rw [HV.out];simp [hs])
    go_wp2
    go_ret
    exact ⟨by rw [HR.out,HV2.out];rfl,HB0.out⟩
   ·skip
    have HV2:Hid (ownB q true=true):=Lib.hid (by rw [HV.out];simp [hs])
    go_wp2_with fail
    refine (HS1.out _ HA0.out).mono ?_
    rintro e w1 ⟨rfl,hq⟩
    have hB1:=chain HB0.out hq
    go_wp2
    go_ret
    exact ⟨by rw [HR.out,HV2.out];rfl,hB1⟩
  ·cases bl
   ·skip
    have HV2:Hid (ownB q false=true):=Lib.hid (by rw [HV.out];simp [hs])
    go_wp2_with fail
    refine (HS1.out _ HA0.out).mono ?_
    rintro e w1 ⟨rfl,hq⟩
    have hB1:=chain HB0.out hq
    go_wp2
    go_ret
    exact ⟨by rw [HR.out,HV2.out];rfl,hB1⟩
   ·skip
    have HV2:Hid (ownB q true=false):=Lib.hid (by rw [HV.out];simp [hs])
    go_wp2
    go_ret
    exact ⟨by rw [HR.out,HV2.out];rfl,HB0.out⟩
def prN (j:Nat):Int:=if j=0 then 0 else (j:Int)+1
def psdJ (p:Po) (a b:Int) (j:Nat):List Mv:=((List.range j).filterMap fun i=>if decide (okM p.F p.R ⟨a,b,prN i⟩) && psB p ⟨a,b,prN i⟩ then some ⟨a,b,prN i⟩ else none)
theorem psdJ_all (p:Po) (a b:Int):psdJ p a b 5=psdT p a b:=rfl
theorem psdJ_yes (p:Po) (a b:Int) (j:Nat) (h1:okM p.F p.R ⟨a,b,prN j⟩) (h2:psB p ⟨a,b,prN j⟩=true):psdJ p a b (j+1)=psdJ p a b j ++ [⟨a,b,prN j⟩]:=by
 unfold psdJ
 rw [List.range_succ,List.filterMap_append]
 simp [h1,h2]
theorem psdJ_no (p:Po) (a b:Int) (j:Nat) (h:¬ (okM p.F p.R ⟨a,b,prN j⟩/\psB p ⟨a,b,prN j⟩=true)):psdJ p a b (j+1)=psdJ p a b j:=by
 unfold psdJ
 rw [List.range_succ,List.filterMap_append]
 by_cases h1:okM p.F p.R ⟨a,b,prN j⟩
 ·have h2:psB p ⟨a,b,prN j⟩=false:=by
   cases hc:psB p ⟨a,b,prN j⟩
   ·rfl
   ·exact absurd ⟨h1,hc⟩ h
  simp [h2]
 ·simp [h1]
def psdK (p:Po) (a:Int) (k:Nat):List Mv:=(List.range k).flatMap fun (b:Nat)=>psdT p a (b:Int)
theorem psdK_all (p:Po) (a:Int):psdK p a p.l.length=psdF p a:=rfl
theorem psdK_succ (p:Po) (a:Int) (k:Nat):psdK p a (k+1)=psdK p a k ++ psdT p a (k:Int):=by
 unfold psdK
 rw [List.range_succ,List.flatMap_append]
 simp
theorem psdJ_len (p:Po) (a b:Int) (j:Nat):(psdJ p a b j).length<=j:=by
 unfold psdJ
 exact Nat.le_trans (List.length_filterMap_le _ _) (by simp)
theorem psdK_len (p:Po) (a:Int):∀ k,(psdK p a k).length<=5 * k
 | 0=>by simp [psdK]
 | k+1=>by
  have:=psdK_len p a k
  have h2:=psdJ_len p a (k:Int) 5
  rw [psdJ_all] at h2
  rw [psdK_succ,List.length_append]
  omega
theorem prN_cell (j:Nat) (h:j<5):([.int .i8 0,.int .i8 2,.int .i8 3,.int .i8 4,.int .i8 5]:List Value)[j]?=some (.int .i8 (prN j)):=by
 match j,h with
 | 0,_=>rfl
 | 1,_=>rfl
 | 2,_=>rfl
 | 3,_=>rfl
 | 4,_=>rfl
theorem own_lq2 {W:World} {B B' e sz n:Nat} {v:Value} {xs:List Value} (ho:W.ownsRow B e sz v n xs) (h:B'<=B):W.ownsRow B' e sz v n xs:=by
 obtain ⟨hl,hh | ⟨g2,cap2,cur,hv,hgB,hh,hr⟩⟩:=ho
 ·exact ⟨hl,.inl hh⟩
 ·exact ⟨hl,.inr ⟨g2,cap2,cur,hv,Nat.le_trans h hgB,hh,hr⟩⟩
theorem rFrm9_any (F R:Int) (l:List Int) (A:Option Addr) (c:Nat) (bl:Bool) (ca:Nat) (ps ha fu:Int) (at_:Int) (hp:OkP ⟨F,R,l,bl,ca,ps,ha,fu⟩) (hx:vat F R at_) (w:World) (hA:RdP w w.heap.size A l c) :
  Calls Tryz.prog 33 #[.agg #[.int .i64 F,.int .i64 R,.slice A l.length c,.bool bl,.int .u8 (ca:Int),.int .i64 ps,.int .i64 ha,.int .i64 fu],.int .i64 at_] w fun e w'=>∃ v,e=.returned v/\w'.ownsRow w.heap.size 30 3 v (psdF ⟨F,R,l,bl,ca,ps,ha,fu⟩ at_).length (vmvs (psdF ⟨F,R,l,bl,ca,ps,ha,fu⟩ at_))/\Below w.heap.size w w':=by
 obtain ⟨i0,hi,hz0,hz1,hz2⟩:=info_parts infoMv
 have hl64:l.length<=64:=by have:=(vsz_mul hp.hv).2;have h2:(l.length:Int)=F * R:=hp.len;simp only at *;omega
 have HIS:=Lib.hid (fun y t hm w hA=>rIs9_any F R l A c bl ca ps ha fu at_ y t hp hm w hA)
 have HVL:=Lib.hid (fun y t b hb w=>rmValid_any F R at_ y t b hb w)
 have HKA:Hid (psdK ⟨F,R,l,bl,ca,ps,ha,fu⟩ at_ l.length=psdF ⟨F,R,l,bl,ca,ps,ha,fu⟩ at_):=Lib.hid rfl
 have HKS:=Lib.hid (fun k=>psdK_succ ⟨F,R,l,bl,ca,ps,ha,fu⟩ at_ k)
 have HJA:=Lib.hid (fun b=>psdJ_all ⟨F,R,l,bl,ca,ps,ha,fu⟩ at_ b)
 have HJY:=Lib.hid (fun b j h1 h2=>psdJ_yes ⟨F,R,l,bl,ca,ps,ha,fu⟩ at_ b j h1 h2)
 have HJN:=Lib.hid (fun b j h=>psdJ_no ⟨F,R,l,bl,ca,ps,ha,fu⟩ at_ b j h)
 have HLE:Hid (∀ k j b,k<=64->j<=5->(psdK ⟨F,R,l,bl,ca,ps,ha,fu⟩ at_ k ++ psdJ ⟨F,R,l,bl,ca,ps,ha,fu⟩ at_ b j).length<=400):=Lib.hid (fun k j b hk hj=>by
  have h1:=psdK_len ⟨F,R,l,bl,ca,ps,ha,fu⟩ at_ k
  have h2:=psdJ_len ⟨F,R,l,bl,ca,ps,ha,fu⟩ at_ b j
  rw [List.length_append]
  omega)
 have B1:=box1 (w) (.cells #[.int .i64 F,.int .i64 R,.slice A l.length c,.bool bl,.int .u8 (ca:Int),.int .i64 ps,.int .i64 ha,.int .i64 fu] 26)
 have hHP:=Bxs.new (w) [.int .i64 F,.int .i64 R,.slice A l.length c,.bool bl,.int .u8 (ca:Int),.int .i64 ps,.int .i64 ha,.int .i64 fu] 26
 have HP0:=Lib.hid (hHP)
 have hB:=B1
 have HB0:Hid (Bw w (w.alloc (.cells #[.int .i64 F,.int .i64 R,.slice A l.length c,.bool bl,.int .u8 (ca:Int),.int .i64 ps,.int .i64 ha,.int .i64 fu] 26))):=Lib.hid hB
 have HA0:=Lib.hid (rdBo hB hA)
 clear hB B1 hHP hA hx hp
 go_enter Tryz.func33,Tryz.ntmps33
 go_upto_region 1 with fail
 have HSZ:Hid (w.heap.size<(w.alloc (.cells #[.int .i64 F,.int .i64 R,.slice A l.length c,.bool bl,.int .u8 (ca:Int),.int .i64 ps,.int .i64 ha,.int .i64 fu] 26)).heap.size):=Lib.hid (by simp)
 generalize w.alloc (.cells #[.int .i64 F,.int .i64 R,.slice A l.length c,.bool bl,.int .u8 (ca:Int),.int .i64 ps,.int .i64 ha,.int .i64 fu] 26)=V at *
 have HPW:Hid (∀ W,Bw V W->Bxs W w.heap.size [.int .i64 F,.int .i64 R,.slice A l.length c,.bool bl,.int .u8 (ca:Int),.int .i64 ps,.int .i64 ha,.int .i64 fu]):=Lib.hid (fun W h=>HP0.out.below h HP0.out.lt)
 have HAW:Hid (∀ W,Bw V W->RdP W W.heap.size A l c):=Lib.hid (fun W h=>rdBo h HA0.out)
 have hVs:=(HB0.out).size
 go_wp2
 go_loopw [5,6,8,9] (fun s u _ _ wr=>∃ k:Nat,k<=l.length/\u=.int .i64 (k:Int)/\wr.ownsRow V.heap.size 30 3 s (psdK ⟨F,R,l,bl,ca,ps,ha,fu⟩ at_ k).length (vmvs (psdK ⟨F,R,l,bl,ca,ps,ha,fu⟩ at_ k))/\Bw V wr) (fun _ u _ _ _=>l.length - (intOf u).toNat)
 case atStart=>exact ⟨0,Nat.zero_le _,rfl,World.ownsRow_nil _ _ _ _,Below.refl _ _⟩
 case round =>
  obtain ⟨wo,rfl⟩:∃ wo:World,wo=wr:=⟨_,rfl⟩
  obtain ⟨k,hk,rfl,hown,hW⟩:=hrel
  have HPr:=Lib.hid (HPW.out wo hW)
  have HBr:Hid (Bw V wo):=Lib.hid hW
  have p1:=HPr.out.c 2 rfl
  clear hW
  by_cases hlt:k<l.length
  ·have hki:(k:Int)<(l.length:Int):=by omega
   have HOr:=Lib.hid hown
   have HKSk:=Lib.hid (HKS.out k)
   clear hown
   go_wp2
   have h5:(wo.alloc (.cells #[.int .i8 0,.int .i8 2,.int .i8 3,.int .i8 4,.int .i8 5] 28)).heap[wo.heap.size]?=some (.cells #[.int .i8 0,.int .i8 2,.int .i8 3,.int .i8 4,.int .i8 5] 28 (0,0)):=World.alloc_heap_new wo _
   have hq5:=box1 wo (.cells #[.int .i8 0,.int .i8 2,.int .i8 3,.int .i8 4,.int .i8 5] 28)
   generalize wo.alloc (.cells #[.int .i8 0,.int .i8 2,.int .i8 3,.int .i8 4,.int .i8 5] 28)=V2 at *
   have HB2:Hid (Bw V V2):=Lib.hid (chain HBr.out hq5)
   have HO2:=Lib.hid (own_below HOr.out hq5)
   generalize wo.heap.size=g5 at *
   have HH5:=Lib.hid h5
   clear h5 hq5 HPr p1 HOr HBr
   go_loopw [5,8,9,19] (fun s _ _ i w2=>∃ j:Nat,j<=5/\i=.int .i64 (j:Int)/\w2.ownsRow V.heap.size 30 3 s (psdK ⟨F,R,l,bl,ca,ps,ha,fu⟩ at_ k ++ psdJ ⟨F,R,l,bl,ca,ps,ha,fu⟩ at_ (k:Int) j).length (vmvs (psdK ⟨F,R,l,bl,ca,ps,ha,fu⟩ at_ k ++ psdJ ⟨F,R,l,bl,ca,ps,ha,fu⟩ at_ (k:Int) j))/\Bw V w2/\w2.heap[g5]?=some (.cells #[.int .i8 0,.int .i8 2,.int .i8 3,.int .i8 4,.int .i8 5] 28 (0,0))) (fun _ _ _ i _=>5 - (intOf i).toNat)
   case atStart=>exact ⟨0,by omega,rfl,by simpa [psdJ] using HO2.out,HB2.out,HH5.out⟩
   case round =>
    obtain ⟨w2,rfl⟩:∃ w2:World,w2=wr:=⟨_,rfl⟩
    obtain ⟨j,hj,rfl,hown2,hW2,hG2⟩:=hrel
    have HBj:Hid (Bw V w2):=Lib.hid hW2
    have HQj:=Lib.hid hG2
    have HOj:=Lib.hid hown2
    by_cases hl5:j<5
    ·have hpc:w2.cell? ⟨g5,j,none⟩=some (.int .i8 (prN j)):=by
      have h1:=prN_cell j hl5
      simpa [World.cell?,hG2] using h1
     have hj5:(j:Int)<5:=by omega
     have hj0:(0:Int)<=(j:Int):=by omega
     have HYj:=Lib.hid (HJY.out (k:Int) j)
     have HNj:=Lib.hid (HJN.out (k:Int) j)
     have HLj:=HLE.out k j (k:Int) (by omega) (by omega)
     obtain ⟨t,ht⟩:∃ t,prN j=t:=⟨_,rfl⟩
     rw [ht] at hpc HYj HNj
     have p0:=(HPW.out _ HBj.out).c 0 rfl
     have p1:=(HPW.out _ HBj.out).c 1 rfl
     clear ht hown2 hW2 hG2
     go_upto_region 9 with fail
     have hM:=Lib.hid (Bxs.new w2 [.int .i64 at_,.int .i64 (k:Int),.int .i8 t] 30)
     have hqm:=box1 w2 (.cells #[.int .i64 at_,.int .i64 (k:Int),.int .i8 t] 30)
     have HB3:Hid (Bw V _):=Lib.hid (chain HBj.out hqm)
     have HQ3:=Lib.hid (heap_bel HQj.out hqm)
     have HO3:=Lib.hid (own_below HOj.out hqm)
     clear hqm HOj HQj HBj p0 p1
     generalize w2.alloc (.cells #[.int .i64 at_,.int .i64 (k:Int),.int .i8 t] 30)=w3 at *
     generalize w2.heap.size=gm at *
     obtain ⟨m0,m1,m2⟩:=hM.out.h3
     have p0:=(HPW.out _ HB3.out).c 0 rfl
     have p1:=(HPW.out _ HB3.out).c 1 rfl
     go_wp2_with fail
     refine (HVL.out (k:Int) t (decide (okM F R ⟨at_,(k:Int),t⟩)) decide_eq_true_iff _).mono ?_
     rintro e w4 ⟨rfl,hq⟩
     have hM4:=Lib.hid (hM.out.below hq hM.out.lt)
     have HB4:Hid (Bw V _):=Lib.hid (chain HB3.out hq)
     have HQ4:=Lib.hid (heap_bel HQ3.out hq)
     have HO4:=Lib.hid (own_below HO3.out hq)
     clear hq m0 m1 m2 p0 p1 hM HB3 HQ3 HO3 hpc
     by_cases hok:okM F R ⟨at_,(k:Int),t⟩
     ·rw [decide_eq_true hok]
      have HI1:=Lib.hid (fun w hA=>HIS.out (k:Int) t hok w hA)
      have HYk:=Lib.hid (fun h=>HYj.out hok h)
      have HNk:Hid (psB ⟨F,R,l,bl,ca,ps,ha,fu⟩ ⟨at_,(k:Int),t⟩=false->psdJ ⟨F,R,l,bl,ca,ps,ha,fu⟩ at_ (k:Int) (j+1)=psdJ ⟨F,R,l,bl,ca,ps,ha,fu⟩ at_ (k:Int) j):=Lib.hid (fun h=>HNj.out (fun hh=>by have:=hh.2;rw [h] at this;cases this))
      clear hok HYj HNj
      obtain ⟨m0,m1,m2⟩:=hM4.out.h3
      have p0:=(HPW.out _ HB4.out).c 0 rfl
      have p1:=(HPW.out _ HB4.out).c 1 rfl
      have p2:=(HPW.out _ HB4.out).c 2 rfl
      have p3:=(HPW.out _ HB4.out).c 3 rfl
      have p4:=(HPW.out _ HB4.out).c 4 rfl
      have p5:=(HPW.out _ HB4.out).c 5 rfl
      have p6:=(HPW.out _ HB4.out).c 6 rfl
      have p7:=(HPW.out _ HB4.out).c 7 rfl
      go_wp2_with fail
      refine (HI1.out _ (HAW.out _ HB4.out)).mono ?_
      rintro e w5 ⟨rfl,hq⟩
      have hM5:=Lib.hid (hM4.out.below hq hM4.out.lt)
      have HB5:Hid (Bw V _):=Lib.hid (chain HB4.out hq)
      have HQ5:=Lib.hid (heap_bel HQ4.out hq)
      have HO5:=Lib.hid (own_below HO4.out hq)
      clear hq m0 m1 m2 p0 p1 p2 p3 p4 p5 p6 p7 hM4 HB4 HQ4 HO4 HI1
      cases hps:psB ⟨F,R,l,bl,ca,ps,ha,fu⟩ ⟨at_,(k:Int),t⟩
      ·have HN:=Lib.hid (HNk.out hps)
       clear hps HNk HYk
       go_wp2
       go_round
       case rel=>exact ⟨j+1,by omega,rfl,by rw [HN.out];exact HO5.out,HB5.out,HQ5.out⟩
       case measure=>simp [intOf];omega
      ·have HY:=Lib.hid (HYk.out hps)
       clear hps HNk HYk
       have hown5:=HO5.out
       obtain ⟨m0,m1,m2⟩:=hM5.out.h3
       have hn5:V.heap.size<=w5.heap.size:=HB5.out.size
       have HQZ:=HQ5.out
       generalize hLs:psdK ⟨F,R,l,bl,ca,ps,ha,fu⟩ at_ k ++ psdJ ⟨F,R,l,bl,ca,ps,ha,fu⟩ at_ (k:Int) j=Ls at *
       have HY2:Hid (psdK ⟨F,R,l,bl,ca,ps,ha,fu⟩ at_ k ++ psdJ ⟨F,R,l,bl,ca,ps,ha,fu⟩ at_ (k:Int) (j+1)=Ls ++ [⟨at_,(k:Int),t⟩]):=Lib.hid (by rw [HY.out,<- List.append_assoc,hLs])
       clear HY hLs
       go_wp2_with (at_builtin;(refine wpList_append_own _ rfl _ _ 49 rfl V.heap.size 30 i0 (.agg #[.int .i64 0,.int .i64 0,.int .i8 0]) 3 24 Tryz.underlying49 hi hz0 hz1 hz2 rfl (by decide) _ _ _ rfl (hown5.alloc _) ⟨w5.heap.size,0,none⟩ 1 1 [.int .i64 at_,.int .i64 (k:Int),.int .i8 t] rfl rfl ?c1 ?c2 ?c3 ?c4 ?c5 ?_))
       case c1 =>
        intro j u hj
        match j,hj with
        | 0,hj=>simp at hj;subst hj;simp [go_sem]
        | 1,hj=>simp at hj;subst hj;simp [go_sem]
        | 2,hj=>simp at hj;subst hj;simp [go_sem]
       case c2 =>
        intro u hu
        simp at hu
        rcases hu with rfl | rfl | rfl <;> rfl
       case c3=>unfold maxLen;omega
       case c4=>omega
       case c5=>simp;omega
       intro v' w6 hown' hgrow _
       have HR6:=Lib.hid (show w6.ownsRow V.heap.size 30 3 v' (Ls ++ [(⟨at_,(k:Int),t⟩:Mv)]).length (vmvs (Ls ++ [(⟨at_,(k:Int),t⟩:Mv)])) from by rw [List.length_append,vmvs_app,vmvs_one];exact hown')
       have hna:=row_ne (heap_al HQZ (.cells #[.int .i64 at_,.int .i64 (k:Int),.int .i8 t] 30)) (by decide) (hown5.alloc (.cells #[.int .i64 at_,.int .i64 (k:Int),.int .i8 t] 30))
       have HQ6:=Lib.hid (heap_grow (heap_al HQZ _) hgrow hna)
       have HB6:Hid (Bw V w6):=Lib.hid ((Bw.alloc HB5.out _).grown hgrow (by simp;omega) (fun r e=>(World.ownsRow.lt hown5 r e).1))
       go_wp2
       go_roundw
       case rel=>exact ⟨j+1,by omega,rfl,by rw [HY2.out];exact HR6.out,HB6.out,HQ6.out⟩
       case measure=>simp [intOf];omega
     ·rw [decide_eq_false hok]
      have HN:=Lib.hid (HNj.out (fun h=>hok h.1))
      clear hok HNj HYj
      go_wp2
      go_round
      case rel=>exact ⟨j+1,by omega,rfl,by rw [HN.out];exact HO4.out,HB4.out,HQ4.out⟩
      case measure=>simp [intOf];omega
    ·have h5':j=5:=by omega
     subst h5'
     have hj5:¬ (((5:Nat):Int)<5):=by decide
     rw [HJA.out,<- HKSk.out] at hown2
     have HO9:=Lib.hid hown2
     clear hown2 hW2 hG2
     go_wp2
     go_roundw
     case rel=>exact ⟨k+1,by omega,rfl,HO9.out,HBj.out⟩
     case measure=>simp [intOf];omega
  ·have hkl:k=l.length:=by omega
   subst hkl
   have hki:¬ ((l.length:Int)<(l.length:Int)):=by omega
   rw [HKA.out] at hown
   have HO:=Lib.hid (own_lq2 hown hVs)
   clear hown
   go_wp2
   go_ret
   exact ⟨_,rfl,HO.out,chain HB0.out HBr.out⟩
end Go.Proofs.YtbccbgonlmkpkaaGreatDoor
namespace Go.Proofs.YtbccbgonlmkpkaaGreatDoor
open Go.RowKit Go.Sort
def psdM (p:Po) (k:Nat):List Mv:=(List.range k).flatMap fun (a:Nat)=>psdF p (a:Int)
theorem psdM_succ (p:Po) (k:Nat):psdM p (k+1)=psdM p k ++ psdF p (k:Int):=by
 unfold psdM
 rw [List.range_succ,List.flatMap_append]
 simp
theorem psdF_len (p:Po) (a:Int):(psdF p a).length<=5 * p.l.length:=by rw [<- psdK_all];exact psdK_len p a _
theorem psdM_len (p:Po):∀ k,(psdM p k).length<=5 * p.l.length * k
 | 0=>by simp [psdM]
 | k+1=>by
  have:=psdM_len p k
  have h2:=psdF_len p (k:Int)
  rw [psdM_succ,List.length_append,Nat.mul_add]
  omega
theorem psdL_len {p:Po} (h:p.l.length<=64):(psdL p).length<=20480:=by
 have h1:(psdL p).length<=5 * p.l.length * p.l.length:=psdM_len p p.l.length
 have:=Nat.mul_le_mul h h
 rw [Nat.mul_assoc] at h1
 omega
theorem rMov9_any (F R:Int) (l:List Int) (A:Option Addr) (c:Nat) (bl:Bool) (ca:Nat) (ps ha fu:Int) (hp:OkP ⟨F,R,l,bl,ca,ps,ha,fu⟩) (w:World) (hA:RdP w w.heap.size A l c) :
  Calls Tryz.prog 31 #[.agg #[.int .i64 F,.int .i64 R,.slice A l.length c,.bool bl,.int .u8 (ca:Int),.int .i64 ps,.int .i64 ha,.int .i64 fu]] w fun e w'=>∃ v,e=.returned v/\w'.ownsRow w.heap.size 30 3 v (psdL ⟨F,R,l,bl,ca,ps,ha,fu⟩).length (vmvs (psdL ⟨F,R,l,bl,ca,ps,ha,fu⟩))/\Below w.heap.size w w':=by
 have hlF:(l.length:Int)=F * R:=hp.len
 have hl64:l.length<=64:=by have:=(vsz_mul hp.hv).2;simp only at *;omega
 have HFR:=Lib.hid (fun a hat w hA=>rFrm9_any F R l A c bl ca ps ha fu a hp hat w hA)
 have HVT:Hid (∀ k:Nat,k<l.length->vat F R (k:Int)):=Lib.hid (fun k hk=>⟨hp.hv,by omega,by omega⟩)
 have HMA:Hid (psdM ⟨F,R,l,bl,ca,ps,ha,fu⟩ l.length=psdL ⟨F,R,l,bl,ca,ps,ha,fu⟩):=Lib.hid rfl
 have HMS:=Lib.hid (fun k=>psdM_succ ⟨F,R,l,bl,ca,ps,ha,fu⟩ k)
 have HLE:Hid (∀ k:Nat,k<=64->(psdM ⟨F,R,l,bl,ca,ps,ha,fu⟩ k).length<=20480):=Lib.hid (fun k hk=>by
  have h1:(psdM ⟨F,R,l,bl,ca,ps,ha,fu⟩ k).length<=5 * l.length * k:=psdM_len ⟨F,R,l,bl,ca,ps,ha,fu⟩ k
  have h2:=Nat.mul_le_mul hl64 hk
  rw [Nat.mul_assoc] at h1
  omega)
 have HLF:Hid (∀ a:Int,(psdF ⟨F,R,l,bl,ca,ps,ha,fu⟩ a).length<=320):=Lib.hid (fun a=>by have:=psdF_len ⟨F,R,l,bl,ca,ps,ha,fu⟩ a;simp only at this;omega)
 have B1:=box1 (w) (.cells #[.int .i64 F,.int .i64 R,.slice A l.length c,.bool bl,.int .u8 (ca:Int),.int .i64 ps,.int .i64 ha,.int .i64 fu] 26)
 have hHP:=Bxs.new (w) [.int .i64 F,.int .i64 R,.slice A l.length c,.bool bl,.int .u8 (ca:Int),.int .i64 ps,.int .i64 ha,.int .i64 fu] 26
 have HP0:=Lib.hid (hHP)
 have hB:=B1
 have HB0:Hid (Bw w (w.alloc (.cells #[.int .i64 F,.int .i64 R,.slice A l.length c,.bool bl,.int .u8 (ca:Int),.int .i64 ps,.int .i64 ha,.int .i64 fu] 26))):=Lib.hid hB
 have HA0:=Lib.hid (rdBo hB hA)
 clear hB B1 hHP hA hp hlF
 go_enter Tryz.func31,Tryz.ntmps31
 go_upto_region 1 with fail
 generalize w.alloc (.cells #[.int .i64 F,.int .i64 R,.slice A l.length c,.bool bl,.int .u8 (ca:Int),.int .i64 ps,.int .i64 ha,.int .i64 fu] 26)=V at *
 have HPW:Hid (∀ W,Bw V W->Bxs W w.heap.size [.int .i64 F,.int .i64 R,.slice A l.length c,.bool bl,.int .u8 (ca:Int),.int .i64 ps,.int .i64 ha,.int .i64 fu]):=Lib.hid (fun W h=>HP0.out.below h HP0.out.lt)
 have HAW:Hid (∀ W,Bw V W->RdP W W.heap.size A l c):=Lib.hid (fun W h=>rdBo h HA0.out)
 have hVs:=(HB0.out).size
 go_wp2
 go_loopw [3,4] (fun s u wr=>∃ k:Nat,k<=l.length/\u=.int .i64 (k:Int)/\wr.ownsRow V.heap.size 30 3 s (psdM ⟨F,R,l,bl,ca,ps,ha,fu⟩ k).length (vmvs (psdM ⟨F,R,l,bl,ca,ps,ha,fu⟩ k))/\Bw V wr) (fun _ u _=>l.length - (intOf u).toNat)
 case atStart=>exact ⟨0,Nat.zero_le _,rfl,World.ownsRow_nil _ _ _ _,Below.refl _ _⟩
 case round =>
  obtain ⟨k,hk,rfl,hown,hW⟩:=hrel
  have HPr:=Lib.hid (HPW.out wr hW)
  have HBr:Hid (Bw V wr):=Lib.hid hW
  clear hW
  by_cases hlt:k<l.length
  ·have hki:(k:Int)<(l.length:Int):=by omega
   have HOr:=Lib.hid hown
   have HMk:=Lib.hid (HMS.out k)
   have HF1:=Lib.hid (HFR.out (k:Int) (HVT.out k hlt) wr (HAW.out wr HBr.out))
   have hL1:=HLE.out k (by omega)
   have hL2:=HLF.out (k:Int)
   obtain ⟨p0,p1,p2,p3,p4,p5,p6,p7⟩:=HPr.out.h8
   clear hown
   go_wp2_with fail
   refine (HF1.out).mono ?_
   rintro e w1 ⟨v2,rfl,hown2,hq⟩
   have hown1:=own_below HOr.out hq
   have hB1:=chain HBr.out hq
   have hn1:V.heap.size<=w1.heap.size:=Bw.size hB1
   clear p0 p1 p2 p3 p4 p5 p6 p7 hq HF1 HOr HPr
   go_wp2_with (at_builtin;(refine wpList_append_mvs rfl (.tmp 12) (.tmp 15) rfl V.heap.size _ _ _ (psdM ⟨F,R,l,bl,ca,ps,ha,fu⟩ k) (psdF ⟨F,R,l,bl,ca,ps,ha,fu⟩ (k:Int)) rfl hown1 rfl hown2 (by omega) hn1 ?_))
   intro v' w2 hown' hgrow
   have HR:=Lib.hid hown'
   have HB2:Hid (Bw V w2):=Lib.hid (hB1.grown hgrow hn1 (fun r e=>(World.ownsRow.lt hown1 r e).1))
   clear hown' hgrow hown1 hown2 hB1 hn1
   go_wp2
   go_roundw
   case rel=>exact ⟨k+1,by omega,rfl,by rw [HMk.out,List.length_append];exact HR.out,HB2.out⟩
   case measure=>simp [intOf];omega
  ·have hkl:k=l.length:=by omega
   subst hkl
   have hki:¬ ((l.length:Int)<(l.length:Int)):=by omega
   rw [HMA.out] at hown
   have HO:=Lib.hid (own_lq2 hown hVs)
   have p2:=HPr.out.c 2 rfl
   clear hown
   go_wp2
   go_ret
   exact ⟨_,rfl,HO.out,chain HB0.out HBr.out⟩
end Go.Proofs.YtbccbgonlmkpkaaGreatDoor
namespace Go.Proofs.YtbccbgonlmkpkaaGreatDoor
open Go.RowKit Go.Sort
theorem is_bad {p:Po} {m:Mv} (h:¬ (okPo p=true/\okM p.F p.R m)):isB p m=false/\isE p m=2/\dmE p m=2/\cpA p m=0/\cpS p m=0/\csV p m=false:=by
 have h1:dmE p m=2:=by unfold dmE;rw [if_neg h]
 refine ⟨by unfold isB;rw [decide_eq_false h];rfl,by unfold isE;rw [if_neg h],h1,?_,?_,?_⟩
 ·unfold cpA;rw [h1];exact if_neg (fun hh=>absurd hh.1 (by decide))
 ·unfold cpS;rw [h1];exact if_neg (by decide)
 ·unfold csV;rw [h1];rfl
theorem is_ok {p:Po} {m:Mv} (h:okPo p=true/\okM p.F p.R m):isB p m=psB p m/\isE p m=0:=by
 exact ⟨by unfold isB;rw [decide_eq_true h];rfl,by unfold isE;rw [if_pos h]⟩
theorem dm_no {p:Po} {m:Mv} (h:okPo p=true/\okM p.F p.R m) (h2:psB p m=false):dmE p m=10/\cpA p m=0/\cpS p m=0/\csV p m=false:=by
 have h1:dmE p m=10:=by unfold dmE;rw [if_pos h,h2];rfl
 refine ⟨h1,?_,?_,?_⟩
 ·unfold cpA;rw [h1];exact if_neg (fun hh=>absurd hh.1 (by decide))
 ·unfold cpS;rw [h1];exact if_neg (by decide)
 ·unfold csV;rw [h1];rfl
theorem dm_yes {p:Po} {m:Mv} (h:okPo p=true/\okM p.F p.R m) (h2:psB p m=true):dmE p m=0/\cpS p m=capM p m/\(0<=capM p m->cpA p m=pc p.l (capM p m))/\(¬ 0<=capM p m->cpA p m=0)/\csV p m=decide (casM p m≠0):=by
 have h1:dmE p m=0:=by unfold dmE;rw [if_pos h,h2];rfl
 refine ⟨h1,?_,?_,?_,?_⟩
 ·unfold cpS;rw [if_pos h1]
 ·intro h3;unfold cpA;rw [if_pos ⟨h1,h3⟩]
 ·intro h3;unfold cpA;rw [if_neg (fun hh=>h3 hh.2)]
 ·unfold csV;rw [h1];rfl
theorem pis_law (F R:Int) (l:List Int) (A:Option Addr) (c:Nat) (bl:Bool) (ca:Nat) (ps ha fu:Int) (x y t:Int) (hca:ca<256) (hcap:l.length<=c) (w:World) (hT:T8 w) (hA:RdP w w.heap.size A l c) :
  Calls Tryz.prog 9 #[.agg #[.int .i64 F,.int .i64 R,.slice A l.length c,.bool bl,.int .u8 (ca:Int),.int .i64 ps,.int .i64 ha,.int .i64 fu],.agg #[.int .i64 x,.int .i64 y,.int .i8 t]] w fun e w'=>e=.returned (.bool true)/\Below w.heap.size w w':=by
 have B1:=box1 (w) (.cells #[.int .i64 F,.int .i64 R,.slice A l.length c,.bool bl,.int .u8 (ca:Int),.int .i64 ps,.int .i64 ha,.int .i64 fu] 26)
 have B2:=box1 (w.alloc (.cells #[.int .i64 F,.int .i64 R,.slice A l.length c,.bool bl,.int .u8 (ca:Int),.int .i64 ps,.int .i64 ha,.int .i64 fu] 26)) (.cells #[.int .i64 x,.int .i64 y,.int .i8 t] 30)
 have hHP:=Bxs.new (w) [.int .i64 F,.int .i64 R,.slice A l.length c,.bool bl,.int .u8 (ca:Int),.int .i64 ps,.int .i64 ha,.int .i64 fu] 26
 have hHM:=Bxs.new (w.alloc (.cells #[.int .i64 F,.int .i64 R,.slice A l.length c,.bool bl,.int .u8 (ca:Int),.int .i64 ps,.int .i64 ha,.int .i64 fu] 26)) [.int .i64 x,.int .i64 y,.int .i8 t] 30
 rw [World.size_alloc] at hHM
 have HP0:=Lib.hid (hHP.below B2 hHP.lt)
 have HM0:=Lib.hid (hHM)
 have hB:=(chain B1 B2)
 have HB0:Hid (Bw w ((w.alloc (.cells #[.int .i64 F,.int .i64 R,.slice A l.length c,.bool bl,.int .u8 (ca:Int),.int .i64 ps,.int .i64 ha,.int .i64 fu] 26)).alloc (.cells #[.int .i64 x,.int .i64 y,.int .i8 t] 30))):=Lib.hid hB
 have HA0:=Lib.hid (rdBo hB hA)
 have HT0:=Lib.hid (hT.below hB)
 clear hB B1 B2 hHP hHM hA hT
 go_enter Tryz.func9,Tryz.ntmps9
 go_upto_region 1 with fail
 generalize (w.alloc (.cells #[.int .i64 F,.int .i64 R,.slice A l.length c,.bool bl,.int .u8 (ca:Int),.int .i64 ps,.int .i64 ha,.int .i64 fu] 26)).alloc (.cells #[.int .i64 x,.int .i64 y,.int .i8 t] 30)=V at *
 by_cases hs:l.length<=64
 ·skip
  have HIS:=Lib.hid (fun w hT hA=>qIs_any F R l A c bl ca ps ha fu x y t hca (by omega) hcap w after_c hT hA)
  have HVP:=Lib.hid (fun w hA=>rValid_any F R l A c bl ca ps ha fu hca (by omega) w hA)
  have HVM:=Lib.hid (fun w=>rmValid_any F R x y t (decide (okM F R ⟨x,y,t⟩)) decide_eq_true_iff w)
  have HR9:=Lib.hid (fun hok hm w hA=>rIs9_any F R l A c bl ca ps ha fu x y t ((okPo_iff _).1 hok) hm w hA)
  have HBAD:=Lib.hid (is_bad (p:=⟨F,R,l,bl,ca,ps,ha,fu⟩) (m:=⟨x,y,t⟩))
  have HGD:=Lib.hid (is_ok (p:=⟨F,R,l,bl,ca,ps,ha,fu⟩) (m:=⟨x,y,t⟩))
  obtain ⟨ib,hib⟩:∃ ib,isB ⟨F,R,l,bl,ca,ps,ha,fu⟩ ⟨x,y,t⟩=ib:=⟨_,rfl⟩
  obtain ⟨ie,hie⟩:∃ ie,isE ⟨F,R,l,bl,ca,ps,ha,fu⟩ ⟨x,y,t⟩=ie:=⟨_,rfl⟩
  rw [hib,hie] at HIS HBAD HGD
  clear hib hie
  obtain ⟨p0,p1,p2,p3,p4,p5,p6,p7⟩:=HP0.out.h8
  go_wp2_with fail
  refine (small9_yes F R l A c bl ca ps ha fu hs _).mono ?_
  rintro e w1 ⟨rfl,hq⟩
  have HP_1:=Lib.hid (HP0.out.below hq HP0.out.lt)
  have HM_1:=Lib.hid (HM0.out.below hq HM0.out.lt)
  have HB_1:Hid (Bw w _):=Lib.hid (chain HB0.out hq)
  have HA_1:=Lib.hid (rdBo hq HA0.out)
  have HT_1:=Lib.hid (HT0.out.below hq)
  clear hq HP0 HM0 HB0 HA0 HT0 p0 p1 p2 p3 p4 p5 p6 p7 hs
  obtain ⟨p0,p1,p2,p3,p4,p5,p6,p7⟩:=HP_1.out.h8
  obtain ⟨m0,m1,m2⟩:=HM_1.out.h3
  go_wp2_with fail
  refine (HIS.out _ HT_1.out HA_1.out).mono ?_
  rintro e w2 ⟨rfl,hq⟩
  have HP_2:=Lib.hid (HP_1.out.below hq HP_1.out.lt)
  have HM_2:=Lib.hid (HM_1.out.below hq HM_1.out.lt)
  have HB_2:Hid (Bw w _):=Lib.hid (chain HB_1.out hq)
  have HA_2:=Lib.hid (rdBo hq HA_1.out)
  have HT_2:=Lib.hid (HT_1.out.below hq)
  clear hq HP_1 HM_1 HB_1 HA_1 HT_1 p0 p1 p2 p3 p4 p5 p6 p7 m0 m1 m2 HIS
  obtain ⟨p0,p1,p2,p3,p4,p5,p6,p7⟩:=HP_2.out.h8
  obtain ⟨m0,m1,m2⟩:=HM_2.out.h3
  go_wp2_with fail
  refine (HVP.out _ HA_2.out).mono ?_
  rintro e w3 ⟨rfl,hq⟩
  have HP_3:=Lib.hid (HP_2.out.below hq HP_2.out.lt)
  have HM_3:=Lib.hid (HM_2.out.below hq HM_2.out.lt)
  have HB_3:Hid (Bw w _):=Lib.hid (chain HB_2.out hq)
  have HA_3:=Lib.hid (rdBo hq HA_2.out)
  have HT_3:=Lib.hid (HT_2.out.below hq)
  clear hq HP_2 HM_2 HB_2 HA_2 HT_2 p0 p1 p2 p3 p4 p5 p6 p7 m0 m1 m2 HVP
  cases hok:okPo ⟨F,R,l,bl,ca,ps,ha,fu⟩
  ·skip
   have hb:=HBAD.out (fun h=>by rw [hok] at h;exact absurd h.1 (by decide))
   obtain ⟨rfl,rfl,_⟩:=hb
   clear hok HBAD HGD
   go_wp2_with fail
   refine (known9_any _ HT_3.out).mono ?_
   rintro e wk ⟨rfl,hq⟩
   have hBk:=chain HB_3.out hq
   clear hq
   go_wp2
   go_ret
   exact ⟨rfl,hBk⟩
  ·skip
   obtain ⟨p0,p1,p2,p3,p4,p5,p6,p7⟩:=HP_3.out.h8
   obtain ⟨m0,m1,m2⟩:=HM_3.out.h3
   go_wp2_with fail
   refine (HVM.out _).mono ?_
   rintro e w4 ⟨rfl,hq⟩
   have HP_4:=Lib.hid (HP_3.out.below hq HP_3.out.lt)
   have HM_4:=Lib.hid (HM_3.out.below hq HM_3.out.lt)
   have HB_4:Hid (Bw w _):=Lib.hid (chain HB_3.out hq)
   have HA_4:=Lib.hid (rdBo hq HA_3.out)
   have HT_4:=Lib.hid (HT_3.out.below hq)
   clear hq HP_3 HM_3 HB_3 HA_3 HT_3 p0 p1 p2 p3 p4 p5 p6 p7 m0 m1 m2 HVM
   by_cases hom:okM F R ⟨x,y,t⟩
   ·skip
    rw [decide_eq_true hom]
    obtain ⟨hb1,hb2⟩:=HGD.out ⟨hok,hom⟩
    have HR1:=Lib.hid (HR9.out hok hom)
    subst hb2
    obtain ⟨pb,hpb⟩:∃ pb,psB ⟨F,R,l,bl,ca,ps,ha,fu⟩ ⟨x,y,t⟩=pb:=⟨_,rfl⟩
    rw [hpb] at hb1 HR1
    subst hb1
    clear hok hom HBAD HGD HR9 hpb
    obtain ⟨p0,p1,p2,p3,p4,p5,p6,p7⟩:=HP_4.out.h8
    obtain ⟨m0,m1,m2⟩:=HM_4.out.h3
    go_wp2_with fail
    refine (HR1.out _ HA_4.out).mono ?_
    rintro e w5 ⟨rfl,hq⟩
    have HP_5:=Lib.hid (HP_4.out.below hq HP_4.out.lt)
    have HM_5:=Lib.hid (HM_4.out.below hq HM_4.out.lt)
    have HB_5:Hid (Bw w _):=Lib.hid (chain HB_4.out hq)
    have HA_5:=Lib.hid (rdBo hq HA_4.out)
    have HT_5:=Lib.hid (HT_4.out.below hq)
    clear hq HP_4 HM_4 HB_4 HA_4 HT_4 p0 p1 p2 p3 p4 p5 p6 p7 m0 m1 m2 HR1
    cases ib
    ·skip
     go_wp2_with fail
     refine (known9_any _ HT_5.out).mono ?_
     rintro e wk ⟨rfl,hq⟩
     have hBk:=chain HB_5.out hq
     clear hq
     go_wp2
     go_ret
     exact ⟨rfl,hBk⟩
    ·skip
     go_wp2_with fail
     refine (known9_any _ HT_5.out).mono ?_
     rintro e wk ⟨rfl,hq⟩
     have hBk:=chain HB_5.out hq
     clear hq
     go_wp2
     go_ret
     exact ⟨rfl,hBk⟩
   ·skip
    rw [decide_eq_false hom]
    have hb:=HBAD.out (fun h=>hom h.2)
    obtain ⟨rfl,rfl,_⟩:=hb
    clear hok hom HBAD HGD
    go_wp2_with fail
    refine (known9_any _ HT_4.out).mono ?_
    rintro e wk ⟨rfl,hq⟩
    have hBk:=chain HB_4.out hq
    clear hq
    go_wp2
    go_ret
    exact ⟨rfl,hBk⟩
 ·skip
  obtain ⟨p0,p1,p2,p3,p4,p5,p6,p7⟩:=HP0.out.h8
  go_wp2_with fail
  refine (small9_no F R l A c bl ca ps ha fu hs _).mono ?_
  rintro e w1 ⟨rfl,hq⟩
  have HP_1:=Lib.hid (HP0.out.below hq HP0.out.lt)
  have HM_1:=Lib.hid (HM0.out.below hq HM0.out.lt)
  have HB_1:Hid (Bw w _):=Lib.hid (chain HB0.out hq)
  have HA_1:=Lib.hid (rdBo hq HA0.out)
  have HT_1:=Lib.hid (HT0.out.below hq)
  clear hq HP0 HM0 HB0 HA0 HT0 p0 p1 p2 p3 p4 p5 p6 p7
  go_wp2_with fail
  refine (known9_any _ HT_1.out).mono ?_
  rintro e wk ⟨rfl,hq⟩
  have hBk:=chain HB_1.out hq
  clear hq
  go_wp2
  go_ret
  exact ⟨rfl,hBk⟩
end Go.Proofs.YtbccbgonlmkpkaaGreatDoor
