/- What the theorem needs, piece Zb29. -/
import Derived.Test.YtbccbgonlmkpkaaGreatDoorZb25
import Derived.Test.YtbccbgonlmkpkaaGreatDoorZb27
import Derived.Test.YtbccbgonlmkpkaaGreatDoorZb28
set_option linter.unusedSimpArgs false
set_option linter.unusedVariables false
set_option maxRecDepth 100000
set_option maxHeartbeats 16000000
namespace Go.Proofs.YtbccbgonlmkpkaaGreatDoor
open Go.RowKit Go.Sort
def AftC:Prop:=∀ (F R:Int) (l:List Int) (A:Option Addr) (c:Nat) (bl:Bool) (ca:Nat) (ps ha fu:Int) (x y t:Int) (ow fo:Nat) (b:Nat) (_:Mov ⟨F,R,l,bl,ca,ps,ha,fu⟩ ⟨x,y,t⟩) (_:ca<=15) (w:World) (_:T8 w) (_:RdP w w.heap.size A l c) (_:Bxs w b [.int .i64 F,.int .i64 R,.slice A l.length c,.bool bl,.int .u8 (ca:Int),.int .i64 ps,.int .i64 ha,.int .i64 fu,.int .i64 x,.int .i64 y,.int .i8 t,.int .i8 (kdP (pc l x)),.int .u64 (ow:Int),.int .u64 (fo:Int)]),
  Calls Tryz.prog 51 #[.pointer (some ⟨b,0,none⟩),.int .i64 (capM ⟨F,R,l,bl,ca,ps,ha,fu⟩ ⟨x,y,t⟩)] w (NewP w F R (aftL ⟨F,R,l,bl,ca,ps,ha,fu⟩ ⟨x,y,t⟩) (!bl) (aftC ⟨F,R,l,bl,ca,ps,ha,fu⟩ ⟨x,y,t⟩) (aftP ⟨F,R,l,bl,ca,ps,ha,fu⟩ ⟨x,y,t⟩) (if kdP (pc l x)=1\/0<=capM ⟨F,R,l,bl,ca,ps,ha,fu⟩ ⟨x,y,t⟩ then 0 else ha+1) (if bl then fu+1 else fu))
def MadeP (w:World) (p:Po) (m:Mv) (e:Ending) (w':World):Prop :=
 (errM p m≠0/\e=.returned (.tuple #[.agg #[.int .i64 0,.int .i64 0,.slice none 0 0,.bool false,.int .u8 0,.int .i64 0,.int .i64 0,.int .i64 0],.agg #[.int .i64 0,.int .i64 0,.int .i8 0,.int .i8 0,.int .i64 0,.int .u8 0,.int .i64 0,.int .i64 0,.int .i64 0],.int .i64 (errM p m)])/\Below w.heap.size w w') \/
 (errM p m=0/\∃ v,e=.returned (.tuple #[.agg #[.int .i64 p.F,.int .i64 p.R,v,.bool (aftM p m).bl,.int .u8 ((aftM p m).ca:Int),.int .i64 (aftM p m).ps,.int .i64 (aftM p m).ha,.int .i64 (aftM p m).fu],unV (recM p m),.int .i64 0])/\w'.ownsRow w.heap.size 28 1 v (aftM p m).l.length (vpcs (aftM p m).l)/\Below w.heap.size w w')
theorem made_err {w w':World} {p:Po} {m:Mv} {k:Int} (h:errM p m=k) (hk:k≠0) (hb:Below w.heap.size w w'):MadeP w p m (.returned (.tuple #[.agg #[.int .i64 0,.int .i64 0,.slice none 0 0,.bool false,.int .u8 0,.int .i64 0,.int .i64 0,.int .i64 0],.agg #[.int .i64 0,.int .i64 0,.int .i8 0,.int .i8 0,.int .i64 0,.int .u8 0,.int .i64 0,.int .i64 0,.int .i64 0],.int .i64 k])) w':=.inl ⟨by rw [h];exact hk,by rw [h],hb⟩
theorem err2 {p:Po} {m:Mv} (h:¬ (okPo p=true/\okM p.F p.R m)):errM p m=2:=by unfold errM;rw [if_pos h]
theorem err9 {p:Po} {m:Mv} (h:okPo p=true/\okM p.F p.R m) (h1:ownB (pc p.l m.a) p.bl=false):errM p m=9:=by unfold errM;rw [if_neg (fun hh=>hh h),if_pos h1]
theorem err10 {p:Po} {m:Mv} (h:okPo p=true/\okM p.F p.R m) (h1:ownB (pc p.l m.a) p.bl=true) (h2:soM p m=false):errM p m=10:=by unfold errM;rw [if_neg (fun hh=>hh h),if_neg (by simp [h1]),if_pos h2]
theorem err90 {p:Po} {m:Mv} (h:Mov p m) (h3:safM p m=false):errM p m=90:=by
 unfold errM
 rw [if_neg (fun hh=>hh ⟨(okPo_iff p).2 h.hp,h.hm⟩),if_neg (by simp [h.own]),if_neg (by simp [h.so]),if_pos h3]
theorem err7 {p:Po} {m:Mv} (h:Mov p m) (h3:safM p m=true) (h4:10000<(aftM p m).ha\/10000<(aftM p m).fu):errM p m=7:=by
 unfold errM
 rw [if_neg (fun hh=>hh ⟨(okPo_iff p).2 h.hp,h.hm⟩),if_neg (by simp [h.own]),if_neg (by simp [h.so]),if_neg (by simp [h3]),if_pos h4]
theorem err0 {p:Po} {m:Mv} (h:Mov p m) (h3:safM p m=true) (h4:¬ (10000<(aftM p m).ha\/10000<(aftM p m).fu)):errM p m=0:=by
 unfold errM
 rw [if_neg (fun hh=>hh ⟨(okPo_iff p).2 h.hp,h.hm⟩),if_neg (by simp [h.own]),if_neg (by simp [h.so]),if_neg (by simp [h3]),if_neg h4]
section
variable {V W:World} {r n cap:Nat}
theorem newP_rd {w:World} {F R:Int} {l:List Int} {bl:Bool} {ca:Nat} {ps ha fu:Int} {e:Ending} {w':World} (h:NewP w F R l bl ca ps ha fu e w') (hl:0<l.length) :
  ∃ r cap:Nat,e=.returned (.agg #[.int .i64 F,.int .i64 R,.slice (some ⟨r,0,none⟩) l.length cap,.bool bl,.int .u8 (ca:Int),.int .i64 ps,.int .i64 ha,.int .i64 fu])/\w'.ownsRow w.heap.size 28 1 (.slice (some ⟨r,0,none⟩) l.length cap) l.length (vpcs l)/\RdP w' w'.heap.size (some ⟨r,0,none⟩) l cap/\w.heap.size<=r/\r<w'.heap.size/\Below w.heap.size w w':=by
 obtain ⟨r,cap,he,ho,h0,h1,hb⟩:=newP_row h hl
 refine ⟨r,cap,he,ho,?_,h0,h1,hb⟩
 obtain ⟨A,c,e2,_,hr⟩:=RdP.own ho
 injection e2 with e3 _ e4
 rw [e3,e4]
 exact hr
theorem own_o8 {b B e sz m:Nat} {xs:List Value} (ho:W.ownsRow B e sz (.slice (some ⟨r,0,none⟩) m cap) m xs) (hne:r≠b) (v0 v1 v2 v3 v4 v5 v6 v7:Value):World.ownsRow (World.setCell (World.setCell (World.setCell (World.setCell (World.setCell (World.setCell (World.setCell (World.setCell W ⟨b,0,none⟩ v0) ⟨b,1,none⟩ v1) ⟨b,2,none⟩ v2) ⟨b,3,none⟩ v3) ⟨b,4,none⟩ v4) ⟨b,5,none⟩ v5) ⟨b,6,none⟩ v6) ⟨b,7,none⟩ v7) B e sz (.slice (some ⟨r,0,none⟩) m cap) m xs:=(own_oth (own_oth (own_oth (own_oth (own_oth (own_oth (own_oth (own_oth ho hne 0 v0) hne 1 v1) hne 2 v2) hne 3 v3) hne 4 v4) hne 5 v5) hne 6 v6) hne 7 v7)
theorem own_o9 {b B e sz m:Nat} {xs:List Value} (ho:W.ownsRow B e sz (.slice (some ⟨r,0,none⟩) m cap) m xs) (hne:r≠b) (v0 v1 v2 v3 v4 v5 v6 v7 v8:Value):World.ownsRow (World.setCell (World.setCell (World.setCell (World.setCell (World.setCell (World.setCell (World.setCell (World.setCell (World.setCell W ⟨b,0,none⟩ v0) ⟨b,1,none⟩ v1) ⟨b,2,none⟩ v2) ⟨b,3,none⟩ v3) ⟨b,4,none⟩ v4) ⟨b,5,none⟩ v5) ⟨b,6,none⟩ v6) ⟨b,7,none⟩ v7) ⟨b,8,none⟩ v8) B e sz (.slice (some ⟨r,0,none⟩) m cap) m xs:=(own_oth (own_oth (own_oth (own_oth (own_oth (own_oth (own_oth (own_oth (own_oth ho hne 0 v0) hne 1 v1) hne 2 v2) hne 3 v3) hne 4 v4) hne 5 v5) hne 6 v6) hne 7 v7) hne 8 v8)
theorem rd_o8 {b:Nat} {l:List Int} {c:Nat} (hA:RdP W W.heap.size (some ⟨r,0,none⟩) l c) (hne:r≠b) (v0 v1 v2 v3 v4 v5 v6 v7:Value):RdP (World.setCell (World.setCell (World.setCell (World.setCell (World.setCell (World.setCell (World.setCell (World.setCell W ⟨b,0,none⟩ v0) ⟨b,1,none⟩ v1) ⟨b,2,none⟩ v2) ⟨b,3,none⟩ v3) ⟨b,4,none⟩ v4) ⟨b,5,none⟩ v5) ⟨b,6,none⟩ v6) ⟨b,7,none⟩ v7) (World.heap (World.setCell (World.setCell (World.setCell (World.setCell (World.setCell (World.setCell (World.setCell (World.setCell W ⟨b,0,none⟩ v0) ⟨b,1,none⟩ v1) ⟨b,2,none⟩ v2) ⟨b,3,none⟩ v3) ⟨b,4,none⟩ v4) ⟨b,5,none⟩ v5) ⟨b,6,none⟩ v6) ⟨b,7,none⟩ v7)).size (some ⟨r,0,none⟩) l c:=But.rd (But.setCell (But.setCell (But.setCell (But.setCell (But.setCell (But.setCell (But.setCell (But.setCell (But.refl b W) 0 v0) 1 v1) 2 v2) 3 v3) 4 v4) 5 v5) 6 v6) 7 v7) hA (fun ad e=>by obtain rfl:=Option.some.inj e;exact hne)
end
theorem aft_vbd {p:Po} {m:Mv} (h:Mov p m):vbd p.F p.R (aftL p m)/\orA (aftL p m)=true:=by
 refine ⟨⟨h.hp.hv,by rw [aft_len];exact h.hp.len,fun j _=>?_⟩,pc_orA (aft_orth h)⟩
 have:=aft_orth h (j:Int)
 rw [pc_nat] at this
 unfold okP
 rcases this with h | h
 ·rw [h];omega
 ·unfold orthB at h
  simp at h
  omega
theorem pMake_any (F R:Int) (l:List Int) (A:Option Addr) (c:Nat) (bl:Bool) (ca:Nat) (ps ha fu:Int) (x y t:Int) (hca:ca<256) (hlen:l.length<=100000) (hcap:l.length<=c) (w:World) (hAC:AftC) (hT:T8 w) (hA:RdP w w.heap.size A l c) :
  Calls Tryz.prog 15 #[.agg #[.int .i64 F,.int .i64 R,.slice A l.length c,.bool bl,.int .u8 (ca:Int),.int .i64 ps,.int .i64 ha,.int .i64 fu],.agg #[.int .i64 x,.int .i64 y,.int .i8 t]] w (MadeP w ⟨F,R,l,bl,ca,ps,ha,fu⟩ ⟨x,y,t⟩):=by
 have hmf:∀ (fn:Fn) (first cap:Array Value) (w:World),(Instr.makeFunc fn first cap).run Tryz.prog w=.ok (.func fn first cap) w:=fun _ _ _ _=>rfl
 have HV:=Lib.hid (fun w hT hR hA=>pValid_any F R l A c bl ca ps ha fu hca hlen hcap w hT hR hA)
 have hP:=Bxs.new w [.int .i64 F,.int .i64 R,.slice A l.length c,.bool bl,.int .u8 (ca:Int),.int .i64 ps,.int .i64 ha,.int .i64 fu] 26
 have B1:=box1 w (.cells #[.int .i64 F,.int .i64 R,.slice A l.length c,.bool bl,.int .u8 (ca:Int),.int .i64 ps,.int .i64 ha,.int .i64 fu] 26)
 have B2:=box1 (w.alloc (.cells #[.int .i64 F,.int .i64 R,.slice A l.length c,.bool bl,.int .u8 (ca:Int),.int .i64 ps,.int .i64 ha,.int .i64 fu] 26)) (.cells #[.int .i64 x,.int .i64 y,.int .i8 t] 30)
 have hM:=Bxs.new (w.alloc (.cells #[.int .i64 F,.int .i64 R,.slice A l.length c,.bool bl,.int .u8 (ca:Int),.int .i64 ps,.int .i64 ha,.int .i64 fu] 26)) [.int .i64 x,.int .i64 y,.int .i8 t] 30
 rw [World.size_alloc] at hM
 have B3:=box1 ((w.alloc (.cells #[.int .i64 F,.int .i64 R,.slice A l.length c,.bool bl,.int .u8 (ca:Int),.int .i64 ps,.int .i64 ha,.int .i64 fu] 26)).alloc (.cells #[.int .i64 x,.int .i64 y,.int .i8 t] 30)) (.cells #[.int .i64 0,.int .i64 0,.slice none 0 0,.bool false,.int .u8 0,.int .i64 0,.int .i64 0,.int .i64 0] 26)
 have hG:=Bxs.new ((w.alloc (.cells #[.int .i64 F,.int .i64 R,.slice A l.length c,.bool bl,.int .u8 (ca:Int),.int .i64 ps,.int .i64 ha,.int .i64 fu] 26)).alloc (.cells #[.int .i64 x,.int .i64 y,.int .i8 t] 30)) [.int .i64 0,.int .i64 0,.slice none 0 0,.bool false,.int .u8 0,.int .i64 0,.int .i64 0,.int .i64 0] 26
 rw [World.size_alloc,World.size_alloc] at hG
 have B4:=box1 (((w.alloc (.cells #[.int .i64 F,.int .i64 R,.slice A l.length c,.bool bl,.int .u8 (ca:Int),.int .i64 ps,.int .i64 ha,.int .i64 fu] 26)).alloc (.cells #[.int .i64 x,.int .i64 y,.int .i8 t] 30)).alloc (.cells #[.int .i64 0,.int .i64 0,.slice none 0 0,.bool false,.int .u8 0,.int .i64 0,.int .i64 0,.int .i64 0] 26)) (.cells #[.int .i64 0,.int .i64 0,.int .i8 0,.int .i8 0,.int .i64 0,.int .u8 0,.int .i64 0,.int .i64 0,.int .i64 0] 35)
 have hU:=Bxs.new (((w.alloc (.cells #[.int .i64 F,.int .i64 R,.slice A l.length c,.bool bl,.int .u8 (ca:Int),.int .i64 ps,.int .i64 ha,.int .i64 fu] 26)).alloc (.cells #[.int .i64 x,.int .i64 y,.int .i8 t] 30)).alloc (.cells #[.int .i64 0,.int .i64 0,.slice none 0 0,.bool false,.int .u8 0,.int .i64 0,.int .i64 0,.int .i64 0] 26)) [.int .i64 0,.int .i64 0,.int .i8 0,.int .i8 0,.int .i64 0,.int .u8 0,.int .i64 0,.int .i64 0,.int .i64 0] 35
 rw [World.size_alloc,World.size_alloc,World.size_alloc] at hU
 have B5:=box1 ((((w.alloc (.cells #[.int .i64 F,.int .i64 R,.slice A l.length c,.bool bl,.int .u8 (ca:Int),.int .i64 ps,.int .i64 ha,.int .i64 fu] 26)).alloc (.cells #[.int .i64 x,.int .i64 y,.int .i8 t] 30)).alloc (.cells #[.int .i64 0,.int .i64 0,.slice none 0 0,.bool false,.int .u8 0,.int .i64 0,.int .i64 0,.int .i64 0] 26)).alloc (.cells #[.int .i64 0,.int .i64 0,.int .i8 0,.int .i8 0,.int .i64 0,.int .u8 0,.int .i64 0,.int .i64 0,.int .i64 0] 35)) (.cells #[.int .i64 0] 36)
 have hE:=Bxs.new ((((w.alloc (.cells #[.int .i64 F,.int .i64 R,.slice A l.length c,.bool bl,.int .u8 (ca:Int),.int .i64 ps,.int .i64 ha,.int .i64 fu] 26)).alloc (.cells #[.int .i64 x,.int .i64 y,.int .i8 t] 30)).alloc (.cells #[.int .i64 0,.int .i64 0,.slice none 0 0,.bool false,.int .u8 0,.int .i64 0,.int .i64 0,.int .i64 0] 26)).alloc (.cells #[.int .i64 0,.int .i64 0,.int .i8 0,.int .i8 0,.int .i64 0,.int .u8 0,.int .i64 0,.int .i64 0,.int .i64 0] 35)) [.int .i64 0] 36
 rw [World.size_alloc,World.size_alloc,World.size_alloc,World.size_alloc] at hE
 have hB:=chain (chain (chain (chain B1 B2) B3) B4) B5
 have HB:Hid (Bw w (((((w.alloc (.cells #[.int .i64 F,.int .i64 R,.slice A l.length c,.bool bl,.int .u8 (ca:Int),.int .i64 ps,.int .i64 ha,.int .i64 fu] 26)).alloc (.cells #[.int .i64 x,.int .i64 y,.int .i8 t] 30)).alloc (.cells #[.int .i64 0,.int .i64 0,.slice none 0 0,.bool false,.int .u8 0,.int .i64 0,.int .i64 0,.int .i64 0] 26)).alloc (.cells #[.int .i64 0,.int .i64 0,.int .i8 0,.int .i8 0,.int .i64 0,.int .u8 0,.int .i64 0,.int .i64 0,.int .i64 0] 35)).alloc (.cells #[.int .i64 0] 36))):=Lib.hid hB
 have HP:=Lib.hid ((((hP.below B2 hP.lt).below B3 (by simp <;> omega)).below B4 (by simp <;> omega)).below B5 (by simp <;> omega))
 have HM:=Lib.hid (((hM.below B3 hM.lt).below B4 (by simp <;> omega)).below B5 (by simp <;> omega))
 have HG:=Lib.hid ((hG.below B4 hG.lt).below B5 (by simp <;> omega))
 have HU:=Lib.hid (hU.below B5 hU.lt)
 have HER:=Lib.hid hE
 have HT:=Lib.hid (hT.below hB)
 have HA:=Lib.hid (rdBo hB hA)
 have HTW:Hid (∀ W,Bw w W->T8 W):=Lib.hid (fun W h=>hT.below h)
 have HAW:Hid (∀ W,Bw w W->RdP W W.heap.size A l c):=Lib.hid (fun W h=>rdBo h hA)
 clear hP hM hG hU hE hB B1 B2 B3 B4 B5 hT hA hca hlen hcap
 go_enter_defers Tryz.func15,Tryz.ntmps15
 go_upto_region 2 with fail
 generalize ((((w.alloc (.cells #[.int .i64 F,.int .i64 R,.slice A l.length c,.bool bl,.int .u8 (ca:Int),.int .i64 ps,.int .i64 ha,.int .i64 fu] 26)).alloc (.cells #[.int .i64 x,.int .i64 y,.int .i8 t] 30)).alloc (.cells #[.int .i64 0,.int .i64 0,.slice none 0 0,.bool false,.int .u8 0,.int .i64 0,.int .i64 0,.int .i64 0] 26)).alloc (.cells #[.int .i64 0,.int .i64 0,.int .i8 0,.int .i8 0,.int .i64 0,.int .u8 0,.int .i64 0,.int .i64 0,.int .i64 0] 35)).alloc (.cells #[.int .i64 0] 36)=V at *
 generalize hge:w.heap.size+1+1+1+1=ge at *
 generalize hgu:w.heap.size+1+1+1=gu at *
 generalize hga:w.heap.size+1+1=ga at *
 generalize hgm:w.heap.size+1=gm at *
 generalize hgp:w.heap.size=gp at *
 have i0:gp<gm:=by omega
 have i1:gm<ga:=by omega
 have i2:ga<gu:=by omega
 have i3:gu<ge:=by omega
 have i4:w.heap.size<=gp:=by omega
 clear hge hgu hga hgm hgp
 obtain ⟨p0,p1,p2,p3,p4,p5,p6,p7⟩:=HP.out.h8
 obtain ⟨m0,m1,m2⟩:=HM.out.h3
 go_wp2_with fail
 refine (HV.out _ HT.out.1 HT.out.2.1 HA.out).mono ?_
 rintro e w1 ⟨rfl,hq⟩
 clear p0 p1 p2 p3 p4 p5 p6 p7 m0 m1 m2
 have HP1:=Lib.hid (HP.out.below hq HP.out.lt)
 have HM1:=Lib.hid (HM.out.below hq HM.out.lt)
 have HG1:=Lib.hid (HG.out.below hq HG.out.lt)
 have HU1:=Lib.hid (HU.out.below hq HU.out.lt)
 have HER1:=Lib.hid (HER.out.below hq HER.out.lt)
 have HT1:=Lib.hid (HT.out.below hq)
 have HA1:=Lib.hid (rdBo hq HA.out)
 have HB1:Hid (Bw w _):=Lib.hid (chain HB.out hq)
 clear hq HP HM HG HU HER HT HA HB
 by_cases hok:okPo ⟨F,R,l,bl,ca,ps,ha,fu⟩=true
 ·by_cases hm:okM F R ⟨x,y,t⟩
  ·have HMV:=Lib.hid (fun w=>mvValid_any F R x y t true (by simp [hm]) w)
   have hp:OkP ⟨F,R,l,bl,ca,ps,ha,fu⟩:=(okPo_iff _).1 hok
   have hx:vat F R x:=hm.1
   have hl:(l.length:Int)=F * R:=hp.len
   have h64:F * R<=64:=(vsz_mul hp.hv).2
   have hl64:l.length<=64:=by omega
   have hl0:0<l.length:=by have h9:9<=F * R:=(vsz_mul hp.hv).1;omega
   have hca2:ca<=15:=cas_ca hp.cas
   have HL:=Lib.hid (fun w hA=>pLook_any F R l A c bl ca ps ha fu x y t hp.vbd hx w hA)
   unfold trnV at HL
   have HHS:=Lib.hid (fun w=>has_bel (v:=ownB (pc l x) bl) (ownS_lt bl hl64) hx.2.1 (by have:=hx.2.2;omega) (ownS_bit bl hx.2.1 (by have:=hx.2.2;omega)) w)
   have H9:=Lib.hid (fun h=>err9 (p:=⟨F,R,l,bl,ca,ps,ha,fu⟩) (m:=⟨x,y,t⟩) ⟨hok,hm⟩ h)
   have H10:=Lib.hid (fun h h2=>err10 (p:=⟨F,R,l,bl,ca,ps,ha,fu⟩) (m:=⟨x,y,t⟩) ⟨hok,hm⟩ h h2)
   have HMO:Hid (ownB (pc l x) bl=true->soM ⟨F,R,l,bl,ca,ps,ha,fu⟩ ⟨x,y,t⟩=true->Mov ⟨F,R,l,bl,ca,ps,ha,fu⟩ ⟨x,y,t⟩):=Lib.hid (fun h h2=>⟨hp,hm,h,h2⟩)
   have HSO:=Lib.hid (fun b (h:ownB (pc l x) bl=true) w hT hX=>tSo_any F R l A c bl ca ps ha fu x y t b hp hm h (by omega) w hT hX)
   have HDN:=Lib.hid (fun b (h:ownB (pc l x) bl=true) w hT hA hX=>tDng_any F R l A c bl ca ps ha fu x y t (kdP (pc l x)) (ownS l bl) (ownS l (!bl)) b hp h (by omega) w hT hA hX)
   have HRC:Hid (∀ (b:Nat) (_:Mov ⟨F,R,l,bl,ca,ps,ha,fu⟩ ⟨x,y,t⟩) (w:World),RdP w w.heap.size A l c->Bxs w b [.int .i64 F,.int .i64 R,.slice A l.length c,.bool bl,.int .u8 (ca:Int),.int .i64 ps,.int .i64 ha,.int .i64 fu,.int .i64 x,.int .i64 y,.int .i8 t,.int .i8 (kdP (pc l x)),.int .u64 (ownS l bl:Int),.int .u64 (ownS l (!bl):Int)]->Calls Tryz.prog 50 #[.pointer (some ⟨b,0,none⟩)] w fun e w'=>e=.returned (.agg #[.int .i64 x,.int .i64 y,.int .i8 t,.int .i8 (recM ⟨F,R,l,bl,ca,ps,ha,fu⟩ ⟨x,y,t⟩).cp,.int .i64 (capM ⟨F,R,l,bl,ca,ps,ha,fu⟩ ⟨x,y,t⟩),.int .u8 (ca:Int),.int .i64 ps,.int .i64 ha,.int .i64 fu])/\Below w.heap.size w w'):=Lib.hid (fun b hm w hA hX=>tRec_any F R l A c bl ca ps ha fu x y t (ownS l bl) (ownS l (!bl)) b hm rfl w hA hX)
   have HCK:Hid (∀ (_:Mov ⟨F,R,l,bl,ca,ps,ha,fu⟩ ⟨x,y,t⟩) (r cap:Nat) (ca':Nat) (ps' ha' fu':Int) (b':Bool) (w:World),RdP w w.heap.size (some ⟨r,0,none⟩) (aftL ⟨F,R,l,bl,ca,ps,ha,fu⟩ ⟨x,y,t⟩) cap->T5 w->Calls Tryz.prog 52 #[.agg #[.int .i64 F,.int .i64 R,.slice (some ⟨r,0,none⟩) (aftL ⟨F,R,l,bl,ca,ps,ha,fu⟩ ⟨x,y,t⟩).length cap,.bool b',.int .u8 (ca':Int),.int .i64 ps',.int .i64 ha',.int .i64 fu'],.bool bl] w fun e w'=>e=.returned (.bool (chkB F R (aftL ⟨F,R,l,bl,ca,ps,ha,fu⟩ ⟨x,y,t⟩) bl))/\Below w.heap.size w w'):=Lib.hid (fun hm r cap ca' ps' ha' fu' b' w hA hT=>pInC_any F R (aftL ⟨F,R,l,bl,ca,ps,ha,fu⟩ ⟨x,y,t⟩) (some ⟨r,0,none⟩) cap b' ca' ps' ha' fu' bl w (aft_vbd hm).1 (aft_vbd hm).2 hA hT (king_aft hm bl))
   have HSF:=Lib.hid (fun (h:Mov ⟨F,R,l,bl,ca,ps,ha,fu⟩ ⟨x,y,t⟩)=>saf_prog h)
   have H90:=Lib.hid (fun (h:Mov ⟨F,R,l,bl,ca,ps,ha,fu⟩ ⟨x,y,t⟩) h3=>err90 h h3)
   have H7:=Lib.hid (fun (h:Mov ⟨F,R,l,bl,ca,ps,ha,fu⟩ ⟨x,y,t⟩) h3 h4=>err7 h h3 h4)
   have H0:=Lib.hid (fun (h:Mov ⟨F,R,l,bl,ca,ps,ha,fu⟩ ⟨x,y,t⟩) h3 h4=>err0 h h3 h4)
   have HAL:=Lib.hid (aft_len ⟨F,R,l,bl,ca,ps,ha,fu⟩ ⟨x,y,t⟩)
   have HU0:Hid (unV (recM ⟨F,R,l,bl,ca,ps,ha,fu⟩ ⟨x,y,t⟩)=.agg #[.int .i64 x,.int .i64 y,.int .i8 t,.int .i8 (recM ⟨F,R,l,bl,ca,ps,ha,fu⟩ ⟨x,y,t⟩).cp,.int .i64 (capM ⟨F,R,l,bl,ca,ps,ha,fu⟩ ⟨x,y,t⟩),.int .u8 (ca:Int),.int .i64 ps,.int .i64 ha,.int .i64 fu]):=Lib.hid rfl
   have HAF:=Lib.hid (fun b (hm:Mov ⟨F,R,l,bl,ca,ps,ha,fu⟩ ⟨x,y,t⟩) w hT hA hX=>hAC F R l A c bl ca ps ha fu x y t (ownS l bl) (ownS l (!bl)) b hm hca2 w hT hA hX)
   obtain ⟨ha2,hha2⟩:∃ z,(if kdP (pc l x)=1\/0<=capM ⟨F,R,l,bl,ca,ps,ha,fu⟩ ⟨x,y,t⟩ then 0 else ha+1)=z:=⟨_,rfl⟩
   obtain ⟨fu2,hfu2⟩:∃ z,(if bl=true then fu+1 else fu)=z:=⟨_,rfl⟩
   rw [hha2,hfu2] at HAF
   have HM2:Hid (aftM ⟨F,R,l,bl,ca,ps,ha,fu⟩ ⟨x,y,t⟩=⟨F,R,aftL ⟨F,R,l,bl,ca,ps,ha,fu⟩ ⟨x,y,t⟩,!bl,aftC ⟨F,R,l,bl,ca,ps,ha,fu⟩ ⟨x,y,t⟩,aftP ⟨F,R,l,bl,ca,ps,ha,fu⟩ ⟨x,y,t⟩,ha2,fu2⟩):=Lib.hid (by
    rw [<- hha2,<- hfu2]
    rfl)
   clear hha2 hfu2
   have HL0:=Lib.hid hl0
   rw [hok]
   generalize okPo ⟨F,R,l,bl,ca,ps,ha,fu⟩=ok at *
   subst hok
   clear hp hx hl h64 hl64 hl0 hca2 HV
   obtain ⟨p0,p1⟩:=HP1.out.h2
   obtain ⟨m0,m1,m2⟩:=HM1.out.h3
   go_wp2_with fail
   refine (HMV.out _).mono ?_
   rintro e w2 ⟨rfl,hq⟩
   clear p0 p1 m0 m1 m2 HMV
   have HP2:=Lib.hid (HP1.out.below hq HP1.out.lt)
   have HM2:=Lib.hid (HM1.out.below hq HM1.out.lt)
   have HG2:=Lib.hid (HG1.out.below hq HG1.out.lt)
   have HU2:=Lib.hid (HU1.out.below hq HU1.out.lt)
   have HER2:=Lib.hid (HER1.out.below hq HER1.out.lt)
   have HT2:=Lib.hid (HT1.out.below hq)
   have HA2:=Lib.hid (rdBo hq HA1.out)
   have HB2:Hid (Bw w _):=Lib.hid (chain HB1.out hq)
   clear hq HP1 HM1 HG1 HU1 HER1 HT1 HA1 HB1
   go_wp2_with fail
   refine (pRule_yes 2 _).mono ?_
   rintro e2 wz ⟨rfl,rfl⟩
   obtain ⟨p0,p1,p2,p3,p4,p5,p6,p7⟩:=HP2.out.h8
   obtain ⟨m0,m1,m2⟩:=HM2.out.h3
   go_wp2_with fail
   refine (HL.out _ HA2.out).mono ?_
   rintro e w3 ⟨rfl,hq⟩
   clear p0 p1 p2 p3 p4 p5 p6 p7 m0 m1 m2 HL
   have HP3:=Lib.hid (HP2.out.below hq HP2.out.lt)
   have HM3:=Lib.hid (HM2.out.below hq HM2.out.lt)
   have HG3:=Lib.hid (HG2.out.below hq HG2.out.lt)
   have HU3:=Lib.hid (HU2.out.below hq HU2.out.lt)
   have HER3:=Lib.hid (HER2.out.below hq HER2.out.lt)
   have HT3:=Lib.hid (HT2.out.below hq)
   have HA3:=Lib.hid (rdBo hq HA2.out)
   have HB3:Hid (Bw w _):=Lib.hid (chain HB2.out hq)
   clear hq HP2 HM2 HG2 HU2 HER2 HT2 HA2 HB2
   go_upto_region 4 with fail
   have HTN:=Lib.hid (Bxs.new w3 [.int .i64 F,.int .i64 R,.slice A l.length c,.bool bl,.int .u8 (ca:Int),.int .i64 ps,.int .i64 ha,.int .i64 fu,.int .i64 x,.int .i64 y,.int .i8 t,.int .i8 (kdP (pc l x)),.int .u64 (ownS l bl:Int),.int .u64 (ownS l (!bl):Int)] 87)
   have hq:=box1 w3 (.cells #[.int .i64 F,.int .i64 R,.slice A l.length c,.bool bl,.int .u8 (ca:Int),.int .i64 ps,.int .i64 ha,.int .i64 fu,.int .i64 x,.int .i64 y,.int .i8 t,.int .i8 (kdP (pc l x)),.int .u64 (ownS l bl:Int),.int .u64 (ownS l (!bl):Int)] 87)
   have hgt:ge<w3.heap.size:=HER3.out.lt
   obtain ⟨gt,hgt2⟩:∃ g,w3.heap.size=g:=⟨_,rfl⟩
   rw [hgt2] at HTN hgt ⊢
   generalize hw4:w3.alloc (.cells #[.int .i64 F,.int .i64 R,.slice A l.length c,.bool bl,.int .u8 (ca:Int),.int .i64 ps,.int .i64 ha,.int .i64 fu,.int .i64 x,.int .i64 y,.int .i8 t,.int .i8 (kdP (pc l x)),.int .u64 (ownS l bl:Int),.int .u64 (ownS l (!bl):Int)] 87)=w4 at *
   clear hgt2 hw4
   have HP4:=Lib.hid (HP3.out.below hq HP3.out.lt)
   have HM4:=Lib.hid (HM3.out.below hq HM3.out.lt)
   have HG4:=Lib.hid (HG3.out.below hq HG3.out.lt)
   have HU4:=Lib.hid (HU3.out.below hq HU3.out.lt)
   have HER4:=Lib.hid (HER3.out.below hq HER3.out.lt)
   have HT4:=Lib.hid (HT3.out.below hq)
   have HA4:=Lib.hid (rdBo hq HA3.out)
   have HB4:Hid (Bw w _):=Lib.hid (chain HB3.out hq)
   clear hq HP3 HM3 HG3 HU3 HER3 HT3 HA3 HB3
   have HTN4:=HTN
   clear HTN
   have z12:=HTN4.out.c 12 rfl
   have m0:=HM4.out.c 0 rfl
   go_wp2_with fail
   refine (HHS.out _).mono ?_
   rintro e w5 ⟨rfl,hq⟩
   clear z12 m0 HHS
   have HP5:=Lib.hid (HP4.out.below hq HP4.out.lt)
   have HM5:=Lib.hid (HM4.out.below hq HM4.out.lt)
   have HG5:=Lib.hid (HG4.out.below hq HG4.out.lt)
   have HU5:=Lib.hid (HU4.out.below hq HU4.out.lt)
   have HER5:=Lib.hid (HER4.out.below hq HER4.out.lt)
   have HTN5:=Lib.hid (HTN4.out.below hq HTN4.out.lt)
   have HT5:=Lib.hid (HT4.out.below hq)
   have HA5:=Lib.hid (rdBo hq HA4.out)
   have HB5:Hid (Bw w _):=Lib.hid (chain HB4.out hq)
   clear hq HP4 HM4 HG4 HU4 HER4 HTN4 HT4 HA4 HB4
   cases how:ownB (pc l x) bl
   ·have HE:=Lib.hid (H9.out how)
    go_wp2_with fail
    refine (pRule_no 9 _).mono ?_
    rintro e2 wz ⟨rfl,rfl⟩
    go_wp2_with fail
    refine leaves_cons (f:=43) (args:=#[.pointer (some ⟨ga,0,none⟩),.pointer (some ⟨gu,0,none⟩),.pointer (some ⟨ge,0,none⟩)]) (by simp) (by simp [go_sem]) ?_
    refine (catch_yes ga gu ge (by omega) (by omega) (by omega) 9 _ HG5.out HU5.out HER5.out).mono ?_
    rintro e3 u3 w3 ⟨rfl,rfl,hC⟩
    have hCB:Bw w w3:=hC.2.2.2 w HB5.out (by omega) (by omega) (by omega)
    have hC1:=hC.1
    have hC2:=hC.2.1
    have hC3:=hC.2.2.1
    clear hC
    obtain ⟨c0,c1,c2,c3,c4,c5,c6,c7⟩:=hC1.h8
    obtain ⟨d0,d1,d2,d3,d4,d5,d6,d7,d8⟩:=hC2.h9
    have x0:=hC3.c 0 rfl
    clear hC1 hC2 hC3
    simp [Leaves,settle,results,Tryz.results15,go_sem,c0,c1,c2,c3,c4,c5,c6,c7,d0,d1,d2,d3,d4,d5,d6,d7,d8,x0]
    exact made_err HE.out (by decide) hCB
   ·skip
    go_wp2_with fail
    refine (pRule_yes 9 _).mono ?_
    rintro e2 wz ⟨rfl,rfl⟩
    go_wp2_with fail
    refine (HSO.out gt how _ HT5.out HTN5.out).mono ?_
    rintro e w6 ⟨rfl,hq⟩
    clear HSO
    have HP6:=Lib.hid (HP5.out.below hq HP5.out.lt)
    have HM6:=Lib.hid (HM5.out.below hq HM5.out.lt)
    have HG6:=Lib.hid (HG5.out.below hq HG5.out.lt)
    have HU6:=Lib.hid (HU5.out.below hq HU5.out.lt)
    have HER6:=Lib.hid (HER5.out.below hq HER5.out.lt)
    have HTN6:=Lib.hid (HTN5.out.below hq HTN5.out.lt)
    have HT6:=Lib.hid (HT5.out.below hq)
    have HA6:=Lib.hid (rdBo hq HA5.out)
    have HB6:Hid (Bw w _):=Lib.hid (chain HB5.out hq)
    clear hq HP5 HM5 HG5 HU5 HER5 HTN5 HT5 HA5 HB5
    cases hso:soM ⟨F,R,l,bl,ca,ps,ha,fu⟩ ⟨x,y,t⟩
    ·have HE:=Lib.hid (H10.out how hso)
     go_wp2_with fail
     refine (pRule_no 10 _).mono ?_
     rintro e2 wz ⟨rfl,rfl⟩
     go_wp2_with fail
     refine leaves_cons (f:=43) (args:=#[.pointer (some ⟨ga,0,none⟩),.pointer (some ⟨gu,0,none⟩),.pointer (some ⟨ge,0,none⟩)]) (by simp) (by simp [go_sem]) ?_
     refine (catch_yes ga gu ge (by omega) (by omega) (by omega) 10 _ HG6.out HU6.out HER6.out).mono ?_
     rintro e3 u3 w3 ⟨rfl,rfl,hC⟩
     have hCB:Bw w w3:=hC.2.2.2 w HB6.out (by omega) (by omega) (by omega)
     have hC1:=hC.1
     have hC2:=hC.2.1
     have hC3:=hC.2.2.1
     clear hC
     obtain ⟨c0,c1,c2,c3,c4,c5,c6,c7⟩:=hC1.h8
     obtain ⟨d0,d1,d2,d3,d4,d5,d6,d7,d8⟩:=hC2.h9
     have x0:=hC3.c 0 rfl
     clear hC1 hC2 hC3
     simp [Leaves,settle,results,Tryz.results15,go_sem,c0,c1,c2,c3,c4,c5,c6,c7,d0,d1,d2,d3,d4,d5,d6,d7,d8,x0]
     exact made_err HE.out (by decide) hCB
    ·have hmv:=HMO.out how hso
     have HMV:=Lib.hid hmv
     have HDX:=Lib.hid (fun w hT hA hX=>HDN.out gt how w hT hA hX)
     clear how hso hmv H9 H10 HMO HDN
     go_wp2_with fail
     refine (pRule_yes 10 _).mono ?_
     rintro e2 wz ⟨rfl,rfl⟩
     go_wp2_with fail
     refine (HRC.out gt HMV.out _ HA6.out HTN6.out).mono ?_
     rintro e w7 ⟨rfl,hq⟩
     clear HRC
     have HP7:=Lib.hid (HP6.out.below hq HP6.out.lt)
     have HM7:=Lib.hid (HM6.out.below hq HM6.out.lt)
     have HG7:=Lib.hid (HG6.out.below hq HG6.out.lt)
     have HU7:=Lib.hid (HU6.out.below hq HU6.out.lt)
     have HER7:=Lib.hid (HER6.out.below hq HER6.out.lt)
     have HTN7:=Lib.hid (HTN6.out.below hq HTN6.out.lt)
     have HT7:=Lib.hid (HT6.out.below hq)
     have HA7:=Lib.hid (rdBo hq HA6.out)
     have HB7:Hid (Bw w _):=Lib.hid (chain HB6.out hq)
     clear hq HP6 HM6 HG6 HU6 HER6 HTN6 HT6 HA6 HB6
     obtain ⟨u0,u1,u2,u3,u4,u5,u6,u7,u8⟩:=HU7.out.h9
     have uf:=HU7.out.2
     go_upto_region 7 with fail
     clear u0 u1 u2 u3 u4 u5 u6 u7 u8 uf
     have HU8:=Lib.hid (show Bxs (World.setCell (World.setCell (World.setCell (World.setCell (World.setCell (World.setCell (World.setCell (World.setCell (World.setCell w7 ⟨gu,0,none⟩ (.int .i64 x)) ⟨gu,1,none⟩ (.int .i64 y)) ⟨gu,2,none⟩ (.int .i8 t)) ⟨gu,3,none⟩ (.int .i8 (recM ⟨F,R,l,bl,ca,ps,ha,fu⟩ ⟨x,y,t⟩).cp)) ⟨gu,4,none⟩ (.int .i64 (capM ⟨F,R,l,bl,ca,ps,ha,fu⟩ ⟨x,y,t⟩))) ⟨gu,5,none⟩ (.int .u8 (ca:Int))) ⟨gu,6,none⟩ (.int .i64 ps)) ⟨gu,7,none⟩ (.int .i64 ha)) ⟨gu,8,none⟩ (.int .i64 fu)) gu [.int .i64 x,.int .i64 y,.int .i8 t,.int .i8 (recM ⟨F,R,l,bl,ca,ps,ha,fu⟩ ⟨x,y,t⟩).cp,.int .i64 (capM ⟨F,R,l,bl,ca,ps,ha,fu⟩ ⟨x,y,t⟩),.int .u8 (ca:Int),.int .i64 ps,.int .i64 ha,.int .i64 fu] from HU7.out.put9 (.int .i64 x) (.int .i64 y) (.int .i8 t) (.int .i8 (recM ⟨F,R,l,bl,ca,ps,ha,fu⟩ ⟨x,y,t⟩).cp) (.int .i64 (capM ⟨F,R,l,bl,ca,ps,ha,fu⟩ ⟨x,y,t⟩)) (.int .u8 (ca:Int)) (.int .i64 ps) (.int .i64 ha) (.int .i64 fu))
     have HP8:=Lib.hid (HP7.out.oth9 (g:=gu) (by omega) (.int .i64 x) (.int .i64 y) (.int .i8 t) (.int .i8 (recM ⟨F,R,l,bl,ca,ps,ha,fu⟩ ⟨x,y,t⟩).cp) (.int .i64 (capM ⟨F,R,l,bl,ca,ps,ha,fu⟩ ⟨x,y,t⟩)) (.int .u8 (ca:Int)) (.int .i64 ps) (.int .i64 ha) (.int .i64 fu))
     have HM8:=Lib.hid (HM7.out.oth9 (g:=gu) (by omega) (.int .i64 x) (.int .i64 y) (.int .i8 t) (.int .i8 (recM ⟨F,R,l,bl,ca,ps,ha,fu⟩ ⟨x,y,t⟩).cp) (.int .i64 (capM ⟨F,R,l,bl,ca,ps,ha,fu⟩ ⟨x,y,t⟩)) (.int .u8 (ca:Int)) (.int .i64 ps) (.int .i64 ha) (.int .i64 fu))
     have HG8:=Lib.hid (HG7.out.oth9 (g:=gu) (by omega) (.int .i64 x) (.int .i64 y) (.int .i8 t) (.int .i8 (recM ⟨F,R,l,bl,ca,ps,ha,fu⟩ ⟨x,y,t⟩).cp) (.int .i64 (capM ⟨F,R,l,bl,ca,ps,ha,fu⟩ ⟨x,y,t⟩)) (.int .u8 (ca:Int)) (.int .i64 ps) (.int .i64 ha) (.int .i64 fu))
     have HER8:=Lib.hid (HER7.out.oth9 (g:=gu) (by omega) (.int .i64 x) (.int .i64 y) (.int .i8 t) (.int .i8 (recM ⟨F,R,l,bl,ca,ps,ha,fu⟩ ⟨x,y,t⟩).cp) (.int .i64 (capM ⟨F,R,l,bl,ca,ps,ha,fu⟩ ⟨x,y,t⟩)) (.int .u8 (ca:Int)) (.int .i64 ps) (.int .i64 ha) (.int .i64 fu))
     have HTN8:=Lib.hid (HTN7.out.oth9 (g:=gu) (by omega) (.int .i64 x) (.int .i64 y) (.int .i8 t) (.int .i8 (recM ⟨F,R,l,bl,ca,ps,ha,fu⟩ ⟨x,y,t⟩).cp) (.int .i64 (capM ⟨F,R,l,bl,ca,ps,ha,fu⟩ ⟨x,y,t⟩)) (.int .u8 (ca:Int)) (.int .i64 ps) (.int .i64 ha) (.int .i64 fu))
     have HB8:Hid (Bw w (World.setCell (World.setCell (World.setCell (World.setCell (World.setCell (World.setCell (World.setCell (World.setCell (World.setCell w7 ⟨gu,0,none⟩ (.int .i64 x)) ⟨gu,1,none⟩ (.int .i64 y)) ⟨gu,2,none⟩ (.int .i8 t)) ⟨gu,3,none⟩ (.int .i8 (recM ⟨F,R,l,bl,ca,ps,ha,fu⟩ ⟨x,y,t⟩).cp)) ⟨gu,4,none⟩ (.int .i64 (capM ⟨F,R,l,bl,ca,ps,ha,fu⟩ ⟨x,y,t⟩))) ⟨gu,5,none⟩ (.int .u8 (ca:Int))) ⟨gu,6,none⟩ (.int .i64 ps)) ⟨gu,7,none⟩ (.int .i64 ha)) ⟨gu,8,none⟩ (.int .i64 fu))):=Lib.hid (bw9 HB7.out (by omega) _ _ _ _ _ _ _ _ _)
     have HA8:=Lib.hid (HAW.out _ HB8.out)
     have HT8:=Lib.hid (HTW.out _ HB8.out)
     clear HP7 HM7 HG7 HU7 HER7 HTN7 HB7 HA7 HT7
     generalize (World.setCell (World.setCell (World.setCell (World.setCell (World.setCell (World.setCell (World.setCell (World.setCell (World.setCell w7 ⟨gu,0,none⟩ (.int .i64 x)) ⟨gu,1,none⟩ (.int .i64 y)) ⟨gu,2,none⟩ (.int .i8 t)) ⟨gu,3,none⟩ (.int .i8 (recM ⟨F,R,l,bl,ca,ps,ha,fu⟩ ⟨x,y,t⟩).cp)) ⟨gu,4,none⟩ (.int .i64 (capM ⟨F,R,l,bl,ca,ps,ha,fu⟩ ⟨x,y,t⟩))) ⟨gu,5,none⟩ (.int .u8 (ca:Int))) ⟨gu,6,none⟩ (.int .i64 ps)) ⟨gu,7,none⟩ (.int .i64 ha)) ⟨gu,8,none⟩ (.int .i64 fu))=w8 at *
     have u4:=HU8.out.c 4 rfl
     have hl1:0<(aftL ⟨F,R,l,bl,ca,ps,ha,fu⟩ ⟨x,y,t⟩).length:=by rw [HAL.out];exact HL0.out
     have hgr:∀ (r:Nat),w8.heap.size<=r->r≠ga/\r≠gu/\r≠ge:=fun r hr=>by
      have:=HG8.out.lt
      have:=HU8.out.lt
      have:=HER8.out.lt
      omega
     have HGR:=Lib.hid hgr
     have HL1:=Lib.hid hl1
     clear hgr hl1
     go_wp2_with fail
     refine (HAF.out gt HMV.out _ HT8.out HA8.out HTN8.out).mono ?_
     intro e w9 hN
     obtain ⟨r,cap,rfl,hrow,hrd,hr0,_,hq⟩:=newP_rd hN HL1.out
     clear u4 hN HAF
     obtain ⟨hra,hru,hre⟩:=HGR.out r hr0
     have HROW:=Lib.hid (World.ownsRow.mono hrow (base':=w.heap.size) (by have:=HB8.out.size;omega))
     have HRD:=Lib.hid hrd
     clear hrow hrd hr0 HGR
     have HP9:=Lib.hid (HP8.out.below hq HP8.out.lt)
     have HM9:=Lib.hid (HM8.out.below hq HM8.out.lt)
     have HG9:=Lib.hid (HG8.out.below hq HG8.out.lt)
     have HU9:=Lib.hid (HU8.out.below hq HU8.out.lt)
     have HER9:=Lib.hid (HER8.out.below hq HER8.out.lt)
     have HTN9:=Lib.hid (HTN8.out.below hq HTN8.out.lt)
     have HT9:=Lib.hid (HT8.out.below hq)
     have HA9:=Lib.hid (rdBo hq HA8.out)
     have HB9:Hid (Bw w _):=Lib.hid (chain HB8.out hq)
     clear hq HP8 HM8 HG8 HU8 HER8 HTN8 HT8 HA8 HB8
     clear HA9 HT9
     obtain ⟨a0,a1,a2,a3,a4,a5,a6,a7⟩:=HG9.out.h8
     have af:=HG9.out.2
     go_upto_region 8 with fail
     clear a0 a1 a2 a3 a4 a5 a6 a7 af
     have HG10:=Lib.hid (show Bxs (World.setCell (World.setCell (World.setCell (World.setCell (World.setCell (World.setCell (World.setCell (World.setCell w9 ⟨ga,0,none⟩ (.int .i64 F)) ⟨ga,1,none⟩ (.int .i64 R)) ⟨ga,2,none⟩ (.slice (some ⟨r,0,none⟩) (aftL ⟨F,R,l,bl,ca,ps,ha,fu⟩ ⟨x,y,t⟩).length cap)) ⟨ga,3,none⟩ (.bool (!bl))) ⟨ga,4,none⟩ (.int .u8 (aftC ⟨F,R,l,bl,ca,ps,ha,fu⟩ ⟨x,y,t⟩:Int))) ⟨ga,5,none⟩ (.int .i64 (aftP ⟨F,R,l,bl,ca,ps,ha,fu⟩ ⟨x,y,t⟩))) ⟨ga,6,none⟩ (.int .i64 ha2)) ⟨ga,7,none⟩ (.int .i64 fu2)) ga [.int .i64 F,.int .i64 R,.slice (some ⟨r,0,none⟩) (aftL ⟨F,R,l,bl,ca,ps,ha,fu⟩ ⟨x,y,t⟩).length cap,.bool (!bl),.int .u8 (aftC ⟨F,R,l,bl,ca,ps,ha,fu⟩ ⟨x,y,t⟩:Int),.int .i64 (aftP ⟨F,R,l,bl,ca,ps,ha,fu⟩ ⟨x,y,t⟩),.int .i64 ha2,.int .i64 fu2] from HG9.out.put8 (.int .i64 F) (.int .i64 R) (.slice (some ⟨r,0,none⟩) (aftL ⟨F,R,l,bl,ca,ps,ha,fu⟩ ⟨x,y,t⟩).length cap) (.bool (!bl)) (.int .u8 (aftC ⟨F,R,l,bl,ca,ps,ha,fu⟩ ⟨x,y,t⟩:Int)) (.int .i64 (aftP ⟨F,R,l,bl,ca,ps,ha,fu⟩ ⟨x,y,t⟩)) (.int .i64 ha2) (.int .i64 fu2))
     have HP10:=Lib.hid (HP9.out.oth8 (g:=ga) (by omega) (.int .i64 F) (.int .i64 R) (.slice (some ⟨r,0,none⟩) (aftL ⟨F,R,l,bl,ca,ps,ha,fu⟩ ⟨x,y,t⟩).length cap) (.bool (!bl)) (.int .u8 (aftC ⟨F,R,l,bl,ca,ps,ha,fu⟩ ⟨x,y,t⟩:Int)) (.int .i64 (aftP ⟨F,R,l,bl,ca,ps,ha,fu⟩ ⟨x,y,t⟩)) (.int .i64 ha2) (.int .i64 fu2))
     have HU10:=Lib.hid (HU9.out.oth8 (g:=ga) (by omega) (.int .i64 F) (.int .i64 R) (.slice (some ⟨r,0,none⟩) (aftL ⟨F,R,l,bl,ca,ps,ha,fu⟩ ⟨x,y,t⟩).length cap) (.bool (!bl)) (.int .u8 (aftC ⟨F,R,l,bl,ca,ps,ha,fu⟩ ⟨x,y,t⟩:Int)) (.int .i64 (aftP ⟨F,R,l,bl,ca,ps,ha,fu⟩ ⟨x,y,t⟩)) (.int .i64 ha2) (.int .i64 fu2))
     have HER10:=Lib.hid (HER9.out.oth8 (g:=ga) (by omega) (.int .i64 F) (.int .i64 R) (.slice (some ⟨r,0,none⟩) (aftL ⟨F,R,l,bl,ca,ps,ha,fu⟩ ⟨x,y,t⟩).length cap) (.bool (!bl)) (.int .u8 (aftC ⟨F,R,l,bl,ca,ps,ha,fu⟩ ⟨x,y,t⟩:Int)) (.int .i64 (aftP ⟨F,R,l,bl,ca,ps,ha,fu⟩ ⟨x,y,t⟩)) (.int .i64 ha2) (.int .i64 fu2))
     have HTN10:=Lib.hid (HTN9.out.oth8 (g:=ga) (by omega) (.int .i64 F) (.int .i64 R) (.slice (some ⟨r,0,none⟩) (aftL ⟨F,R,l,bl,ca,ps,ha,fu⟩ ⟨x,y,t⟩).length cap) (.bool (!bl)) (.int .u8 (aftC ⟨F,R,l,bl,ca,ps,ha,fu⟩ ⟨x,y,t⟩:Int)) (.int .i64 (aftP ⟨F,R,l,bl,ca,ps,ha,fu⟩ ⟨x,y,t⟩)) (.int .i64 ha2) (.int .i64 fu2))
     have HB10:Hid (Bw w (World.setCell (World.setCell (World.setCell (World.setCell (World.setCell (World.setCell (World.setCell (World.setCell w9 ⟨ga,0,none⟩ (.int .i64 F)) ⟨ga,1,none⟩ (.int .i64 R)) ⟨ga,2,none⟩ (.slice (some ⟨r,0,none⟩) (aftL ⟨F,R,l,bl,ca,ps,ha,fu⟩ ⟨x,y,t⟩).length cap)) ⟨ga,3,none⟩ (.bool (!bl))) ⟨ga,4,none⟩ (.int .u8 (aftC ⟨F,R,l,bl,ca,ps,ha,fu⟩ ⟨x,y,t⟩:Int))) ⟨ga,5,none⟩ (.int .i64 (aftP ⟨F,R,l,bl,ca,ps,ha,fu⟩ ⟨x,y,t⟩))) ⟨ga,6,none⟩ (.int .i64 ha2)) ⟨ga,7,none⟩ (.int .i64 fu2))):=Lib.hid (bw8 HB9.out (by omega) _ _ _ _ _ _ _ _)
     have HROW10:=Lib.hid (own_o8 HROW.out hra (.int .i64 F) (.int .i64 R) (.slice (some ⟨r,0,none⟩) (aftL ⟨F,R,l,bl,ca,ps,ha,fu⟩ ⟨x,y,t⟩).length cap) (.bool (!bl)) (.int .u8 (aftC ⟨F,R,l,bl,ca,ps,ha,fu⟩ ⟨x,y,t⟩:Int)) (.int .i64 (aftP ⟨F,R,l,bl,ca,ps,ha,fu⟩ ⟨x,y,t⟩)) (.int .i64 ha2) (.int .i64 fu2))
     have HRD10:=Lib.hid (rd_o8 HRD.out hra (.int .i64 F) (.int .i64 R) (.slice (some ⟨r,0,none⟩) (aftL ⟨F,R,l,bl,ca,ps,ha,fu⟩ ⟨x,y,t⟩).length cap) (.bool (!bl)) (.int .u8 (aftC ⟨F,R,l,bl,ca,ps,ha,fu⟩ ⟨x,y,t⟩:Int)) (.int .i64 (aftP ⟨F,R,l,bl,ca,ps,ha,fu⟩ ⟨x,y,t⟩)) (.int .i64 ha2) (.int .i64 fu2))
     have HA10:=Lib.hid (HAW.out _ HB10.out)
     have HT10:=Lib.hid (HTW.out _ HB10.out)
     clear HP9 HM9 HG9 HU9 HER9 HTN9 HB9 HROW HRD
     generalize (World.setCell (World.setCell (World.setCell (World.setCell (World.setCell (World.setCell (World.setCell (World.setCell w9 ⟨ga,0,none⟩ (.int .i64 F)) ⟨ga,1,none⟩ (.int .i64 R)) ⟨ga,2,none⟩ (.slice (some ⟨r,0,none⟩) (aftL ⟨F,R,l,bl,ca,ps,ha,fu⟩ ⟨x,y,t⟩).length cap)) ⟨ga,3,none⟩ (.bool (!bl))) ⟨ga,4,none⟩ (.int .u8 (aftC ⟨F,R,l,bl,ca,ps,ha,fu⟩ ⟨x,y,t⟩:Int))) ⟨ga,5,none⟩ (.int .i64 (aftP ⟨F,R,l,bl,ca,ps,ha,fu⟩ ⟨x,y,t⟩))) ⟨ga,6,none⟩ (.int .i64 ha2)) ⟨ga,7,none⟩ (.int .i64 fu2))=w10 at *
     obtain ⟨a0,a1,a2,a3,a4,a5,a6,a7⟩:=HG10.out.h8
     have p3:=HP10.out.c 3 rfl
     go_wp2_with fail
     refine (HCK.out HMV.out r cap _ _ _ _ _ _ HRD10.out HT10.out.1).mono ?_
     rintro e w11 ⟨rfl,hq⟩
     clear a0 a1 a2 a3 a4 a5 a6 a7 p3 HCK
     have HROW11:=Lib.hid (own_below HROW10.out hq)
     have HRD11:=Lib.hid (rdBo hq HRD10.out)
     clear HROW10 HRD10
     have HP11:=Lib.hid (HP10.out.below hq HP10.out.lt)
     have HG11:=Lib.hid (HG10.out.below hq HG10.out.lt)
     have HU11:=Lib.hid (HU10.out.below hq HU10.out.lt)
     have HER11:=Lib.hid (HER10.out.below hq HER10.out.lt)
     have HTN11:=Lib.hid (HTN10.out.below hq HTN10.out.lt)
     have HT11:=Lib.hid (HT10.out.below hq)
     have HA11:=Lib.hid (rdBo hq HA10.out)
     have HB11:Hid (Bw w _):=Lib.hid (chain HB10.out hq)
     clear hq HP10 HG10 HU10 HER10 HTN10 HT10 HA10 HB10
     have hsf:=HSF.out HMV.out
     cases hck:chkB F R (aftL ⟨F,R,l,bl,ca,ps,ha,fu⟩ ⟨x,y,t⟩) bl
     case true =>
      have HE:=Lib.hid (H90.out HMV.out (by rw [hsf];simp only [hck];rfl))
      clear hsf hck
      go_wp2_with fail
      refine (pRule_no 90 _).mono ?_
      rintro e2 wz ⟨rfl,rfl⟩
      go_wp2_with fail
      refine leaves_cons (f:=43) (args:=#[.pointer (some ⟨ga,0,none⟩),.pointer (some ⟨gu,0,none⟩),.pointer (some ⟨ge,0,none⟩)]) (by simp) (by simp [go_sem]) ?_
      refine (catch_yes ga gu ge (by omega) (by omega) (by omega) 90 _ HG11.out HU11.out HER11.out).mono ?_
      rintro e3 u3 w3 ⟨rfl,rfl,hC⟩
      have hCB:Bw w w3:=hC.2.2.2 w HB11.out (by omega) (by omega) (by omega)
      have hC1:=hC.1
      have hC2:=hC.2.1
      have hC3:=hC.2.2.1
      clear hC
      obtain ⟨c0,c1,c2,c3,c4,c5,c6,c7⟩:=hC1.h8
      obtain ⟨d0,d1,d2,d3,d4,d5,d6,d7,d8⟩:=hC2.h9
      have x0:=hC3.c 0 rfl
      clear hC1 hC2 hC3
      simp [Leaves,settle,results,Tryz.results15,go_sem,c0,c1,c2,c3,c4,c5,c6,c7,d0,d1,d2,d3,d4,d5,d6,d7,d8,x0]
      exact made_err HE.out (by decide) hCB
     case false =>
      simp only [hck] at hsf
      clear hck
      go_wp2_with fail
      refine (HDX.out _ HT11.out HA11.out HTN11.out).mono ?_
      rintro e w12 ⟨rfl,hq⟩
      clear HDX
      have HROW12:=Lib.hid (own_below HROW11.out hq)
      have HRD12:=Lib.hid (rdBo hq HRD11.out)
      clear HROW11 HRD11
      have HP12:=Lib.hid (HP11.out.below hq HP11.out.lt)
      have HG12:=Lib.hid (HG11.out.below hq HG11.out.lt)
      have HU12:=Lib.hid (HU11.out.below hq HU11.out.lt)
      have HER12:=Lib.hid (HER11.out.below hq HER11.out.lt)
      have HTN12:=Lib.hid (HTN11.out.below hq HTN11.out.lt)
      have HT12:=Lib.hid (HT11.out.below hq)
      have HA12:=Lib.hid (rdBo hq HA11.out)
      have HB12:Hid (Bw w _):=Lib.hid (chain HB11.out hq)
      clear hq HP11 HG11 HU11 HER11 HTN11 HT11 HA11 HB11
      cases hdn:dngB ⟨F,R,l,bl,ca,ps,ha,fu⟩ ⟨x,y,t⟩
      case true =>
       have HE:=Lib.hid (H90.out HMV.out (by rw [hsf];rw [hdn];rfl))
       clear hsf hdn
       go_wp2_with fail
       refine (pRule_no 90 _).mono ?_
       rintro e2 wz ⟨rfl,rfl⟩
       go_wp2_with fail
       refine leaves_cons (f:=43) (args:=#[.pointer (some ⟨ga,0,none⟩),.pointer (some ⟨gu,0,none⟩),.pointer (some ⟨ge,0,none⟩)]) (by simp) (by simp [go_sem]) ?_
       refine (catch_yes ga gu ge (by omega) (by omega) (by omega) 90 _ HG12.out HU12.out HER12.out).mono ?_
       rintro e3 u3 w3 ⟨rfl,rfl,hC⟩
       have hCB:Bw w w3:=hC.2.2.2 w HB12.out (by omega) (by omega) (by omega)
       have hC1:=hC.1
       have hC2:=hC.2.1
       have hC3:=hC.2.2.1
       clear hC
       obtain ⟨c0,c1,c2,c3,c4,c5,c6,c7⟩:=hC1.h8
       obtain ⟨d0,d1,d2,d3,d4,d5,d6,d7,d8⟩:=hC2.h9
       have x0:=hC3.c 0 rfl
       clear hC1 hC2 hC3
       simp [Leaves,settle,results,Tryz.results15,go_sem,c0,c1,c2,c3,c4,c5,c6,c7,d0,d1,d2,d3,d4,d5,d6,d7,d8,x0]
       exact made_err HE.out (by decide) hCB
      case false =>
       have hs1:safM ⟨F,R,l,bl,ca,ps,ha,fu⟩ ⟨x,y,t⟩=true:=by rw [hsf,hdn];rfl
       have HS1:=Lib.hid hs1
       clear hsf hs1 hdn
       go_wp2_with fail
       refine (pRule_yes 90 _).mono ?_
       rintro e2 wz ⟨rfl,rfl⟩
       have a6:=HG12.out.c 6 rfl
       have a7:=HG12.out.c 7 rfl
       by_cases h1:ha2<=10000
       ·by_cases h2:fu2<=10000
        ·have HE:=Lib.hid (H0.out HMV.out HS1.out (by rw [HM2.out];simp only;omega))
         have e1:decide (ha2<=10000)=true:=decide_eq_true h1
         have e2:decide (fu2<=10000)=true:=decide_eq_true h2
         go_wp2_with fail
         refine (pRule_yes 7 _).mono ?_
         rintro e2 wz ⟨rfl,rfl⟩
         clear a6 a7 h1 h2
         obtain ⟨a0,a1,a2,a3,a4,a5,a6,a7⟩:=HG12.out.h8
         have af:=HG12.out.2
         obtain ⟨u0,u1,u2,u3,u4,u5,u6,u7,u8⟩:=HU12.out.h9
         have uf:=HU12.out.2
         have x0:=HER12.out.c 0 rfl
         have xf:=HER12.out.2
         have i5:¬ ga=gu:=by omega
         have i6:¬ gu=ga:=by omega
         have i7:¬ ga=ge:=by omega
         have i8:¬ ge=ga:=by omega
         have i9:¬ gu=ge:=by omega
         have i10:¬ ge=gu:=by omega
         go_upto_region 10 with fail
         go_region
         clear a0 a1 a2 a3 a4 a5 a6 a7 af u0 u1 u2 u3 u4 u5 u6 u7 u8 uf x0 xf i5 i6 i7 i8 i9 i10
         have hG:Bxs (World.drew (World.setCell (World.setCell (World.setCell (World.setCell (World.setCell (World.setCell (World.setCell (World.setCell (World.setCell (World.setCell (World.setCell (World.setCell (World.setCell (World.setCell (World.setCell (World.setCell (World.setCell (World.setCell w12 ⟨ga,0,none⟩ (.int .i64 F)) ⟨ga,1,none⟩ (.int .i64 R)) ⟨ga,2,none⟩ (.slice (some ⟨r,0,none⟩) (aftL ⟨F,R,l,bl,ca,ps,ha,fu⟩ ⟨x,y,t⟩).length cap)) ⟨ga,3,none⟩ (.bool (!bl))) ⟨ga,4,none⟩ (.int .u8 (aftC ⟨F,R,l,bl,ca,ps,ha,fu⟩ ⟨x,y,t⟩:Int))) ⟨ga,5,none⟩ (.int .i64 (aftP ⟨F,R,l,bl,ca,ps,ha,fu⟩ ⟨x,y,t⟩))) ⟨ga,6,none⟩ (.int .i64 ha2)) ⟨ga,7,none⟩ (.int .i64 fu2)) ⟨gu,0,none⟩ (.int .i64 x)) ⟨gu,1,none⟩ (.int .i64 y)) ⟨gu,2,none⟩ (.int .i8 t)) ⟨gu,3,none⟩ (.int .i8 (recM ⟨F,R,l,bl,ca,ps,ha,fu⟩ ⟨x,y,t⟩).cp)) ⟨gu,4,none⟩ (.int .i64 (capM ⟨F,R,l,bl,ca,ps,ha,fu⟩ ⟨x,y,t⟩))) ⟨gu,5,none⟩ (.int .u8 (ca:Int))) ⟨gu,6,none⟩ (.int .i64 ps)) ⟨gu,7,none⟩ (.int .i64 ha)) ⟨gu,8,none⟩ (.int .i64 fu)) ⟨ge,0,none⟩ (.int .i64 0))) ga [.int .i64 F,.int .i64 R,.slice (some ⟨r,0,none⟩) (aftL ⟨F,R,l,bl,ca,ps,ha,fu⟩ ⟨x,y,t⟩).length cap,.bool (!bl),.int .u8 (aftC ⟨F,R,l,bl,ca,ps,ha,fu⟩ ⟨x,y,t⟩:Int),.int .i64 (aftP ⟨F,R,l,bl,ca,ps,ha,fu⟩ ⟨x,y,t⟩),.int .i64 ha2,.int .i64 fu2]:=((((HG12.out.put8 (.int .i64 F) (.int .i64 R) (.slice (some ⟨r,0,none⟩) (aftL ⟨F,R,l,bl,ca,ps,ha,fu⟩ ⟨x,y,t⟩).length cap) (.bool (!bl)) (.int .u8 (aftC ⟨F,R,l,bl,ca,ps,ha,fu⟩ ⟨x,y,t⟩:Int)) (.int .i64 (aftP ⟨F,R,l,bl,ca,ps,ha,fu⟩ ⟨x,y,t⟩)) (.int .i64 ha2) (.int .i64 fu2)).oth9 (g:=gu) (by omega) (.int .i64 x) (.int .i64 y) (.int .i8 t) (.int .i8 (recM ⟨F,R,l,bl,ca,ps,ha,fu⟩ ⟨x,y,t⟩).cp) (.int .i64 (capM ⟨F,R,l,bl,ca,ps,ha,fu⟩ ⟨x,y,t⟩)) (.int .u8 (ca:Int)) (.int .i64 ps) (.int .i64 ha) (.int .i64 fu)).but ((But.refl ge _).setCell 0 (.int .i64 0)) (by omega))).dr
         have hU:Bxs (World.drew (World.setCell (World.setCell (World.setCell (World.setCell (World.setCell (World.setCell (World.setCell (World.setCell (World.setCell (World.setCell (World.setCell (World.setCell (World.setCell (World.setCell (World.setCell (World.setCell (World.setCell (World.setCell w12 ⟨ga,0,none⟩ (.int .i64 F)) ⟨ga,1,none⟩ (.int .i64 R)) ⟨ga,2,none⟩ (.slice (some ⟨r,0,none⟩) (aftL ⟨F,R,l,bl,ca,ps,ha,fu⟩ ⟨x,y,t⟩).length cap)) ⟨ga,3,none⟩ (.bool (!bl))) ⟨ga,4,none⟩ (.int .u8 (aftC ⟨F,R,l,bl,ca,ps,ha,fu⟩ ⟨x,y,t⟩:Int))) ⟨ga,5,none⟩ (.int .i64 (aftP ⟨F,R,l,bl,ca,ps,ha,fu⟩ ⟨x,y,t⟩))) ⟨ga,6,none⟩ (.int .i64 ha2)) ⟨ga,7,none⟩ (.int .i64 fu2)) ⟨gu,0,none⟩ (.int .i64 x)) ⟨gu,1,none⟩ (.int .i64 y)) ⟨gu,2,none⟩ (.int .i8 t)) ⟨gu,3,none⟩ (.int .i8 (recM ⟨F,R,l,bl,ca,ps,ha,fu⟩ ⟨x,y,t⟩).cp)) ⟨gu,4,none⟩ (.int .i64 (capM ⟨F,R,l,bl,ca,ps,ha,fu⟩ ⟨x,y,t⟩))) ⟨gu,5,none⟩ (.int .u8 (ca:Int))) ⟨gu,6,none⟩ (.int .i64 ps)) ⟨gu,7,none⟩ (.int .i64 ha)) ⟨gu,8,none⟩ (.int .i64 fu)) ⟨ge,0,none⟩ (.int .i64 0))) gu [.int .i64 x,.int .i64 y,.int .i8 t,.int .i8 (recM ⟨F,R,l,bl,ca,ps,ha,fu⟩ ⟨x,y,t⟩).cp,.int .i64 (capM ⟨F,R,l,bl,ca,ps,ha,fu⟩ ⟨x,y,t⟩),.int .u8 (ca:Int),.int .i64 ps,.int .i64 ha,.int .i64 fu]:=((((HU12.out.oth8 (g:=ga) (by omega) (.int .i64 F) (.int .i64 R) (.slice (some ⟨r,0,none⟩) (aftL ⟨F,R,l,bl,ca,ps,ha,fu⟩ ⟨x,y,t⟩).length cap) (.bool (!bl)) (.int .u8 (aftC ⟨F,R,l,bl,ca,ps,ha,fu⟩ ⟨x,y,t⟩:Int)) (.int .i64 (aftP ⟨F,R,l,bl,ca,ps,ha,fu⟩ ⟨x,y,t⟩)) (.int .i64 ha2) (.int .i64 fu2)).put9 (.int .i64 x) (.int .i64 y) (.int .i8 t) (.int .i8 (recM ⟨F,R,l,bl,ca,ps,ha,fu⟩ ⟨x,y,t⟩).cp) (.int .i64 (capM ⟨F,R,l,bl,ca,ps,ha,fu⟩ ⟨x,y,t⟩)) (.int .u8 (ca:Int)) (.int .i64 ps) (.int .i64 ha) (.int .i64 fu)).but ((But.refl ge _).setCell 0 (.int .i64 0)) (by omega))).dr
         have hE:Bxs (World.drew (World.setCell (World.setCell (World.setCell (World.setCell (World.setCell (World.setCell (World.setCell (World.setCell (World.setCell (World.setCell (World.setCell (World.setCell (World.setCell (World.setCell (World.setCell (World.setCell (World.setCell (World.setCell w12 ⟨ga,0,none⟩ (.int .i64 F)) ⟨ga,1,none⟩ (.int .i64 R)) ⟨ga,2,none⟩ (.slice (some ⟨r,0,none⟩) (aftL ⟨F,R,l,bl,ca,ps,ha,fu⟩ ⟨x,y,t⟩).length cap)) ⟨ga,3,none⟩ (.bool (!bl))) ⟨ga,4,none⟩ (.int .u8 (aftC ⟨F,R,l,bl,ca,ps,ha,fu⟩ ⟨x,y,t⟩:Int))) ⟨ga,5,none⟩ (.int .i64 (aftP ⟨F,R,l,bl,ca,ps,ha,fu⟩ ⟨x,y,t⟩))) ⟨ga,6,none⟩ (.int .i64 ha2)) ⟨ga,7,none⟩ (.int .i64 fu2)) ⟨gu,0,none⟩ (.int .i64 x)) ⟨gu,1,none⟩ (.int .i64 y)) ⟨gu,2,none⟩ (.int .i8 t)) ⟨gu,3,none⟩ (.int .i8 (recM ⟨F,R,l,bl,ca,ps,ha,fu⟩ ⟨x,y,t⟩).cp)) ⟨gu,4,none⟩ (.int .i64 (capM ⟨F,R,l,bl,ca,ps,ha,fu⟩ ⟨x,y,t⟩))) ⟨gu,5,none⟩ (.int .u8 (ca:Int))) ⟨gu,6,none⟩ (.int .i64 ps)) ⟨gu,7,none⟩ (.int .i64 ha)) ⟨gu,8,none⟩ (.int .i64 fu)) ⟨ge,0,none⟩ (.int .i64 0))) ge [.int .i64 0]:=(((HER12.out.oth8 (g:=ga) (by omega) (.int .i64 F) (.int .i64 R) (.slice (some ⟨r,0,none⟩) (aftL ⟨F,R,l,bl,ca,ps,ha,fu⟩ ⟨x,y,t⟩).length cap) (.bool (!bl)) (.int .u8 (aftC ⟨F,R,l,bl,ca,ps,ha,fu⟩ ⟨x,y,t⟩:Int)) (.int .i64 (aftP ⟨F,R,l,bl,ca,ps,ha,fu⟩ ⟨x,y,t⟩)) (.int .i64 ha2) (.int .i64 fu2)).oth9 (g:=gu) (by omega) (.int .i64 x) (.int .i64 y) (.int .i8 t) (.int .i8 (recM ⟨F,R,l,bl,ca,ps,ha,fu⟩ ⟨x,y,t⟩).cp) (.int .i64 (capM ⟨F,R,l,bl,ca,ps,ha,fu⟩ ⟨x,y,t⟩)) (.int .u8 (ca:Int)) (.int .i64 ps) (.int .i64 ha) (.int .i64 fu)).set 0 (by simp) (.int .i64 0)).dr
         have hB:Bw w (World.drew (World.setCell (World.setCell (World.setCell (World.setCell (World.setCell (World.setCell (World.setCell (World.setCell (World.setCell (World.setCell (World.setCell (World.setCell (World.setCell (World.setCell (World.setCell (World.setCell (World.setCell (World.setCell w12 ⟨ga,0,none⟩ (.int .i64 F)) ⟨ga,1,none⟩ (.int .i64 R)) ⟨ga,2,none⟩ (.slice (some ⟨r,0,none⟩) (aftL ⟨F,R,l,bl,ca,ps,ha,fu⟩ ⟨x,y,t⟩).length cap)) ⟨ga,3,none⟩ (.bool (!bl))) ⟨ga,4,none⟩ (.int .u8 (aftC ⟨F,R,l,bl,ca,ps,ha,fu⟩ ⟨x,y,t⟩:Int))) ⟨ga,5,none⟩ (.int .i64 (aftP ⟨F,R,l,bl,ca,ps,ha,fu⟩ ⟨x,y,t⟩))) ⟨ga,6,none⟩ (.int .i64 ha2)) ⟨ga,7,none⟩ (.int .i64 fu2)) ⟨gu,0,none⟩ (.int .i64 x)) ⟨gu,1,none⟩ (.int .i64 y)) ⟨gu,2,none⟩ (.int .i8 t)) ⟨gu,3,none⟩ (.int .i8 (recM ⟨F,R,l,bl,ca,ps,ha,fu⟩ ⟨x,y,t⟩).cp)) ⟨gu,4,none⟩ (.int .i64 (capM ⟨F,R,l,bl,ca,ps,ha,fu⟩ ⟨x,y,t⟩))) ⟨gu,5,none⟩ (.int .u8 (ca:Int))) ⟨gu,6,none⟩ (.int .i64 ps)) ⟨gu,7,none⟩ (.int .i64 ha)) ⟨gu,8,none⟩ (.int .i64 fu)) ⟨ge,0,none⟩ (.int .i64 0))):=(Bw.set1 (bw9 (bw8 HB12.out (by omega) _ _ _ _ _ _ _ _) (by omega) _ _ _ _ _ _ _ _ _) (by omega) 0 (.int .i64 0)).drew
         have hR:=own_below (own_oth (own_o9 (own_o8 HROW12.out hra (.int .i64 F) (.int .i64 R) (.slice (some ⟨r,0,none⟩) (aftL ⟨F,R,l,bl,ca,ps,ha,fu⟩ ⟨x,y,t⟩).length cap) (.bool (!bl)) (.int .u8 (aftC ⟨F,R,l,bl,ca,ps,ha,fu⟩ ⟨x,y,t⟩:Int)) (.int .i64 (aftP ⟨F,R,l,bl,ca,ps,ha,fu⟩ ⟨x,y,t⟩)) (.int .i64 ha2) (.int .i64 fu2)) hru (.int .i64 x) (.int .i64 y) (.int .i8 t) (.int .i8 (recM ⟨F,R,l,bl,ca,ps,ha,fu⟩ ⟨x,y,t⟩).cp) (.int .i64 (capM ⟨F,R,l,bl,ca,ps,ha,fu⟩ ⟨x,y,t⟩)) (.int .u8 (ca:Int)) (.int .i64 ps) (.int .i64 ha) (.int .i64 fu)) hre 0 (.int .i64 0)) (Below.refl _ _).drew
         clear HG12 HU12 HER12 HB12 HROW12 HRD12 HP12 HTN12 HA12 HT12
         generalize (World.drew (World.setCell (World.setCell (World.setCell (World.setCell (World.setCell (World.setCell (World.setCell (World.setCell (World.setCell (World.setCell (World.setCell (World.setCell (World.setCell (World.setCell (World.setCell (World.setCell (World.setCell (World.setCell w12 ⟨ga,0,none⟩ (.int .i64 F)) ⟨ga,1,none⟩ (.int .i64 R)) ⟨ga,2,none⟩ (.slice (some ⟨r,0,none⟩) (aftL ⟨F,R,l,bl,ca,ps,ha,fu⟩ ⟨x,y,t⟩).length cap)) ⟨ga,3,none⟩ (.bool (!bl))) ⟨ga,4,none⟩ (.int .u8 (aftC ⟨F,R,l,bl,ca,ps,ha,fu⟩ ⟨x,y,t⟩:Int))) ⟨ga,5,none⟩ (.int .i64 (aftP ⟨F,R,l,bl,ca,ps,ha,fu⟩ ⟨x,y,t⟩))) ⟨ga,6,none⟩ (.int .i64 ha2)) ⟨ga,7,none⟩ (.int .i64 fu2)) ⟨gu,0,none⟩ (.int .i64 x)) ⟨gu,1,none⟩ (.int .i64 y)) ⟨gu,2,none⟩ (.int .i8 t)) ⟨gu,3,none⟩ (.int .i8 (recM ⟨F,R,l,bl,ca,ps,ha,fu⟩ ⟨x,y,t⟩).cp)) ⟨gu,4,none⟩ (.int .i64 (capM ⟨F,R,l,bl,ca,ps,ha,fu⟩ ⟨x,y,t⟩))) ⟨gu,5,none⟩ (.int .u8 (ca:Int))) ⟨gu,6,none⟩ (.int .i64 ps)) ⟨gu,7,none⟩ (.int .i64 ha)) ⟨gu,8,none⟩ (.int .i64 fu)) ⟨ge,0,none⟩ (.int .i64 0)))=w13 at *
         go_wp2_with fail
         refine leaves_cons (f:=43) (args:=#[.pointer (some ⟨ga,0,none⟩),.pointer (some ⟨gu,0,none⟩),.pointer (some ⟨ge,0,none⟩)]) (by simp) (by simp [go_sem]) ?_
         refine (catch_no ga gu ge _).mono ?_
         rintro e3 u3 w14 ⟨rfl,rfl,rfl⟩
         obtain ⟨c0,c1,c2,c3,c4,c5,c6,c7⟩:=hG.h8
         obtain ⟨d0,d1,d2,d3,d4,d5,d6,d7,d8⟩:=hU.h9
         have x0:=hE.c 0 rfl
         have HBZ:=Lib.hid hB
         have HRZ:=Lib.hid hR
         clear hG hU hE hB hR
         simp [Leaves,settle,results,Tryz.results15,go_sem,c0,c1,c2,c3,c4,c5,c6,c7,d0,d1,d2,d3,d4,d5,d6,d7,d8,x0]
         refine Or.inr ⟨HE.out,.slice (some ⟨r,0,none⟩) (aftL ⟨F,R,l,bl,ca,ps,ha,fu⟩ ⟨x,y,t⟩).length cap,?_,?_,HBZ.out⟩
         ·rw [HM2.out,HU0.out]
         ·rw [HM2.out];exact HRZ.out
        ·have HE:=Lib.hid (H7.out HMV.out HS1.out (by rw [HM2.out];simp only;omega))
         have e1:decide (ha2<=10000)=true:=decide_eq_true h1
         have e2:decide (fu2<=10000)=false:=decide_eq_false h2
         clear h1 h2
         go_wp2_with fail
         refine (pRule_no 7 _).mono ?_
         rintro e2 wz ⟨rfl,rfl⟩
         go_wp2_with fail
         refine leaves_cons (f:=43) (args:=#[.pointer (some ⟨ga,0,none⟩),.pointer (some ⟨gu,0,none⟩),.pointer (some ⟨ge,0,none⟩)]) (by simp) (by simp [go_sem]) ?_
         refine (catch_yes ga gu ge (by omega) (by omega) (by omega) 7 _ HG12.out HU12.out HER12.out).mono ?_
         rintro e3 u3 w3 ⟨rfl,rfl,hC⟩
         have hCB:Bw w w3:=hC.2.2.2 w HB12.out (by omega) (by omega) (by omega)
         have hC1:=hC.1
         have hC2:=hC.2.1
         have hC3:=hC.2.2.1
         clear hC
         obtain ⟨c0,c1,c2,c3,c4,c5,c6,c7⟩:=hC1.h8
         obtain ⟨d0,d1,d2,d3,d4,d5,d6,d7,d8⟩:=hC2.h9
         have x0:=hC3.c 0 rfl
         clear hC1 hC2 hC3
         simp [Leaves,settle,results,Tryz.results15,go_sem,c0,c1,c2,c3,c4,c5,c6,c7,d0,d1,d2,d3,d4,d5,d6,d7,d8,x0]
         exact made_err HE.out (by decide) hCB
       ·have HE:=Lib.hid (H7.out HMV.out HS1.out (by rw [HM2.out];simp only;omega))
        have e1:decide (ha2<=10000)=false:=decide_eq_false h1
        clear h1
        go_wp2_with fail
        refine (pRule_no 7 _).mono ?_
        rintro e2 wz ⟨rfl,rfl⟩
        go_wp2_with fail
        refine leaves_cons (f:=43) (args:=#[.pointer (some ⟨ga,0,none⟩),.pointer (some ⟨gu,0,none⟩),.pointer (some ⟨ge,0,none⟩)]) (by simp) (by simp [go_sem]) ?_
        refine (catch_yes ga gu ge (by omega) (by omega) (by omega) 7 _ HG12.out HU12.out HER12.out).mono ?_
        rintro e3 u3 w3 ⟨rfl,rfl,hC⟩
        have hCB:Bw w w3:=hC.2.2.2 w HB12.out (by omega) (by omega) (by omega)
        have hC1:=hC.1
        have hC2:=hC.2.1
        have hC3:=hC.2.2.1
        clear hC
        obtain ⟨c0,c1,c2,c3,c4,c5,c6,c7⟩:=hC1.h8
        obtain ⟨d0,d1,d2,d3,d4,d5,d6,d7,d8⟩:=hC2.h9
        have x0:=hC3.c 0 rfl
        clear hC1 hC2 hC3
        simp [Leaves,settle,results,Tryz.results15,go_sem,c0,c1,c2,c3,c4,c5,c6,c7,d0,d1,d2,d3,d4,d5,d6,d7,d8,x0]
        exact made_err HE.out (by decide) hCB
  ·have HMV:=Lib.hid (fun w=>mvValid_any F R x y t false (by simp [hm]) w)
   have HE:=Lib.hid (err2 (p:=⟨F,R,l,bl,ca,ps,ha,fu⟩) (m:=⟨x,y,t⟩) (fun h=>hm h.2))
   generalize okPo ⟨F,R,l,bl,ca,ps,ha,fu⟩=ok at *
   subst hok
   clear HV
   obtain ⟨p0,p1⟩:=HP1.out.h2
   obtain ⟨m0,m1,m2⟩:=HM1.out.h3
   go_wp2_with fail
   refine (HMV.out _).mono ?_
   rintro e w2 ⟨rfl,hq⟩
   clear p0 p1 m0 m1 m2
   have HP2:=Lib.hid (HP1.out.below hq HP1.out.lt)
   have HM2:=Lib.hid (HM1.out.below hq HM1.out.lt)
   have HG2:=Lib.hid (HG1.out.below hq HG1.out.lt)
   have HU2:=Lib.hid (HU1.out.below hq HU1.out.lt)
   have HER2:=Lib.hid (HER1.out.below hq HER1.out.lt)
   have HT2:=Lib.hid (HT1.out.below hq)
   have HA2:=Lib.hid (rdBo hq HA1.out)
   have HB2:Hid (Bw w _):=Lib.hid (chain HB1.out hq)
   clear hq HP1 HM1 HG1 HU1 HER1 HT1 HA1 HB1
   go_wp2_with fail
   refine (pRule_no 2 _).mono ?_
   rintro e2 wz ⟨rfl,rfl⟩
   go_wp2_with fail
   refine leaves_cons (f:=43) (args:=#[.pointer (some ⟨ga,0,none⟩),.pointer (some ⟨gu,0,none⟩),.pointer (some ⟨ge,0,none⟩)]) (by simp) (by simp [go_sem]) ?_
   refine (catch_yes ga gu ge (by omega) (by omega) (by omega) 2 _ HG2.out HU2.out HER2.out).mono ?_
   rintro e3 u3 w3 ⟨rfl,rfl,hC⟩
   have hCB:Bw w w3:=hC.2.2.2 w HB2.out (by omega) (by omega) (by omega)
   have hC1:=hC.1
   have hC2:=hC.2.1
   have hC3:=hC.2.2.1
   clear hC
   obtain ⟨c0,c1,c2,c3,c4,c5,c6,c7⟩:=hC1.h8
   obtain ⟨d0,d1,d2,d3,d4,d5,d6,d7,d8⟩:=hC2.h9
   have x0:=hC3.c 0 rfl
   clear hC1 hC2 hC3
   simp [Leaves,settle,results,Tryz.results15,go_sem,c0,c1,c2,c3,c4,c5,c6,c7,d0,d1,d2,d3,d4,d5,d6,d7,d8,x0]
   exact made_err HE.out (by decide) hCB
 ·have HE:=Lib.hid (err2 (p:=⟨F,R,l,bl,ca,ps,ha,fu⟩) (m:=⟨x,y,t⟩) (fun h=>hok h.1))
  rw [Bool.not_eq_true] at hok
  generalize okPo ⟨F,R,l,bl,ca,ps,ha,fu⟩=ok at *
  subst hok
  clear HV
  go_wp2_with fail
  refine (pRule_no 2 _).mono ?_
  rintro e2 wz ⟨rfl,rfl⟩
  go_wp2_with fail
  refine leaves_cons (f:=43) (args:=#[.pointer (some ⟨ga,0,none⟩),.pointer (some ⟨gu,0,none⟩),.pointer (some ⟨ge,0,none⟩)]) (by simp) (by simp [go_sem]) ?_
  refine (catch_yes ga gu ge (by omega) (by omega) (by omega) 2 _ HG1.out HU1.out HER1.out).mono ?_
  rintro e3 u3 w3 ⟨rfl,rfl,hC⟩
  have hCB:Bw w w3:=hC.2.2.2 w HB1.out (by omega) (by omega) (by omega)
  have hC1:=hC.1
  have hC2:=hC.2.1
  have hC3:=hC.2.2.1
  clear hC
  obtain ⟨c0,c1,c2,c3,c4,c5,c6,c7⟩:=hC1.h8
  obtain ⟨d0,d1,d2,d3,d4,d5,d6,d7,d8⟩:=hC2.h9
  have x0:=hC3.c 0 rfl
  clear hC1 hC2 hC3
  simp [Leaves,settle,results,Tryz.results15,go_sem,c0,c1,c2,c3,c4,c5,c6,c7,d0,d1,d2,d3,d4,d5,d6,d7,d8,x0]
  exact made_err HE.out (by decide) hCB
end Go.Proofs.YtbccbgonlmkpkaaGreatDoor
