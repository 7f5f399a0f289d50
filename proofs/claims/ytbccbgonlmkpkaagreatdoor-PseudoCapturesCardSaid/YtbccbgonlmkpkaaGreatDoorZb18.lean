/- What the theorem needs, piece Zb18. -/
import Derived.Test.YtbccbgonlmkpkaaGreatDoorZb17
import Derived.Laws.EntriesVeiled
import Derived.Test.YtbccbgonlmkpkaaGreatDoorZb16
set_option linter.unusedSimpArgs false
set_option linter.unusedVariables false
set_option maxRecDepth 100000
set_option maxHeartbeats 16000000
namespace Go.Proofs.YtbccbgonlmkpkaaGreatDoor
open Go.RowKit Go.Sort
theorem pas_true_in {F R:Int} {l:List Int} {n:Nat} (hv:vsz F R) (h6:6<=R) (hl:(l.length:Int)=F * R) (h4:vat F R (n:Int)) (hm:(n:Int) / F=2) :
  ∃ n4 n2:Nat,(n:Int)+F=(n4:Int)/\(n:Int) - F=(n2:Int)/\n4<l.length/\n2<l.length/\poPas F R l true (n:Int) 0=(l[n4]?.getD 0 == 1 && (l[n]?.getD 0 == 0 && l[n2]?.getD 0 == 0)):=by
 have hpe:=place_eq (a:=(n:Int)) hv
 have hpb:=place_bd hv h4.2.1 h4.2.2
 rw [hm] at hpe hpb
 have hvv:=hv
 unfold vsz at hvv
 have b2:=number_bd (f:=(n:Int) % F) (r:=1) hv hpb.1 hpb.2.1 (by omega) (by omega)
 have b4:=number_bd (f:=(n:Int) % F) (r:=3) hv hpb.1 hpb.2.1 (by omega) (by omega)
 have x4:(n:Int)+F=(3) * F+(n:Int) % F:=by
  have:(3) * F=(2) * F+F:=by rw [show (3:Int)=(2)+1 by omega,Int.add_mul,Int.one_mul]
  omega
 have x2:(n:Int) - F=(1) * F+(n:Int) % F:=by
  have:(1) * F=(2) * F - F:=by rw [show (1:Int)=(2) - 1 by omega,Int.sub_mul,Int.one_mul]
  omega
 refine ⟨((3) * F+(n:Int) % F).toNat,((1) * F+(n:Int) % F).toNat,by omega,by omega,by omega,by omega,?_⟩
 rw [poPas_in (by omega) h6 rfl h4]
 rw [show rkA R (!true) 2=1 from rfl,show rkA R (!true) 4=3 from rfl,show pcS (!true)=1 from rfl,hm,Int.toNat_natCast]
 rw [show ((2:Int) * (2) == (1)+(3))=true from beq_iff_eq.2 (by omega),Bool.true_and]
 generalize (l[n]?.getD 0 == 0)=t1
 generalize (l[((1) * F+(n:Int) % F).toNat]?.getD 0 == 0)=t2
 generalize (l[((3) * F+(n:Int) % F).toNat]?.getD 0 == 1)=t3
 cases t1 <;> cases t2 <;> cases t3 <;> rfl
theorem pas_true_out {F R:Int} {l:List Int} {n:Nat} (_hv:vsz F R) (h6:6<=R) (h4:vat F R (n:Int)) (hm:¬ (n:Int) / F=2):poPas F R l true (n:Int) 0=false:=by
 rw [poPas_in (by omega) h6 rfl h4,show rkA R (!true) 2=1 from rfl,show rkA R (!true) 4=3 from rfl]
 rw [show (2 * ((n:Int) / F) == (1)+(3))=false from beq_eq_false_iff_ne.2 (by omega)]
 rfl
theorem pas_false_in {F R:Int} {l:List Int} {n:Nat} (hv:vsz F R) (h6:6<=R) (hl:(l.length:Int)=F * R) (h4:vat F R (n:Int)) (hm:(n:Int) / F=R - 3) :
  ∃ n4 n2:Nat,(n:Int)+-F=(n4:Int)/\(n:Int) - -F=(n2:Int)/\n4<l.length/\n2<l.length/\poPas F R l false (n:Int) 0=(l[n4]?.getD 0 == (-1) && (l[n]?.getD 0 == 0 && l[n2]?.getD 0 == 0)):=by
 have hpe:=place_eq (a:=(n:Int)) hv
 have hpb:=place_bd hv h4.2.1 h4.2.2
 rw [hm] at hpe hpb
 have hvv:=hv
 unfold vsz at hvv
 have b2:=number_bd (f:=(n:Int) % F) (r:=R - 2) hv hpb.1 hpb.2.1 (by omega) (by omega)
 have b4:=number_bd (f:=(n:Int) % F) (r:=R - 4) hv hpb.1 hpb.2.1 (by omega) (by omega)
 have x4:(n:Int)+-F=(R - 4) * F+(n:Int) % F:=by
  have:(R - 4) * F=(R - 3) * F - F:=by rw [show (R - 4:Int)=(R - 3) - 1 by omega,Int.sub_mul,Int.one_mul]
  omega
 have x2:(n:Int) - -F=(R - 2) * F+(n:Int) % F:=by
  have:(R - 2) * F=(R - 3) * F+F:=by rw [show (R - 2:Int)=(R - 3)+1 by omega,Int.add_mul,Int.one_mul]
  omega
 refine ⟨((R - 4) * F+(n:Int) % F).toNat,((R - 2) * F+(n:Int) % F).toNat,by omega,by omega,by omega,by omega,?_⟩
 rw [poPas_in (by omega) h6 rfl h4]
 rw [show rkA R (!false) 2=R - 2 from rfl,show rkA R (!false) 4=R - 4 from rfl,show pcS (!false)=(-1) from rfl,hm,Int.toNat_natCast]
 rw [show ((2:Int) * (R - 3) == (R - 2)+(R - 4))=true from beq_iff_eq.2 (by omega),Bool.true_and]
 generalize (l[n]?.getD 0 == 0)=t1
 generalize (l[((R - 2) * F+(n:Int) % F).toNat]?.getD 0 == 0)=t2
 generalize (l[((R - 4) * F+(n:Int) % F).toNat]?.getD 0 == (-1))=t3
 cases t1 <;> cases t2 <;> cases t3 <;> rfl
theorem pas_false_out {F R:Int} {l:List Int} {n:Nat} (_hv:vsz F R) (h6:6<=R) (h4:vat F R (n:Int)) (hm:¬ (n:Int) / F=R - 3):poPas F R l false (n:Int) 0=false:=by
 rw [poPas_in (by omega) h6 rfl h4,show rkA R (!false) 2=R - 2 from rfl,show rkA R (!false) 4=R - 4 from rfl]
 rw [show (2 * ((n:Int) / F) == (R - 2)+(R - 4))=false from beq_eq_false_iff_ne.2 (by omega)]
 rfl
theorem pPas_true (F R:Int) (l:List Int) (A:Option Addr) (c:Nat) (ca n:Nat) (fu:Int) (hb:vbd F R l) (h6:6<=R) (h4:vat F R (n:Int)) (w:World) (hA:RdP w w.heap.size A l c) :
  Calls Tryz.prog 102 #[.agg #[.int .i64 F,.int .i64 R,.slice A l.length c,.bool true,.int .u8 (ca:Int),.int .i64 (n:Int),.int .i64 0,.int .i64 fu]] w fun e w'=>e=.returned (.bool (poPas F R l true (n:Int) 0))/\Below w.heap.size w w':=by
 have HIN:=Lib.hid (fun hm=>pas_true_in hb.1 h6 hb.2.1 h4 hm)
 have HOUT:=Lib.hid (fun hm=>pas_true_out (l:=l) hb.1 h6 h4 hm)
 have HPL:=Lib.hid (fun w=>placeX_yes F R (n:Int) h4 w)
 have hX:=box8 w F R (.slice A l.length c) true ca (n:Int) 0 fu
 have HX:=Lib.hid hX
 have HA:=Lib.hid (rdBo (box1 w (.cells #[.int .i64 F,.int .i64 R,.slice A l.length c,.bool true,.int .u8 (ca:Int),.int .i64 (n:Int),.int .i64 0,.int .i64 fu] 26)) hA)
 have hR6:¬ R<6:=by omega
 have hR8:R<=8:=hb.1.2.2.2
 have hF8:F<=8:=hb.1.2.1
 have hF3:3<=F:=hb.1.1
 have HRK:=Lib.hid (place_bd hb.1 h4.2.1 h4.2.2)
 have l0:n<l.length:=by have:=hb.2.1;have:=h4.2.2;omega
 have hn1:((n:Int) == -1)=false:=beq_eq_false_iff_ne.2 (by omega)
 have hl64:=vbd_64 hb
 clear hX hA hb h4
 go_enter Tryz.func102,Tryz.ntmps102
 go_wp2_with fail
 refine (HPL.out _).mono ?_
 rintro e w1 ⟨rfl,hb1⟩
 obtain ⟨⟨x0,x1,x2,x3,x4,x5,x6,x7⟩,xf⟩:=HX.out.below hb1 (by simp)
 have hX1:=HX.out.below hb1 (by simp)
 have hA1:=rdBo hb1 HA.out
 have hB1:=after1 hb1
 clear hb1 HA HX HPL
 go_wp2_with fail
 go_quiet (fail)
 have hbn:Below w1.heap.size w1 (w1.drewN nq):=⟨rfl,rfl,rfl,Nat.le_refl _,fun _ _=>rfl⟩
 have hX2:=hX1.below hbn hX1.lt
 have hA4:=rdBo hbn hA1
 have hB4:=chain hB1 hbn
 clear hX1 hA1 hB1 hbn x0 x1 x2 x3 x4 x5 x6 x7 xf
 generalize w1.drewN nq=W2 at *
 obtain ⟨⟨x0,x1,x2,x3,x4,x5,x6,x7⟩,xf⟩:=id hX2
 clear hX2
 have hrk:=HRK.out
 clear HRK
 by_cases hm:(n:Int) / F=2
 ·have em:((n:Int) / F == 2)=true:=beq_iff_eq.2 hm
  obtain ⟨n4,n2,hm4,hm2,l4,l2,HEE⟩:=HIN.out hm
  have HEE:=Lib.hid HEE
  obtain ⟨ad,rfl,_,k0⟩:=hA4.at_ l0
  obtain ⟨ad2,e2,_,k2⟩:=hA4.at_ l2
  obtain ⟨ad4,e4,_,k4⟩:=hA4.at_ l4
  obtain rfl:=Option.some.inj e2
  obtain rfl:=Option.some.inj e4
  have g4:0<=((n:Int)+F)/\((n:Int)+F)<(l.length:Int):=by omega
  have g2:0<=((n:Int) - F)/\((n:Int) - F)<(l.length:Int):=by omega
  have t4:((n:Int)+F).toNat=n4:=by omega
  have t2:((n:Int) - F).toNat=n2:=by omega
  generalize l[n]?.getD 0=a0 at *
  generalize l[n2]?.getD 0=a2 at *
  generalize l[n4]?.getD 0=a4 at *
  clear hA4 e2 e4 hm4 hm2 hm l4 l2 HIN
  by_cases h4:a4=1
  ·have v4:(a4 == 1)=true:=beq_iff_eq.2 h4
   rw [v4,Bool.true_and] at HEE
   clear h4
   by_cases h0:a0=0
   ·have v0:(a0 == 0)=true:=beq_iff_eq.2 h0
    rw [v0,Bool.true_and] at HEE
    clear h0
    go_wp2
    go_ret
    exact ⟨ret_bool HEE.out.symm,hB4⟩
   ·have v0:(a0 == 0)=false:=beq_eq_false_iff_ne.2 h0
    rw [v0,Bool.false_and] at HEE
    clear h0
    go_wp2
    go_ret
    exact ⟨ret_bool HEE.out.symm,hB4⟩
  ·have v4:(a4 == 1)=false:=beq_eq_false_iff_ne.2 h4
   rw [v4,Bool.false_and] at HEE
   clear h4
   go_wp2
   go_ret
   exact ⟨ret_bool HEE.out.symm,hB4⟩
 ·have em:((n:Int) / F == 2)=false:=beq_eq_false_iff_ne.2 hm
  have HEE:=Lib.hid (HOUT.out hm)
  clear hm HIN HOUT
  go_wp2
  go_ret
  exact ⟨ret_bool HEE.out.symm,hB4⟩
theorem pPas_false (F R:Int) (l:List Int) (A:Option Addr) (c:Nat) (ca n:Nat) (fu:Int) (hb:vbd F R l) (h6:6<=R) (h4:vat F R (n:Int)) (w:World) (hA:RdP w w.heap.size A l c) :
  Calls Tryz.prog 102 #[.agg #[.int .i64 F,.int .i64 R,.slice A l.length c,.bool false,.int .u8 (ca:Int),.int .i64 (n:Int),.int .i64 0,.int .i64 fu]] w fun e w'=>e=.returned (.bool (poPas F R l false (n:Int) 0))/\Below w.heap.size w w':=by
 have HIN:=Lib.hid (fun hm=>pas_false_in hb.1 h6 hb.2.1 h4 hm)
 have HOUT:=Lib.hid (fun hm=>pas_false_out (l:=l) hb.1 h6 h4 hm)
 have HPL:=Lib.hid (fun w=>placeX_yes F R (n:Int) h4 w)
 have hX:=box8 w F R (.slice A l.length c) false ca (n:Int) 0 fu
 have HX:=Lib.hid hX
 have HA:=Lib.hid (rdBo (box1 w (.cells #[.int .i64 F,.int .i64 R,.slice A l.length c,.bool false,.int .u8 (ca:Int),.int .i64 (n:Int),.int .i64 0,.int .i64 fu] 26)) hA)
 have hR6:¬ R<6:=by omega
 have hR8:R<=8:=hb.1.2.2.2
 have hF8:F<=8:=hb.1.2.1
 have hF3:3<=F:=hb.1.1
 have HRK:=Lib.hid (place_bd hb.1 h4.2.1 h4.2.2)
 have l0:n<l.length:=by have:=hb.2.1;have:=h4.2.2;omega
 have hn1:((n:Int) == -1)=false:=beq_eq_false_iff_ne.2 (by omega)
 have hl64:=vbd_64 hb
 clear hX hA hb h4
 go_enter Tryz.func102,Tryz.ntmps102
 go_wp2_with fail
 refine (HPL.out _).mono ?_
 rintro e w1 ⟨rfl,hb1⟩
 obtain ⟨⟨x0,x1,x2,x3,x4,x5,x6,x7⟩,xf⟩:=HX.out.below hb1 (by simp)
 have hX1:=HX.out.below hb1 (by simp)
 have hA1:=rdBo hb1 HA.out
 have hB1:=after1 hb1
 clear hb1 HA HX HPL
 go_wp2_with fail
 go_quiet (fail)
 have hbn:Below w1.heap.size w1 (w1.drewN nq):=⟨rfl,rfl,rfl,Nat.le_refl _,fun _ _=>rfl⟩
 have hX2:=hX1.below hbn hX1.lt
 have hA4:=rdBo hbn hA1
 have hB4:=chain hB1 hbn
 clear hX1 hA1 hB1 hbn x0 x1 x2 x3 x4 x5 x6 x7 xf
 generalize w1.drewN nq=W2 at *
 obtain ⟨⟨x0,x1,x2,x3,x4,x5,x6,x7⟩,xf⟩:=id hX2
 go_wp2_with fail
 go_quiet (fail)
 have hbn:Below W2.heap.size W2 (W2.drewN nq):=⟨rfl,rfl,rfl,Nat.le_refl _,fun _ _=>rfl⟩
 have hX3:=hX2.below hbn hX2.lt
 have hA4:=rdBo hbn hA4
 have hB4:=chain hB4 hbn
 clear hX2 hbn x0 x1 x2 x3 x4 x5 x6 x7 xf
 generalize W2.drewN nq=W3 at *
 obtain ⟨⟨x0,x1,x2,x3,x4,x5,x6,x7⟩,xf⟩:=hX3
 have hrk:=HRK.out
 clear HRK
 by_cases hm:(n:Int) / F=(R - 3)
 ·have em:((n:Int) / F == (R - 3))=true:=beq_iff_eq.2 hm
  obtain ⟨n4,n2,hm4,hm2,l4,l2,HEE⟩:=HIN.out hm
  have HEE:=Lib.hid HEE
  obtain ⟨ad,rfl,_,k0⟩:=hA4.at_ l0
  obtain ⟨ad2,e2,_,k2⟩:=hA4.at_ l2
  obtain ⟨ad4,e4,_,k4⟩:=hA4.at_ l4
  obtain rfl:=Option.some.inj e2
  obtain rfl:=Option.some.inj e4
  have g4:0<=((n:Int)+-F)/\((n:Int)+-F)<(l.length:Int):=by omega
  have g2:0<=((n:Int)+F)/\((n:Int)+F)<(l.length:Int):=by omega
  have t4:((n:Int)+-F).toNat=n4:=by omega
  have t2:((n:Int)+F).toNat=n2:=by omega
  generalize l[n]?.getD 0=a0 at *
  generalize l[n2]?.getD 0=a2 at *
  generalize l[n4]?.getD 0=a4 at *
  clear hA4 e2 e4 hm4 hm2 hm l4 l2 HIN
  by_cases h4:a4=(-1)
  ·have v4:(a4 == (-1))=true:=beq_iff_eq.2 h4
   rw [v4,Bool.true_and] at HEE
   clear h4
   by_cases h0:a0=0
   ·have v0:(a0 == 0)=true:=beq_iff_eq.2 h0
    rw [v0,Bool.true_and] at HEE
    clear h0
    go_wp2
    go_ret
    exact ⟨ret_bool HEE.out.symm,hB4⟩
   ·have v0:(a0 == 0)=false:=beq_eq_false_iff_ne.2 h0
    rw [v0,Bool.false_and] at HEE
    clear h0
    go_wp2
    go_ret
    exact ⟨ret_bool HEE.out.symm,hB4⟩
  ·have v4:(a4 == (-1))=false:=beq_eq_false_iff_ne.2 h4
   rw [v4,Bool.false_and] at HEE
   clear h4
   go_wp2
   go_ret
   exact ⟨ret_bool HEE.out.symm,hB4⟩
 ·have em:((n:Int) / F == (R - 3))=false:=beq_eq_false_iff_ne.2 hm
  have HEE:=Lib.hid (HOUT.out hm)
  clear hm HIN HOUT
  go_wp2
  go_ret
  exact ⟨ret_bool HEE.out.symm,hB4⟩
theorem pPas_any (F R:Int) (l:List Int) (A:Option Addr) (c:Nat) (bl:Bool) (ca:Nat) (ps ha fu:Int) (hb:vbd F R l) (w:World) (hA:RdP w w.heap.size A l c) :
  Calls Tryz.prog 102 #[.agg #[.int .i64 F,.int .i64 R,.slice A l.length c,.bool bl,.int .u8 (ca:Int),.int .i64 ps,.int .i64 ha,.int .i64 fu]] w fun e w'=>e=.returned (.bool (poPas F R l bl ps ha))/\Below w.heap.size w w':=by
 by_cases h1:ps=-1
 ·subst h1
  have e2:poPas F R l bl (-1) ha=true:=rfl
  rw [e2]
  clear e2 hA
  go_enter Tryz.func102,Tryz.ntmps102
  go_wp2
  go_ret
  exact ⟨rfl,box1 _ _⟩
 ·have b1:(ps == -1)=false:=beq_eq_false_iff_ne.2 h1
  have HX:=Lib.hid (box8 w F R (.slice A l.length c) bl ca ps ha fu)
  by_cases h4:vat F R ps
  ·by_cases h6:6<=R
   ·by_cases h3:ha=0
    ·obtain ⟨n,rfl,_⟩:=vat_nat h4
     subst h3
     cases bl with
     | true=>exact pPas_true F R l A c ca n fu hb h6 h4 w hA
     | false=>exact pPas_false F R l A c ca n fu hb h6 h4 w hA
    ·have e2:=Lib.hid (poPas_out (l:=l) (bl:=bl) (ps:=ps) h1 hb.1 (fun h=>h3 h.2.1))
     have b3:(ha != 0)=true:=bne_iff_ne.2 h3
     have b6:¬ R<6:=by omega
     have HPL:=Lib.hid (fun w=>placeX_yes F R ps h4 w)
     clear hb hA h3 h4
     go_enter Tryz.func102,Tryz.ntmps102
     go_wp2_with fail
     refine (HPL.out _).mono ?_
     rintro e w1 ⟨rfl,hb1⟩
     obtain ⟨⟨x0,x1,x2,x3,x4,x5,x6,x7⟩,xf⟩:=HX.out.below hb1 (by simp)
     go_wp2
     go_ret
     exact ⟨ret_bool e2.out.symm,after1 hb1⟩
   ·have e2:=Lib.hid (poPas_out (l:=l) (bl:=bl) (ps:=ps) (ha:=ha) h1 hb.1 (fun h=>h6 h.1))
    have b6:R<6:=by omega
    have HPL:=Lib.hid (fun w=>placeX_yes F R ps h4 w)
    clear hb hA h4 h6
    go_enter Tryz.func102,Tryz.ntmps102
    go_wp2_with fail
    refine (HPL.out _).mono ?_
    rintro e w1 ⟨rfl,hb1⟩
    obtain ⟨⟨x0,x1,x2,x3,x4,x5,x6,x7⟩,xf⟩:=HX.out.below hb1 (by simp)
    go_wp2
    go_ret
    exact ⟨ret_bool e2.out.symm,after1 hb1⟩
  ·have e2:=Lib.hid (poPas_out (l:=l) (bl:=bl) (ps:=ps) (ha:=ha) h1 hb.1 (fun h=>h4 h.2.2))
   have HPL:=Lib.hid (fun w=>placeX_no F R ps h4 w)
   clear hb hA h4
   go_enter Tryz.func102,Tryz.ntmps102
   go_wp2_with fail
   refine (HPL.out _).mono ?_
   rintro e w1 ⟨rfl,hb1⟩
   obtain ⟨⟨x0,x1,x2,x3,x4,x5,x6,x7⟩,xf⟩:=HX.out.below hb1 (by simp)
   go_wp2
   go_ret
   exact ⟨ret_bool e2.out.symm,after1 hb1⟩
end Go.Proofs.YtbccbgonlmkpkaaGreatDoor
namespace Go.Proofs.YtbccbgonlmkpkaaGreatDoor
open Go.RowKit Go.Sort
theorem ofL_z (z:List Nat):((ofL z:Int) == 0)=decide (z.length=0):=by
 by_cases h:z=[]
 ·subst h;rfl
 ·have h1:¬ ofL z=0:=fun e=>h (ofL_zero.1 e)
  have h2:¬ z.length=0:=fun e=>h (List.eq_nil_of_length_eq_zero e)
  rw [decide_eq_false h2]
  exact beq_eq_false_iff_ne.2 (by omega)
theorem poBrd_eq {F R:Int} {l:List Int} {bl:Bool} (hb:vbd F R l) (ho:orA l=true) (h:0<=kingV l bl) (h2:0<=kingV l (!bl)):poBrd F R l bl=decide ((atkL F R l (kingV l (!bl)) bl).length=0):=by
 unfold poBrd
 rw [vbdB_iff.2 hb,ho]
 cases bl with
 | false=>rw [decide_eq_true h,decide_eq_true (show 0<=kingV l true from h2)];simp
 | true=>rw [decide_eq_true h,decide_eq_true (show 0<=kingV l false from h2)];simp
theorem poBrd_no1 {F R:Int} {l:List Int} {bl:Bool} (h:¬ (vbd F R l/\orA l=true)):poBrd F R l bl=false:=by
 cases e:poBrd F R l bl with
 | false=>rfl
 | true=>exact absurd (poBrd_vbd e) h
theorem poBrd_no2 {F R:Int} {l:List Int} {bl b:Bool} (h:kingV l b<0):poBrd F R l bl=false:=by
 unfold poBrd
 cases b with
 | false=>simp [show ¬ 0<=kingV l false by omega]
 | true=>simp [show ¬ 0<=kingV l true by omega]
theorem pVB_any (F R:Int) (l:List Int) (A:Option Addr) (c:Nat) (bl:Bool) (w:World) (hlen:l.length<=100000) (hT:T5 w) (hA:RdP w w.heap.size A l c) :
  Calls Tryz.prog 95 #[.agg #[.int .i64 F,.int .i64 R,.slice A l.length c],.bool bl] w fun e w'=>e=.returned (.bool (poBrd F R l bl))/\Below w.heap.size w w':=by
 have hBX:=box1 w (.cells #[.int .i64 F,.int .i64 R,.slice A l.length c] 97)
 have HA:=Lib.hid (rdBo hBX hA)
 have HT:=Lib.hid (hT.below hBX)
 clear hA hT hBX
 by_cases hg:vbd F R l/\orA l=true
 ·obtain ⟨hb,ho⟩:=hg
  by_cases hk:kingV l bl<0
  ·have e2:=Lib.hid (poBrd_no2 (F:=F) (R:=R) (bl:=bl) hk)
   have HK:=Lib.hid (fun w hA hT=>gKingN F R l A c bl w hb ho hA hT hk)
   clear hk hb ho
   go_enter Tryz.func95,Tryz.ntmps95
   go_wp2_with fail
   refine (HK.out _ HA.out HT.out).mono ?_
   rintro e w1 ⟨rfl,hb1⟩
   go_wp2
   go_ret
   exact ⟨ret_bool e2.out.symm,after1 hb1⟩
  ·have hk0:0<=kingV l bl:=by omega
   have HK:=Lib.hid (fun w hA hT=>gKing F R l A c bl w hb ho hA hT hk0)
   by_cases hk2:kingV l (!bl)<0
   ·have e2:=Lib.hid (poBrd_no2 (F:=F) (R:=R) (bl:=bl) hk2)
    have HC:=Lib.hid (fun w hA hT=>gChkN F R l A c (!bl) w hb ho hA hT hk2)
    generalize kingV l bl=kv at *
    clear hk hk0 hk2 hb ho
    go_enter Tryz.func95,Tryz.ntmps95
    go_wp2_with fail
    refine (HK.out _ HA.out HT.out).mono ?_
    rintro e w1 ⟨rfl,hb1⟩
    have c0:=hb1.cell (p:=⟨w.heap.size,0,none⟩) (by simp)
    have c1:=hb1.cell (p:=⟨w.heap.size,1,none⟩) (by simp)
    have c2:=hb1.cell (p:=⟨w.heap.size,2,none⟩) (by simp)
    simp [go_sem] at c0 c1 c2
    go_wp2_with fail
    refine (HC.out _ (rdBo hb1 HA.out) (HT.out.below hb1)).mono ?_
    rintro e w2 ⟨rfl,hb2⟩
    go_wp2
    go_ret
    exact ⟨ret_bool e2.out.symm,after1 (chain hb1 hb2)⟩
   ·have hk20:0<=kingV l (!bl):=by omega
    have e2:=Lib.hid (poBrd_eq hb ho hk0 hk20)
    have HC:=Lib.hid (fun w hA hT=>gChk F R l A c (!bl) w hb ho hA hT hk20)
    rw [Bool.not_not] at HC
    have hz:=Lib.hid (ofL_z (atkL F R l (kingV l (!bl)) bl))
    generalize ofL (atkL F R l (kingV l (!bl)) bl)=z at *
    generalize kingV l bl=kv at *
    clear hk hk0 hk2 hk20 hb ho
    go_enter Tryz.func95,Tryz.ntmps95
    go_wp2_with fail
    refine (HK.out _ HA.out HT.out).mono ?_
    rintro e w1 ⟨rfl,hb1⟩
    have c0:=hb1.cell (p:=⟨w.heap.size,0,none⟩) (by simp)
    have c1:=hb1.cell (p:=⟨w.heap.size,1,none⟩) (by simp)
    have c2:=hb1.cell (p:=⟨w.heap.size,2,none⟩) (by simp)
    simp [go_sem] at c0 c1 c2
    go_wp2_with fail
    refine (HC.out _ (rdBo hb1 HA.out) (HT.out.below hb1)).mono ?_
    rintro e w2 ⟨rfl,hb2⟩
    go_wp2
    go_ret
    exact ⟨ret_bool (hz.out.trans e2.out.symm),after1 (chain hb1 hb2)⟩
 ·have e2:=Lib.hid (poBrd_no1 (bl:=bl) hg)
  have HK:=Lib.hid (fun w hA=>gKingE F R l A c bl w hlen hA hg)
  clear hg
  go_enter Tryz.func95,Tryz.ntmps95
  go_wp2_with fail
  refine (HK.out _ HA.out).mono ?_
  rintro e w1 ⟨rfl,hb1⟩
  go_wp2
  go_ret
  exact ⟨ret_bool e2.out.symm,after1 hb1⟩
theorem vix_0 (p:Value) (w:World):(Instr.index 136 (.agg #[.func (.func 94) #[] #[p],.func (.func 97) #[] #[p],.func (.func 99) #[] #[p],.func (.func 101) #[] #[p],.func (.func 103) #[] #[p],.func (.func 104) #[] #[p]]) (.int .i64 0)).run Tryz.prog w=.ok (.func (.func 94) #[] #[p]) w:=by kernel_rfl
theorem vix_1 (p:Value) (w:World):(Instr.index 136 (.agg #[.func (.func 94) #[] #[p],.func (.func 97) #[] #[p],.func (.func 99) #[] #[p],.func (.func 101) #[] #[p],.func (.func 103) #[] #[p],.func (.func 104) #[] #[p]]) (.int .i64 1)).run Tryz.prog w=.ok (.func (.func 97) #[] #[p]) w:=by kernel_rfl
theorem vix_2 (p:Value) (w:World):(Instr.index 136 (.agg #[.func (.func 94) #[] #[p],.func (.func 97) #[] #[p],.func (.func 99) #[] #[p],.func (.func 101) #[] #[p],.func (.func 103) #[] #[p],.func (.func 104) #[] #[p]]) (.int .i64 2)).run Tryz.prog w=.ok (.func (.func 99) #[] #[p]) w:=by kernel_rfl
theorem vix_3 (p:Value) (w:World):(Instr.index 136 (.agg #[.func (.func 94) #[] #[p],.func (.func 97) #[] #[p],.func (.func 99) #[] #[p],.func (.func 101) #[] #[p],.func (.func 103) #[] #[p],.func (.func 104) #[] #[p]]) (.int .i64 3)).run Tryz.prog w=.ok (.func (.func 101) #[] #[p]) w:=by kernel_rfl
theorem vix_4 (p:Value) (w:World):(Instr.index 136 (.agg #[.func (.func 94) #[] #[p],.func (.func 97) #[] #[p],.func (.func 99) #[] #[p],.func (.func 101) #[] #[p],.func (.func 103) #[] #[p],.func (.func 104) #[] #[p]]) (.int .i64 4)).run Tryz.prog w=.ok (.func (.func 103) #[] #[p]) w:=by kernel_rfl
theorem vix_5 (p:Value) (w:World):(Instr.index 136 (.agg #[.func (.func 94) #[] #[p],.func (.func 97) #[] #[p],.func (.func 99) #[] #[p],.func (.func 101) #[] #[p],.func (.func 103) #[] #[p],.func (.func 104) #[] #[p]]) (.int .i64 5)).run Tryz.prog w=.ok (.func (.func 104) #[] #[p]) w:=by kernel_rfl
theorem cl1 (F R:Int) (l:List Int) (A:Option Addr) (c:Nat) (bl:Bool) (ca:Nat) (ps ha fu:Int) (b:Nat) (hlen:l.length<=100000) (V:World) (hT:T5 V) (hX:Bx8 V b F R (.slice A l.length c) bl ca ps ha fu) (hA:RdP V V.heap.size A l c) :
  Calls Tryz.prog 94 #[.pointer (some ⟨b,0,none⟩)] V fun e w'=>e=.returned (.bool (poBrd F R l bl))/\Below V.heap.size V w':=by
 obtain ⟨⟨x0,x1,x2,x3,x4,x5,x6,x7⟩,xf⟩:=hX
 have q0:=cell_regrown x0
 have q1:=cell_regrown x1
 have q2:=cell_regrown x2
 have q3:=cell_regrown x3
 have q4:=cell_regrown x4
 have q5:=cell_regrown x5
 have q6:=cell_regrown x6
 have q7:=cell_regrown x7
 have cA:∀ d os,Calls Tryz.prog 96 #[.agg #[.int .i64 F,.int .i64 R,.slice A l.length c,.bool bl,.int .u8 (ca:Int),.int .i64 ps,.int .i64 ha,.int .i64 fu]] (grow (redrawn V d) os) fun e w''=>e=.returned (.agg #[.int .i64 F,.int .i64 R,.slice A l.length c])/\∃ q:Regrown,w''=grow (redrawn V q.d) q.os:=fun d os=>Calls.regrown_of (pPlace_any F R l A c bl ca ps ha fu _)
 have cB:∀ d os,Calls Tryz.prog 95 #[.agg #[.int .i64 F,.int .i64 R,.slice A l.length c],.bool bl] (grow (redrawn V d) os) fun e w''=>e=.returned (.bool (poBrd F R l bl))/\∃ q:Regrown,w''=grow (redrawn V q.d) q.os:=fun d os=>Calls.regrown_of (pVB_any F R l A c bl _ hlen (hT.below (below_regrown V d os)) (rdBo (below_regrown V d os) hA))
 generalize poBrd F R l bl=t at *
 clear x0 x1 x2 x3 x4 x5 x6 x7 xf
 go_enter Tryz.func94,Tryz.ntmps94
 go_wp2_with fail
 refine wp_region_quiet_below (by kernel_rfl) (by kernel_rfl) ?_
 repeat (go_big_quiet_step (first | (go_at_call 96;exact cA _ _) | (go_at_call 95;exact cB _ _)))
 refine wpQuiet_nil ?_
 rintro _ ⟨⟨dq,osq⟩,rfl⟩
 go_wp2
 go_ret
 exact ⟨rfl,below_regrown _ dq osq⟩
theorem cl2 (F R:Int) (l:List Int) (A:Option Addr) (c:Nat) (bl:Bool) (ca:Nat) (ps ha fu:Int) (b:Nat) (hb:vbd F R l) (hcap:l.length<=c) (V:World) (hX:Bx8 V b F R (.slice A l.length c) bl ca ps ha fu) (hA:RdP V V.heap.size A l c) :
  Calls Tryz.prog 97 #[.pointer (some ⟨b,0,none⟩)] V fun e w'=>e=.returned (.bool (poPwn F R l))/\Below V.heap.size V w':=by
 have HC:=Lib.hid (pNo_any F R l A c bl ca ps ha fu hb V hcap hA)
 obtain ⟨⟨x0,x1,x2,x3,x4,x5,x6,x7⟩,xf⟩:=hX
 generalize poPwn F R l=t at *
 go_enter Tryz.func97,Tryz.ntmps97
 go_wp2_with fail
 refine HC.out.mono ?_
 rintro e w1 ⟨rfl,hb1⟩
 go_wp2
 go_ret
 exact ⟨rfl,hb1⟩
theorem cl3 (F R:Int) (l:List Int) (A:Option Addr) (c:Nat) (bl:Bool) (ca:Nat) (ps ha fu:Int) (b:Nat) (hb:vbd F R l) (hca:ca<256) (V:World) (hR:Rts V) (hX:Bx8 V b F R (.slice A l.length c) bl ca ps ha fu) (hA:RdP V V.heap.size A l c) :
  Calls Tryz.prog 99 #[.pointer (some ⟨b,0,none⟩)] V fun e w'=>e=.returned (.bool (poCas F R l ca))/\Below V.heap.size V w':=by
 have HC:=Lib.hid (pCas_any F R l A c bl ca ps ha fu hca (fun hF hR=>by have:=hb.2.1;subst hF hR;omega) V hR hA)
 obtain ⟨⟨x0,x1,x2,x3,x4,x5,x6,x7⟩,xf⟩:=hX
 generalize poCas F R l ca=t at *
 go_enter Tryz.func99,Tryz.ntmps99
 go_wp2_with fail
 refine HC.out.mono ?_
 rintro e w1 ⟨rfl,hb1⟩
 go_wp2
 go_ret
 exact ⟨rfl,hb1⟩
theorem cl4 (F R:Int) (l:List Int) (A:Option Addr) (c:Nat) (bl:Bool) (ca:Nat) (ps ha fu:Int) (b:Nat) (hb:vbd F R l) (V:World) (hX:Bx8 V b F R (.slice A l.length c) bl ca ps ha fu) (hA:RdP V V.heap.size A l c) :
  Calls Tryz.prog 101 #[.pointer (some ⟨b,0,none⟩)] V fun e w'=>e=.returned (.bool (poPas F R l bl ps ha))/\Below V.heap.size V w':=by
 have HC:=Lib.hid (pPas_any F R l A c bl ca ps ha fu hb V hA)
 obtain ⟨⟨x0,x1,x2,x3,x4,x5,x6,x7⟩,xf⟩:=hX
 generalize poPas F R l bl ps ha=t at *
 go_enter Tryz.func101,Tryz.ntmps101
 go_wp2_with fail
 refine HC.out.mono ?_
 rintro e w1 ⟨rfl,hb1⟩
 go_wp2
 go_ret
 exact ⟨rfl,hb1⟩
theorem cl5 (F R:Int) (l:List Int) (A:Option Addr) (c:Nat) (bl:Bool) (ca:Nat) (ps ha fu:Int) (b:Nat) (V:World) (hX:Bx8 V b F R (.slice A l.length c) bl ca ps ha fu)  :
  Calls Tryz.prog 103 #[.pointer (some ⟨b,0,none⟩)] V fun e w'=>e=.returned (.bool (decide (0<=ha) && decide (ha<=10000)))/\Below V.heap.size V w':=by
 obtain ⟨⟨x0,x1,x2,x3,x4,x5,x6,x7⟩,xf⟩:=hX
 by_cases h:0<=ha
 ·rw [decide_eq_true h,Bool.true_and]
  go_enter Tryz.func103,Tryz.ntmps103
  go_wp2
  go_ret
  exact ⟨rfl,Below.refl _ _⟩
 ·rw [decide_eq_false h,Bool.false_and]
  have h':ha<0:=by omega
  clear h
  go_enter Tryz.func103,Tryz.ntmps103
  go_wp2
  go_ret
  exact ⟨rfl,Below.refl _ _⟩
theorem cl6 (F R:Int) (l:List Int) (A:Option Addr) (c:Nat) (bl:Bool) (ca:Nat) (ps ha fu:Int) (b:Nat) (V:World) (hX:Bx8 V b F R (.slice A l.length c) bl ca ps ha fu)  :
  Calls Tryz.prog 104 #[.pointer (some ⟨b,0,none⟩)] V fun e w'=>e=.returned (.bool (decide (1<=fu) && decide (fu<=10000)))/\Below V.heap.size V w':=by
 obtain ⟨⟨x0,x1,x2,x3,x4,x5,x6,x7⟩,xf⟩:=hX
 by_cases h:1<=fu
 ·rw [decide_eq_true h,Bool.true_and]
  go_enter Tryz.func104,Tryz.ntmps104
  go_wp2
  go_ret
  exact ⟨rfl,Below.refl _ _⟩
 ·rw [decide_eq_false h,Bool.false_and]
  have h':fu<1:=by omega
  clear h
  go_enter Tryz.func104,Tryz.ntmps104
  go_wp2
  go_ret
  exact ⟨rfl,Below.refl _ _⟩
def cnd (p:Po) (k:Nat):Bool :=
 if k=0 then poBrd p.F p.R p.l p.bl else if k=1 then poPwn p.F p.R p.l else if k=2 then poCas p.F p.R p.l p.ca else if k=3 then poPas p.F p.R p.l p.bl p.ps p.ha
 else if k=4 then decide (0<=p.ha) && decide (p.ha<=10000) else decide (1<=p.fu) && decide (p.fu<=10000)
theorem okPo_cnd (p:Po):okPo p=(cnd p 0 && cnd p 1 && cnd p 2 && cnd p 3 && (cnd p 4 && cnd p 5)):=by
 unfold okPo poCnt cnd
 simp [Bool.and_assoc]
theorem okPo_cT {p:Po} (h:∀ j,j<6->cnd p j=true):okPo p=true:=by
 rw [okPo_cnd,h 0 (by omega),h 1 (by omega),h 2 (by omega),h 3 (by omega),h 4 (by omega),h 5 (by omega)]
 rfl
theorem okPo_cF {p:Po} {k:Nat} (hk:k<6) (h:cnd p k=false):okPo p=false:=by
 rw [okPo_cnd]
 match k,hk with
 | 0,_=>rw [h];rfl
 | 1,_=>rw [h];simp
 | 2,_=>rw [h];simp
 | 3,_=>rw [h];simp
 | 4,_=>rw [h];simp
 | 5,_=>rw [h];simp
theorem pValid_any (F R:Int) (l:List Int) (A:Option Addr) (c:Nat) (bl:Bool) (ca:Nat) (ps ha fu:Int) (hca:ca<256) (hlen:l.length<=100000) (hcap:l.length<=c) (w:World) (hT:T5 w) (hR:Rts w) (hA:RdP w w.heap.size A l c) :
  Calls Tryz.prog 45 #[.agg #[.int .i64 F,.int .i64 R,.slice A l.length c,.bool bl,.int .u8 (ca:Int),.int .i64 ps,.int .i64 ha,.int .i64 fu]] w fun e w'=>e=.returned (.bool (okPo ⟨F,R,l,bl,ca,ps,ha,fu⟩))/\Below w.heap.size w w':=by
 have hB1:=box1 w (.cells #[.int .i64 F,.int .i64 R,.slice A l.length c,.bool bl,.int .u8 (ca:Int),.int .i64 ps,.int .i64 ha,.int .i64 fu] 26)
 have hX1:=box8 w F R (.slice A l.length c) bl ca ps ha fu
 have hA1:=rdBo hB1 hA
 have hT1:=hT.below hB1
 have hR1:=hR.below hB1
 clear hA hT hR
 have ix0:=fun w'=>vix_0 (.pointer (some ⟨w.heap.size,0,none⟩)) w'
 have ix1:=fun w'=>vix_1 (.pointer (some ⟨w.heap.size,0,none⟩)) w'
 have ix2:=fun w'=>vix_2 (.pointer (some ⟨w.heap.size,0,none⟩)) w'
 have ix3:=fun w'=>vix_3 (.pointer (some ⟨w.heap.size,0,none⟩)) w'
 have ix4:=fun w'=>vix_4 (.pointer (some ⟨w.heap.size,0,none⟩)) w'
 have ix5:=fun w'=>vix_5 (.pointer (some ⟨w.heap.size,0,none⟩)) w'
 have HCA:=Lib.hid hca
 have HLE:=Lib.hid hlen
 have HCP:=Lib.hid hcap
 clear hca hlen hcap
 go_enter Tryz.func45,Tryz.ntmps45
 go_wp2_with fail
 go_loopw [5,14] (fun _ i wr=>∃ k:Nat,k<=6/\i=.int .i64 k/\(∀ j,j<k->cnd ⟨F,R,l,bl,ca,ps,ha,fu⟩ j=true)/\Below (w.heap.size+1) (w.alloc (.cells #[.int .i64 F,.int .i64 R,.slice A l.length c,.bool bl,.int .u8 (ca:Int),.int .i64 ps,.int .i64 ha,.int .i64 fu] 26)) wr) (fun _ i _=>6 - (intOf i).toNat)
 case atStart=>exact ⟨0,by omega,rfl,fun j hj=>absurd hj (by omega),(Below.refl _ _).alloc (by simp) _⟩
 case round =>
  obtain ⟨k,hk,rfl,hgood,hB⟩:=hrel
  have hX7:=hX1.below hB (by omega)
  have hA7:=(hA1.below (hB.mono (by simp))).grow (by have:=hB.size;simpa using this)
  have hT7:=hT1.below (hB.mono (by simp))
  have hR7:=hR1.below (hB.mono (by simp))
  have HB7:=Lib.hid (show Below w.heap.size w wr from hB1.trans (hB.mono (by omega)))
  have HBr:=Lib.hid hB
  have hvb:1<=k->vbd F R l/\orA l=true:=fun h=>poBrd_vbd (hgood 0 (by omega))
  have hca:=HCA.out
  have hlen:=HLE.out
  have hcap:=HCP.out
  clear hB hX1 hA1 hT1 hR1 hB1
  rcases (show k=0\/k=1\/k=2\/k=3\/k=4\/k=5\/k=6 by omega) with rfl | rfl | rfl | rfl | rfl | rfl | rfl
  ·have HC:=Lib.hid (cl1 F R l A c bl ca ps ha fu w.heap.size hlen wr hT7 hX7 hA7)
   have HD:Hid (cnd ⟨F,R,l,bl,ca,ps,ha,fu⟩ 0=(poBrd F R l bl)):=Lib.hid rfl
   have hnext:Hid (cnd ⟨F,R,l,bl,ca,ps,ha,fu⟩ 0=true->∀ j,j<1->cnd ⟨F,R,l,bl,ca,ps,ha,fu⟩ j=true):=Lib.hid fun h j hj=>by
    rcases Nat.lt_or_ge j 0 with hj2 | hj2
    ·exact hgood j hj2
    ·have:j=0:=by omega
     subst this;exact h
   have hFk:=Lib.hid (fun h=>okPo_cF (p:=⟨F,R,l,bl,ca,ps,ha,fu⟩) (k:=0) (by decide) h)
   clear hgood hvb hT7 hR7 hX7 hA7
   generalize cnd ⟨F,R,l,bl,ca,ps,ha,fu⟩ 0=ck at *
   generalize (poBrd F R l bl)=t at *
   go_wp2_with fail
   refine HC.out.mono ?_
   rintro e w2 ⟨rfl,hb2⟩
   cases t with
   | false =>
    go_wp2
    go_ret
    exact ⟨ret_bool (hFk.out HD.out).symm,chain HB7.out hb2⟩
   | true =>
    go_wp2
    go_roundw
    case rel=>exact ⟨1,by omega,by go_num,hnext.out HD.out,HBr.out.trans (hb2.mono (by have:=HBr.out.size;simpa using this))⟩
    case measure=>simp [intOf]
  ·have HC:=Lib.hid (cl2 F R l A c bl ca ps ha fu w.heap.size (hvb (by decide)).1 hcap wr hX7 hA7)
   have HD:Hid (cnd ⟨F,R,l,bl,ca,ps,ha,fu⟩ 1=(poPwn F R l)):=Lib.hid rfl
   have hnext:Hid (cnd ⟨F,R,l,bl,ca,ps,ha,fu⟩ 1=true->∀ j,j<2->cnd ⟨F,R,l,bl,ca,ps,ha,fu⟩ j=true):=Lib.hid fun h j hj=>by
    rcases Nat.lt_or_ge j 1 with hj2 | hj2
    ·exact hgood j hj2
    ·have:j=1:=by omega
     subst this;exact h
   have hFk:=Lib.hid (fun h=>okPo_cF (p:=⟨F,R,l,bl,ca,ps,ha,fu⟩) (k:=1) (by decide) h)
   clear hgood hvb hT7 hR7 hX7 hA7
   generalize cnd ⟨F,R,l,bl,ca,ps,ha,fu⟩ 1=ck at *
   generalize (poPwn F R l)=t at *
   go_wp2_with fail
   refine HC.out.mono ?_
   rintro e w2 ⟨rfl,hb2⟩
   cases t with
   | false =>
    go_wp2
    go_ret
    exact ⟨ret_bool (hFk.out HD.out).symm,chain HB7.out hb2⟩
   | true =>
    go_wp2
    go_roundw
    case rel=>exact ⟨2,by omega,by go_num,hnext.out HD.out,HBr.out.trans (hb2.mono (by have:=HBr.out.size;simpa using this))⟩
    case measure=>simp [intOf]
  ·have HC:=Lib.hid (cl3 F R l A c bl ca ps ha fu w.heap.size (hvb (by decide)).1 hca wr hR7 hX7 hA7)
   have HD:Hid (cnd ⟨F,R,l,bl,ca,ps,ha,fu⟩ 2=(poCas F R l ca)):=Lib.hid rfl
   have hnext:Hid (cnd ⟨F,R,l,bl,ca,ps,ha,fu⟩ 2=true->∀ j,j<3->cnd ⟨F,R,l,bl,ca,ps,ha,fu⟩ j=true):=Lib.hid fun h j hj=>by
    rcases Nat.lt_or_ge j 2 with hj2 | hj2
    ·exact hgood j hj2
    ·have:j=2:=by omega
     subst this;exact h
   have hFk:=Lib.hid (fun h=>okPo_cF (p:=⟨F,R,l,bl,ca,ps,ha,fu⟩) (k:=2) (by decide) h)
   clear hgood hvb hT7 hR7 hX7 hA7
   generalize cnd ⟨F,R,l,bl,ca,ps,ha,fu⟩ 2=ck at *
   generalize (poCas F R l ca)=t at *
   go_wp2_with fail
   refine HC.out.mono ?_
   rintro e w2 ⟨rfl,hb2⟩
   cases t with
   | false =>
    go_wp2
    go_ret
    exact ⟨ret_bool (hFk.out HD.out).symm,chain HB7.out hb2⟩
   | true =>
    go_wp2
    go_roundw
    case rel=>exact ⟨3,by omega,by go_num,hnext.out HD.out,HBr.out.trans (hb2.mono (by have:=HBr.out.size;simpa using this))⟩
    case measure=>simp [intOf]
  ·have HC:=Lib.hid (cl4 F R l A c bl ca ps ha fu w.heap.size (hvb (by decide)).1 wr hX7 hA7)
   have HD:Hid (cnd ⟨F,R,l,bl,ca,ps,ha,fu⟩ 3=(poPas F R l bl ps ha)):=Lib.hid rfl
   have hnext:Hid (cnd ⟨F,R,l,bl,ca,ps,ha,fu⟩ 3=true->∀ j,j<4->cnd ⟨F,R,l,bl,ca,ps,ha,fu⟩ j=true):=Lib.hid fun h j hj=>by
    rcases Nat.lt_or_ge j 3 with hj2 | hj2
    ·exact hgood j hj2
    ·have:j=3:=by omega
     subst this;exact h
   have hFk:=Lib.hid (fun h=>okPo_cF (p:=⟨F,R,l,bl,ca,ps,ha,fu⟩) (k:=3) (by decide) h)
   clear hgood hvb hT7 hR7 hX7 hA7
   generalize cnd ⟨F,R,l,bl,ca,ps,ha,fu⟩ 3=ck at *
   generalize (poPas F R l bl ps ha)=t at *
   go_wp2_with fail
   refine HC.out.mono ?_
   rintro e w2 ⟨rfl,hb2⟩
   cases t with
   | false =>
    go_wp2
    go_ret
    exact ⟨ret_bool (hFk.out HD.out).symm,chain HB7.out hb2⟩
   | true =>
    go_wp2
    go_roundw
    case rel=>exact ⟨4,by omega,by go_num,hnext.out HD.out,HBr.out.trans (hb2.mono (by have:=HBr.out.size;simpa using this))⟩
    case measure=>simp [intOf]
  ·have HC:=Lib.hid (cl5 F R l A c bl ca ps ha fu w.heap.size wr hX7)
   have HD:Hid (cnd ⟨F,R,l,bl,ca,ps,ha,fu⟩ 4=(decide (0<=ha) && decide (ha<=10000))):=Lib.hid rfl
   have hnext:Hid (cnd ⟨F,R,l,bl,ca,ps,ha,fu⟩ 4=true->∀ j,j<5->cnd ⟨F,R,l,bl,ca,ps,ha,fu⟩ j=true):=Lib.hid fun h j hj=>by
    rcases Nat.lt_or_ge j 4 with hj2 | hj2
    ·exact hgood j hj2
    ·have:j=4:=by omega
     subst this;exact h
   have hFk:=Lib.hid (fun h=>okPo_cF (p:=⟨F,R,l,bl,ca,ps,ha,fu⟩) (k:=4) (by decide) h)
   clear hgood hvb hT7 hR7 hX7 hA7
   generalize cnd ⟨F,R,l,bl,ca,ps,ha,fu⟩ 4=ck at *
   generalize (decide (0<=ha) && decide (ha<=10000))=t at *
   go_wp2_with fail
   refine HC.out.mono ?_
   rintro e w2 ⟨rfl,hb2⟩
   cases t with
   | false =>
    go_wp2
    go_ret
    exact ⟨ret_bool (hFk.out HD.out).symm,chain HB7.out hb2⟩
   | true =>
    go_wp2
    go_roundw
    case rel=>exact ⟨5,by omega,by go_num,hnext.out HD.out,HBr.out.trans (hb2.mono (by have:=HBr.out.size;simpa using this))⟩
    case measure=>simp [intOf]
  ·have HC:=Lib.hid (cl6 F R l A c bl ca ps ha fu w.heap.size wr hX7)
   have HD:Hid (cnd ⟨F,R,l,bl,ca,ps,ha,fu⟩ 5=(decide (1<=fu) && decide (fu<=10000))):=Lib.hid rfl
   have hnext:Hid (cnd ⟨F,R,l,bl,ca,ps,ha,fu⟩ 5=true->∀ j,j<6->cnd ⟨F,R,l,bl,ca,ps,ha,fu⟩ j=true):=Lib.hid fun h j hj=>by
    rcases Nat.lt_or_ge j 5 with hj2 | hj2
    ·exact hgood j hj2
    ·have:j=5:=by omega
     subst this;exact h
   have hFk:=Lib.hid (fun h=>okPo_cF (p:=⟨F,R,l,bl,ca,ps,ha,fu⟩) (k:=5) (by decide) h)
   clear hgood hvb hT7 hR7 hX7 hA7
   generalize cnd ⟨F,R,l,bl,ca,ps,ha,fu⟩ 5=ck at *
   generalize (decide (1<=fu) && decide (fu<=10000))=t at *
   go_wp2_with fail
   refine HC.out.mono ?_
   rintro e w2 ⟨rfl,hb2⟩
   cases t with
   | false =>
    go_wp2
    go_ret
    exact ⟨ret_bool (hFk.out HD.out).symm,chain HB7.out hb2⟩
   | true =>
    go_wp2
    go_roundw
    case rel=>exact ⟨6,by omega,by go_num,hnext.out HD.out,HBr.out.trans (hb2.mono (by have:=HBr.out.size;simpa using this))⟩
    case measure=>simp [intOf]
  ·have he:=Lib.hid (okPo_cT hgood)
   clear hgood
   go_wp2
   go_ret
   exact ⟨ret_bool he.out.symm,HB7.out⟩
end Go.Proofs.YtbccbgonlmkpkaaGreatDoor
