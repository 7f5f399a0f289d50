/- What the theorem needs, piece Zb39. -/
import Derived.Test.YtbccbgonlmkpkaaGreatDoorZb20
import Derived.Test.YtbccbgonlmkpkaaGreatDoorZb04
import Derived.Test.YtbccbgonlmkpkaaGreatDoorZb19
set_option linter.unusedSimpArgs false
set_option linter.unusedVariables false
set_option maxRecDepth 100000
set_option maxHeartbeats 16000000
namespace Go.Proofs.YtbccbgonlmkpkaaGreatDoor
open Go.RowKit Go.Sort
theorem fld0 (x y:Int) (w:World):(Instr.field 104 (.agg #[.int .i64 x,.int .i64 y]) 0).run Tryz.prog w=.ok (.int .i64 x) w:=by kernel_rfl
theorem rCapt_any (F R:Int) (l:List Int) (A:Option Addr) (c:Nat) (bl:Bool) (ca:Nat) (ps ha fu:Int) (x y t:Int) (hl:(l.length:Int)=F * R) (hx:vat F R x) (hy:vat F R y) (ho:orthB (pc l x)=true) (w:World) (hA:RdP w w.heap.size A l c) :
  Calls Tryz.prog 38 #[.agg #[.int .i64 F,.int .i64 R,.slice A l.length c,.bool bl,.int .u8 (ca:Int),.int .i64 ps,.int .i64 ha,.int .i64 fu],.agg #[.int .i64 x,.int .i64 y,.int .i8 t]] w fun e w'=>e=.returned (.int .i64 (capM ⟨F,R,l,bl,ca,ps,ha,fu⟩ ⟨x,y,t⟩))/\Below w.heap.size w w':=by
 have HK:=Lib.hid (fun w=>rKind_or (pc l x) ho w)
 have HP1:=Lib.hid (refPlace_any F R x hx)
 have HP2:=Lib.hid (refPlace_any F R y hy)
 obtain ⟨p0,p1,p2,p3⟩:=place_bd hx.1 hx.2.1 hx.2.2
 obtain ⟨q0,q1,q2,q3⟩:=place_bd hy.1 hy.2.1 hy.2.2
 have HNU:=Lib.hid (refNumber_yes F R (y % F) (x / F) hx.1 ⟨q0,q1,p2,p3⟩)
 have hnv:numV F R (y % F) (x / F)=x / F * F+y % F:=numV_on ⟨q0,q1,p2,p3⟩
 have HCV:Hid (capM ⟨F,R,l,bl,ca,ps,ha,fu⟩ ⟨x,y,t⟩=if kdP (pc l x)=1/\y=ps then x / F * F+y % F else if pc l y≠0 then y else -1):=Lib.hid (by
  unfold capM
  simp only
  rw [hnv])
 obtain ⟨n,rfl⟩:∃ n:Nat,x=(n:Int):=⟨x.toNat,by have:=hx.2.1;omega⟩
 obtain ⟨k,rfl⟩:∃ k:Nat,y=(k:Int):=⟨y.toNat,by have:=hy.2.1;omega⟩
 have hn:n<l.length:=by have:=hx.2.2;omega
 have hk:k<l.length:=by have:=hy.2.2;omega
 obtain ⟨ad,rfl,hb,hc⟩:=hA.at_ hn
 obtain ⟨ad2,e2,hb2,hc2⟩:=hA.at_ hk
 obtain rfl:ad=ad2:=by simpa using e2
 clear e2 p0 p1 p2 p3 q0 q1 q2 q3 hnv hx hy ho hl hb2
 rw [<- pc_nat] at hc hc2
 have B1:=box1 w (.cells #[.int .i64 F,.int .i64 R,.slice (some ad) l.length c,.bool bl,.int .u8 (ca:Int),.int .i64 ps,.int .i64 ha,.int .i64 fu] 26)
 have B2:=box1 (w.alloc (.cells #[.int .i64 F,.int .i64 R,.slice (some ad) l.length c,.bool bl,.int .u8 (ca:Int),.int .i64 ps,.int .i64 ha,.int .i64 fu] 26)) (.cells #[.int .i64 (n:Int),.int .i64 (k:Int),.int .i8 t] 30)
 have HX:=Lib.hid ((box8 w F R (.slice (some ad) l.length c) bl ca ps ha fu).below B2 (by simp))
 have HM:=(box3 (w.alloc (.cells #[.int .i64 F,.int .i64 R,.slice (some ad) l.length c,.bool bl,.int .u8 (ca:Int),.int .i64 ps,.int .i64 ha,.int .i64 fu] 26)) (n:Int) (k:Int) t)
 rw [World.size_alloc] at HM
 replace HM:=Lib.hid HM
 have hcc:=cBo B2 (cBo B1 hc)
 have hcc2:=cBo B2 (cBo B1 hc2)
 have hB:=chain B1 B2
 clear hc hc2 B1 B2 hA
 go_enter Tryz.func38,Tryz.ntmps38
 by_cases h1:kdP (pc l (n:Int))=1
 ·have e1:(kdP (pc l (n:Int)) == 1)=true:=by simp [h1]
  by_cases h2:(k:Int)=ps
  ·have e2:((k:Int) == ps)=true:=by simp [h2]
   have HV:=HCV.out
   rw [if_pos ⟨h1,h2⟩] at HV
   replace HV:=Lib.hid HV
   clear h1 h2 HCV
   generalize kdP (pc l (n:Int))=kd at *
   generalize pc l (n:Int)=q at *
   generalize pc l (k:Int)=r at *
   generalize (n:Int) / F=xr at *
   generalize (n:Int) % F=xf at *
   generalize (k:Int) / F=yr at *
   generalize (k:Int) % F=yf at *
   go_wp2_with fail
   refine (HK.out _).mono ?_
   rintro e w1 ⟨rfl,rfl⟩
   obtain ⟨⟨z0,z1,z2,z3,z4,z5,z6,z7⟩,zf⟩:=HX.out
   obtain ⟨⟨m0,m1,m2⟩,mf⟩:=HM.out
   clear zf mf HX HM hcc hcc2
   have hf0:=fun w'=>fld0 yf yr w'
   have hf1:=fun w'=>fld1 xf xr w'
   go_wp2_with fail
   generalize (w.alloc (.cells #[.int .i64 F,.int .i64 R,.slice (some ad) l.length c,.bool bl,.int .u8 (ca:Int),.int .i64 ps,.int .i64 ha,.int .i64 fu] 26)).alloc (.cells #[.int .i64 (n:Int),.int .i64 (k:Int),.int .i8 t] 30)=V at *
   have KB:∀ W':World,Bw V W'->(W'.cell? ⟨w.heap.size,0,none⟩=some (.int .i64 F)/\W'.cell? ⟨w.heap.size,1,none⟩=some (.int .i64 R)/\W'.cell? ⟨w.heap.size+1,0,none⟩=some (.int .i64 (n:Int))/\W'.cell? ⟨w.heap.size+1,1,none⟩=some (.int .i64 (k:Int)))/\Bw V W':=fun W' hW=>⟨⟨cBo hW (by assumption),cBo hW (by assumption),cBo hW (by assumption),cBo hW (by assumption)⟩,hW⟩
   replace KB:=Lib.hid KB
   have hS0:=KB.out V (Below.refl _ _)
   (go_region_held3 (fun w'=>(w'.cell? ⟨w.heap.size,0,none⟩=some (.int .i64 F)/\w'.cell? ⟨w.heap.size,1,none⟩=some (.int .i64 R)/\w'.cell? ⟨w.heap.size+1,0,none⟩=some (.int .i64 (n:Int))/\w'.cell? ⟨w.heap.size+1,1,none⟩=some (.int .i64 (k:Int)))/\Bw V w')
    (first | assumption | exact KB.out _ (Bw.step (And.right (by assumption)) (by assumption)) | exact KB.out _ (Bw.step (And.right (by assumption)) ((Below.refl _ _).drew)))
    (first
     | (go_at_call_of 66 (Value.int .i64 (n:Int));refine (HP1.out _).mono ?_;rintro e w1 ⟨rfl,hq1⟩)
     | (go_at_call_of 66 (Value.int .i64 (k:Int));refine (HP2.out _).mono ?_;rintro e w2 ⟨rfl,hq2⟩)
     | (go_at_call 86;refine (HNU.out _).mono ?_;rintro e w3 ⟨rfl,hq3⟩)))
   have hQ:Below V.heap.size V _:=And.right (by assumption:_/\Bw V _)
   go_wp2
   go_ret
   exact ⟨by rw [HV.out];rfl,chain hB hQ⟩
  ·have e2:((k:Int) == ps)=false:=by simp [h2]
   have HV:=HCV.out
   rw [if_neg (fun h=>h2 h.2)] at HV
   replace HV:=Lib.hid HV
   clear h1 h2 HCV
   generalize kdP (pc l (n:Int))=kd at *
   generalize pc l (n:Int)=q at *
   go_wp2_with fail
   refine (HK.out _).mono ?_
   rintro e w1 ⟨rfl,rfl⟩
   by_cases h3:pc l (k:Int)=0
   ·have e3:(pc l (k:Int) != 0)=false:=by simp [h3]
    have HV2:=HV.out
    rw [if_neg (by simp [h3])] at HV2
    replace HV2:=Lib.hid HV2
    clear h3 HV
    generalize pc l (k:Int)=r at *
    go_wp2
    go_ret
    exact ⟨by rw [HV2.out];rfl,hB⟩
   ·have e3:(pc l (k:Int) != 0)=true:=by simp [h3]
    have HV2:=HV.out
    rw [if_pos h3] at HV2
    replace HV2:=Lib.hid HV2
    clear h3 HV
    generalize pc l (k:Int)=r at *
    go_wp2
    go_ret
    exact ⟨by rw [HV2.out];rfl,hB⟩
 ·have e1:(kdP (pc l (n:Int)) == 1)=false:=by simp [h1]
  have HV:=HCV.out
  rw [if_neg (fun h=>h1 h.1)] at HV
  replace HV:=Lib.hid HV
  clear h1 HCV
  generalize kdP (pc l (n:Int))=kd at *
  generalize pc l (n:Int)=q at *
  go_wp2_with fail
  refine (HK.out _).mono ?_
  rintro e w1 ⟨rfl,rfl⟩
  by_cases h3:pc l (k:Int)=0
  ·have e3:(pc l (k:Int) != 0)=false:=by simp [h3]
   have HV2:=HV.out
   rw [if_neg (by simp [h3])] at HV2
   replace HV2:=Lib.hid HV2
   clear h3 HV
   generalize pc l (k:Int)=r at *
   go_wp2
   go_ret
   exact ⟨by rw [HV2.out];rfl,hB⟩
  ·have e3:(pc l (k:Int) != 0)=true:=by simp [h3]
   have HV2:=HV.out
   rw [if_pos h3] at HV2
   replace HV2:=Lib.hid HV2
   clear h3 HV
   generalize pc l (k:Int)=r at *
   go_wp2
   go_ret
   exact ⟨by rw [HV2.out];rfl,hB⟩
end Go.Proofs.YtbccbgonlmkpkaaGreatDoor
