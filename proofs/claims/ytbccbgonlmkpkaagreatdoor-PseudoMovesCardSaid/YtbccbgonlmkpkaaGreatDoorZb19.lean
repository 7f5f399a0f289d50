/- What the theorem needs, piece Zb19. -/
import Derived.Lib.QuietBelow
import Derived.Sort.AtCall
import Derived.Test.YtbccbgonlmkpkaaGreatDoorZb04
import Derived.Test.YtbccbgonlmkpkaaGreatDoorZb01
import Derived.Test.YtbccbgonlmkpkaaGreatDoorZb00
import Derived.Test.YtbccbgonlmkpkaaGreatDoorZb05
import Derived.Test.YtbccbgonlmkpkaaGreatDoorZb03
set_option linter.unusedSimpArgs false
set_option linter.unusedVariables false
set_option maxRecDepth 100000
set_option maxHeartbeats 16000000
namespace Go.Proofs.YtbccbgonlmkpkaaGreatDoor
open Go.RowKit Go.Sort
def numV (F R f r:Int):Int:=if onB F R f r=true then r * F+f else -1
theorem refNumber_v (F R f r:Int) (hv:vsz F R) (w:World):Calls Tryz.prog 86 #[.agg #[.int .i64 F,.int .i64 R],.int .i64 f,.int .i64 r] w fun e w'=>e=.returned (.int .i64 (numV F R f r))/\Below w.heap.size w w':=by
 unfold numV
 by_cases h:onb F R f r
 ·rw [if_pos (onB_iff.2 h)];exact refNumber_yes F R f r hv h w
 ·rw [if_neg (fun e=>h (onB_iff.1 e))];exact refNumber_no F R f r h w
def hasV (X:Nat) (n:Int):Bool:=if 0<=n/\n<64 then X.testBit n.toNat else false
theorem refHas_v (X:Nat) (n:Int) (hX:X<18446744073709551616) (w:World):Calls Tryz.prog 206 #[.int .u64 X,.int .i64 n] w fun e w'=>e=.returned (.bool (hasV X n))/\Below w.heap.size w w':=by
 unfold hasV
 by_cases h:0<=n/\n<64
 ·rw [if_pos h];exact (refHas_in X n hX h.1 h.2 w).mono fun _ _ h=>⟨h.1,by rw [<- h.2];exact Below.refl _ _⟩
 ·rw [if_neg h];exact (refHas_out X n (by omega) w).mono fun _ _ h=>⟨h.1,by rw [<- h.2];exact Below.refl _ _⟩
def stepB (R y o1 o2:Int) (bl:Bool) (X:Nat) (b:Int):Bool:=((b == o1) && !(hasV X o1)) || ((b == o2) && decide (6<=R) && (y == scd R bl) && !(hasV X o1) && !(hasV X o2))
def stepL (F R a:Int) (bl:Bool) (X:Nat):List Nat:=pickTo (fun b=>stepB R (a / F) (numV F R (a % F) (a / F+fwd bl)) (numV F R (a % F) (a / F+2 * fwd bl)) bl X (b:Int)) (F * R).toNat
theorem rSteps_any (F R a:Int) (bl:Bool) (ha:vat F R a) (X:Nat) (hX:X<18446744073709551616) (w:World) :
  Calls Tryz.prog 171 #[.agg #[.int .i64 F,.int .i64 R],.bool bl,.int .i64 a,.int .u64 X] w fun e w'=>∃ v,e=.returned v/\w'.ownsRow w.heap.size 3 1 v (stepL F R a bl X).length (vnats (stepL F R a bl X))/\Below w.heap.size w w':=by
 obtain ⟨i0,hi,hz0,hz1,hz2⟩:=info_parts ints3
 obtain ⟨m0,m1⟩:=vsz_mul ha.1
 obtain ⟨p0,p1,p2,p3⟩:=place_bd ha.1 ha.2.1 ha.2.2
 have f2:=ha.1.2.1
 have r1:=ha.1.2.2.1
 have r2:=ha.1.2.2.2
 have hpl:=refPlace_any F R a ha
 have hfw:-1<=fwd bl/\fwd bl<=1:=by unfold fwd;split <;> omega
 obtain ⟨x,hx⟩:∃ x,a % F=x:=⟨_,rfl⟩
 obtain ⟨y,hy⟩:∃ y,a / F=y:=⟨_,rfl⟩
 unfold stepL
 rw [hx,hy]
 rw [hx,hy] at hpl
 rw [hx] at p0 p1
 rw [hy] at p2 p3
 have HPL:=Lib.hid hpl
 have HFW:=Lib.hid (forward_any bl)
 have HN1:=Lib.hid (refNumber_v F R x (y+fwd bl) ha.1)
 have HN2:=Lib.hid (refNumber_v F R x (y+2 * fwd bl) ha.1)
 have HSC:=Lib.hid (second_any F R bl ⟨r1,r2⟩)
 generalize fwd bl=up at *
 obtain ⟨f0,f1⟩:=hfw
 generalize numV F R x (y+up)=o1 at *
 generalize numV F R x (y+2 * up)=o2 at *
 generalize hsc:scd R bl=sc at *
 have HO1:=Lib.hid (refHas_v X o1 hX)
 have HO2:=Lib.hid (refHas_v X o2 hX)
 obtain ⟨P,hP⟩:∃ P:Nat->Bool,(fun b:Nat=>stepB R y o1 o2 bl X (b:Int))=P:=⟨_,rfl⟩
 have HP:=Lib.hid hP
 have HSCV:=Lib.hid hsc
 rw [hP]
 clear hP hpl hx hy ha hsc
 go_enter Tryz.func171,Tryz.ntmps171
 go_wp2_with fail
 refine (HPL.out _).mono ?_
 rintro e w2 ⟨rfl,hb⟩
 have s2:=hb.size
 simp at s2
 have hd0:=hb.cell (p:=⟨w.heap.size,0,none⟩) (by simp)
 have hd1:=hb.cell (p:=⟨w.heap.size,1,none⟩) (by simp)
 simp [go_sem] at hd0 hd1
 have hB2:=after1 hb
 clear hb
 go_wp2_with fail
 refine (HFW.out _).mono ?_
 rintro e w3 ⟨rfl,rfl⟩
 have k0:(w2.alloc (.cells #[.int .i64 x,.int .i64 y] 104)).cell? ⟨w.heap.size,0,none⟩=some (.int .i64 F):=alive _ hd0
 have k1:(w2.alloc (.cells #[.int .i64 x,.int .i64 y] 104)).cell? ⟨w.heap.size,1,none⟩=some (.int .i64 R):=alive _ hd1
 have k2:(w2.alloc (.cells #[.int .i64 x,.int .i64 y] 104)).cell? ⟨w2.heap.size,0,none⟩=some (.int .i64 x):=by simp [go_sem]
 have k3:(w2.alloc (.cells #[.int .i64 x,.int .i64 y] 104)).cell? ⟨w2.heap.size,1,none⟩=some (.int .i64 y):=by simp [go_sem]
 have hB3:Below w.heap.size w (w2.alloc (.cells #[.int .i64 x,.int .i64 y] 104)):=hB2.alloc hB2.size _
 have s3:(w2.alloc (.cells #[.int .i64 x,.int .i64 y] 104)).heap.size=w2.heap.size+1:=by simp
 have S3:=Lib.hid s3
 have q0:=cell_regrown k0
 have q1:=cell_regrown k1
 have q2:=cell_regrown k2
 have q3:=cell_regrown k3
 have hw1:IntKind.i64.wrap (y+up)=y+up:=IntWalk.i64_in _ (by omega)
 have hw2:IntKind.i64.wrap (2 * up)=2 * up:=IntWalk.i64_in _ (by omega)
 have hw3:IntKind.i64.wrap (y+2 * up)=y+2 * up:=IntWalk.i64_in _ (by omega)
 clear s3 hd0 hd1
 go_wp2
 refine wp_region_quiet_below (by kernel_rfl) (by kernel_rfl) ?_
 repeat (go_big_quiet_step (first | (go_at_call_has 86 (Value.int .i64 (y+up));exact Calls.regrown_of (HN1.out _)) | (go_at_call_has 86 (Value.int .i64 (y+2 * up));exact Calls.regrown_of (HN2.out _))))
 refine wpQuiet_nil ?_
 rintro _ ⟨⟨dq,osq⟩,rfl⟩
 have hR0:=below_regrown (w2.alloc (.cells #[.int .i64 x,.int .i64 y] 104)) dq osq
 have n0:=q0 dq osq
 have n1:=q1 dq osq
 have n3:=q3 dq osq
 have hB4:=chain hB3 hR0
 have s4:=hR0.size
 rw [S3.out] at s4
 clear q0 q1 q2 q3 k0 k1 k2 k3 hB3 hR0 hw1 hw2 hw3
 generalize grow (redrawn (w2.alloc (.cells #[.int .i64 x,.int .i64 y] 104)) dq) osq=wA at *
 go_wp2
 go_loopg [13,14] 64 (fun gn v i wr=>∃ b:Nat,gn=64 - b/\(b:Int)<=F * R/\i=.int .i64 b/\wr.ownsRow (w2.heap.size+1) 3 1 v (pickTo P b).length (vnats (pickTo P b))/\Below (w2.heap.size+1) wA wr)
 case atStart=>exact ⟨0,by omega,by omega,rfl,World.ownsRow_nil _ _ _ _,Below.refl _ _⟩
 case round =>
  obtain ⟨b,hgk,hb,rfl,hown,hB⟩:=hrel
  have HGK:=Lib.hid hgk
  clear hgk
  have hsz:=hB.size
  have s1:w2.heap.size+1<=wr.heap.size:=by omega
  have c0:=(hB.cell (p:=⟨w.heap.size,0,none⟩) (by simp;omega)).trans n0
  have c1:=(hB.cell (p:=⟨w.heap.size,1,none⟩) (by simp;omega)).trans n1
  have c3:=(hB.cell (p:=⟨w2.heap.size,1,none⟩) (by simp)).trans n3
  have kk0:=cell_regrown c0
  have kk1:=cell_regrown c1
  have kk3:=cell_regrown c3
  clear n0 n1 n3
  by_cases hlt:(b:Int)<F * R
  ·have hle:=pickTo_le P b
   have he:stepB R y o1 o2 bl X (b:Int)=P b:=congrFun HP.out b
   unfold stepB at he
   rw [HSCV.out] at he
   generalize hasV X o1=v1 at *
   generalize hasV X o2=v2 at *
   obtain ⟨e1,he1⟩:∃ e1,((b:Int) == o1)=e1:=⟨_,rfl⟩
   obtain ⟨e2,he2⟩:∃ e2,((b:Int) == o2)=e2:=⟨_,rfl⟩
   obtain ⟨r6,hr6⟩:∃ r6,decide (6<=R)=r6:=⟨_,rfl⟩
   obtain ⟨ys,hys⟩:∃ ys,(y == sc)=ys:=⟨_,rfl⟩
   rw [he1,he2,hr6,hys] at he
   have HE:=Lib.hid he
   clear he
   go_upto_region 7 with fail
   go_cut [84] (fun t wx=>t=.bool (P b)/\Below wr.heap.size wr wx)
   case first =>
    cases e1
    ·cases v1
     ·cases e2
      ·refine wp_region_quiet_below (by kernel_rfl) (by kernel_rfl) ?_
       repeat (go_big_quiet_step (first | (go_at_call_of 206 (Value.int .i64 o1);exact Calls.regrown_of (HO1.out _)) | (go_at_call_of 206 (Value.int .i64 o2);exact Calls.regrown_of (HO2.out _)) | (go_at_call 207;exact Calls.regrown_of (HSC.out _))))
       refine wpQuiet_nil ?_
       rintro _ ⟨⟨dq,osq⟩,rfl⟩
       have hR:=below_regrown wr dq osq
       go_wp2_with fail
       go_meet
       exact ⟨by rw [<- HE.out];rfl,hR⟩
      ·cases r6
       ·refine wp_region_quiet_below (by kernel_rfl) (by kernel_rfl) ?_
        repeat (go_big_quiet_step (first | (go_at_call_of 206 (Value.int .i64 o1);exact Calls.regrown_of (HO1.out _)) | (go_at_call_of 206 (Value.int .i64 o2);exact Calls.regrown_of (HO2.out _)) | (go_at_call 207;exact Calls.regrown_of (HSC.out _))))
        refine wpQuiet_nil ?_
        rintro _ ⟨⟨dq,osq⟩,rfl⟩
        have hR:=below_regrown wr dq osq
        go_wp2_with fail
        go_meet
        exact ⟨by rw [<- HE.out];rfl,hR⟩
       ·cases ys
        ·refine wp_region_quiet_below (by kernel_rfl) (by kernel_rfl) ?_
         repeat (go_big_quiet_step (first | (go_at_call_of 206 (Value.int .i64 o1);exact Calls.regrown_of (HO1.out _)) | (go_at_call_of 206 (Value.int .i64 o2);exact Calls.regrown_of (HO2.out _)) | (go_at_call 207;exact Calls.regrown_of (HSC.out _))))
         refine wpQuiet_nil ?_
         rintro _ ⟨⟨dq,osq⟩,rfl⟩
         have hR:=below_regrown wr dq osq
         go_wp2_with fail
         go_meet
         exact ⟨by rw [<- HE.out];rfl,hR⟩
        ·cases v2
         ·refine wp_region_quiet_below (by kernel_rfl) (by kernel_rfl) ?_
          repeat (go_big_quiet_step (first | (go_at_call_of 206 (Value.int .i64 o1);exact Calls.regrown_of (HO1.out _)) | (go_at_call_of 206 (Value.int .i64 o2);exact Calls.regrown_of (HO2.out _)) | (go_at_call 207;exact Calls.regrown_of (HSC.out _))))
          refine wpQuiet_nil ?_
          rintro _ ⟨⟨dq,osq⟩,rfl⟩
          have hR:=below_regrown wr dq osq
          go_wp2_with fail
          go_meet
          exact ⟨by rw [<- HE.out];rfl,hR⟩
         ·refine wp_region_quiet_below (by kernel_rfl) (by kernel_rfl) ?_
          repeat (go_big_quiet_step (first | (go_at_call_of 206 (Value.int .i64 o1);exact Calls.regrown_of (HO1.out _)) | (go_at_call_of 206 (Value.int .i64 o2);exact Calls.regrown_of (HO2.out _)) | (go_at_call 207;exact Calls.regrown_of (HSC.out _))))
          refine wpQuiet_nil ?_
          rintro _ ⟨⟨dq,osq⟩,rfl⟩
          have hR:=below_regrown wr dq osq
          go_wp2_with fail
          go_meet
          exact ⟨by rw [<- HE.out];rfl,hR⟩
     ·cases e2
      ·refine wp_region_quiet_below (by kernel_rfl) (by kernel_rfl) ?_
       repeat (go_big_quiet_step (first | (go_at_call_of 206 (Value.int .i64 o1);exact Calls.regrown_of (HO1.out _)) | (go_at_call_of 206 (Value.int .i64 o2);exact Calls.regrown_of (HO2.out _)) | (go_at_call 207;exact Calls.regrown_of (HSC.out _))))
       refine wpQuiet_nil ?_
       rintro _ ⟨⟨dq,osq⟩,rfl⟩
       have hR:=below_regrown wr dq osq
       go_wp2_with fail
       go_meet
       exact ⟨by rw [<- HE.out];rfl,hR⟩
      ·cases r6
       ·refine wp_region_quiet_below (by kernel_rfl) (by kernel_rfl) ?_
        repeat (go_big_quiet_step (first | (go_at_call_of 206 (Value.int .i64 o1);exact Calls.regrown_of (HO1.out _)) | (go_at_call_of 206 (Value.int .i64 o2);exact Calls.regrown_of (HO2.out _)) | (go_at_call 207;exact Calls.regrown_of (HSC.out _))))
        refine wpQuiet_nil ?_
        rintro _ ⟨⟨dq,osq⟩,rfl⟩
        have hR:=below_regrown wr dq osq
        go_wp2_with fail
        go_meet
        exact ⟨by rw [<- HE.out];rfl,hR⟩
       ·cases ys
        ·refine wp_region_quiet_below (by kernel_rfl) (by kernel_rfl) ?_
         repeat (go_big_quiet_step (first | (go_at_call_of 206 (Value.int .i64 o1);exact Calls.regrown_of (HO1.out _)) | (go_at_call_of 206 (Value.int .i64 o2);exact Calls.regrown_of (HO2.out _)) | (go_at_call 207;exact Calls.regrown_of (HSC.out _))))
         refine wpQuiet_nil ?_
         rintro _ ⟨⟨dq,osq⟩,rfl⟩
         have hR:=below_regrown wr dq osq
         go_wp2_with fail
         go_meet
         exact ⟨by rw [<- HE.out];rfl,hR⟩
        ·refine wp_region_quiet_below (by kernel_rfl) (by kernel_rfl) ?_
         repeat (go_big_quiet_step (first | (go_at_call_of 206 (Value.int .i64 o1);exact Calls.regrown_of (HO1.out _)) | (go_at_call_of 206 (Value.int .i64 o2);exact Calls.regrown_of (HO2.out _)) | (go_at_call 207;exact Calls.regrown_of (HSC.out _))))
         refine wpQuiet_nil ?_
         rintro _ ⟨⟨dq,osq⟩,rfl⟩
         have hR:=below_regrown wr dq osq
         go_wp2_with fail
         go_meet
         exact ⟨by rw [<- HE.out];rfl,hR⟩
    ·cases v1
     ·refine wp_region_quiet_below (by kernel_rfl) (by kernel_rfl) ?_
      repeat (go_big_quiet_step (first | (go_at_call_of 206 (Value.int .i64 o1);exact Calls.regrown_of (HO1.out _)) | (go_at_call_of 206 (Value.int .i64 o2);exact Calls.regrown_of (HO2.out _)) | (go_at_call 207;exact Calls.regrown_of (HSC.out _))))
      refine wpQuiet_nil ?_
      rintro _ ⟨⟨dq,osq⟩,rfl⟩
      have hR:=below_regrown wr dq osq
      go_wp2_with fail
      go_meet
      exact ⟨by rw [<- HE.out];rfl,hR⟩
     ·cases e2
      ·refine wp_region_quiet_below (by kernel_rfl) (by kernel_rfl) ?_
       repeat (go_big_quiet_step (first | (go_at_call_of 206 (Value.int .i64 o1);exact Calls.regrown_of (HO1.out _)) | (go_at_call_of 206 (Value.int .i64 o2);exact Calls.regrown_of (HO2.out _)) | (go_at_call 207;exact Calls.regrown_of (HSC.out _))))
       refine wpQuiet_nil ?_
       rintro _ ⟨⟨dq,osq⟩,rfl⟩
       have hR:=below_regrown wr dq osq
       go_wp2_with fail
       go_meet
       exact ⟨by rw [<- HE.out];rfl,hR⟩
      ·cases r6
       ·refine wp_region_quiet_below (by kernel_rfl) (by kernel_rfl) ?_
        repeat (go_big_quiet_step (first | (go_at_call_of 206 (Value.int .i64 o1);exact Calls.regrown_of (HO1.out _)) | (go_at_call_of 206 (Value.int .i64 o2);exact Calls.regrown_of (HO2.out _)) | (go_at_call 207;exact Calls.regrown_of (HSC.out _))))
        refine wpQuiet_nil ?_
        rintro _ ⟨⟨dq,osq⟩,rfl⟩
        have hR:=below_regrown wr dq osq
        go_wp2_with fail
        go_meet
        exact ⟨by rw [<- HE.out];rfl,hR⟩
       ·cases ys
        ·refine wp_region_quiet_below (by kernel_rfl) (by kernel_rfl) ?_
         repeat (go_big_quiet_step (first | (go_at_call_of 206 (Value.int .i64 o1);exact Calls.regrown_of (HO1.out _)) | (go_at_call_of 206 (Value.int .i64 o2);exact Calls.regrown_of (HO2.out _)) | (go_at_call 207;exact Calls.regrown_of (HSC.out _))))
         refine wpQuiet_nil ?_
         rintro _ ⟨⟨dq,osq⟩,rfl⟩
         have hR:=below_regrown wr dq osq
         go_wp2_with fail
         go_meet
         exact ⟨by rw [<- HE.out];rfl,hR⟩
        ·refine wp_region_quiet_below (by kernel_rfl) (by kernel_rfl) ?_
         repeat (go_big_quiet_step (first | (go_at_call_of 206 (Value.int .i64 o1);exact Calls.regrown_of (HO1.out _)) | (go_at_call_of 206 (Value.int .i64 o2);exact Calls.regrown_of (HO2.out _)) | (go_at_call 207;exact Calls.regrown_of (HSC.out _))))
         refine wpQuiet_nil ?_
         rintro _ ⟨⟨dq,osq⟩,rfl⟩
         have hR:=below_regrown wr dq osq
         go_wp2_with fail
         go_meet
         exact ⟨by rw [<- HE.out];rfl,hR⟩
   case rest =>
    obtain ⟨rfl,hR⟩:=hcut
    have hown2:=own_below hown hR
    have hB2:=hB.trans (hR.mono s1)
    have s2:=hR.size
    clear hown hB hR HE kk0 kk1 kk3 c0 c1 c3
    cases hbit:P b
    ·have HS:=Lib.hid (pickTo_no P b hbit)
     clear hbit
     go_wp2
     go_roundg (64 - (b+1))
     case measure=>have:=HGK.out;omega
     case rel=>exact ⟨b+1,rfl,by omega,by go_num,by rw [HS.out];exact hown2,hB2⟩
    ·have HS:=Lib.hid (pickTo_yes P b hbit)
     have HL:Hid ((pickTo P (b+1)).length=(pickTo P b).length+1):=Lib.hid (by rw [HS.out];simp)
     clear hbit
     generalize pickTo P b=q at *
     go_wp2_with (at_builtin;(refine wpList_append_own _ rfl _ _ 128 rfl (w2.heap.size+1) 3 i0 (.int .i64 0) 1 8 Tryz.underlying128 hi hz0 hz1 hz2 rfl (by decide) _ _ _ rfl (hown2.alloc _) ⟨wc.heap.size,0,none⟩ 1 1 [.int .i64 (b:Int)] rfl rfl ?c1 ?c2 ?c3 ?c4 ?c5 ?_))
     case c1 =>
      intro j u hj
      match j,hj with
      | 0,hj=>simp at hj;subst hj;simp [Addr.add]
     case c2=>intro u hu;simp at hu;subst hu;rfl
     case c3=>unfold maxLen;omega
     case c4=>omega
     case c5=>simp;omega
     intro v' w3 hown' hgrow _
     go_wp2
     go_roundg (64 - (b+1))
     case measure=>have:=HGK.out;omega
     case rel =>
      refine ⟨b+1,rfl,by omega,by go_num,?_,?_⟩
      ·rw [HL.out,HS.out,vnats_snoc];exact hown'
      ·exact (hB2.alloc (by omega) _).grown hgrow (by simp;omega) (fun r e=>(World.ownsRow.lt hown2 r e).1)
  ·have hbe:b=(F * R).toNat:=by omega
   have HE:Hid (pickTo P (F * R).toNat=pickTo P b):=Lib.hid (by rw [hbe])
   clear hbe
   go_wp2
   go_ret
   exact ⟨_,rfl,by rw [HE.out];exact World.ownsRow.mono hown (by omega),hB4.trans (hB.mono (by omega))⟩
end Go.Proofs.YtbccbgonlmkpkaaGreatDoor
namespace Go.Proofs.YtbccbgonlmkpkaaGreatDoor
open Go.RowKit
structure Mv where
 a:Int
 b:Int
 p:Int
 deriving DecidableEq
def Mv.cells (m:Mv):List Value:=[.int .i64 m.a,.int .i64 m.b,.int .i8 m.p]
def vmvs (l:List Mv):List Value:=l.flatMap Mv.cells
def okPr (p:Int):Prop:=p=0\/(2<=p/\p<=5)
instance (p:Int):Decidable (okPr p):=inferInstanceAs (Decidable (p=0\/(2<=p/\p<=5)))
def okM (F R:Int) (m:Mv):Prop:=vat F R m.a/\vat F R m.b/\m.a≠m.b/\okPr m.p
def prL (p:Int):List UInt8:=if p=0 then [] else [UInt8.ofNat (lt p)]
def mvT (F:Int) (m:Mv):List UInt8:=(nameB F m.a).data.toList ++ ((nameB F m.b).data.toList ++ prL m.p)
def nmV (F R:Int) (w:List UInt8):Option Int:=((List.range (F * R).toNat).find? fun n:Nat=>(nameB F (n:Int)).data.toList == w).map fun n:Nat=>(n:Int)
theorem nameB_two (F a:Int):(nameB F a).data.toList=[UInt8.ofNat (97+a % F).toNat,UInt8.ofNat (49+a / F).toNat]:=rfl
theorem nmB_eq {s t:ByteArray} (h:s.data.toList=t.data.toList):s=t:=by
 cases s;cases t
 simp only [Array.toList_inj] at h
 rw [h]
theorem nmV_name {F R a:Int} (h:vat F R a):nmV F R (nameB F a).data.toList=some a:=by
 obtain ⟨hv,h0,h1⟩:=id h
 unfold nmV
 have hm:a.toNat∈List.range (F * R).toNat:=List.mem_range.2 (by omega)
 cases e:(List.range (F * R).toNat).find? fun n:Nat=>(nameB F (n:Int)).data.toList == (nameB F a).data.toList with
 | none =>
  have:=List.find?_eq_none.1 e _ hm
  simp [Int.toNat_of_nonneg h0] at this
 | some n =>
  have h2:=List.find?_some e
  have h3:=List.mem_range.1 (List.mem_of_find?_eq_some e)
  have h4:nameB F (n:Int)=nameB F a:=nmB_eq (by simpa using h2)
  have:=nameB_inj ⟨hv,by omega,by omega⟩ h h4
  simp [this]
theorem nmV_yes {F R a:Int} {w:List UInt8} (hv:vsz F R) (h:nmV F R w=some a):vat F R a/\(nameB F a).data.toList=w:=by
 unfold nmV at h
 cases e:(List.range (F * R).toNat).find? fun n:Nat=>(nameB F (n:Int)).data.toList == w with
 | none=>rw [e] at h;simp at h
 | some n =>
  rw [e] at h
  simp at h
  subst h
  have h2:=List.find?_some e
  have h3:=List.mem_range.1 (List.mem_of_find?_eq_some e)
  exact ⟨⟨hv,by omega,by omega⟩,by simpa using h2⟩
theorem nmV_no {F R:Int} {w:List UInt8} (h:nmV F R w=none):∀ a,vat F R a->(nameB F a).data.toList≠w:=fun a ha e=>by
 have:=nmV_name ha
 rw [e,h] at this
 cases this
def prV (w:List UInt8):Option Int :=
 match w with
 | []=>some 0
 | [c]=>if 2<=piP c.toNat/\piP c.toNat<=5 then some (piP c.toNat) else none
 | _=>none
theorem prV_some {w:List UInt8} {p:Int} (h:prV w=some p):okPr p/\prL p=w:=by
 unfold prV at h
 split at h
 ·cases h;exact ⟨.inl rfl,rfl⟩
 ·rename_i c
  split at h
  ·rename_i h2
   cases h
   refine ⟨.inr h2,?_⟩
   unfold prL
   rw [if_neg (by omega),(piP_ok (c:=c.toNat) (by omega)).2]
   simp
  ·cases h
 ·cases h
def rdM (F R:Int) (L:List UInt8):Option Mv :=
 match nmV F R (L.take 2),nmV F R ((L.drop 2).take 2),prV (L.drop 4) with
 | some a,some b,some p=>if a=b then none else some ⟨a,b,p⟩
 | _,_,_=>none
theorem text_rdM {F R:Int} {L:List UInt8} {m:Mv} (hv:vsz F R) (h:rdM F R L=some m):okM F R m/\mvT F m=L:=by
 unfold rdM at h
 split at h
 ·rename_i a b p ha hb hp
  split at h
  ·cases h
  ·rename_i hne
   cases h
   obtain ⟨a1,a2⟩:=nmV_yes hv ha
   obtain ⟨b1,b2⟩:=nmV_yes hv hb
   obtain ⟨p1,p2⟩:=prV_some hp
   refine ⟨⟨a1,b1,hne,p1⟩,?_⟩
   unfold mvT
   simp only
   rw [a2,b2,p2,<- List.append_assoc]
   have:L.take 2 ++ (L.drop 2).take 2=L.take 4:=by
    rw [show (4:Nat)=2+2 from rfl,List.take_add]
   rw [this,List.take_append_drop]
 ·cases h
theorem mvT_len (F:Int) (m:Mv):4<=(mvT F m).length/\(mvT F m).length<=5:=by
 unfold mvT prL
 rw [nameB_two,nameB_two]
 split <;> simp
end Go.Proofs.YtbccbgonlmkpkaaGreatDoor
namespace Go.Proofs.YtbccbgonlmkpkaaGreatDoor
open Go.RowKit
def pc (l:List Int) (n:Int):Int:=l[n.toNat]?.getD 0
def ownB (q:Int) (bl:Bool):Bool:=decide (q≠0) && (decide (q<0) == bl)
def cKf (bit:Nat):Nat:=if bit=1 then 4 else if bit=2 then 4 else if bit=4 then 60 else 60
def cKt (bit:Nat):Nat:=if bit=1 then 6 else if bit=2 then 2 else if bit=4 then 62 else 58
def cRf (bit:Nat):Nat:=if bit=1 then 7 else if bit=2 then 0 else if bit=4 then 63 else 56
def cRt (bit:Nat):Nat:=if bit=1 then 5 else if bit=2 then 3 else if bit=4 then 61 else 59
def occX (l:List Int):Nat:=ofL (occL l)
def allE (l:List Int) (z:List Nat):Bool:=z.all fun n=>pc l (n:Int) == 0
def casB (p:Po) (m:Mv) (bit:Nat):Bool :=
 poBit p.ca bit && ((decide (2<bit) == p.bl) && (m.a == (cKf bit:Int) && (m.b == (cKt bit:Int) && allE p.l (betL p.F p.R (cKf bit:Int) (cRf bit:Int)))))
def casM (p:Po) (m:Mv):Nat :=
 if kdP (pc p.l m.a)=6/\m.p=0 then (if casB p m 1 then 1 else if casB p m 2 then 2 else if casB p m 4 then 4 else if casB p m 8 then 8 else 0) else 0
def pwnM (p:Po) (m:Mv):Bool :=
 ((m.b / p.F == lastR p.R p.bl) == decide (m.p≠0)) &&
  (hasL ((stepL p.F p.R m.a p.bl (occX p.l)).map fun i:Nat=>(i:Int)) m.b || (hasL ((pawnL p.F p.R m.a p.bl).map fun i:Nat=>(i:Int)) m.b && (decide (pc p.l m.b≠0) || m.b == p.ps)))
def soM (p:Po) (m:Mv):Bool :=
 !ownB (pc p.l m.b) p.bl && (if kdP (pc p.l m.a)=1 then pwnM p m else (decide (casM p m≠0) || (m.p == 0 && reachB p.F p.R (kdP (pc p.l m.a)) m.a m.b (occX p.l))))
def capM (p:Po) (m:Mv):Int :=
 if kdP (pc p.l m.a)=1/\m.b=p.ps then numV p.F p.R (m.b % p.F) (m.a / p.F) else if pc p.l m.b≠0 then m.b else -1
def upd (l:List Int) (n:Int) (v:Int):List Int:=l.set n.toNat v
def aftL (p:Po) (m:Mv):List Int :=
 let l1:=if 0<=capM p m then upd p.l (capM p m) 0 else p.l
 let l2:=upd l1 m.a 0
 let l3:=upd l2 m.b (if m.p≠0 then m.p * sgnP (pc p.l m.a) else pc p.l m.a)
 if casM p m≠0 then upd (upd l3 (cRt (casM p m):Int) (pc l3 (cRf (casM p m):Int))) (cRf (casM p m):Int) 0 else l3
def tchB (m:Mv) (bit:Nat):Bool:=(m.a == (cKf bit:Int) || m.a == (cRf bit:Int)) || (m.b == (cKf bit:Int) || m.b == (cRf bit:Int))
def cutC (m:Mv) (ca bit:Nat):Nat:=if poBit ca bit && tchB m bit then ca - bit else ca
def aftC (p:Po) (m:Mv):Nat:=cutC m (cutC m (cutC m (cutC m p.ca 1) 2) 4) 8
def aftP (p:Po) (m:Mv):Int :=
 if kdP (pc p.l m.a)=1/\(m.a / p.F - m.b / p.F=2\/m.b / p.F - m.a / p.F=2) then numV p.F p.R (m.a % p.F) ((m.a / p.F+m.b / p.F).tdiv 2) else -1
def aftM (p:Po) (m:Mv):Po :=
 ⟨p.F,p.R,aftL p m,!p.bl,aftC p m,aftP p m,if kdP (pc p.l m.a)=1\/0<=capM p m then 0 else p.ha+1,if p.bl then p.fu+1 else p.fu⟩
def chkB (F R:Int) (l:List Int) (bl:Bool):Bool:=decide (0<(atkL F R l (kingV l bl) (!bl)).length)
def safM (p:Po) (m:Mv):Bool :=
 !chkB p.F p.R (aftL p m) p.bl && (decide (casM p m=0) || (!chkB p.F p.R p.l p.bl && decide ((atkL p.F p.R p.l (cRt (casM p m):Int) (!p.bl)).length=0)))
structure Un where
 m:Mv
 cp:Int
 sq:Int
 ca:Nat
 ps:Int
 ha:Int
 fu:Int
 deriving DecidableEq
def recM (p:Po) (m:Mv):Un:=⟨m,if 0<=capM p m then pc p.l (capM p m) else 0,capM p m,p.ca,p.ps,p.ha,p.fu⟩
instance (F R:Int):Decidable (vsz F R):=inferInstanceAs (Decidable (3<=F/\F<=8/\3<=R/\R<=8))
instance (F R a:Int):Decidable (vat F R a):=inferInstanceAs (Decidable (vsz F R/\0<=a/\a<F * R))
instance (F R:Int) (m:Mv):Decidable (okM F R m):=inferInstanceAs (Decidable (vat F R m.a/\vat F R m.b/\m.a≠m.b/\okPr m.p))
def errM (p:Po) (m:Mv):Int :=
 if ¬ (okPo p=true/\okM p.F p.R m) then 2 else if ownB (pc p.l m.a) p.bl=false then 9 else if soM p m=false then 10 else if safM p m=false then 90
 else if 10000<(aftM p m).ha\/10000<(aftM p m).fu then 7 else 0
def mkM (p:Po) (m:Mv):Option (Po × Un):=if errM p m=0 then some (aftM p m,recM p m) else none
def bckP (p:Po) (u:Un):Po :=
 let l1:=upd p.l u.m.b 0
 let l2:=upd l1 u.m.a (if u.m.p≠0 then (if !p.bl then -1 else 1) else pc p.l u.m.b)
 let l3:=if 0<=u.sq/\u.sq<(p.l.length:Int) then upd l2 u.sq u.cp else l2
 ⟨p.F,p.R,l3,!p.bl,u.ca,u.ps,u.ha,u.fu⟩
def bckC (p:Po) (u:Un) (bit:Nat):Po :=
 let q:=bckP p u
 { q with l:=upd (upd q.l (cRf bit:Int) (pc q.l (cRt bit:Int))) (cRt bit:Int) 0 }
def fitB (p:Po) (u:Un) (q:Po):Bool:=decide (mkM q u.m=some (p,u))
def tryC (p:Po) (u:Un) (bit:Nat):Bool:=decide (p.F=8/\p.R=8/\u.m.a=(cKf bit:Int)/\u.m.b=(cKt bit:Int)) && fitB p u (bckC p u bit)
def unM (p:Po) (u:Un):Option Po :=
 if fitB p u (bckP p u) then some (bckP p u) else if tryC p u 1 then some (bckC p u 1) else if tryC p u 2 then some (bckC p u 2) else if tryC p u 4 then some (bckC p u 4) else if tryC p u 8 then some (bckC p u 8) else none
end Go.Proofs.YtbccbgonlmkpkaaGreatDoor
namespace Go.Proofs.YtbccbgonlmkpkaaGreatDoor
open Go.RowKit
theorem upd_len (l:List Int) (n v:Int):(upd l n v).length=l.length:=by simp [upd]
theorem pc_upd {l:List Int} {n k v:Int} (h0:0<=n) (h1:n<(l.length:Int)) (hk:0<=k):pc (upd l n v) k=if k=n then v else pc l k:=by
 unfold pc upd
 by_cases h:k=n
 ·subst h
  rw [if_pos rfl,List.getElem?_set_self (by omega)]
  rfl
 ·rw [if_neg h,List.getElem?_set_ne (by omega)]
theorem pc_other {l:List Int} {n k v:Int} (h0:0<=n) (h1:n<(l.length:Int)) (hk:0<=k) (h:k≠n):pc (upd l n v) k=pc l k:=by rw [pc_upd h0 h1 hk,if_neg h]
theorem pc_nat (l:List Int) (n:Nat):pc l (n:Int)=l[n]?.getD 0:=by unfold pc;rw [Int.toNat_natCast]
theorem ownB_iff {q:Int} {bl:Bool}:ownB q bl=true ↔ q≠0/\(q<0 ↔ bl=true):=by
 unfold ownB
 cases bl <;> simp
structure OkP (p:Po):Prop where
 hv:vsz p.F p.R
 len:(p.l.length:Int)=p.F * p.R
 orth:∀ k:Int,pc p.l k=0\/orthB (pc p.l k)=true
 kw:0<=kingV p.l false
 kb:0<=kingV p.l true
 safe:(atkL p.F p.R p.l (kingV p.l (!p.bl)) p.bl).length=0
 pwn:∀ i:Nat,i<p.l.length->poPw p.F p.R p.l i=false
 cas:poCas p.F p.R p.l p.ca=true
 pas:poPas p.F p.R p.l p.bl p.ps p.ha=true
 ha0:0<=p.ha
 ha1:p.ha<=10000
 fu0:1<=p.fu
 fu1:p.fu<=10000
theorem orA_pc {l:List Int} (h:orA l=true) (k:Int):pc l k=0\/orthB (pc l k)=true:=by
 unfold pc
 by_cases hk:k.toNat<l.length
 ·rw [List.getElem?_eq_getElem hk]
  have:=List.all_eq_true.1 h _ (List.getElem_mem hk)
  unfold orB at this
  simp at this
  exact this
 ·rw [List.getElem?_eq_none (by omega)]
  exact .inl rfl
theorem pc_orA {l:List Int} (h:∀ k:Int,pc l k=0\/orthB (pc l k)=true):orA l=true:=by
 unfold orA
 rw [List.all_eq_true]
 intro x hx
 obtain ⟨i,hi,rfl⟩:=List.mem_iff_getElem.1 hx
 have:=h (i:Int)
 rw [pc_nat,List.getElem?_eq_getElem hi] at this
 unfold orB
 simpa using this
theorem okPo_iff (p:Po):okPo p=true ↔ OkP p:=by
 unfold okPo poBrd poPwn poCnt
 simp only [Bool.and_eq_true,decide_eq_true_eq,List.all_eq_true,List.mem_range,Bool.not_eq_true']
 constructor
 ·rintro ⟨⟨⟨⟨⟨⟨⟨⟨hb,ho⟩,hw⟩,hk⟩,hs⟩,hp⟩,hc⟩,hpa⟩,⟨⟨h1,h2⟩,h3⟩,h4⟩
  have hvb:=vbdB_iff.1 hb
  exact ⟨hvb.1,hvb.2.1,orA_pc ho,hw,hk,hs,hp,hc,hpa,h1,h2,h3,h4⟩
 ·rintro ⟨hv,hl,ho,hw,hk,hs,hp,hc,hpa,h1,h2,h3,h4⟩
  refine ⟨⟨⟨⟨⟨⟨⟨⟨vbdB_iff.2 ⟨hv,hl,fun j hj=>?_⟩,pc_orA ho⟩,hw⟩,hk⟩,hs⟩,hp⟩,hc⟩,hpa⟩,⟨⟨h1,h2⟩,h3⟩,h4⟩
  have:=ho (j:Int)
  rw [pc_nat] at this
  unfold okP
  rcases this with h | h
  ·rw [h];omega
  ·unfold orthB at h
   simp at h
   omega
end Go.Proofs.YtbccbgonlmkpkaaGreatDoor
namespace Go.Proofs.YtbccbgonlmkpkaaGreatDoor
open Go.RowKit
theorem hasL_pick {P:Nat->Bool} {k:Nat} {t:Int}:hasL ((pickTo P k).map fun i:Nat=>(i:Int)) t=true ↔ 0<=t/\t.toNat<k/\P t.toNat=true:=by
 unfold hasL pickTo
 rw [List.contains_iff_mem,List.mem_map]
 constructor
 ·rintro ⟨i,hi,rfl⟩
  rw [List.mem_filter,List.mem_range] at hi
  exact ⟨by omega,by simpa using hi.1,by simpa using hi.2⟩
 ·rintro ⟨h0,h1,h2⟩
  exact ⟨t.toNat,List.mem_filter.2 ⟨List.mem_range.2 h1,h2⟩,by omega⟩
theorem occX_bit (l:List Int) (n:Nat):(occX l).testBit n=decide (n<l.length/\pc l (n:Int)≠0):=by
 unfold occX
 rw [ofL_bit,pc_nat]
 unfold occL
 apply Bool.eq_iff_iff.2
 simp only [decide_eq_true_eq,List.mem_append,idx_mem]
 unfold sdP sgnP
 generalize l[n]?.getD 0=q
 constructor
 ·rintro (⟨h,h2⟩ | ⟨h,h2⟩)
  ·refine ⟨h,fun e=>?_⟩
   subst e
   simp at h2
  ·refine ⟨h,fun e=>?_⟩
   subst e
   simp at h2
 ·rintro ⟨h,h2⟩
  by_cases hn:q<0
  ·exact .inr ⟨h,by simp [hn]⟩
  ·have:0<q:=by omega
   exact .inl ⟨h,by simp [hn,this]⟩
theorem hasV_no {l:List Int} {n:Int} (h0:0<=n) (h1:n<(l.length:Int)) (h2:l.length<=64) (h:hasV (occX l) n=false):pc l n=0:=by
 unfold hasV at h
 rw [if_pos ⟨h0,by omega⟩,occX_bit] at h
 have e:((n.toNat:Nat):Int)=n:=by omega
 rw [e] at h
 by_cases hz:pc l n=0
 ·exact hz
 ·rw [decide_eq_true (⟨by omega,hz⟩:n.toNat<l.length/\pc l n≠0)] at h
  cases h
theorem numV_is {F R f r:Int} (h:0<=numV F R f r):(0<=f/\f<F/\0<=r/\r<R)/\numV F R f r=r * F+f:=by
 unfold numV at h ⊢
 split at h
 ·rename_i hon
  rw [if_pos hon]
  unfold onB at hon
  simp only [Bool.and_eq_true,decide_eq_true_eq] at hon
  exact ⟨⟨hon.1.1.1,hon.1.1.2,hon.1.2,hon.2⟩,rfl⟩
 ·omega
theorem numV_on {F R f r:Int} (h:0<=f/\f<F/\0<=r/\r<R):numV F R f r=r * F+f:=by
 unfold numV
 rw [if_pos]
 unfold onB
 simp only [Bool.and_eq_true,decide_eq_true_eq]
 exact ⟨⟨⟨h.1,h.2.1⟩,h.2.2.1⟩,h.2.2.2⟩
theorem num_at {F R f r:Int} (hv:vsz F R) (h:0<=f/\f<F/\0<=r/\r<R):vat F R (r * F+f)/\(r * F+f) % F=f/\(r * F+f) / F=r:=by
 obtain ⟨n0,_,n2,n3,n4⟩:=number_bd hv h.1 h.2.1 h.2.2.1 h.2.2.2
 rw [Int.add_comm (r * F) f]
 exact ⟨⟨hv,by omega,n2⟩,n3,n4⟩
def Step1 (F:Int) (bl:Bool) (l:List Int) (a b:Int):Prop:=b % F=a % F/\b / F=a / F+fwd bl/\pc l b=0
def Step2 (F R:Int) (bl:Bool) (l:List Int) (a b:Int):Prop:=6<=R/\a / F=scd R bl/\b % F=a % F/\b / F=a / F+2 * fwd bl/\pc l b=0/\pc l ((a / F+fwd bl) * F+a % F)=0
theorem step_cases {F R a b:Int} {bl:Bool} {l:List Int} (hv:vsz F R) (hl:(l.length:Int)=F * R) (ha:vat F R a) (hb:vat F R b) (h:hasL ((stepL F R a bl (occX l)).map fun i:Nat=>(i:Int)) b=true):Step1 F bl l a b\/Step2 F R bl l a b:=by
 unfold stepL at h
 obtain ⟨h0,_,h2⟩:=hasL_pick.1 h
 have h64:l.length<=64:=by have:=(vsz_mul hv).2;omega
 rw [show ((b.toNat:Nat):Int)=b by omega] at h2
 unfold stepB at h2
 simp only [Bool.or_eq_true,Bool.and_eq_true,beq_iff_eq,Bool.not_eq_true',decide_eq_true_eq] at h2
 obtain ⟨p0,p1,p2,p3⟩:=place_bd ha.1 ha.2.1 ha.2.2
 rcases h2 with ⟨e,hn⟩ | ⟨⟨⟨⟨e,h6⟩,hy⟩,hn1⟩,hn2⟩
 ·obtain ⟨hon,en⟩:=numV_is (F:=F) (R:=R) (f:=a % F) (r:=a / F+fwd bl) (by rw [<- e];exact h0)
  rw [en] at e
  obtain ⟨hvt,em,ed⟩:=num_at hv hon
  rw [<- e] at em ed
  rw [en,<- e] at hn
  exact .inl ⟨em,ed,hasV_no h0 (by have:=hb.2.2;omega) h64 hn⟩
 ·obtain ⟨hon,en⟩:=numV_is (F:=F) (R:=R) (f:=a % F) (r:=a / F+2 * fwd bl) (by rw [<- e];exact h0)
  rw [en] at e
  obtain ⟨hvt,em,ed⟩:=num_at hv hon
  rw [<- e] at em ed
  rw [en,<- e] at hn2
  have hon1:0<=a % F/\a % F<F/\0<=a / F+fwd bl/\a / F+fwd bl<R:=by
   refine ⟨p0,p1,?_,?_⟩
   ·have:=hon.2.2.1
    unfold fwd at this ⊢
    split at this <;> split <;> simp_all <;> omega
   ·have:=hon.2.2.2
    unfold fwd at this ⊢
    split at this <;> split <;> simp_all <;> omega
  obtain ⟨hvt1,_,_⟩:=num_at hv hon1
  rw [numV_on hon1] at hn1
  exact .inr ⟨h6,hy,em,ed,hasV_no h0 (by have:=hb.2.2;omega) h64 hn2,hasV_no hvt1.2.1 (by have:=hvt1.2.2;omega) h64 hn1⟩
theorem pawn_cases {F R a b:Int} {bl:Bool} (h:hasL ((pawnL F R a bl).map fun i:Nat=>(i:Int)) b=true):0<=b/\b / F=a / F+fwd bl/\(b % F=a % F+1\/b % F=a % F - 1):=by
 unfold pawnL at h
 obtain ⟨h0,_,h2⟩:=hasL_pick.1 h
 rw [show ((b.toNat:Nat):Int)=b by omega] at h2
 unfold pawnB at h2
 simp only [Bool.or_eq_true,Bool.and_eq_true,beq_iff_eq] at h2
 exact ⟨h0,by omega,by omega⟩
structure Pas (F R:Int) (l:List Int) (bl:Bool) (ps ha:Int):Prop where
 r6:6<=R
 h0:ha=0
 p0:0<=ps
 p1:ps<F * R
 rk:2 * (ps / F)=rkA R (!bl) 2+rkA R (!bl) 4
 e0:pc l ps=0
 e2:pc l (rkA R (!bl) 2 * F+ps % F)=0
 e4:pc l (rkA R (!bl) 4 * F+ps % F)=pcS (!bl)
theorem poPas_iff {F R:Int} {l:List Int} {bl:Bool} {ps ha:Int}:poPas F R l bl ps ha=true ↔ ps=-1\/Pas F R l bl ps ha:=by
 unfold poPas
 simp only [Bool.or_eq_true,Bool.and_eq_true,beq_iff_eq,decide_eq_true_eq]
 constructor
 ·rintro (h | ⟨⟨⟨⟨⟨⟨h1,h2⟩,h3,h4⟩,h5⟩,h6⟩,h7⟩,h8⟩)
  ·exact .inl h
  ·exact .inr ⟨h1,h2,h3,h4,h5,h6,h7,h8⟩
 ·rintro (h | ⟨h1,h2,h3,h4,h5,h6,h7,h8⟩)
  ·exact .inl h
  ·exact .inr ⟨⟨⟨⟨⟨⟨h1,h2⟩,h3,h4⟩,h5⟩,h6⟩,h7⟩,h8⟩
end Go.Proofs.YtbccbgonlmkpkaaGreatDoor
namespace Go.Proofs.YtbccbgonlmkpkaaGreatDoor
open Go.RowKit
theorem king_mem {l:List Int} {bl:Bool} {n:Nat}:n∈kingL l bl ↔ n<l.length/\pc l (n:Int)=kgN bl:=by
 unfold kingL
 rw [idx_mem,pc_nat]
 unfold eqP
 simp
theorem king_nodup (l:List Int) (bl:Bool):(kingL l bl).Nodup:=by
 unfold kingL idx idxTo
 exact (List.Pairwise.filter _ List.pairwise_lt_range).imp (fun h=>Nat.ne_of_lt h)
theorem king_at {l:List Int} {bl:Bool} (h:0<=kingV l bl):kingV l bl<(l.length:Int)/\pc l (kingV l bl)=kgN bl/\∀ j:Int,0<=j->j<(l.length:Int)->pc l j=kgN bl->j=kingV l bl:=by
 unfold kingV at h ⊢
 split at h
 ·rename_i h1
  rw [if_pos h1]
  obtain ⟨n,hn⟩:=List.length_eq_one_iff.1 h1
  have hm:n∈kingL l bl:=by rw [hn];simp
  obtain ⟨m1,m2⟩:=king_mem.1 hm
  rw [hn]
  refine ⟨by simpa using m1,by simpa using m2,fun j j0 j1 hj=>?_⟩
  have:j.toNat∈kingL l bl:=king_mem.2 ⟨by omega,by rw [show ((j.toNat:Nat):Int)=j by omega];exact hj⟩
  rw [hn] at this
  simp at this
  simp
  omega
 ·omega
theorem king_mk {l:List Int} {bl:Bool} {k:Int} (h0:0<=k) (h1:k<(l.length:Int)) (hp:pc l k=kgN bl) (hu:∀ j:Int,0<=j->j<(l.length:Int)->pc l j=kgN bl->j=k):kingV l bl=k:=by
 have hm:k.toNat∈kingL l bl:=king_mem.2 ⟨by omega,by rw [show ((k.toNat:Nat):Int)=k by omega];exact hp⟩
 have hall:∀ x∈kingL l bl,x=k.toNat:=fun x hx=>by
  obtain ⟨m1,m2⟩:=king_mem.1 hx
  have:=hu (x:Int) (by omega) (by omega) m2
  omega
 have hd:=king_nodup l bl
 unfold kingV
 generalize kingL l bl=z at *
 match z,hm,hall,hd with
 | [x],_,hall,_ =>
  have:=hall x (by simp)
  simp
  omega
 | x :: y :: z,_,hall,hd =>
  have e1:=hall x (by simp)
  have e2:=hall y (by simp)
  rw [e1,e2] at hd
  simp at hd
structure Cas (p:Po) (m:Mv) (bit:Nat):Prop where
 or4:bit=1\/bit=2\/bit=4\/bit=8
 cb:poBit p.ca bit=true
 sd:decide (2<bit)=p.bl
 ea:m.a=(cKf bit:Int)
 eb:m.b=(cKt bit:Int)
 p0:m.p=0
 k6:kdP (pc p.l m.a)=6
 f8:p.F=8
 r8:p.R=8
 kf:pc p.l (cKf bit:Int)=kgN p.bl
 rf:pc p.l (cRf bit:Int)=(if p.bl then -4 else 4)
 kt:pc p.l (cKt bit:Int)=0
 rt:pc p.l (cRt bit:Int)=0
theorem cas_home {p:Po} (h:poCas p.F p.R p.l p.ca=true) {bit:Nat} (hb:bit=1\/bit=2\/bit=4\/bit=8) (hc:poBit p.ca bit=true):p.F=8/\p.R=8/\pc p.l (cKf bit:Int)=(if 2<bit then -6 else 6)/\pc p.l (cRf bit:Int)=(if 2<bit then -4 else 4):=by
 unfold poCas at h
 simp only [Bool.and_eq_true,decide_eq_true_eq,List.all_cons,List.all_nil,Bool.and_true,Bool.or_eq_true,Bool.not_eq_true'] at h
 obtain ⟨_,h1,h2,h4,h8⟩:=h
 have key:∀ b:Nat,poHm p.F p.R p.l b=true->p.F=8/\p.R=8/\poHom p.l b=true:=fun b hh=>by
  unfold poHm at hh
  simp only [Bool.and_eq_true,beq_iff_eq] at hh
  exact ⟨hh.1.1,hh.1.2,hh.2⟩
 rw [pc_nat,pc_nat]
 rcases hb with rfl | rfl | rfl | rfl
 ·obtain ⟨a,b,c⟩:=key 1 (h1.resolve_left (by rw [hc];simp))
  unfold poHom two at c
  simp at c
  exact ⟨a,b,by simpa [cKf] using c.1,by simpa [cRf] using c.2⟩
 ·obtain ⟨a,b,c⟩:=key 2 (h2.resolve_left (by rw [hc];simp))
  unfold poHom two at c
  simp at c
  exact ⟨a,b,by simpa [cKf] using c.1,by simpa [cRf] using c.2⟩
 ·obtain ⟨a,b,c⟩:=key 4 (h4.resolve_left (by rw [hc];simp))
  unfold poHom two at c
  simp at c
  exact ⟨a,b,by simpa [cKf] using c.1,by simpa [cRf] using c.2⟩
 ·obtain ⟨a,b,c⟩:=key 8 (h8.resolve_left (by rw [hc];simp))
  unfold poHom two at c
  simp at c
  exact ⟨a,b,by simpa [cKf] using c.1,by simpa [cRf] using c.2⟩
theorem betL_ways:betL 8 8 4 7=[5,6]/\betL 8 8 4 0=[3,2,1]/\betL 8 8 60 63=[61,62]/\betL 8 8 60 56=[59,58,57]:=by decide +kernel
theorem cas_of {p:Po} {m:Mv} (hp:OkP p) {bit:Nat} (hb:bit=1\/bit=2\/bit=4\/bit=8) (hk:kdP (pc p.l m.a)=6/\m.p=0) (h:casB p m bit=true):Cas p m bit:=by
 unfold casB at h
 simp only [Bool.and_eq_true,beq_iff_eq] at h
 obtain ⟨hc,hs,ha,hbb,he⟩:=h
 obtain ⟨f8,r8,kf,rf⟩:=cas_home hp.cas hb hc
 rw [f8,r8] at he
 obtain ⟨w1,w2,w4,w8⟩:=betL_ways
 have hs':=hs
 have hkk:(if 2<bit then (-6:Int) else 6)=kgN p.bl:=by
  rw [<- hs]
  unfold kgN
  by_cases h2:2<bit <;> simp [h2]
 have hrr:(if 2<bit then (-4:Int) else 4)=(if p.bl then -4 else 4):=by
  rw [<- hs]
  by_cases h2:2<bit <;> simp [h2]
 have emp:pc p.l (cKt bit:Int)=0/\pc p.l (cRt bit:Int)=0:=by
  unfold allE at he
  rcases hb with rfl | rfl | rfl | rfl
  ·simp only [cKf,cRf,if_true] at he
   rw [show ((4:Nat):Int)=4 from rfl,show ((7:Nat):Int)=7 from rfl,w1] at he
   simp at he
   simp [cKt,cRt,he]
  ·simp only [cKf,cRf] at he
   simp at he
   rw [w2] at he
   simp at he
   simp [cKt,cRt,he]
  ·simp only [cKf,cRf] at he
   simp at he
   rw [w4] at he
   simp at he
   simp [cKt,cRt,he]
  ·simp only [cKf,cRf] at he
   simp at he
   rw [w8] at he
   simp at he
   simp [cKt,cRt,he]
 exact ⟨hb,hc,hs,ha,hbb,hk.2,hk.1,f8,r8,kf.trans hkk,rf.trans hrr,emp.1,emp.2⟩
theorem casM_or {p:Po} {m:Mv} (hp:OkP p):casM p m=0\/Cas p m (casM p m):=by
 unfold casM
 split
 ·rename_i hk
  split
  ·rename_i h;exact .inr (cas_of hp (.inl rfl) hk h)
  ·split
   ·rename_i h;exact .inr (cas_of hp (.inr (.inl rfl)) hk h)
   ·split
    ·rename_i h;exact .inr (cas_of hp (.inr (.inr (.inl rfl))) hk h)
    ·split
     ·rename_i h;exact .inr (cas_of hp (.inr (.inr (.inr rfl))) hk h)
     ·exact .inl rfl
 ·exact .inl rfl
structure Mov (p:Po) (m:Mv):Prop where
 hp:OkP p
 hm:okM p.F p.R m
 own:ownB (pc p.l m.a) p.bl=true
 so:soM p m=true
theorem Mov.free {p:Po} {m:Mv} (h:Mov p m):ownB (pc p.l m.b) p.bl=false:=by
 have:=h.so
 unfold soM at this
 simp only [Bool.and_eq_true,Bool.not_eq_true'] at this
 exact this.1
theorem Mov.pawn {p:Po} {m:Mv} (h:Mov p m) (hk:kdP (pc p.l m.a)=1):pwnM p m=true:=by
 have:=h.so
 unfold soM at this
 rw [if_pos hk] at this
 simp only [Bool.and_eq_true] at this
 exact this.2
theorem Mov.other {p:Po} {m:Mv} (h:Mov p m) (hk:kdP (pc p.l m.a)≠1):Cas p m (casM p m)\/(casM p m=0/\m.p=0/\reachB p.F p.R (kdP (pc p.l m.a)) m.a m.b (occX p.l)=true):=by
 have:=h.so
 unfold soM at this
 rw [if_neg hk] at this
 simp only [Bool.and_eq_true,Bool.or_eq_true,decide_eq_true_eq,beq_iff_eq] at this
 rcases casM_or (m:=m) h.hp with h0 | hc
 ·exact .inr ⟨h0,(this.2.resolve_left (by omega)).1,(this.2.resolve_left (by omega)).2⟩
 ·exact .inl hc
theorem Mov.la {p:Po} {m:Mv} (h:Mov p m):0<=m.a/\m.a<(p.l.length:Int):=⟨h.hm.1.2.1,by have:=h.hm.1.2.2;have:=h.hp.len;omega⟩
theorem Mov.lb {p:Po} {m:Mv} (h:Mov p m):0<=m.b/\m.b<(p.l.length:Int):=⟨h.hm.2.1.2.1,by have:=h.hm.2.1.2.2;have:=h.hp.len;omega⟩
theorem kd1 {q:Int} (h:kdP q=1):q=1\/q=-1:=by unfold kdP at h;split at h <;> omega
structure Ep (p:Po) (m:Mv):Prop where
 k1:kdP (pc p.l m.a)=1
 eb:m.b=p.ps
 pas:Pas p.F p.R p.l p.bl p.ps p.ha
 cap:capM p m=m.a / p.F * p.F+m.b % p.F
 vc:vat p.F p.R (capM p m)
 pcc:pc p.l (capM p m)=pcS (!p.bl)
 na:capM p m≠m.a
 nb:capM p m≠m.b
 b0:pc p.l m.b=0
theorem cap_or {p:Po} {m:Mv} (h:Mov p m):(capM p m=-1/\pc p.l m.b=0/\¬ (kdP (pc p.l m.a)=1/\m.b=p.ps))\/(capM p m=m.b/\pc p.l m.b≠0/\¬ (kdP (pc p.l m.a)=1/\m.b=p.ps))\/Ep p m:=by
 by_cases he:kdP (pc p.l m.a)=1/\m.b=p.ps
 ·refine .inr (.inr ?_)
  obtain ⟨hk,hb⟩:=he
  have hpas:Pas p.F p.R p.l p.bl p.ps p.ha:=(poPas_iff.1 h.hp.pas).resolve_left (by have:=h.lb.1;omega)
  have hw:=h.pawn hk
  unfold pwnM at hw
  simp only [Bool.and_eq_true,Bool.or_eq_true] at hw
  have hv:=h.hp.hv
  have hown:=(ownB_iff.1 h.own).2
  have hq:=kd1 hk
  obtain ⟨p0,p1,p2,p3⟩:=place_bd h.hm.1.1 h.hm.1.2.1 h.hm.1.2.2
  obtain ⟨q0,q1,q2,q3⟩:=place_bd h.hm.2.1.1 h.hm.2.1.2.1 h.hm.2.1.2.2
  have hrk:=hpas.rk
  rw [<- hb] at hrk
  have hr4:∀ r,r=m.b / p.F - fwd p.bl->r=rkA p.R (!p.bl) 4:=fun r hr=>by
   unfold rkA fwd at *
   cases hbl:p.bl <;> rw [hbl] at hr hrk <;> simp at hr hrk ⊢ <;> omega
  have he4:=hpas.e4
  rw [<- hb] at he4
  rcases hw.2 with hst | hpw
  ·exfalso
   rcases step_cases hv h.hp.len h.hm.1 h.hm.2.1 hst with ⟨s1,s2,_⟩ | ⟨_,_,s1,s2,_,s4⟩
   ·have e:=hr4 (m.a / p.F) (by omega)
    rw [<- e,s1] at he4
    have e2:m.a / p.F * p.F+m.a % p.F=m.a:=by have:=place_eq (a:=m.a) hv;omega
    rw [e2] at he4
    rw [he4] at hown
    unfold pcS at hown
    cases hbl:p.bl <;> rw [hbl] at hown <;> simp at hown
   ·have e:=hr4 (m.a / p.F+fwd p.bl) (by omega)
    rw [e,<- s1,he4] at s4
    unfold pcS at s4
    cases hbl:p.bl <;> rw [hbl] at s4 <;> simp at s4
  ·obtain ⟨_,t1,t2⟩:=pawn_cases hpw.1
   have hcap:capM p m=m.a / p.F * p.F+m.b % p.F:=by
    unfold capM
    rw [if_pos ⟨hk,hb⟩]
    exact numV_on ⟨q0,q1,p2,p3⟩
   obtain ⟨v1,v2,v3⟩:=num_at hv (f:=m.b % p.F) (r:=m.a / p.F) ⟨q0,q1,p2,p3⟩
   rw [<- hcap] at v1 v2 v3
   have e:=hr4 (m.a / p.F) (by omega)
   refine ⟨hk,hb,hpas,hcap,v1,?_,fun e2=>?_,fun e2=>?_,?_⟩
   ·rw [hcap,e];exact he4
   ·rw [e2] at v2;omega
   ·rw [e2] at v3
    have:fwd p.bl≠0:=by unfold fwd;split <;> omega
    omega
   ·rw [hb];exact hpas.e0
 ·by_cases h0:pc p.l m.b=0
  ·refine .inl ⟨?_,h0,he⟩
   unfold capM
   rw [if_neg he,if_neg (by simp [h0])]
  ·refine .inr (.inl ⟨?_,h0,he⟩)
   unfold capM
   rw [if_neg he,if_pos h0]
end Go.Proofs.YtbccbgonlmkpkaaGreatDoor
namespace Go.Proofs.YtbccbgonlmkpkaaGreatDoor
open Go.RowKit
theorem Cas.sq {p:Po} {m:Mv} {bit:Nat} (h:Cas p m bit):cKf bit<64/\cKt bit<64/\cRf bit<64/\cRt bit<64/\cKf bit≠cKt bit/\cKf bit≠cRf bit/\cKf bit≠cRt bit/\cKt bit≠cRf bit/\cKt bit≠cRt bit/\cRf bit≠cRt bit:=by
 rcases h.or4 with e | e | e | e <;> rw [e] <;> decide
theorem Cas.len {p:Po} {m:Mv} {bit:Nat} (h:Cas p m bit) (hp:OkP p):p.l.length=64:=by
 have:=hp.len
 rw [h.f8,h.r8] at this
 omega
theorem Cas.nocap {p:Po} {m:Mv} {bit:Nat} (h:Cas p m bit):capM p m=-1:=by
 unfold capM
 rw [if_neg (by rw [h.k6];omega),h.eb,if_neg (by simp [h.kt])]
def prmM (p:Po) (m:Mv):Int:=if m.p≠0 then m.p * sgnP (pc p.l m.a) else pc p.l m.a
theorem aft_len (p:Po) (m:Mv):(aftL p m).length=p.l.length:=by
 unfold aftL
 simp only
 split <;> split <;> simp [upd_len]
theorem Mov.capN {p:Po} {m:Mv} (h:Mov p m):capM p m=-1\/(0<=capM p m/\capM p m<(p.l.length:Int)/\capM p m≠m.a):=by
 rcases cap_or h with h1 | h1 | h1
 ·exact .inl h1.1
 ·refine .inr ?_
  rw [h1.1]
  exact ⟨h.lb.1,h.lb.2,fun e=>h.hm.2.2.1 e.symm⟩
 ·exact .inr ⟨h1.vc.2.1,by have:=h1.vc.2.2;have:=h.hp.len;omega,h1.na⟩
theorem aft_pc {p:Po} {m:Mv} (h:Mov p m) (hc:casM p m=0) {k:Int} (hk:0<=k):pc (aftL p m) k=if k=m.b then prmM p m else if k=m.a then 0 else if k=capM p m then 0 else pc p.l k:=by
 unfold aftL
 simp only
 rw [if_neg (by simp [hc])]
 have ha:=h.la
 have hb:=h.lb
 rcases h.capN with e | ⟨c0,c1,_⟩
 ·rw [if_neg (by omega),pc_upd hb.1 (by rw [upd_len];exact hb.2) hk,pc_upd ha.1 ha.2 hk]
  unfold prmM
  by_cases h1:k=m.b
  ·simp [h1]
  ·by_cases h2:k=m.a
   ·simp [h2]
   ·rw [if_neg h1,if_neg h1,if_neg h2,if_neg h2,if_neg (by omega)]
 ·rw [if_pos c0,pc_upd hb.1 (by rw [upd_len,upd_len];exact hb.2) hk,pc_upd ha.1 (by rw [upd_len];exact ha.2) hk,pc_upd c0 c1 hk]
  rfl
theorem aft_cas {p:Po} {m:Mv} (h:Mov p m) (hc:Cas p m (casM p m)) {k:Int} (hk:0<=k) :
  pc (aftL p m) k=if k=(cRf (casM p m):Int) then 0 else if k=(cRt (casM p m):Int) then pc p.l (cRf (casM p m):Int) else if k=m.b then pc p.l m.a else if k=m.a then 0 else pc p.l k:=by
 have hbit:casM p m≠0:=by rcases hc.or4 with e | e | e | e <;> omega
 obtain ⟨s1,s2,s3,s4,n1,n2,n3,n4,n5,n6⟩:=hc.sq
 have hl:=hc.len h.hp
 have ha:=h.la
 have hb:=h.lb
 have ea:=hc.ea
 have eb:=hc.eb
 unfold aftL
 simp only
 rw [if_pos hbit,if_neg (by rw [hc.nocap];omega),if_neg (by simp [hc.p0])]
 generalize casM p m=bit at *
 rw [pc_upd (by omega) (by rw [upd_len,upd_len,upd_len];omega) hk,pc_upd (by omega) (by rw [upd_len,upd_len];omega) hk,pc_upd hb.1 (by rw [upd_len];exact hb.2) hk,pc_upd ha.1 ha.2 hk]
 have e3:pc (upd (upd p.l m.a 0) m.b (pc p.l m.a)) (cRf bit:Int)=pc p.l (cRf bit:Int):=by
  rw [pc_upd hb.1 (by rw [upd_len];exact hb.2) (by omega),if_neg (by omega),pc_upd ha.1 ha.2 (by omega),if_neg (by omega)]
 rw [e3]
theorem att_to {p:Po} {m:Mv} (h:Mov p m) (h0:pc p.l m.b≠0):attP p.F p.R (pc p.l m.a) (occX p.l) m.a m.b=true:=by
 have hne:=h.hm.2.2.1
 by_cases hk:kdP (pc p.l m.a)=1
 ·unfold attP
  rw [if_pos hk]
  have hw:=h.pawn hk
  unfold pwnM at hw
  simp only [Bool.and_eq_true,Bool.or_eq_true] at hw
  have hd:decide (pc p.l m.a<0)=p.bl:=by
   have:=(ownB_iff.1 h.own).2
   apply Bool.eq_iff_iff.2
   simpa using this
  rcases hw.2 with hst | hpw
  ·rcases step_cases h.hp.hv h.hp.len h.hm.1 h.hm.2.1 hst with ⟨_,_,s3⟩ | ⟨_,_,_,_,s3,_⟩
   ·exact absurd s3 h0
   ·exact absurd s3 h0
  ·rw [hd]
   exact hpw.1
 ·unfold attP
  rw [if_neg hk]
  rcases h.other hk with hc | ⟨_,_,hr⟩
  ·exact absurd (by rw [hc.eb];exact hc.kt) h0
  ·simp only [Bool.and_eq_true,Bool.not_eq_true',beq_eq_false_iff_ne,ne_eq]
   exact ⟨hne,hr⟩
theorem not_king {p:Po} {m:Mv} (h:Mov p m):pc p.l m.b≠kgN (!p.bl):=by
 intro e
 have h0:pc p.l m.b≠0:=by rw [e];unfold kgN;split <;> omega
 have hatt:=att_to h h0
 have hkv:0<=kingV p.l (!p.bl):=by cases hb:p.bl with
  | false=>exact h.hp.kb
  | true=>exact h.hp.kw
 have hb:=h.lb
 have ha:=h.la
 have hkb:=(king_at hkv).2.2 m.b hb.1 hb.2 e
 have hs:=h.hp.safe
 rw [<- hkb] at hs
 have hm:m.a.toNat∈atkL p.F p.R p.l m.b p.bl:=by
  unfold atkL
  rw [List.mem_filter,idx_mem]
  have ea:((m.a.toNat:Nat):Int)=m.a:=by omega
  have e1:p.l[m.a.toNat]?.getD 0=pc p.l m.a:=rfl
  refine ⟨⟨by omega,?_⟩,?_⟩
  ·rw [e1]
   obtain ⟨o1,o2⟩:=ownB_iff.1 h.own
   unfold sdP sgnP sdN
   cases hbl:p.bl with
   | false =>
    rw [hbl] at o2
    have:¬ pc p.l m.a<0:=by simpa using o2
    rw [if_neg this,if_pos (by omega)]
    rfl
   | true =>
    rw [hbl] at o2
    have:pc p.l m.a<0:=by simpa using o2
    rw [if_pos this]
    rfl
  ·unfold atkP
   rw [e1,ea]
   exact hatt
 rw [List.eq_nil_of_length_eq_zero hs] at hm
 simp at hm
end Go.Proofs.YtbccbgonlmkpkaaGreatDoor
