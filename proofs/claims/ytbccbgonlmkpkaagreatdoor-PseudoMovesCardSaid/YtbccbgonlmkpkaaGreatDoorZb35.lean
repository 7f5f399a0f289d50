/- What the theorem needs, piece Zb35. -/
import Derived.Lib.QuietBelow
import Derived.Sort.AtCall
import Derived.Deep.RegionHeld3
import Derived.Test.YtbccbgonlmkpkaaGreatDoorZb28
import Derived.Deep.DeepCutAuto
import Derived.Test.YtbccbgonlmkpkaaGreatDoorZb20
import Derived.Test.YtbccbgonlmkpkaaGreatDoorZb27
import Derived.Test.YtbccbgonlmkpkaaGreatDoorZb32
import Derived.Test.YtbccbgonlmkpkaaGreatDoorZb01
import Derived.Test.YtbccbgonlmkpkaaGreatDoorZb34
set_option linter.unusedSimpArgs false
set_option linter.unusedVariables false
set_option maxRecDepth 100000
set_option maxHeartbeats 16000000
namespace Go.Proofs.YtbccbgonlmkpkaaGreatDoor
open Go.RowKit Go.Sort
theorem rmValid_any (F R x y p:Int) (b:Bool) (hb:b=true ↔ okM F R ⟨x,y,p⟩) (w:World) :
  Calls Tryz.prog 20 #[.agg #[.int .i64 F,.int .i64 R],.agg #[.int .i64 x,.int .i64 y,.int .i8 p]] w fun e w'=>e=.returned (.bool b)/\Below w.heap.size w w':=by
 have hs:=box2 w F R
 have hm:=box3 (w.alloc (.cells #[.int .i64 F,.int .i64 R] 23)) x y p
 rw [World.size_alloc] at hm
 have b0:=box1 w (.cells #[.int .i64 F,.int .i64 R] 23)
 have b1:=box1 (w.alloc (.cells #[.int .i64 F,.int .i64 R] 23)) (.cells #[.int .i64 x,.int .i64 y,.int .i8 p] 30)
 replace hs:=hs.below b1 hs.lt
 have hB:=chain b0 b1
 clear b0 b1
 unfold okM at hb
 simp only at hb
 go_enter Tryz.func20,Tryz.ntmps20
 by_cases h1:vat F R x
 ·have HX:=Lib.hid (fun w=>refValid_yes F R x h1 w)
  by_cases h2:vat F R y
  ·have HY:=Lib.hid (fun w=>refValid_yes F R y h2 w)
   by_cases h3:x=y
   ·have:=b_false hb (fun h=>h.2.2.1 h3)
    subst this
    have hne:(x != y)=false:=by simp [h3]
    clear hb h1 h2 h3
    obtain ⟨s0,s1⟩:=id hs
    obtain ⟨⟨m0,m1,m2⟩,mf⟩:=id hm
    go_wp2_with fail
    refine (HX.out _).mono ?_
    rintro e w1 ⟨rfl,b1⟩
    clear s0 s1 m0 m1 m2 mf
    replace hs:=hs.below b1 hs.lt
    replace hm:=hm.below b1 hm.lt
    replace hB:=chain hB b1
    clear b1
    obtain ⟨s0,s1⟩:=id hs
    obtain ⟨⟨m0,m1,m2⟩,mf⟩:=id hm
    go_wp2_with fail
    refine (HY.out _).mono ?_
    rintro e w2 ⟨rfl,b2⟩
    clear s0 s1 m0 m1 m2 mf
    replace hs:=hs.below b2 hs.lt
    replace hm:=hm.below b2 hm.lt
    replace hB:=chain hB b2
    clear b2
    obtain ⟨s0,s1⟩:=id hs
    obtain ⟨⟨m0,m1,m2⟩,mf⟩:=id hm
    go_wp2
    go_ret
    exact ⟨rfl,hB⟩
   ·have hne:(x != y)=true:=by simp [h3]
    have hb':b=true ↔ okPr p:=hb.trans ⟨fun h=>h.2.2.2,fun h=>⟨h1,h2,h3,h⟩⟩
    unfold okPr at hb'
    clear hb h1 h2 h3
    by_cases h0:p=0
    ·have:=b_true hb' (.inl h0)
     subst this h0
     clear hb'
     obtain ⟨s0,s1⟩:=id hs
     obtain ⟨⟨m0,m1,m2⟩,mf⟩:=id hm
     go_wp2_with fail
     refine (HX.out _).mono ?_
     rintro e w1 ⟨rfl,b1⟩
     clear s0 s1 m0 m1 m2 mf
     replace hs:=hs.below b1 hs.lt
     replace hm:=hm.below b1 hm.lt
     replace hB:=chain hB b1
     clear b1
     obtain ⟨s0,s1⟩:=id hs
     obtain ⟨⟨m0,m1,m2⟩,mf⟩:=id hm
     go_wp2_with fail
     refine (HY.out _).mono ?_
     rintro e w2 ⟨rfl,b2⟩
     clear s0 s1 m0 m1 m2 mf
     replace hs:=hs.below b2 hs.lt
     replace hm:=hm.below b2 hm.lt
     replace hB:=chain hB b2
     clear b2
     obtain ⟨s0,s1⟩:=id hs
     obtain ⟨⟨m0,m1,m2⟩,mf⟩:=id hm
     go_wp2
     go_ret
     exact ⟨rfl,hB⟩
    ·have hz:(p == 0)=false:=beq_eq_false_iff_ne.2 h0
     by_cases h2:2<=p
     ·by_cases h5:p<=5
      ·have:=b_true hb' (.inr ⟨h2,h5⟩)
       subst this
       clear hb'
       obtain ⟨s0,s1⟩:=id hs
       obtain ⟨⟨m0,m1,m2⟩,mf⟩:=id hm
       go_wp2_with fail
       refine (HX.out _).mono ?_
       rintro e w1 ⟨rfl,b1⟩
       clear s0 s1 m0 m1 m2 mf
       replace hs:=hs.below b1 hs.lt
       replace hm:=hm.below b1 hm.lt
       replace hB:=chain hB b1
       clear b1
       obtain ⟨s0,s1⟩:=id hs
       obtain ⟨⟨m0,m1,m2⟩,mf⟩:=id hm
       go_wp2_with fail
       refine (HY.out _).mono ?_
       rintro e w2 ⟨rfl,b2⟩
       clear s0 s1 m0 m1 m2 mf
       replace hs:=hs.below b2 hs.lt
       replace hm:=hm.below b2 hm.lt
       replace hB:=chain hB b2
       clear b2
       obtain ⟨s0,s1⟩:=id hs
       obtain ⟨⟨m0,m1,m2⟩,mf⟩:=id hm
       go_wp2
       go_ret
       exact ⟨rfl,hB⟩
      ·have:=b_false hb' (by omega)
       subst this
       have hd:decide (p<=5)=false:=decide_eq_false h5
       clear hb'
       obtain ⟨s0,s1⟩:=id hs
       obtain ⟨⟨m0,m1,m2⟩,mf⟩:=id hm
       go_wp2_with fail
       refine (HX.out _).mono ?_
       rintro e w1 ⟨rfl,b1⟩
       clear s0 s1 m0 m1 m2 mf
       replace hs:=hs.below b1 hs.lt
       replace hm:=hm.below b1 hm.lt
       replace hB:=chain hB b1
       clear b1
       obtain ⟨s0,s1⟩:=id hs
       obtain ⟨⟨m0,m1,m2⟩,mf⟩:=id hm
       go_wp2_with fail
       refine (HY.out _).mono ?_
       rintro e w2 ⟨rfl,b2⟩
       clear s0 s1 m0 m1 m2 mf
       replace hs:=hs.below b2 hs.lt
       replace hm:=hm.below b2 hm.lt
       replace hB:=chain hB b2
       clear b2
       obtain ⟨s0,s1⟩:=id hs
       obtain ⟨⟨m0,m1,m2⟩,mf⟩:=id hm
       go_wp2
       go_ret
       exact ⟨rfl,hB⟩
     ·have:=b_false hb' (by omega)
      subst this
      have hd:decide (2<=p)=false:=decide_eq_false h2
      clear hb'
      obtain ⟨s0,s1⟩:=id hs
      obtain ⟨⟨m0,m1,m2⟩,mf⟩:=id hm
      go_wp2_with fail
      refine (HX.out _).mono ?_
      rintro e w1 ⟨rfl,b1⟩
      clear s0 s1 m0 m1 m2 mf
      replace hs:=hs.below b1 hs.lt
      replace hm:=hm.below b1 hm.lt
      replace hB:=chain hB b1
      clear b1
      obtain ⟨s0,s1⟩:=id hs
      obtain ⟨⟨m0,m1,m2⟩,mf⟩:=id hm
      go_wp2_with fail
      refine (HY.out _).mono ?_
      rintro e w2 ⟨rfl,b2⟩
      clear s0 s1 m0 m1 m2 mf
      replace hs:=hs.below b2 hs.lt
      replace hm:=hm.below b2 hm.lt
      replace hB:=chain hB b2
      clear b2
      obtain ⟨s0,s1⟩:=id hs
      obtain ⟨⟨m0,m1,m2⟩,mf⟩:=id hm
      go_wp2
      go_ret
      exact ⟨rfl,hB⟩
  ·have:=b_false hb (fun h=>h2 h.2.1)
   subst this
   have HY:=Lib.hid (fun w=>refValid_no F R y h2 w)
   clear hb h1 h2
   obtain ⟨s0,s1⟩:=id hs
   obtain ⟨⟨m0,m1,m2⟩,mf⟩:=id hm
   go_wp2_with fail
   refine (HX.out _).mono ?_
   rintro e w1 ⟨rfl,b1⟩
   clear s0 s1 m0 m1 m2 mf
   replace hs:=hs.below b1 hs.lt
   replace hm:=hm.below b1 hm.lt
   replace hB:=chain hB b1
   clear b1
   obtain ⟨s0,s1⟩:=id hs
   obtain ⟨⟨m0,m1,m2⟩,mf⟩:=id hm
   go_wp2_with fail
   refine (HY.out _).mono ?_
   rintro e w2 ⟨rfl,b2⟩
   clear s0 s1 m0 m1 m2 mf
   replace hs:=hs.below b2 hs.lt
   replace hm:=hm.below b2 hm.lt
   replace hB:=chain hB b2
   clear b2
   obtain ⟨s0,s1⟩:=id hs
   obtain ⟨⟨m0,m1,m2⟩,mf⟩:=id hm
   go_wp2
   go_ret
   exact ⟨rfl,hB⟩
 ·have:=b_false hb (fun h=>h1 h.1)
  subst this
  have HX:=Lib.hid (fun w=>refValid_no F R x h1 w)
  clear hb h1
  obtain ⟨s0,s1⟩:=id hs
  obtain ⟨⟨m0,m1,m2⟩,mf⟩:=id hm
  go_wp2_with fail
  refine (HX.out _).mono ?_
  rintro e w1 ⟨rfl,b1⟩
  go_wp2
  go_ret
  exact ⟨rfl,chain hB b1⟩
theorem nbrq (p:Int) (h2:2<=p) (h5:p<=5):(ByteArray.mk #[78,66,82,81]).extract (p - 2).toNat (p.toNat - 1)=bsL (prL p):=by
 have:∀ i:Nat,i<4->(ByteArray.mk #[78,66,82,81]).extract i (i+1)=bsL (prL ((i:Int)+2)):=by decide +kernel
 have e:=this (p - 2).toNat (by omega)
 rw [show (((p - 2).toNat:Nat):Int)+2=p by omega,show (p - 2).toNat+1=p.toNat - 1 by omega] at e
 exact e
theorem rmText_any (F R x y p:Int) (h:okM F R ⟨x,y,p⟩) (w:World) :
  Calls Tryz.prog 139 #[.agg #[.int .i64 F,.int .i64 R],.agg #[.int .i64 x,.int .i64 y,.int .i8 p]] w fun e w'=>e=.returned (.string (bsL (mvT F ⟨x,y,p⟩)))/\Below w.heap.size w w':=by
 have hs:=box2 w F R
 have hm:=box3 (w.alloc (.cells #[.int .i64 F,.int .i64 R] 23)) x y p
 rw [World.size_alloc] at hm
 have b0:=box1 w (.cells #[.int .i64 F,.int .i64 R] 23)
 have b1:=box1 (w.alloc (.cells #[.int .i64 F,.int .i64 R] 23)) (.cells #[.int .i64 x,.int .i64 y,.int .i8 p] 30)
 replace hs:=hs.below b1 hs.lt
 have hB:=chain b0 b1
 clear b0 b1
 have HX:=Lib.hid (fun w=>refName_any F R x h.1 w)
 have HY:=Lib.hid (fun w=>refName_any F R y h.2.1 w)
 have z1:(nameB F x).size=2:=nm_size _ _
 have z2:(nameB F y).size=2:=nm_size _ _
 have z4:(nameB F x ++ nameB F y).size=4:=by rw [ByteArray.size_append];omega
 have E:Hid (nameB F x ++ nameB F y ++ bsL (prL p)=bsL (mvT F ⟨x,y,p⟩)):=Lib.hid (by
  apply bytes_eq
  have e:nameB F x ++ nameB F y ++ bsL (prL p)=bsL ((nameB F x).data.toList ++ (nameB F y).data.toList ++ prL p):=by
   rw [<- bsL_append,<- bsL_append,bsL_of,bsL_of]
  rw [e,bsL_toList,bsL_toList]
  unfold mvT
  rw [List.append_assoc])
 have hpr:=h.2.2.2
 clear h
 generalize nameB F x=t1 at *
 generalize nameB F y=t2 at *
 go_enter Tryz.func139,Tryz.ntmps139
 obtain ⟨s0,s1⟩:=id hs
 obtain ⟨⟨m0,m1,m2⟩,mf⟩:=id hm
 go_wp2_with fail
 generalize hV:(w.alloc (.cells #[.int .i64 F,.int .i64 R] 23)).alloc (.cells #[.int .i64 x,.int .i64 y,.int .i8 p] 30)=V at *
 have q0:=cell_regrown s0
 have q1:=cell_regrown s1
 have q2:=cell_regrown m0
 have q3:=cell_regrown m1
 have cX:=Lib.hid (fun d os=>Calls.regrown_of (HX.out (grow (redrawn V d) os)))
 have cY:=Lib.hid (fun d os=>Calls.regrown_of (HY.out (grow (redrawn V d) os)))
 refine wp_region_quiet_below (by kernel_rfl) (by kernel_rfl) ?_
 repeat (go_big_quiet_step (first | (go_at_call_has 93 (Value.int .i64 x);exact cX.out _ _) | (go_at_call_has 93 (Value.int .i64 y);exact cY.out _ _)))
 refine wpQuiet_nil ?_
 rintro _ ⟨⟨dq,osq⟩,rfl⟩
 have bq:=below_regrown V dq osq
 replace hs:=hs.below bq hs.lt
 replace hm:=hm.below bq hm.lt
 replace hB:=chain hB bq
 clear cX cY q0 q1 q2 q3 bq s0 s1 m0 m1 m2 mf hV
 generalize Go.Sort.grow (redrawn V dq) osq=w1 at *
 obtain ⟨⟨m0,m1,m2⟩,mf⟩:=id hm
 have n1:¬ 9223372036854775807<t1.size+t2.size:=by omega
 by_cases h0:p=0
 ·subst h0
  have E2:Hid (t1 ++ t2=bsL (mvT F ⟨x,y,0⟩)):=Lib.hid (by rw [<- E.out];apply bytes_eq;rw [<- bsL_of (t1 ++ t2),bsL_append,bsL_of,bsL_toList];simp [prL])
  clear E hpr
  go_wp2
  go_ret
  exact ⟨ret_str E2.out,hB⟩
 ·have h2:2<=p:=(hpr.resolve_left h0).1
  have h5:p<=5:=(hpr.resolve_left h0).2
  have hp0:0<p:=by omega
  have HN:=Lib.hid (nbrq p h2 h5)
  go_wp2
  go_ret
  exact ⟨ret_str (by rw [HN.out,E.out]),(by first | exact hB | exact drawn hB _)⟩
end Go.Proofs.YtbccbgonlmkpkaaGreatDoor
namespace Go.Proofs.YtbccbgonlmkpkaaGreatDoor
open Go.RowKit Go.Sort
theorem rdM_short {F R:Int} {L:List UInt8} (hv:vsz F R) (h:L.length<4):rdM F R L=none:=by
 cases e:rdM F R L with
 | none=>rfl
 | some m =>
  have:=(text_rdM hv e).2
  have h2:=mvT_len F m
  rw [this] at h2
  omega
theorem ext_take (s:ByteArray) (L:List UInt8) (hL:s.data.toList=L) (i j:Nat):(s.extract i j).data.toList=(L.drop i).take (j - i):=by
 rw [ByteArray.data_extract,Array.toList_extract,hL]
theorem st3 {W:World} {b:Nat} {x y p:Int} (h:Bx3 W b x y p):(∀ t,(W.setCell ⟨b,0,none⟩ t).cell? ⟨b,0,none⟩=some t)/\(∀ t u,((W.setCell ⟨b,0,none⟩ t).setCell ⟨b,1,none⟩ u).cell? ⟨b,1,none⟩=some u) /\
  (∀ t u v,(((W.setCell ⟨b,0,none⟩ t).setCell ⟨b,1,none⟩ u).setCell ⟨b,2,none⟩ v).cell? ⟨b,2,none⟩=some v):=by
 refine ⟨fun t=>World.cell?_setCell_same _ _ _ h.1.1,fun t u=>World.cell?_setCell_same _ _ _ ((World.cell?_setCell_other _ _ _ _ (by simp)).trans h.1.2.1),fun t u v=>World.cell?_setCell_same _ _ _ ((World.cell?_setCell_other _ _ _ _ (by simp)).trans ((World.cell?_setCell_other _ _ _ _ (by simp)).trans h.1.2.2))⟩
theorem below3 {w W:World} {b:Nat} (hB:Below w.heap.size w W) (hb:w.heap.size<=b) (t u v:Value):Below w.heap.size w (((W.setCell ⟨b,0,none⟩ t).setCell ⟨b,1,none⟩ u).setCell ⟨b,2,none⟩ v) :=
 ((hB.setCell (p:=⟨_,_,none⟩) hb _).setCell (p:=⟨_,_,none⟩) hb _).setCell (p:=⟨_,_,none⟩) hb _
end Go.Proofs.YtbccbgonlmkpkaaGreatDoor
namespace Go.Proofs.YtbccbgonlmkpkaaGreatDoor
open Go.RowKit Go.Sort
def nmR (o:Option Int):Int:=o.getD (-1)
theorem sqR_any (F R:Int) (hv:vsz F R) (s:ByteArray) (L:List UInt8) (hL:s.data.toList=L) (w:World) :
  Calls Tryz.prog 136 #[.agg #[.int .i64 F,.int .i64 R],.string s] w fun e w'=>e=.returned (.int .i64 (nmR (nmV F R L)))/\Below w.heap.size w w':=by
 cases h:nmV F R L with
 | none=>exact refParse_no F R s hv (fun a ha e=>nmV_no h a ha (by rw [e,hL])) w
 | some a =>
  obtain ⟨h1,h2⟩:=nmV_yes hv h
  exact refParse_yes F R a s h1 (bytes_eq (h2.trans hL.symm)) w
theorem nmR_vat {F R:Int} {o:Option Int} (h:vat F R (nmR o)):o=some (nmR o):=by
 cases o with
 | none=>exact absurd h.2.1 (by simp [nmR])
 | some a=>rfl
theorem rdM_nopr {F R:Int} {L:List UInt8} (h:prV (L.drop 4)=none):rdM F R L=none:=by
 unfold rdM
 rw [h]
 cases nmV F R (L.take 2) <;> cases nmV F R ((L.drop 2).take 2) <;> rfl
theorem rdM_ok {F R:Int} {L:List UInt8} {p:Int} (h:prV (L.drop 4)=some p) (hok:okM F R ⟨nmR (nmV F R (L.take 2)),nmR (nmV F R ((L.drop 2).take 2)),p⟩):rdM F R L=some ⟨nmR (nmV F R (L.take 2)),nmR (nmV F R ((L.drop 2).take 2)),p⟩:=by
 have h1:=nmR_vat hok.1
 have h2:=nmR_vat hok.2.1
 have h3:=hok.2.2.1
 simp only at h1 h2 h3
 generalize nmR (nmV F R (L.take 2))=a at *
 generalize nmR (nmV F R ((L.drop 2).take 2))=b at *
 unfold rdM
 rw [h1,h2,h]
 simp [h3]
theorem rdM_nok {F R:Int} {L:List UInt8} {p:Int} (hv:vsz F R) (h:prV (L.drop 4)=some p) (hok:¬ okM F R ⟨nmR (nmV F R (L.take 2)),nmR (nmV F R ((L.drop 2).take 2)),p⟩):rdM F R L=none:=by
 cases e:rdM F R L with
 | none=>rfl
 | some m =>
  refine absurd ?_ hok
  have h1:=(text_rdM hv e).1
  unfold rdM at e
  rw [h] at e
  cases ha:nmV F R (L.take 2) with
  | none=>rw [ha] at e;cases e
  | some a =>
   cases hb:nmV F R ((L.drop 2).take 2) with
   | none=>rw [ha,hb] at e;cases e
   | some b =>
    rw [ha,hb] at e
    simp only at e
    split at e
    ·cases e
    ·cases e
     exact h1
def mrdB (o:Option Mv):Value:=.tuple #[.agg #[.int .i64 ((o.map Mv.a).getD 0),.int .i64 ((o.map Mv.b).getD 0),.int .i8 ((o.map Mv.p).getD 0)],.bool o.isSome]
def pq (k:Int) (c:UInt8):Int:=if 2<=piP c.toNat/\piP c.toNat<=5/\piP c.toNat<k then piP c.toNat else 0
theorem pq_two (c:UInt8):pq 2 c=0:=by
 unfold pq
 rw [if_neg (by omega)]
theorem pq_yes {k:Int} {c:UInt8} (h0:2<=k) (h1:k<=5) (h:piP c.toNat=k):pq (k+1) c=k:=by
 unfold pq
 rw [h,if_pos (by omega)]
theorem pq_no {k:Int} {c:UInt8} (h:piP c.toNat≠k):pq (k+1) c=pq k c:=by
 unfold pq
 by_cases h2:2<=piP c.toNat/\piP c.toNat<=5/\piP c.toNat<k
 ·rw [if_pos h2,if_pos (by omega)]
 ·rw [if_neg h2,if_neg (by omega)]
theorem pq_end (c:UInt8):prV [c]=if pq 6 c=0 then none else some (pq 6 c):=by
 have e:prV [c]=if 2<=piP c.toNat/\piP c.toNat<=5 then some (piP c.toNat) else none:=rfl
 rw [e]
 by_cases h:2<=piP c.toNat/\piP c.toNat<=5
 ·have hq:pq 6 c=piP c.toNat:=by unfold pq;rw [if_pos (by omega)]
  rw [if_pos h,hq,if_neg (by omega)]
 ·have hq:pq 6 c=0:=by unfold pq;rw [if_neg (by omega)]
  rw [if_neg h,hq,if_pos rfl]
theorem nbrq_is (k:Int) (h0:2<=k) (h1:k<=5) (c:UInt8):((ByteArray.mk #[78,66,82,81]).extract (k - 2).toNat (k.toNat - 1)).data.toList=[c] ↔ piP c.toNat=k:=by
 rw [nbrq k h0 h1,bsL_toList]
 unfold prL
 rw [if_neg (by omega)]
 have hl:=lt_rng (p:=k) ⟨by omega,by omega⟩ (by omega)
 constructor
 ·intro e
  have e2:UInt8.ofNat (lt k)=c:=by simpa using e
  rw [<- e2,u8_lt _ (by omega)]
  exact piP_lt ⟨by omega,by omega,by omega⟩
 ·intro e
  have:=(piP_ok (c:=c.toNat) (by omega)).2
  rw [e] at this
  rw [this]
  simp
def BelM (V W:World):Prop:=Below V.heap.size V W
theorem cBm {w w':World} {p:Addr} {v:Value} (hb:Below w.heap.size w w') (h:w.cell? p=some v):w'.cell? p=some v:=(hb.cell (World.block_lt_of_cell? w _ h)).trans h
theorem keepM {V W W':World} {g:Nat} {z0 z1:Value} (h:(W.cell? ⟨g,0,none⟩=some z0/\W.cell? ⟨g,1,none⟩=some z1)/\BelM V W) (hb:Below W.heap.size W W'):(W'.cell? ⟨g,0,none⟩=some z0/\W'.cell? ⟨g,1,none⟩=some z1)/\BelM V W' :=
 ⟨⟨cBm hb h.1.1,cBm hb h.1.2⟩,Below.trans h.2 (hb.mono (Below.size h.2))⟩
theorem BelM.of {a:Prop} {V W:World} (h:a/\BelM V W):Below V.heap.size V W:=h.2
def BelMm (V W:World) (b:Nat) (v0 v1 v2:Value):Prop:=BelM V (((W.setCell ⟨b,0,none⟩ v0).setCell ⟨b,1,none⟩ v1).setCell ⟨b,2,none⟩ v2)
theorem BelM.mark {V W:World} {b:Nat} {v0 v1 v2:Value}:BelM V (((W.setCell ⟨b,0,none⟩ v0).setCell ⟨b,1,none⟩ v1).setCell ⟨b,2,none⟩ v2)=BelMm V W b v0 v1 v2:=rfl
theorem keepMs {V W:World} {b g:Nat} {z0 z1:Value} (h:(V.cell? ⟨g,0,none⟩=some z0/\V.cell? ⟨g,1,none⟩=some z1)/\BelM V V) (hb:Below V.heap.size V W) (hbb:V.heap.size<=b) (v0 v1 v2:Value) :
  ((((W.setCell ⟨b,0,none⟩ v0).setCell ⟨b,1,none⟩ v1).setCell ⟨b,2,none⟩ v2).cell? ⟨g,0,none⟩=some z0/\(((W.setCell ⟨b,0,none⟩ v0).setCell ⟨b,1,none⟩ v1).setCell ⟨b,2,none⟩ v2).cell? ⟨g,1,none⟩=some z1)/\BelMm V W b v0 v1 v2 :=
 keepM h (below3 hb hbb v0 v1 v2)
theorem bx3s {W:World} {b:Nat} {x y p:Int} (h:Bx3 W b x y p) (x' y' p':Int):Bx3 (((W.setCell ⟨b,0,none⟩ (.int .i64 x')).setCell ⟨b,1,none⟩ (.int .i64 y')).setCell ⟨b,2,none⟩ (.int .i8 p')) b x' y' p':=by
 obtain ⟨⟨x0,x1,x2⟩,xf⟩:=h
 refine ⟨⟨?_,?_,?_⟩,fun o=>?_⟩ <;> simp [go_sem,x0,x1,x2,xf]
theorem yb3 {X u:World} (h:Below (X.alloc (.cells #[.int .i64 0,.int .i64 0,.int .i8 0] 30)).heap.size (X.alloc (.cells #[.int .i64 0,.int .i64 0,.int .i8 0] 30)) u):Bx3 u X.heap.size 0 0 0:=(box3 X 0 0 0).below h (by simp)
theorem yb3d {X u:World} (h:Below (X.alloc (.cells #[.int .i64 0,.int .i64 0,.int .i8 0] 30)).drew.heap.size (X.alloc (.cells #[.int .i64 0,.int .i64 0,.int .i8 0] 30)).drew u):Bx3 u X.heap.size 0 0 0 :=
 (show Bx3 (X.alloc (.cells #[.int .i64 0,.int .i64 0,.int .i8 0] 30)).drew X.heap.size 0 0 0 from box3 X 0 0 0).below h (by simp)
theorem rmParse_len (F R:Int) (hv:vsz F R) (s:ByteArray) (L:List UInt8) (hL:s.data.toList=L) (hn:s.size<4\/5<s.size) (w:World) :
  Calls Tryz.prog 90 #[.agg #[.int .i64 F,.int .i64 R],.string s] w fun e w'=>e=.returned (mrdB (rdM F R L))/\Below w.heap.size w w':=by
 have hsz:s.size=L.length:=by rw [<- hL,Array.length_toList];rfl
 have hs:=box2 w F R
 have hr:=box3 (w.alloc (.cells #[.int .i64 F,.int .i64 R] 23)) 0 0 0
 rw [World.size_alloc] at hr
 have b0:=box1 w (.cells #[.int .i64 F,.int .i64 R] 23)
 have b1:=box1 (w.alloc (.cells #[.int .i64 F,.int .i64 R] 23)) (.cells #[.int .i64 0,.int .i64 0,.int .i8 0] 30)
 replace hs:=hs.below b1 hs.lt
 have hB:=chain b0 b1
 clear b0 b1
 have E:Hid (rdM F R L=none):=Lib.hid (by
  rcases hn with h | h
  ·exact rdM_short hv (by omega)
  ·refine rdM_nopr ?_
   obtain ⟨c,d,l,e⟩:∃ c d l,L.drop 4=c :: d :: l:=by
    have:2<=(L.drop 4).length:=by rw [List.length_drop];omega
    match L.drop 4,this with
    | c :: d :: l,_=>exact ⟨c,d,l,rfl⟩
   rw [e]
   rfl)
 clear hL hsz
 rcases hn with hn | hn
 ·have h4:(s.size:Int)<4:=by omega
  clear hn
  go_enter Tryz.func90,Tryz.ntmps90
  obtain ⟨⟨r0,r1,r2⟩,rf⟩:=id hr
  obtain ⟨t0,t1,t2⟩:=st3 hr
  go_wp2
  refine bodyPost_ret (v:=mrdB none) ?_ rfl ⟨by rw [E.out],?_⟩
  ·simp [results,Tryz.results90,go_sem,mrdB]
  ·first | exact hB | exact below3 hB (by simp) _ _ _
 ·have h4:¬ (s.size:Int)<4:=by omega
  have h5:5<(s.size:Int):=by omega
  clear hn
  go_enter Tryz.func90,Tryz.ntmps90
  obtain ⟨⟨r0,r1,r2⟩,rf⟩:=id hr
  obtain ⟨t0,t1,t2⟩:=st3 hr
  go_wp2
  refine bodyPost_ret (v:=mrdB none) ?_ rfl ⟨by rw [E.out],?_⟩
  ·simp [results,Tryz.results90,go_sem,mrdB]
  ·first | exact hB | exact below3 hB (by simp) _ _ _
theorem rmParse_4 (F R:Int) (hv:vsz F R) (s:ByteArray) (L:List UInt8) (hL:s.data.toList=L) (hn:s.size=4) (w:World) :
  Calls Tryz.prog 90 #[.agg #[.int .i64 F,.int .i64 R],.string s] w fun e w'=>e=.returned (mrdB (rdM F R L))/\Below w.heap.size w w':=by
 have hsz:s.size=L.length:=by rw [<- hL,Array.length_toList];rfl
 have hs:=box2 w F R
 have hr:=box3 (w.alloc (.cells #[.int .i64 F,.int .i64 R] 23)) 0 0 0
 rw [World.size_alloc] at hr
 have b0:=box1 w (.cells #[.int .i64 F,.int .i64 R] 23)
 have b1:=box1 (w.alloc (.cells #[.int .i64 F,.int .i64 R] 23)) (.cells #[.int .i64 0,.int .i64 0,.int .i8 0] 30)
 replace hs:=hs.below b1 hs.lt
 have hB:=chain b0 b1
 clear b0 b1
 have hpr:prV (L.drop 4)=some 0:=by
  rw [List.drop_eq_nil_of_le (by omega)]
  rfl
 clear hsz
 have e1:(s.extract 0 2).data.toList=L.take 2:=by rw [ext_take s L hL];rfl
 have e2:(s.extract 2 4).data.toList=(L.drop 2).take 2:=ext_take s L hL 2 4
 have HX:=Lib.hid (fun w=>sqR_any F R hv (s.extract 0 2) _ e1 w)
 have HY:=Lib.hid (fun w=>sqR_any F R hv (s.extract 2 4) _ e2 w)
 have HOK:=Lib.hid (fun p h hok=>rdM_ok (F:=F) (R:=R) (L:=L) (p:=p) h hok)
 have HNO:=Lib.hid (fun p h hok=>rdM_nok (F:=F) (R:=R) (L:=L) (p:=p) hv h hok)
 clear e1 e2
 have hV2:((w.alloc (.cells #[.int .i64 F,.int .i64 R] 23)).alloc (.cells #[.int .i64 0,.int .i64 0,.int .i8 0] 30)).heap.size=w.heap.size+2:=by simp
 go_enter Tryz.func90,Tryz.ntmps90
 obtain ⟨s0,s1⟩:=id hs
 obtain ⟨⟨r0,r1,r2⟩,rf⟩:=id hr
 generalize hV:(w.alloc (.cells #[.int .i64 F,.int .i64 R] 23)).alloc (.cells #[.int .i64 0,.int .i64 0,.int .i8 0] 30)=V at *
 have hS:(V.cell? ⟨w.heap.size,0,none⟩=some (.int .i64 F)/\V.cell? ⟨w.heap.size,1,none⟩=some (.int .i64 R))/\BelM V V:=⟨⟨s0,s1⟩,Below.refl _ _⟩
 have HV2:=Lib.hid hV2
 clear s0 s1 r0 r1 r2 rf hV2
 generalize nmR (nmV F R (L.take 2))=x at *
 generalize nmR (nmV F R ((L.drop 2).take 2))=y at *
 go_upto_region 3 with fail
 go_cut [6] (fun s6 wx=>∃ b:Nat,s6=.pointer (some ⟨b,0,none⟩)/\V.heap.size<=b/\Bx3 wx b x y 0/\Below V.heap.size V wx)
 case first =>
  go_region_held3 (fun w'=>(w'.cell? ⟨w.heap.size,0,none⟩=some (.int .i64 F)/\w'.cell? ⟨w.heap.size,1,none⟩=some (.int .i64 R))/\BelM V w')
   (first | (simp only [BelM.mark];refine keepMs hS ?_ ?_ _ _ _ <;> first | (exact BelM.of (by assumption)) | (exact (BelM.of (by assumption)).drew) | exact Nat.le_refl _ | (have e1:=hc1.size;have e2:=hc2.size;simp at e1 e2 ⊢;omega)) | assumption | exact keepM (by assumption) (by assumption) | exact keepM (by assumption) ((Below.refl _ _).drew) | exact keepM (by assumption) (box1 _ _) | exact keepM (keepM (keepM hS ((Below.refl _ _).drew)) hc1) hc2 | exact keepM (keepM (keepM (keepM hS ((Below.refl _ _).drew)) hc1) hc2) (box1 _ _))
   (first
    | (go_at_call_has 136 (Value.string (s.extract 0 2));refine (HX.out _).mono ?_;rintro e u1 ⟨rfl,hc1⟩;try (first | (have yz1:=yb3d hc1) | (have yz1:=yb3 hc1));try (obtain ⟨⟨e0,e1,e2⟩,ef⟩:=id yz1))
    | (go_at_call_has 136 (Value.string (s.extract 2 4));refine (HY.out _).mono ?_;rintro e u2 ⟨rfl,hc2⟩;try (first | (have yz2:=yz1.below hc2 yz1.lt) | (have yz2:=yb3d hc2) | (have yz2:=yb3 hc2));try (obtain ⟨⟨e0,e1,e2⟩,ef⟩:=id yz2)))
  all_goals
   go_wp2_with fail
   (conv=>arg 2;simp [Act.put])
   go_meet
   case rel =>
    refine ⟨_,rfl,?_,?_,?_⟩
    ·first | exact Nat.le_refl _ | (have e1:=hc1.size;have e2:=hc2.size;simp at e1 e2 ⊢;omega)
    ·first | exact bx3s yz2 _ _ 0 | exact bx3s yz1 _ _ 0 | exact box3 _ _ _ 0
    ·exact BelM.of (by assumption)
 case rest =>
  obtain ⟨b,rfl,hbV,hm,hW⟩:=hcut
  have HS0:=Lib.hid hs
  have HR0:=Lib.hid hr
  replace hs:=hs.below hW hs.lt
  replace hr:=hr.below hW hr.lt
  have hB0:=Lib.hid hB
  replace hB:=chain hB hW
  clear hS HX HY
  clear hL
  by_cases hok:okM F R ⟨x,y,0⟩
  ·have E:=Lib.hid (HOK.out 0 hpr hok)
   have HM:=Lib.hid (fun w=>rmValid_any F R x y 0 true (by simp [hok]) w)
   clear hok HOK HNO hv
   obtain ⟨s0,s1⟩:=id hs
   obtain ⟨⟨r0,r1,r2⟩,rf⟩:=id hr
   obtain ⟨⟨m0,m1,m2⟩,mf⟩:=id hm
   go_wp2_with fail
   refine (HM.out _).mono ?_
   rintro e w5 ⟨rfl,b5⟩
   clear s0 s1 r0 r1 r2 rf m0 m1 m2 mf
   replace hs:=hs.below b5 hs.lt
   replace hr:=hr.below b5 hr.lt
   replace hm:=hm.below b5 hm.lt
   replace hB:=chain hB b5
   clear b5
   obtain ⟨s0,s1⟩:=id hs
   obtain ⟨⟨r0,r1,r2⟩,rf⟩:=id hr
   obtain ⟨⟨m0,m1,m2⟩,mf⟩:=id hm
   obtain ⟨t0,t1,t2⟩:=st3 hr
   go_wp2
   refine bodyPost_ret (v:=mrdB (some ⟨x,y,0⟩)) ?_ rfl ⟨by rw [E.out],below3 hB (by simp) _ _ _⟩
   simp [results,Tryz.results90,go_sem,mrdB,t0,t1,t2]
  ·have E:=Lib.hid (HNO.out 0 hpr hok)
   have HM:=Lib.hid (fun w=>rmValid_any F R x y 0 false (by simp [hok]) w)
   clear hok HOK HNO hv
   obtain ⟨s0,s1⟩:=id hs
   obtain ⟨⟨r0,r1,r2⟩,rf⟩:=id hr
   obtain ⟨⟨m0,m1,m2⟩,mf⟩:=id hm
   go_wp2_with fail
   refine (HM.out _).mono ?_
   rintro e w5 ⟨rfl,b5⟩
   clear s0 s1 r0 r1 r2 rf m0 m1 m2 mf
   replace hs:=hs.below b5 hs.lt
   replace hr:=hr.below b5 hr.lt
   replace hm:=hm.below b5 hm.lt
   replace hB:=chain hB b5
   clear b5
   obtain ⟨s0,s1⟩:=id hs
   obtain ⟨⟨r0,r1,r2⟩,rf⟩:=id hr
   obtain ⟨⟨m0,m1,m2⟩,mf⟩:=id hm
   obtain ⟨t0,t1,t2⟩:=st3 hr
   go_wp2
   refine bodyPost_ret (v:=mrdB (none)) ?_ rfl ⟨by rw [E.out],below3 hB (by simp) _ _ _⟩
   simp [results,Tryz.results90,go_sem,mrdB,t0,t1,t2]
theorem rmParse_5 (F R:Int) (hv:vsz F R) (s:ByteArray) (L:List UInt8) (hL:s.data.toList=L) (hn:s.size=5) (w:World) :
  Calls Tryz.prog 90 #[.agg #[.int .i64 F,.int .i64 R],.string s] w fun e w'=>e=.returned (mrdB (rdM F R L))/\Below w.heap.size w w':=by
 have hsz:s.size=L.length:=by rw [<- hL,Array.length_toList];rfl
 have hs:=box2 w F R
 have hr:=box3 (w.alloc (.cells #[.int .i64 F,.int .i64 R] 23)) 0 0 0
 rw [World.size_alloc] at hr
 have b0:=box1 w (.cells #[.int .i64 F,.int .i64 R] 23)
 have b1:=box1 (w.alloc (.cells #[.int .i64 F,.int .i64 R] 23)) (.cells #[.int .i64 0,.int .i64 0,.int .i8 0] 30)
 replace hs:=hs.below b1 hs.lt
 have hB:=chain b0 b1
 clear b0 b1
 obtain ⟨c,hc⟩:∃ c,L.drop 4=[c]:=by
  have:(L.drop 4).length=1:=by rw [List.length_drop];omega
  match L.drop 4,this with
  | [c],_=>exact ⟨c,rfl⟩
 have e3:(s.extract 4 5).data.toList=[c]:=by
  rw [ext_take s L hL,hc]
  rfl
 have hpq:=pq_end c
 rw [<- hc] at hpq
 have HPQ:=Lib.hid hpq
 have HCMP:Hid (∀ k:Int,2<=k->k<=5->((((ByteArray.mk #[78,66,82,81]).extract (k - 2).toNat (k.toNat - 1)).toList == (s.extract 4 5).toList)=true ↔ piP c.toNat=k)):=Lib.hid (fun k h0 h1=>by
  rw [beq_iff_eq,ByteArray.toList_eq,ByteArray.toList_eq,e3]
  exact nbrq_is k h0 h1 c)
 clear hsz hpq e3
 have e1:(s.extract 0 2).data.toList=L.take 2:=by rw [ext_take s L hL];rfl
 have e2:(s.extract 2 4).data.toList=(L.drop 2).take 2:=ext_take s L hL 2 4
 have HX:=Lib.hid (fun w=>sqR_any F R hv (s.extract 0 2) _ e1 w)
 have HY:=Lib.hid (fun w=>sqR_any F R hv (s.extract 2 4) _ e2 w)
 have HOK:=Lib.hid (fun p h hok=>rdM_ok (F:=F) (R:=R) (L:=L) (p:=p) h hok)
 have HNO:=Lib.hid (fun p h hok=>rdM_nok (F:=F) (R:=R) (L:=L) (p:=p) hv h hok)
 clear e1 e2
 have hV2:((w.alloc (.cells #[.int .i64 F,.int .i64 R] 23)).alloc (.cells #[.int .i64 0,.int .i64 0,.int .i8 0] 30)).heap.size=w.heap.size+2:=by simp
 go_enter Tryz.func90,Tryz.ntmps90
 obtain ⟨s0,s1⟩:=id hs
 obtain ⟨⟨r0,r1,r2⟩,rf⟩:=id hr
 generalize hV:(w.alloc (.cells #[.int .i64 F,.int .i64 R] 23)).alloc (.cells #[.int .i64 0,.int .i64 0,.int .i8 0] 30)=V at *
 have hS:(V.cell? ⟨w.heap.size,0,none⟩=some (.int .i64 F)/\V.cell? ⟨w.heap.size,1,none⟩=some (.int .i64 R))/\BelM V V:=⟨⟨s0,s1⟩,Below.refl _ _⟩
 have HV2:=Lib.hid hV2
 clear s0 s1 r0 r1 r2 rf hV2
 generalize nmR (nmV F R (L.take 2))=x at *
 generalize nmR (nmV F R ((L.drop 2).take 2))=y at *
 go_upto_region 3 with fail
 go_cut [6] (fun s6 wx=>∃ b:Nat,s6=.pointer (some ⟨b,0,none⟩)/\V.heap.size<=b/\Bx3 wx b x y 0/\Below V.heap.size V wx)
 case first =>
  go_region_held3 (fun w'=>(w'.cell? ⟨w.heap.size,0,none⟩=some (.int .i64 F)/\w'.cell? ⟨w.heap.size,1,none⟩=some (.int .i64 R))/\BelM V w')
   (first | (simp only [BelM.mark];refine keepMs hS ?_ ?_ _ _ _ <;> first | (exact BelM.of (by assumption)) | (exact (BelM.of (by assumption)).drew) | exact Nat.le_refl _ | (have e1:=hc1.size;have e2:=hc2.size;simp at e1 e2 ⊢;omega)) | assumption | exact keepM (by assumption) (by assumption) | exact keepM (by assumption) ((Below.refl _ _).drew) | exact keepM (by assumption) (box1 _ _) | exact keepM (keepM (keepM hS ((Below.refl _ _).drew)) hc1) hc2 | exact keepM (keepM (keepM (keepM hS ((Below.refl _ _).drew)) hc1) hc2) (box1 _ _))
   (first
    | (go_at_call_has 136 (Value.string (s.extract 0 2));refine (HX.out _).mono ?_;rintro e u1 ⟨rfl,hc1⟩;try (first | (have yz1:=yb3d hc1) | (have yz1:=yb3 hc1));try (obtain ⟨⟨e0,e1,e2⟩,ef⟩:=id yz1))
    | (go_at_call_has 136 (Value.string (s.extract 2 4));refine (HY.out _).mono ?_;rintro e u2 ⟨rfl,hc2⟩;try (first | (have yz2:=yz1.below hc2 yz1.lt) | (have yz2:=yb3d hc2) | (have yz2:=yb3 hc2));try (obtain ⟨⟨e0,e1,e2⟩,ef⟩:=id yz2)))
  all_goals
   go_wp2_with fail
   (conv=>arg 2;simp [Act.put])
   go_meet
   case rel =>
    refine ⟨_,rfl,?_,?_,?_⟩
    ·first | exact Nat.le_refl _ | (have e1:=hc1.size;have e2:=hc2.size;simp at e1 e2 ⊢;omega)
    ·first | exact bx3s yz2 _ _ 0 | exact bx3s yz1 _ _ 0 | exact box3 _ _ _ 0
    ·exact BelM.of (by assumption)
 case rest =>
  obtain ⟨b,rfl,hbV,hm,hW⟩:=hcut
  have HS0:=Lib.hid hs
  have HR0:=Lib.hid hr
  replace hs:=hs.below hW hs.lt
  replace hr:=hr.below hW hr.lt
  have hB0:=Lib.hid hB
  replace hB:=chain hB hW
  clear hS HX HY
  clear hL
  obtain ⟨⟨m0,m1,m2⟩,mf⟩:=id hm
  go_wp2
  clear m0 m1 m2 mf
  go_loopw [7] (fun i wr=>∃ k:Int,2<=k/\k<=6/\i=.int .i8 k/\Bx3 wr b x y (pq k c)/\Below V.heap.size V wr) (fun i _=>(6 - intOf i).toNat)
  case atStart=>exact ⟨2,by omega,by omega,rfl,by rw [pq_two];exact hm,hW⟩
  case round =>
   clear hs hr hm hW hB
   obtain ⟨k,hk0,hk1,rfl,hm,hW⟩:=hrel
   obtain ⟨⟨m0,m1,m2⟩,mf⟩:=id hm
   by_cases hle:k<=5
   ·have hcm:=HCMP.out k hk0 hle
    by_cases he:piP c.toNat=k
    ·have hbt:=hcm.2 he
     have E1:=Lib.hid (pq_yes hk0 hle he)
     have HM:=Lib.hid hm
     have HW:=Lib.hid hW
     clear hcm he hm hW
     generalize pq k c=q at *
     go_wp2_with fail
     go_quiet (fail)
     go_wp2
     go_roundw
     case rel=>exact ⟨k+1,by omega,by omega,by go_num,by rw [E1.out];exact HM.out.setp k,(drawn HW.out _).setCell (p:=⟨_,_,none⟩) hbV _⟩
     case measure=>simp [intOf];omega
    ·have hbt:(((ByteArray.mk #[78,66,82,81]).extract (k - 2).toNat (k.toNat - 1)).toList == (s.extract 4 5).toList)=false:=by
      cases hh:(((ByteArray.mk #[78,66,82,81]).extract (k - 2).toNat (k.toNat - 1)).toList == (s.extract 4 5).toList) with
      | false=>rfl
      | true=>exact absurd (hcm.1 hh) he
     have E1:=Lib.hid (pq_no (k:=k) he)
     have HM:=Lib.hid hm
     have HW:=Lib.hid hW
     clear hcm he hm hW
     go_wp2_with fail
     go_quiet (fail)
     go_wp2
     go_roundw
     case rel=>exact ⟨k+1,by omega,by omega,by go_num,by rw [E1.out];exact HM.out,drawn HW.out _⟩
     case measure=>simp [intOf];omega
   ·obtain rfl:k=6:=by omega
    have hs:=HS0.out.below hW HS0.out.lt
    have hr:=HR0.out.below hW HR0.out.lt
    have hB:=chain hB0.out hW
    clear HCMP hW HS0 HR0 hB0 hle hk0 hk1 m0 m1 m2 mf
    by_cases hq:pq 6 c=0
    ·have E:Hid (rdM F R L=none):=Lib.hid (rdM_nopr (by rw [HPQ.out,if_pos hq]))
     rw [hq] at hm
     clear hq HOK HNO hv HPQ
     obtain ⟨s0,s1⟩:=id hs
     obtain ⟨⟨r0,r1,r2⟩,rf⟩:=id hr
     obtain ⟨⟨m0,m1,m2⟩,mf⟩:=id hm
     obtain ⟨t0,t1,t2⟩:=st3 hr
     go_wp2
     refine bodyPost_ret (v:=mrdB (none)) ?_ rfl ⟨by rw [E.out],below3 hB (by simp) _ _ _⟩
     simp [results,Tryz.results90,go_sem,mrdB,t0,t1,t2]
    ·have hpr:prV (L.drop 4)=some (pq 6 c):=by rw [HPQ.out,if_neg hq]
     have HPR:=Lib.hid hpr
     clear hpr HPQ
     generalize pq 6 c=p at *
     have hq0:(p == 0)=false:=beq_eq_false_iff_ne.2 hq
     clear hq
     by_cases hok:okM F R ⟨x,y,p⟩
     ·have E:=Lib.hid (HOK.out p HPR.out hok)
      have HM:=Lib.hid (fun w=>rmValid_any F R x y p true (by simp [hok]) w)
      clear hok HOK HNO hv
      obtain ⟨s0,s1⟩:=id hs
      obtain ⟨⟨r0,r1,r2⟩,rf⟩:=id hr
      obtain ⟨⟨m0,m1,m2⟩,mf⟩:=id hm
      go_wp2_with fail
      refine (HM.out _).mono ?_
      rintro e w5 ⟨rfl,b5⟩
      clear s0 s1 r0 r1 r2 rf m0 m1 m2 mf
      replace hs:=hs.below b5 hs.lt
      replace hr:=hr.below b5 hr.lt
      replace hm:=hm.below b5 hm.lt
      replace hB:=chain hB b5
      clear b5
      obtain ⟨s0,s1⟩:=id hs
      obtain ⟨⟨r0,r1,r2⟩,rf⟩:=id hr
      obtain ⟨⟨m0,m1,m2⟩,mf⟩:=id hm
      obtain ⟨t0,t1,t2⟩:=st3 hr
      go_wp2
      refine bodyPost_ret (v:=mrdB (some ⟨x,y,p⟩)) ?_ rfl ⟨by rw [E.out],below3 hB (by simp) _ _ _⟩
      simp [results,Tryz.results90,go_sem,mrdB,t0,t1,t2]
     ·have E:=Lib.hid (HNO.out p HPR.out hok)
      have HM:=Lib.hid (fun w=>rmValid_any F R x y p false (by simp [hok]) w)
      clear hok HOK HNO hv
      obtain ⟨s0,s1⟩:=id hs
      obtain ⟨⟨r0,r1,r2⟩,rf⟩:=id hr
      obtain ⟨⟨m0,m1,m2⟩,mf⟩:=id hm
      go_wp2_with fail
      refine (HM.out _).mono ?_
      rintro e w5 ⟨rfl,b5⟩
      clear s0 s1 r0 r1 r2 rf m0 m1 m2 mf
      replace hs:=hs.below b5 hs.lt
      replace hr:=hr.below b5 hr.lt
      replace hm:=hm.below b5 hm.lt
      replace hB:=chain hB b5
      clear b5
      obtain ⟨s0,s1⟩:=id hs
      obtain ⟨⟨r0,r1,r2⟩,rf⟩:=id hr
      obtain ⟨⟨m0,m1,m2⟩,mf⟩:=id hm
      obtain ⟨t0,t1,t2⟩:=st3 hr
      go_wp2
      refine bodyPost_ret (v:=mrdB (none)) ?_ rfl ⟨by rw [E.out],below3 hB (by simp) _ _ _⟩
      simp [results,Tryz.results90,go_sem,mrdB,t0,t1,t2]
theorem rmParse_any (F R:Int) (hv:vsz F R) (s:ByteArray) (L:List UInt8) (hL:s.data.toList=L) (w:World) :
  Calls Tryz.prog 90 #[.agg #[.int .i64 F,.int .i64 R],.string s] w fun e w'=>e=.returned (mrdB (rdM F R L))/\Below w.heap.size w w':=by
 by_cases h4:s.size=4
 ·exact rmParse_4 F R hv s L hL h4 w
 ·by_cases h5:s.size=5
  ·exact rmParse_5 F R hv s L hL h5 w
  ·exact rmParse_len F R hv s L hL (by omega) w
end Go.Proofs.YtbccbgonlmkpkaaGreatDoor
namespace Go.Proofs.YtbccbgonlmkpkaaGreatDoor
open Go.RowKit Go.Sort
theorem own_lowv {W:World} {B B' e sz n:Nat} {v:Value} {xs:List Value} (ho:W.ownsRow B e sz v n xs) (h:B'<=B):W.ownsRow B' e sz v n xs:=by
 obtain ⟨hl,hh | ⟨g2,cap2,cur,hv,hg,hh,hr⟩⟩:=ho
 ·exact ⟨hl,.inl hh⟩
 ·exact ⟨hl,.inr ⟨g2,cap2,cur,hv,Nat.le_trans h hg,hh,hr⟩⟩
theorem after_c:AftC:=fun F R l A c bl ca ps ha fu x y t ow fo b hm hca w hT hA hX=>tAft_any F R l A c bl ca ps ha fu x y t ow fo b hm hca w hT hA hX
end Go.Proofs.YtbccbgonlmkpkaaGreatDoor
namespace Go.Proofs.YtbccbgonlmkpkaaGreatDoor
open Go.RowKit Go.Sort
theorem small9_yes (F R:Int) (l:List Int) (A:Option Addr) (c:Nat) (bl:Bool) (ca:Nat) (ps ha fu:Int) (h:l.length<=64) (w:World) :
  Calls Tryz.prog 26 #[.agg #[.int .i64 F,.int .i64 R,.slice A l.length c,.bool bl,.int .u8 (ca:Int),.int .i64 ps,.int .i64 ha,.int .i64 fu]] w fun e w'=>e=.returned (.bool true)/\Below w.heap.size w w':=by
 have h2:(l.length:Int)<=64:=by omega
 have hP:=Bxs.new w [.int .i64 F,.int .i64 R,.slice A l.length c,.bool bl,.int .u8 (ca:Int),.int .i64 ps,.int .i64 ha,.int .i64 fu] 26
 have p2:=hP.c 2 rfl
 clear hP
 go_enter Tryz.func26,Tryz.ntmps26
 go_wp2
 go_ret
 exact ⟨rfl,box1 _ _⟩
theorem small9_no (F R:Int) (l:List Int) (A:Option Addr) (c:Nat) (bl:Bool) (ca:Nat) (ps ha fu:Int) (h:¬ l.length<=64) (w:World) :
  Calls Tryz.prog 26 #[.agg #[.int .i64 F,.int .i64 R,.slice A l.length c,.bool bl,.int .u8 (ca:Int),.int .i64 ps,.int .i64 ha,.int .i64 fu]] w fun e w'=>e=.returned (.bool false)/\Below w.heap.size w w':=by
 have h2:¬ (l.length:Int)<=64:=by omega
 have hP:=Bxs.new w [.int .i64 F,.int .i64 R,.slice A l.length c,.bool bl,.int .u8 (ca:Int),.int .i64 ps,.int .i64 ha,.int .i64 fu] 26
 have p2:=hP.c 2 rfl
 clear hP
 go_enter Tryz.func26,Tryz.ntmps26
 go_wp2
 go_ret
 exact ⟨rfl,box1 _ _⟩
theorem pos9_any (s:ByteArray) (hs:s.size<=200) (q:Po) (hq:rdPo s.data.toList=some q) (h0:0<q.l.length) (w:World) :
  Calls Tryz.prog 74 #[.string s] w (NewP w q.F q.R q.l q.bl q.ca q.ps q.ha q.fu):=by
 have HPA:=Lib.hid (fun w=>rParseP_any s hs w)
 rw [hq] at HPA
 have hR:=Bxs.new w [.int .i64 0,.int .i64 0,.slice none 0 0,.bool false,.int .u8 0,.int .i64 0,.int .i64 0,.int .i64 0] 26
 have HR0:=Lib.hid hR
 have hB:=box1 w (.cells #[.int .i64 0,.int .i64 0,.slice none 0 0,.bool false,.int .u8 0,.int .i64 0,.int .i64 0,.int .i64 0] 26)
 have HB0:Hid (Bw w (w.alloc (.cells #[.int .i64 0,.int .i64 0,.slice none 0 0,.bool false,.int .u8 0,.int .i64 0,.int .i64 0,.int .i64 0] 26))):=Lib.hid hB
 clear hR hB hq
 go_enter Tryz.func74,Tryz.ntmps74
 go_wp2_with fail
 generalize w.alloc (.cells #[.int .i64 0,.int .i64 0,.slice none 0 0,.bool false,.int .u8 0,.int .i64 0,.int .i64 0,.int .i64 0] 26)=V at *
 generalize hg:w.heap.size=gz at *
 have i4:w.heap.size<=gz:=by omega
 clear hg
 refine (HPA.out _).mono ?_
 rintro e w1 ⟨v,rfl,hrow,hq⟩
 obtain ⟨r,cap,rfl,hrd,hr0,hr1,hcp⟩:=own_form hrow h0 (n:=0)
 clear hrd hr0 hr1 hcp
 have hvr:∀ b,(Value.slice (some ⟨r,0,none⟩) q.l.length cap).ownBlock=some b->b≠gz:=fun b hb=>Nat.ne_of_gt (Nat.lt_of_lt_of_le HR0.out.lt (own_blt hrow hb).1)
 have hwV:w.heap.size<=V.heap.size:=HB0.out.size
 have HR_1:=Lib.hid (HR0.out.below hq HR0.out.lt)
 have HB_1:Hid (Bw w _):=Lib.hid (chain HB0.out hq)
 clear hq HR0 HB0 HPA
 have HN:=Lib.hid (Bxs.new w1 [.int .i64 q.F,.int .i64 q.R,.slice (some ⟨r,0,none⟩) q.l.length cap,.bool q.bl,.int .u8 (q.ca:Int),.int .i64 q.ps,.int .i64 q.ha,.int .i64 q.fu] 26)
 have HO:=Lib.hid hrow
 have HVR:=Lib.hid hvr
 clear hrow hvr
 go_upto_region 2 with fail
 have hq:=box1 w1 (.cells #[.int .i64 q.F,.int .i64 q.R,.slice (some ⟨r,0,none⟩) q.l.length cap,.bool q.bl,.int .u8 (q.ca:Int),.int .i64 q.ps,.int .i64 q.ha,.int .i64 q.fu] 26)
 have HO1:=Lib.hid (own_below HO.out hq)
 have HR_2:=Lib.hid (HR_1.out.below hq HR_1.out.lt)
 have HB_2:Hid (Bw w _):=Lib.hid (chain HB_1.out hq)
 clear hq HR_1 HB_1 HO
 generalize w1.alloc (.cells #[.int .i64 q.F,.int .i64 q.R,.slice (some ⟨r,0,none⟩) q.l.length cap,.bool q.bl,.int .u8 (q.ca:Int),.int .i64 q.ps,.int .i64 q.ha,.int .i64 q.fu] 26)=w2 at *
 generalize w1.heap.size=g2 at *
 obtain ⟨p0,p1,p2,p3,p4,p5,p6,p7⟩:=HN.out.h8
 obtain ⟨r0,r1,r2,r3,r4,r5,r6,r7⟩:=HR_2.out.h8
 have rf:=HR_2.out.2
 repeat (first | go_values | go_skip | go_guarded | go_step | go_upon | go_in)
 apply bodyPost_ret (v:=.agg #[.int .i64 q.F,.int .i64 q.R,.slice (some ⟨r,0,none⟩) q.l.length cap,.bool q.bl,.int .u8 (q.ca:Int),.int .i64 q.ps,.int .i64 q.ha,.int .i64 q.fu])
 rotate_left
 ·rfl
 ·refine ⟨.slice (some ⟨r,0,none⟩) q.l.length cap,rfl,?_,bw8 HB_2.out i4 _ _ _ _ _ _ _ _⟩
  exact own_keep (own_lowv HO1.out hwV) (fun b hb=>((((((((((But.refl gz w2).setCell 0 _).setCell 1 _).setCell 2 _).setCell 3 _).setCell 4 _).setCell 5 _).setCell 6 _).setCell 7 _)).block b (HVR.out b hb))
 have hz:=HR_2.out.put8 (.int .i64 q.F) (.int .i64 q.R) (.slice (some ⟨r,0,none⟩) q.l.length cap) (.bool q.bl) (.int .u8 (q.ca:Int)) (.int .i64 q.ps) (.int .i64 q.ha) (.int .i64 q.fu)
 clear r0 r1 r2 r3 r4 r5 r6 r7 rf p0 p1 p2 p3 p4 p5 p6 p7
 obtain ⟨r0,r1,r2,r3,r4,r5,r6,r7⟩:=hz.h8
 clear hz
 simp [results,Tryz.results74,go_sem,r0,r1,r2,r3,r4,r5,r6,r7]
theorem mov9_any (F R:Int) (l:List Int) (A:Option Addr) (c:Nat) (bl:Bool) (ca:Nat) (ps ha fu:Int) (s:ByteArray) (m:Mv) (hv:vsz F R) (hm:rdM F R s.data.toList=some m) (w:World) :
  Calls Tryz.prog 76 #[.agg #[.int .i64 F,.int .i64 R,.slice A l.length c,.bool bl,.int .u8 (ca:Int),.int .i64 ps,.int .i64 ha,.int .i64 fu],.string s] w fun e w'=>e=.returned (.agg #[.int .i64 m.a,.int .i64 m.b,.int .i8 m.p])/\Below w.heap.size w w':=by
 have HPA:=Lib.hid (fun w=>rmParse_any F R hv s s.data.toList rfl w)
 rw [hm] at HPA
 unfold mrdB at HPA
 simp only [Option.map_some,Option.getD_some,Option.isSome_some] at HPA
 have hP:=Bxs.new w [.int .i64 F,.int .i64 R,.slice A l.length c,.bool bl,.int .u8 (ca:Int),.int .i64 ps,.int .i64 ha,.int .i64 fu] 26
 have hR:=Bxs.new (w.alloc (.cells #[.int .i64 F,.int .i64 R,.slice A l.length c,.bool bl,.int .u8 (ca:Int),.int .i64 ps,.int .i64 ha,.int .i64 fu] 26)) [.int .i64 0,.int .i64 0,.int .i8 0] 30
 rw [World.size_alloc] at hR
 have B2:=box1 (w.alloc (.cells #[.int .i64 F,.int .i64 R,.slice A l.length c,.bool bl,.int .u8 (ca:Int),.int .i64 ps,.int .i64 ha,.int .i64 fu] 26)) (.cells #[.int .i64 0,.int .i64 0,.int .i8 0] 30)
 have HP0:=Lib.hid (hP.below B2 hP.lt)
 have HR0:=Lib.hid hR
 have hB:=chain (box1 w (.cells #[.int .i64 F,.int .i64 R,.slice A l.length c,.bool bl,.int .u8 (ca:Int),.int .i64 ps,.int .i64 ha,.int .i64 fu] 26)) B2
 have HB0:Hid (Bw w ((w.alloc (.cells #[.int .i64 F,.int .i64 R,.slice A l.length c,.bool bl,.int .u8 (ca:Int),.int .i64 ps,.int .i64 ha,.int .i64 fu] 26)).alloc (.cells #[.int .i64 0,.int .i64 0,.int .i8 0] 30))):=Lib.hid hB
 clear hP hR hB B2 hm
 go_enter Tryz.func76,Tryz.ntmps76
 go_upto_region 1 with fail
 generalize (w.alloc (.cells #[.int .i64 F,.int .i64 R,.slice A l.length c,.bool bl,.int .u8 (ca:Int),.int .i64 ps,.int .i64 ha,.int .i64 fu] 26)).alloc (.cells #[.int .i64 0,.int .i64 0,.int .i8 0] 30)=V at *
 generalize hg:w.heap.size+1=gz at *
 have i4:w.heap.size<=gz:=by omega
 clear hg
 obtain ⟨p0,p1⟩:=HP0.out.h2
 go_wp2_with fail
 refine (HPA.out _).mono ?_
 rintro e w1 ⟨rfl,hq⟩
 have HR_1:=Lib.hid (HR0.out.below hq HR0.out.lt)
 have HB_1:Hid (Bw w _):=Lib.hid (chain HB0.out hq)
 clear hq HR0 HB0 HPA p0 p1 HP0
 have HN:=Lib.hid (Bxs.new w1 [.int .i64 m.a,.int .i64 m.b,.int .i8 m.p] 30)
 go_upto_region 2 with fail
 have hq:=box1 w1 (.cells #[.int .i64 m.a,.int .i64 m.b,.int .i8 m.p] 30)
 have HR_2:=Lib.hid (HR_1.out.below hq HR_1.out.lt)
 have HB_2:Hid (Bw w _):=Lib.hid (chain HB_1.out hq)
 clear hq HR_1 HB_1
 generalize w1.alloc (.cells #[.int .i64 m.a,.int .i64 m.b,.int .i8 m.p] 30)=w2 at *
 generalize w1.heap.size=g2 at *
 obtain ⟨p0,p1,p2⟩:=HN.out.h3
 obtain ⟨r0,r1,r2⟩:=HR_2.out.h3
 have rf:=HR_2.out.2
 repeat (first | go_values | go_skip | go_guarded | go_step | go_upon | go_in)
 apply bodyPost_ret (v:=.agg #[.int .i64 m.a,.int .i64 m.b,.int .i8 m.p])
 rotate_left
 ·rfl
 ·exact ⟨rfl,bw3 HB_2.out i4 _ _ _⟩
 have hz:=HR_2.out.put3 (.int .i64 m.a) (.int .i64 m.b) (.int .i8 m.p)
 clear r0 r1 r2 rf p0 p1 p2
 obtain ⟨r0,r1,r2⟩:=hz.h3
 clear hz
 simp [results,Tryz.results76,go_sem,r0,r1,r2]
end Go.Proofs.YtbccbgonlmkpkaaGreatDoor
