/- What the theorem needs, piece Zb28. -/
import Derived.Test.YtbccbgonlmkpkaaGreatDoorZb20
set_option linter.unusedSimpArgs false
set_option linter.unusedVariables false
set_option maxRecDepth 100000
set_option maxHeartbeats 16000000
namespace Go.Proofs.YtbccbgonlmkpkaaGreatDoor
open Go.RowKit Go.Sort
theorem vPro_any (p:Int) (b:Bool) (hb:b=true ↔ okPr p) (w:World) :
  Calls Tryz.prog 105 #[.int .i8 p] w fun e w'=>e=.returned (.bool b)/\w=w':=by
 unfold okPr at hb
 by_cases h0:p=0
 ·have:=b_true hb (.inl h0)
  subst this h0
  clear hb
  go_enter Tryz.func105,Tryz.ntmps105
  go_wp2
  go_ret
  exact ⟨rfl,rfl⟩
 ·have hz:(p == 0)=false:=beq_eq_false_iff_ne.2 h0
  by_cases h2:2<=p
  ·by_cases h5:p<=5
   ·have:=b_true hb (.inr ⟨h2,h5⟩)
    subst this
    clear hb
    go_enter Tryz.func105,Tryz.ntmps105
    go_wp2
    go_ret
    exact ⟨rfl,rfl⟩
   ·have:=b_false hb (by omega)
    subst this
    have hd:decide (p<=5)=false:=decide_eq_false h5
    clear hb
    go_enter Tryz.func105,Tryz.ntmps105
    go_wp2
    go_ret
    exact ⟨rfl,rfl⟩
  ·have:=b_false hb (by omega)
   subst this
   have hd:decide (2<=p)=false:=decide_eq_false h2
   clear hb
   go_enter Tryz.func105,Tryz.ntmps105
   go_wp2
   go_ret
   exact ⟨rfl,rfl⟩
theorem mvValid_any (F R x y p:Int) (b:Bool) (hb:b=true ↔ okM F R ⟨x,y,p⟩) (w:World) :
  Calls Tryz.prog 46 #[.agg #[.int .i64 F,.int .i64 R],.agg #[.int .i64 x,.int .i64 y,.int .i8 p]] w fun e w'=>e=.returned (.bool b)/\Below w.heap.size w w':=by
 have hs:=box2 w F R
 have hm:=box3 (w.alloc (.cells #[.int .i64 F,.int .i64 R] 23)) x y p
 rw [World.size_alloc] at hm
 have b0:=box1 w (.cells #[.int .i64 F,.int .i64 R] 23)
 have b1:=box1 (w.alloc (.cells #[.int .i64 F,.int .i64 R] 23)) (.cells #[.int .i64 x,.int .i64 y,.int .i8 p] 30)
 replace hs:=hs.below b1 hs.lt
 have hB:=chain b0 b1
 clear b0 b1
 unfold okM at hb
 simp only at hb
 go_enter Tryz.func46,Tryz.ntmps46
 by_cases h1:vat F R x
 ·by_cases h2:vat F R y
  ·by_cases h3:x=y
   ·have:=b_false hb (fun h=>h.2.2.1 h3)
    subst this
    have HX:=Lib.hid (fun w=>valid_yes F R x h1 w)
    have HY:=Lib.hid (fun w=>valid_yes F R y h2 w)
    have hne:(x != y)=false:=by simp [h3]
    clear hb h1 h2 h3
    obtain ⟨s0,s1⟩:=id hs
    obtain ⟨⟨m0,m1,m2⟩,mf⟩:=id hm
    go_wp2_with fail
    refine (HX.out _).mono ?_
    rintro e w1 ⟨rfl,b1⟩
    clear s0 s1 m0 m1 m2 mf
    replace hs:=hs.below b1 hs.lt
    replace hm:=hm.below b1 hm.lt
    replace hB:=chain hB b1
    clear b1
    obtain ⟨s0,s1⟩:=id hs
    obtain ⟨⟨m0,m1,m2⟩,mf⟩:=id hm
    go_wp2_with fail
    refine (HY.out _).mono ?_
    rintro e w2 ⟨rfl,b2⟩
    clear s0 s1 m0 m1 m2 mf
    replace hs:=hs.below b2 hs.lt
    replace hm:=hm.below b2 hm.lt
    replace hB:=chain hB b2
    clear b2
    obtain ⟨s0,s1⟩:=id hs
    obtain ⟨⟨m0,m1,m2⟩,mf⟩:=id hm
    go_wp2
    go_ret
    exact ⟨rfl,hB⟩
   ·have HX:=Lib.hid (fun w=>valid_yes F R x h1 w)
    have HY:=Lib.hid (fun w=>valid_yes F R y h2 w)
    have HP:=Lib.hid (fun w=>vPro_any p b (hb.trans ⟨fun h=>h.2.2.2,fun h=>⟨h1,h2,h3,h⟩⟩) w)
    have hne:(x != y)=true:=by simp [h3]
    clear hb h1 h2 h3
    obtain ⟨s0,s1⟩:=id hs
    obtain ⟨⟨m0,m1,m2⟩,mf⟩:=id hm
    go_wp2_with fail
    refine (HX.out _).mono ?_
    rintro e w1 ⟨rfl,b1⟩
    clear s0 s1 m0 m1 m2 mf
    replace hs:=hs.below b1 hs.lt
    replace hm:=hm.below b1 hm.lt
    replace hB:=chain hB b1
    clear b1
    obtain ⟨s0,s1⟩:=id hs
    obtain ⟨⟨m0,m1,m2⟩,mf⟩:=id hm
    go_wp2_with fail
    refine (HY.out _).mono ?_
    rintro e w2 ⟨rfl,b2⟩
    clear s0 s1 m0 m1 m2 mf
    replace hs:=hs.below b2 hs.lt
    replace hm:=hm.below b2 hm.lt
    replace hB:=chain hB b2
    clear b2
    obtain ⟨s0,s1⟩:=id hs
    obtain ⟨⟨m0,m1,m2⟩,mf⟩:=id hm
    go_wp2_with fail
    refine (HP.out _).mono ?_
    rintro e w3 ⟨rfl,rfl⟩
    go_wp2
    go_ret
    exact ⟨rfl,hB⟩
  ·have:=b_false hb (fun h=>h2 h.2.1)
   subst this
   have HX:=Lib.hid (fun w=>valid_yes F R x h1 w)
   have HY:=Lib.hid (fun w=>valid_no F R y h2 w)
   clear hb h1 h2
   obtain ⟨s0,s1⟩:=id hs
   obtain ⟨⟨m0,m1,m2⟩,mf⟩:=id hm
   go_wp2_with fail
   refine (HX.out _).mono ?_
   rintro e w1 ⟨rfl,b1⟩
   clear s0 s1 m0 m1 m2 mf
   replace hs:=hs.below b1 hs.lt
   replace hm:=hm.below b1 hm.lt
   replace hB:=chain hB b1
   clear b1
   obtain ⟨s0,s1⟩:=id hs
   obtain ⟨⟨m0,m1,m2⟩,mf⟩:=id hm
   go_wp2_with fail
   refine (HY.out _).mono ?_
   rintro e w2 ⟨rfl,b2⟩
   go_wp2
   go_ret
   exact ⟨rfl,chain hB b2⟩
 ·have:=b_false hb (fun h=>h1 h.1)
  subst this
  have HX:=Lib.hid (fun w=>valid_no F R x h1 w)
  clear hb h1
  obtain ⟨s0,s1⟩:=id hs
  obtain ⟨⟨m0,m1,m2⟩,mf⟩:=id hm
  go_wp2_with fail
  refine (HX.out _).mono ?_
  rintro e w1 ⟨rfl,b1⟩
  go_wp2
  go_ret
  exact ⟨rfl,chain hB b1⟩
end Go.Proofs.YtbccbgonlmkpkaaGreatDoor
