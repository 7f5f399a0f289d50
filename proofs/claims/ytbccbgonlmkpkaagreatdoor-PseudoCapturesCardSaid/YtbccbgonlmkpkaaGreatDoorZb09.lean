/- What the theorem needs, piece Zb09. -/
import Derived.Test.YtbccbgonlmkpkaaGreatDoorZb07
import Derived.Test.YtbccbgonlmkpkaaGreatDoorZb08
import Derived.Shelf.RegionOpen
import Derived.Sort.BigQuietIn
import Derived.Lib.QuietBelow
import Derived.Test.YtbccbgonlmkpkaaGreatDoorZb05
set_option linter.unusedSimpArgs false
set_option linter.unusedVariables false
set_option maxRecDepth 100000
set_option maxHeartbeats 16000000
namespace Go.Proofs.YtbccbgonlmkpkaaGreatDoor
open Go.RowKit
structure But (g:Nat) (W W':World):Prop where
 os:W'.os=W.os
 tape:W'.tape=W.tape
 output:W'.output=W.output
 size:W'.heap.size=W.heap.size
 block:∀ k,k≠g->W'.heap[k]?=W.heap[k]?
theorem But.refl (g:Nat) (W:World):But g W W:=⟨rfl,rfl,rfl,rfl,fun _ _=>rfl⟩
theorem But.setCell {g:Nat} {W W':World} (h:But g W W') (o:Nat) (v:Value):But g W (W'.setCell ⟨g,o,none⟩ v):=by
 have hg:=grownBy_setCell' W' g v
 refine ⟨h.os,h.tape,h.output,by simpa using h.size,fun k hk=>?_⟩
 by_cases hl:k<W'.heap.size
 ·have:(W'.setCell ⟨g,o,none⟩ v).heap[k]?=W'.heap[k]?:=by
   have hb:Below g W' (W'.setCell ⟨g,o,none⟩ v):=(Below.refl g W').setCell (p:=⟨g,o,none⟩) (Nat.le_refl _) v
   by_cases hkg:k<g
   ·exact hb.block k hkg
   ·simp [World.setCell,Array.getElem?_modify,Ne.symm hk]
  exact this.trans (h.block k hk)
 ·rw [Array.getElem?_eq_none (by simpa using hl),<- h.block k hk,Array.getElem?_eq_none (by omega)]
theorem But.drewN {g:Nat} {W W':World} (h:But g W W') (n:Nat):But g W (W'.drewN n):=⟨h.os,h.tape,h.output,h.size,h.block⟩
theorem But.drew {g:Nat} {W W':World} (h:But g W W'):But g W W'.drew:=⟨h.os,h.tape,h.output,h.size,h.block⟩
theorem But.cell {g:Nat} {W W':World} (h:But g W W') {a:Addr} {v:Value} (hc:W.cell? a=some v) (hne:a.block≠g):W'.cell? a=some v:=(World.cell?_of_block (h.block _ hne)).trans hc
theorem But.rd {g:Nat} {W W':World} (h:But g W W') {A:Option Addr} {l:List Int} {c:Nat} (hA:RdP W W.heap.size A l c) (hne:∀ ad,A=some ad->ad.block≠g):RdP W' W'.heap.size A l c:=⟨hA.1,fun hl=>by
 obtain ⟨ad,e,h1,hc⟩:=hA.2 hl
 exact ⟨ad,e,by rw [h.size];exact h1,fun j u hu=>h.cell (hc j u hu) (by rw [blk_add];exact hne ad e)⟩⟩
theorem But.below {g B:Nat} {a W W':World} (h:But g W W') (hb:Below B a W) (hg:B<=g):Below B a W' :=
 ⟨h.os.trans hb.os,h.tape.trans hb.tape,h.output.trans hb.output,by rw [h.size];exact hb.size,fun k hk=>(h.block k (by omega)).trans (hb.block k hk)⟩
end Go.Proofs.YtbccbgonlmkpkaaGreatDoor
namespace Go.Proofs.YtbccbgonlmkpkaaGreatDoor
open Go.RowKit
theorem same_as (F R F' R':Int) (l l':List Int) (A A':Option Addr) (c c':Nat) (t:Bool) (h:t=true ↔ (F=F'/\R=R'/\l=l')) (w:World) (hlen:l.length<=100000) (hA:RdP w w.heap.size A l c) (hA':RdP w w.heap.size A' l' c') :
  Calls Tryz.prog 127 #[.agg #[.int .i64 F,.int .i64 R,.slice A l.length c],.agg #[.int .i64 F',.int .i64 R',.slice A' l'.length c']] w fun e w'=>e=.returned (.bool t)/\Below w.heap.size w w':=by
 cases t with
 | true =>
  obtain ⟨rfl,rfl,rfl⟩:=h.1 rfl
  exact same_yes F R l A A' c c' w hlen hA hA'
 | false=>exact same_no F R F' R' l l' A A' c c' w hlen hA hA' (fun hv=>by cases h.2 hv)
def Row (w:World) (B e g c n:Nat):Prop:=∃ xs:List Int,xs.length=n/\w.ownsRow B e 1 (.slice (some ⟨g,0,none⟩) n c) n (vpcs xs)
theorem Row.at_ {w:World} {B e g c n k:Nat} (h:Row w B e g c n) (hk:k<n):(∃ x,w.cell? ⟨g,k,none⟩=some (.int .i8 x))/\w.frozen? ⟨g,k,none⟩=false:=by
 obtain ⟨xs,hl,ho⟩:=h
 refine ⟨⟨xs[k]?.getD 0,?_⟩,ho.frozenAt k⟩
 rw [ho.cellAt k (by omega)]
 simp [vpcs,vpc,List.getElem?_eq_getElem (show k<xs.length by omega)]
theorem Row.stored {w:World} {B e g c n:Nat} (h:Row w B e g c n) (k:Nat) (x:Int):Row (w.setCell ⟨g,k,none⟩ (.int .i8 x)) B e g c n:=by
 obtain ⟨xs,hl,ho⟩:=h
 have h2:=ho.stored k (.int .i8 x)
 rw [set_vpcs] at h2
 exact ⟨xs.set k x,by simp [hl],h2.1⟩
theorem Row.drewN {w:World} {B e g c n:Nat} (h:Row w B e g c n) (m:Nat):Row (w.drewN m) B e g c n:=by
 obtain ⟨xs,hl,ho⟩:=h
 exact ⟨xs,hl,ho⟩
theorem Row.drew {w:World} {B e g c n:Nat} (h:Row w B e g c n):Row w.drew B e g c n:=by
 obtain ⟨xs,hl,ho⟩:=h
 exact ⟨xs,hl,ho.drew⟩
theorem Row.of {w:World} {B e:Nat} {A:Option Addr} {l:List Int} {c:Nat} (h:w.ownsRow B e 1 (.slice A l.length c) l.length (vpcs l)) (hl:0<l.length):∃ g,A=some ⟨g,0,none⟩/\B<=g/\g<w.heap.size/\Row w B e g c l.length:=by
 obtain ⟨g,cap,hv⟩:=Joins.ownsRow_form h hl
 injection hv with h1 h2 h3
 subst h1
 subst h3
 obtain ⟨hg0,hg1⟩:=World.ownsRow.lt h g rfl
 exact ⟨g,rfl,hg0,hg1,l,rfl,h⟩
theorem RdP.lt {w:World} {B:Nat} {A:Option Addr} {l:List Int} {c:Nat} (h:RdP w B A l c) (hl:0<l.length):∀ ad,A=some ad->ad.block<B:=by
 intro a' ha'
 obtain ⟨ad,e,hb,_⟩:=h.2 hl
 rw [e] at ha'
 injection ha' with ha'
 subst ha'
 exact hb
end Go.Proofs.YtbccbgonlmkpkaaGreatDoor
namespace Go.Proofs.YtbccbgonlmkpkaaGreatDoor
open Go.RowKit Go.Sort
def NewP (w:World) (F R:Int) (l:List Int) (bl:Bool) (ca:Nat) (ps ha fu:Int) (e:Ending) (w':World):Prop :=
 ∃ v,e=.returned (.agg #[.int .i64 F,.int .i64 R,v,.bool bl,.int .u8 (ca:Int),.int .i64 ps,.int .i64 ha,.int .i64 fu])/\w'.ownsRow w.heap.size 28 1 v l.length (vpcs l)/\Below w.heap.size w w'
def bdS (F R:Int) (l:List Int) (F2 R2:Int) (l2:List Int):Bool:=decide (F=F2/\R=R2/\l=l2)
def poSm (p q:Po):Bool:=bdS p.F p.R p.l q.F q.R q.l && (p.bl == q.bl && (((p.ca:Int) == (q.ca:Int)) && p.ps == q.ps))
def poEq (p q:Po):Bool:=poSm p q && (p.ha == q.ha && p.fu == q.fu)
theorem pPlace_any (F R:Int) (l:List Int) (A:Option Addr) (c:Nat) (bl:Bool) (ca:Nat) (ps ha fu:Int) (w:World) :
  Calls Tryz.prog 96 #[.agg #[.int .i64 F,.int .i64 R,.slice A l.length c,.bool bl,.int .u8 (ca:Int),.int .i64 ps,.int .i64 ha,.int .i64 fu]] w fun e w'=>e=.returned (.agg #[.int .i64 F,.int .i64 R,.slice A l.length c])/\Below w.heap.size w w':=by
 go_enter Tryz.func96,Tryz.ntmps96
 go_wp2
 refine bodyPost_ret (v:=.agg #[.int .i64 F,.int .i64 R,.slice A l.length c]) ?_ rfl ⟨rfl,?_⟩
 ·simp [results,Tryz.results96,go_sem]
 ·exact after1 (box1 _ _)
theorem rSameP_any (F R:Int) (l:List Int) (A:Option Addr) (c:Nat) (bl:Bool) (ca:Nat) (ps ha fu:Int) (F2 R2:Int) (l2:List Int) (A2:Option Addr) (c2:Nat) (bl2:Bool) (ca2:Nat) (ps2 ha2 fu2:Int) (w:World) (hlen:l.length<=100000) (hA:RdP w w.heap.size A l c) (hA2:RdP w w.heap.size A2 l2 c2) :
  Calls Tryz.prog 58 #[.agg #[.int .i64 F,.int .i64 R,.slice A l.length c,.bool bl,.int .u8 (ca:Int),.int .i64 ps,.int .i64 ha,.int .i64 fu],.agg #[.int .i64 F2,.int .i64 R2,.slice A2 l2.length c2,.bool bl2,.int .u8 (ca2:Int),.int .i64 ps2,.int .i64 ha2,.int .i64 fu2]] w fun e w'=>e=.returned (.bool (poSm ⟨F,R,l,bl,ca,ps,ha,fu⟩ ⟨F2,R2,l2,bl2,ca2,ps2,ha2,fu2⟩))/\Below w.heap.size w w':=by
 obtain ⟨V,hV⟩:∃ V,(w.alloc (.cells #[.int .i64 F,.int .i64 R,.slice A l.length c,.bool bl,.int .u8 (ca:Int),.int .i64 ps,.int .i64 ha,.int .i64 fu] 26)).alloc (.cells #[.int .i64 F2,.int .i64 R2,.slice A2 l2.length c2,.bool bl2,.int .u8 (ca2:Int),.int .i64 ps2,.int .i64 ha2,.int .i64 fu2] 26)=V:=⟨_,rfl⟩
 have hX:=(box8 w F R (.slice A l.length c) bl ca ps ha fu).below (box1 (w.alloc (.cells #[.int .i64 F,.int .i64 R,.slice A l.length c,.bool bl,.int .u8 (ca:Int),.int .i64 ps,.int .i64 ha,.int .i64 fu] 26)) (.cells #[.int .i64 F2,.int .i64 R2,.slice A2 l2.length c2,.bool bl2,.int .u8 (ca2:Int),.int .i64 ps2,.int .i64 ha2,.int .i64 fu2] 26)) (by simp)
 have hY:=box8 (w.alloc (.cells #[.int .i64 F,.int .i64 R,.slice A l.length c,.bool bl,.int .u8 (ca:Int),.int .i64 ps,.int .i64 ha,.int .i64 fu] 26)) F2 R2 (.slice A2 l2.length c2) bl2 ca2 ps2 ha2 fu2
 have hB:Below w.heap.size w ((w.alloc (.cells #[.int .i64 F,.int .i64 R,.slice A l.length c,.bool bl,.int .u8 (ca:Int),.int .i64 ps,.int .i64 ha,.int .i64 fu] 26)).alloc (.cells #[.int .i64 F2,.int .i64 R2,.slice A2 l2.length c2,.bool bl2,.int .u8 (ca2:Int),.int .i64 ps2,.int .i64 ha2,.int .i64 fu2] 26)):=after1 (box1 _ _)
 have hR:=rdBo (box1 (w.alloc (.cells #[.int .i64 F,.int .i64 R,.slice A l.length c,.bool bl,.int .u8 (ca:Int),.int .i64 ps,.int .i64 ha,.int .i64 fu] 26)) (.cells #[.int .i64 F2,.int .i64 R2,.slice A2 l2.length c2,.bool bl2,.int .u8 (ca2:Int),.int .i64 ps2,.int .i64 ha2,.int .i64 fu2] 26)) (rdBo (box1 w (.cells #[.int .i64 F,.int .i64 R,.slice A l.length c,.bool bl,.int .u8 (ca:Int),.int .i64 ps,.int .i64 ha,.int .i64 fu] 26)) hA)
 have hR2:=rdBo (box1 (w.alloc (.cells #[.int .i64 F,.int .i64 R,.slice A l.length c,.bool bl,.int .u8 (ca:Int),.int .i64 ps,.int .i64 ha,.int .i64 fu] 26)) (.cells #[.int .i64 F2,.int .i64 R2,.slice A2 l2.length c2,.bool bl2,.int .u8 (ca2:Int),.int .i64 ps2,.int .i64 ha2,.int .i64 fu2] 26)) (rdBo (box1 w (.cells #[.int .i64 F,.int .i64 R,.slice A l.length c,.bool bl,.int .u8 (ca:Int),.int .i64 ps,.int .i64 ha,.int .i64 fu] 26)) hA2)
 rw [hV] at hX hY hB hR hR2
 rw [World.size_alloc] at hY
 have HV:=Lib.hid hV
 obtain ⟨⟨x0,x1,x2,x3,x4,x5,x6,x7⟩,xf⟩:=hX
 obtain ⟨⟨y0,y1,y2,y3,y4,y5,y6,y7⟩,yf⟩:=hY
 have q0:=cell_regrown x0
 have q1:=cell_regrown x1
 have q2:=cell_regrown x2
 have q3:=cell_regrown x3
 have q4:=cell_regrown x4
 have q5:=cell_regrown x5
 have q6:=cell_regrown x6
 have q7:=cell_regrown x7
 have r0:=cell_regrown y0
 have r1:=cell_regrown y1
 have r2:=cell_regrown y2
 have r3:=cell_regrown y3
 have r4:=cell_regrown y4
 have r5:=cell_regrown y5
 have r6:=cell_regrown y6
 have r7:=cell_regrown y7
 clear x0 x1 x2 x3 x4 x5 x6 x7 xf y0 y1 y2 y3 y4 y5 y6 y7 yf hA hA2 hV
 obtain ⟨t,ht⟩:∃ t,bdS F R l F2 R2 l2=t:=⟨_,rfl⟩
 have ht':t=true ↔ (F=F2/\R=R2/\l=l2):=by rw [<- ht];unfold bdS;simp
 have cO:∀ d os,Calls Tryz.prog 61 #[.agg #[.int .i64 F,.int .i64 R,.slice A l.length c,.bool bl,.int .u8 (ca:Int),.int .i64 ps,.int .i64 ha,.int .i64 fu]] (grow (redrawn V d) os) fun e w''=>e=.returned (.agg #[.int .i64 F,.int .i64 R,.slice A l.length c])/\∃ q:Regrown,w''=grow (redrawn V q.d) q.os:=fun d os=>Calls.regrown_of (rOf_any F R l A c bl ca ps ha fu _)
 have cO2:∀ d os,Calls Tryz.prog 61 #[.agg #[.int .i64 F2,.int .i64 R2,.slice A2 l2.length c2,.bool bl2,.int .u8 (ca2:Int),.int .i64 ps2,.int .i64 ha2,.int .i64 fu2]] (grow (redrawn V d) os) fun e w''=>e=.returned (.agg #[.int .i64 F2,.int .i64 R2,.slice A2 l2.length c2])/\∃ q:Regrown,w''=grow (redrawn V q.d) q.os:=fun d os=>Calls.regrown_of (rOf_any F2 R2 l2 A2 c2 bl2 ca2 ps2 ha2 fu2 _)
 have cE:∀ d os,Calls Tryz.prog 127 #[.agg #[.int .i64 F,.int .i64 R,.slice A l.length c],.agg #[.int .i64 F2,.int .i64 R2,.slice A2 l2.length c2]] (grow (redrawn V d) os) fun e w''=>e=.returned (.bool t)/\∃ q:Regrown,w''=grow (redrawn V q.d) q.os:=fun d os=>Calls.regrown_of (same_as F R F2 R2 l l2 A A2 c c2 t ht' _ hlen (rdBo (below_regrown V d os) hR) (rdBo (below_regrown V d os) hR2))
 have HT:=Lib.hid ht
 clear ht ht' hR hR2
 have HS:Hid (poSm ⟨F,R,l,bl,ca,ps,ha,fu⟩ ⟨F2,R2,l2,bl2,ca2,ps2,ha2,fu2⟩=(t && (bl == bl2 && (((ca:Int) == (ca2:Int)) && ps == ps2)))):=Lib.hid (by unfold poSm;rw [HT.out])
 clear HT
 cases t with
 | false =>
  skip
  go_enter Tryz.func58,Tryz.ntmps58
  go_wp2_with fail
  rw [HV.out]
  refine wp_region_quiet_below (by kernel_rfl) (by kernel_rfl) ?_
  repeat (go_big_quiet_step (first | (go_at_call_has 61 (Value.slice A l.length c);exact cO _ _) | (go_at_call_has 61 (Value.slice A2 l2.length c2);exact cO2 _ _) | (go_at_call 127;exact cE _ _)))
  refine wpQuiet_nil ?_
  rintro _ ⟨⟨dq,osq⟩,rfl⟩
  go_wp2
  go_ret
  exact ⟨ret_bool (by rw [HS.out];rfl),chain hB (below_regrown _ dq osq)⟩
 | true =>
  cases e1:(bl == bl2) with
  | false =>
   skip
   go_enter Tryz.func58,Tryz.ntmps58
   go_wp2_with fail
   rw [HV.out]
   refine wp_region_quiet_below (by kernel_rfl) (by kernel_rfl) ?_
   repeat (go_big_quiet_step (first | (go_at_call_has 61 (Value.slice A l.length c);exact cO _ _) | (go_at_call_has 61 (Value.slice A2 l2.length c2);exact cO2 _ _) | (go_at_call 127;exact cE _ _)))
   refine wpQuiet_nil ?_
   rintro _ ⟨⟨dq,osq⟩,rfl⟩
   go_wp2
   go_ret
   exact ⟨ret_bool (by rw [HS.out,e1];rfl),chain hB (below_regrown _ dq osq)⟩
  | true =>
   cases e2:((ca:Int) == (ca2:Int)) with
   | false =>
    skip
    go_enter Tryz.func58,Tryz.ntmps58
    go_wp2_with fail
    rw [HV.out]
    refine wp_region_quiet_below (by kernel_rfl) (by kernel_rfl) ?_
    repeat (go_big_quiet_step (first | (go_at_call_has 61 (Value.slice A l.length c);exact cO _ _) | (go_at_call_has 61 (Value.slice A2 l2.length c2);exact cO2 _ _) | (go_at_call 127;exact cE _ _)))
    refine wpQuiet_nil ?_
    rintro _ ⟨⟨dq,osq⟩,rfl⟩
    go_wp2
    go_ret
    exact ⟨ret_bool (by rw [HS.out,e1,e2];rfl),chain hB (below_regrown _ dq osq)⟩
   | true =>
    skip
    go_enter Tryz.func58,Tryz.ntmps58
    go_wp2_with fail
    rw [HV.out]
    refine wp_region_quiet_below (by kernel_rfl) (by kernel_rfl) ?_
    repeat (go_big_quiet_step (first | (go_at_call_has 61 (Value.slice A l.length c);exact cO _ _) | (go_at_call_has 61 (Value.slice A2 l2.length c2);exact cO2 _ _) | (go_at_call 127;exact cE _ _)))
    refine wpQuiet_nil ?_
    rintro _ ⟨⟨dq,osq⟩,rfl⟩
    go_wp2
    go_ret
    exact ⟨ret_bool (by rw [HS.out,e1,e2];rfl),chain hB (below_regrown _ dq osq)⟩
theorem rEqualP_any (F R:Int) (l:List Int) (A:Option Addr) (c:Nat) (bl:Bool) (ca:Nat) (ps ha fu:Int) (F2 R2:Int) (l2:List Int) (A2:Option Addr) (c2:Nat) (bl2:Bool) (ca2:Nat) (ps2 ha2 fu2:Int) (w:World) (hlen:l.length<=100000) (hA:RdP w w.heap.size A l c) (hA2:RdP w w.heap.size A2 l2 c2) :
  Calls Tryz.prog 17 #[.agg #[.int .i64 F,.int .i64 R,.slice A l.length c,.bool bl,.int .u8 (ca:Int),.int .i64 ps,.int .i64 ha,.int .i64 fu],.agg #[.int .i64 F2,.int .i64 R2,.slice A2 l2.length c2,.bool bl2,.int .u8 (ca2:Int),.int .i64 ps2,.int .i64 ha2,.int .i64 fu2]] w fun e w'=>e=.returned (.bool (poEq ⟨F,R,l,bl,ca,ps,ha,fu⟩ ⟨F2,R2,l2,bl2,ca2,ps2,ha2,fu2⟩))/\Below w.heap.size w w':=by
 have hX:=(box8 w F R (.slice A l.length c) bl ca ps ha fu).below (box1 (w.alloc (.cells #[.int .i64 F,.int .i64 R,.slice A l.length c,.bool bl,.int .u8 (ca:Int),.int .i64 ps,.int .i64 ha,.int .i64 fu] 26)) (.cells #[.int .i64 F2,.int .i64 R2,.slice A2 l2.length c2,.bool bl2,.int .u8 (ca2:Int),.int .i64 ps2,.int .i64 ha2,.int .i64 fu2] 26)) (by simp)
 have hY:=box8 (w.alloc (.cells #[.int .i64 F,.int .i64 R,.slice A l.length c,.bool bl,.int .u8 (ca:Int),.int .i64 ps,.int .i64 ha,.int .i64 fu] 26)) F2 R2 (.slice A2 l2.length c2) bl2 ca2 ps2 ha2 fu2
 have hR:=rdBo (box1 (w.alloc (.cells #[.int .i64 F,.int .i64 R,.slice A l.length c,.bool bl,.int .u8 (ca:Int),.int .i64 ps,.int .i64 ha,.int .i64 fu] 26)) (.cells #[.int .i64 F2,.int .i64 R2,.slice A2 l2.length c2,.bool bl2,.int .u8 (ca2:Int),.int .i64 ps2,.int .i64 ha2,.int .i64 fu2] 26)) (rdBo (box1 w (.cells #[.int .i64 F,.int .i64 R,.slice A l.length c,.bool bl,.int .u8 (ca:Int),.int .i64 ps,.int .i64 ha,.int .i64 fu] 26)) hA)
 have hR2:=rdBo (box1 (w.alloc (.cells #[.int .i64 F,.int .i64 R,.slice A l.length c,.bool bl,.int .u8 (ca:Int),.int .i64 ps,.int .i64 ha,.int .i64 fu] 26)) (.cells #[.int .i64 F2,.int .i64 R2,.slice A2 l2.length c2,.bool bl2,.int .u8 (ca2:Int),.int .i64 ps2,.int .i64 ha2,.int .i64 fu2] 26)) (rdBo (box1 w (.cells #[.int .i64 F,.int .i64 R,.slice A l.length c,.bool bl,.int .u8 (ca:Int),.int .i64 ps,.int .i64 ha,.int .i64 fu] 26)) hA2)
 have HX:=Lib.hid hX
 have HY:=Lib.hid hY
 have HR:=Lib.hid hR
 have HR2:=Lib.hid hR2
 clear hX hY hR hR2 hA hA2
 go_enter Tryz.func17,Tryz.ntmps17
 go_wp2_with fail
 refine (rSameP_any F R l A c bl ca ps ha fu F2 R2 l2 A2 c2 bl2 ca2 ps2 ha2 fu2 _ hlen HR.out HR2.out).mono ?_
 rintro e w1 ⟨rfl,hb1⟩
 obtain ⟨⟨x0,x1,x2,x3,x4,x5,x6,x7⟩,xf⟩:=HX.out.below hb1 (by simp;omega)
 obtain ⟨⟨y0,y1,y2,y3,y4,y5,y6,y7⟩,yf⟩:=HY.out.below hb1 (by simp)
 simp only [World.size_alloc] at y0 y1 y2 y3 y4 y5 y6 y7 yf
 have hB:=Lib.hid (after2 hb1)
 clear HX HY HR HR2 hb1
 have HS:Hid (poEq ⟨F,R,l,bl,ca,ps,ha,fu⟩ ⟨F2,R2,l2,bl2,ca2,ps2,ha2,fu2⟩=(poSm ⟨F,R,l,bl,ca,ps,ha,fu⟩ ⟨F2,R2,l2,bl2,ca2,ps2,ha2,fu2⟩ && (ha == ha2 && fu == fu2))):=Lib.hid rfl
 generalize poSm ⟨F,R,l,bl,ca,ps,ha,fu⟩ ⟨F2,R2,l2,bl2,ca2,ps2,ha2,fu2⟩=t at *
 cases t with
 | false =>
  go_wp2
  go_ret
  exact ⟨ret_bool (by rw [HS.out];rfl),hB.out⟩
 | true =>
  cases e1:(ha == ha2) with
  | false =>
   go_wp2
   go_ret
   exact ⟨ret_bool (by rw [HS.out,e1];rfl),hB.out⟩
  | true =>
   go_wp2
   go_ret
   exact ⟨ret_bool (by rw [HS.out,e1];rfl),hB.out⟩
theorem pCopy_any (F R:Int) (l:List Int) (A:Option Addr) (c:Nat) (bl:Bool) (ca:Nat) (ps ha fu:Int) (w:World) (hlen:l.length<=100000) (hA:RdP w w.heap.size A l c) :
  Calls Tryz.prog 72 #[.agg #[.int .i64 F,.int .i64 R,.slice A l.length c,.bool bl,.int .u8 (ca:Int),.int .i64 ps,.int .i64 ha,.int .i64 fu]] w (NewP w F R l bl ca ps ha fu):=by
 have HX:=Lib.hid ((box8 w F R (.slice A l.length c) bl ca ps ha fu).below (box1 (w.alloc (.cells #[.int .i64 F,.int .i64 R,.slice A l.length c,.bool bl,.int .u8 (ca:Int),.int .i64 ps,.int .i64 ha,.int .i64 fu] 26)) (.cells #[.int .i64 0,.int .i64 0,.slice none 0 0,.bool false,.int .u8 0,.int .i64 0,.int .i64 0,.int .i64 0] 26)) (by simp))
 have HZ:=Lib.hid (show Bx8 ((w.alloc (.cells #[.int .i64 F,.int .i64 R,.slice A l.length c,.bool bl,.int .u8 (ca:Int),.int .i64 ps,.int .i64 ha,.int .i64 fu] 26)).alloc (.cells #[.int .i64 0,.int .i64 0,.slice none 0 0,.bool false,.int .u8 0,.int .i64 0,.int .i64 0,.int .i64 0] 26)) (w.alloc (.cells #[.int .i64 F,.int .i64 R,.slice A l.length c,.bool bl,.int .u8 (ca:Int),.int .i64 ps,.int .i64 ha,.int .i64 fu] 26)).heap.size 0 0 (.slice none 0 0) false 0 0 0 0 from box8 (w.alloc (.cells #[.int .i64 F,.int .i64 R,.slice A l.length c,.bool bl,.int .u8 (ca:Int),.int .i64 ps,.int .i64 ha,.int .i64 fu] 26)) 0 0 (.slice none 0 0) false 0 0 0 0)
 have HA:=Lib.hid (rdBo (box1 (w.alloc (.cells #[.int .i64 F,.int .i64 R,.slice A l.length c,.bool bl,.int .u8 (ca:Int),.int .i64 ps,.int .i64 ha,.int .i64 fu] 26)) (.cells #[.int .i64 0,.int .i64 0,.slice none 0 0,.bool false,.int .u8 0,.int .i64 0,.int .i64 0,.int .i64 0] 26)) (rdBo (box1 w (.cells #[.int .i64 F,.int .i64 R,.slice A l.length c,.bool bl,.int .u8 (ca:Int),.int .i64 ps,.int .i64 ha,.int .i64 fu] 26)) hA))
 clear hA
 go_enter Tryz.func72,Tryz.ntmps72
 go_wp2_with fail
 refine (clone_any l A c _ hlen HA.out).mono ?_
 rintro e w2 ⟨v,rfl,hown,hb2⟩
 obtain ⟨A',c',rfl,_,_⟩:=RdP.own hown
 obtain ⟨⟨x0,x1,x2,x3,x4,x5,x6,x7⟩,xf⟩:=HX.out.below hb2 (by simp;omega)
 obtain ⟨⟨z0,z1,z2,z3,z4,z5,z6,z7⟩,zf⟩:=HZ.out.below hb2 (by simp)
 simp only [World.size_alloc] at z0 z1 z2 z3 z4 z5 z6 z7 zf
 have hown2:=ownsRow_setCell_below (ownsRow_setCell_below (ownsRow_setCell_below (ownsRow_setCell_below (ownsRow_setCell_below (ownsRow_setCell_below (ownsRow_setCell_below (ownsRow_setCell_below (ownsRow_setCell_below (hown) (a:=⟨w.heap.size,2,none⟩) (by simp;omega) (.slice A' l.length c')) (a:=⟨w.heap.size+1,0,none⟩) (by simp) (.int .i64 F)) (a:=⟨w.heap.size+1,1,none⟩) (by simp) (.int .i64 R)) (a:=⟨w.heap.size+1,2,none⟩) (by simp) (.slice A' l.length c')) (a:=⟨w.heap.size+1,3,none⟩) (by simp) (.bool bl)) (a:=⟨w.heap.size+1,4,none⟩) (by simp) (.int .u8 (ca:Int))) (a:=⟨w.heap.size+1,5,none⟩) (by simp) (.int .i64 ps)) (a:=⟨w.heap.size+1,6,none⟩) (by simp) (.int .i64 ha)) (a:=⟨w.heap.size+1,7,none⟩) (by simp) (.int .i64 fu)
 have hB:=(((((((((after2 hb2).setCell (p:=⟨w.heap.size,2,none⟩) (Nat.le_refl _) (.slice A' l.length c')).setCell (p:=⟨w.heap.size+1,0,none⟩) (show w.heap.size<=w.heap.size+1 by omega) (.int .i64 F)).setCell (p:=⟨w.heap.size+1,1,none⟩) (show w.heap.size<=w.heap.size+1 by omega) (.int .i64 R)).setCell (p:=⟨w.heap.size+1,2,none⟩) (show w.heap.size<=w.heap.size+1 by omega) (.slice A' l.length c')).setCell (p:=⟨w.heap.size+1,3,none⟩) (show w.heap.size<=w.heap.size+1 by omega) (.bool bl)).setCell (p:=⟨w.heap.size+1,4,none⟩) (show w.heap.size<=w.heap.size+1 by omega) (.int .u8 (ca:Int))).setCell (p:=⟨w.heap.size+1,5,none⟩) (show w.heap.size<=w.heap.size+1 by omega) (.int .i64 ps)).setCell (p:=⟨w.heap.size+1,6,none⟩) (show w.heap.size<=w.heap.size+1 by omega) (.int .i64 ha)).setCell (p:=⟨w.heap.size+1,7,none⟩) (show w.heap.size<=w.heap.size+1 by omega) (.int .i64 fu)
 have HN:NewP w F R l bl ca ps ha fu (.returned (.agg #[.int .i64 F,.int .i64 R,.slice A' l.length c',.bool bl,.int .u8 (ca:Int),.int .i64 ps,.int .i64 ha,.int .i64 fu])) (((((((((w2.setCell ⟨w.heap.size,2,none⟩ (.slice A' l.length c')).setCell ⟨w.heap.size+1,0,none⟩ (.int .i64 F)).setCell ⟨w.heap.size+1,1,none⟩ (.int .i64 R)).setCell ⟨w.heap.size+1,2,none⟩ (.slice A' l.length c')).setCell ⟨w.heap.size+1,3,none⟩ (.bool bl)).setCell ⟨w.heap.size+1,4,none⟩ (.int .u8 (ca:Int))).setCell ⟨w.heap.size+1,5,none⟩ (.int .i64 ps)).setCell ⟨w.heap.size+1,6,none⟩ (.int .i64 ha)).setCell ⟨w.heap.size+1,7,none⟩ (.int .i64 fu)):=⟨_,rfl,hown2.mono (by simp;omega),hB⟩
 have HN:=Lib.hid HN
 clear hown hown2 hB hb2 HA HX HZ
 go_wp2
 refine bodyPost_ret (v:=(.agg #[.int .i64 F,.int .i64 R,.slice A' l.length c',.bool bl,.int .u8 (ca:Int),.int .i64 ps,.int .i64 ha,.int .i64 fu])) ?_ rfl HN.out
 simp [results,Tryz.results72,go_sem,z0,z1,z2,z3,z4,z5,z6,z7]
end Go.Proofs.YtbccbgonlmkpkaaGreatDoor
