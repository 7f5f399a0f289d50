/- What the theorem needs, piece Zb11. -/
import Derived.RangeFuncNested
import Derived.RangeFuncBound
import Derived.RangeFuncCalls
import Derived.RangeFuncLeaves
import Derived.Shelf.Abstract
import Derived.Shelf.RegionOpen
import Derived.WalkKit
import Derived.OwnWalkIn
import Derived.TacticsInMore
import Derived.LoopNIn
import Derived.LoopIn
import Derived.Shelf.Spec.TrailingZeros
import Derived.Test.YtbccbgonlmkpkaaGreatDoorZb00
import Derived.RangeFuncFrom
import Derived.Sort.QuietTacIn
import Derived.Sort.BigQuietIn
import Derived.Test.YtbccbgonlmkpkaaGreatDoorZb02
import Derived.Test.YtbccbgonlmkpkaaGreatDoorZb10
import Derived.BigQuiet
import Derived.Deep.QuietTactic
import Derived.Test.YtbccbgonlmkpkaaGreatDoorZb05
import Derived.StillTailTactics
import Derived.Laws.ResultCell
import Derived.Test.YtbccbgonlmkpkaaGreatDoorZb07
set_option linter.unusedSimpArgs false
set_option linter.unusedVariables false
set_option maxRecDepth 100000
set_option maxHeartbeats 16000000
namespace Go.Proofs.YtbccbgonlmkpkaaGreatDoor
open Go.RowKit Go.Shelf
attribute [local go_sem] Oper.semAt_some
def Tab (w:World):Prop:=4+1<=w.heap.size/\TabAt 4 Lib.deBruijn64tab w
theorem Tab.below {w w':World} {B:Nat} (h:Tab w) (hb:Below B w w') (hB:4+1<=B):Tab w' :=
 ⟨Nat.le_trans h.1 hb.size,fun j hj=>(hb.cell (p:=⟨4,j,none⟩) hB).trans (h.2 j hj)⟩
theorem tz_core (x k idx:Nat) (w:World) (hx0:((x:Int) == 0)=false)
  (key:IntKind.u64.wrap (bits BinOp.and IntKind.u64 (x:Int) (IntKind.u64.wrap (-(x:Int))) * 285870213051353865) / 288230376151711744=(idx:Int))
  (hi:idx<64) (hk:k<64) (hcell:w.cell? ⟨4,idx,none⟩=some (.int .u8 k)) :
  Calls Tryz.prog 182 #[.int .u64 x] w fun e w'=>e=.returned (.int .i64 k)/\w'=w:=by
 go_enter Tryz.func182,Tryz.ntmps182
 go_wp2_with (simp only [key])
 go_ret
 exact ⟨rfl,rfl⟩
theorem tz_any (x:Nat) (hx0:x≠0) (hx:x<18446744073709551616) (w:World) (hT:Tab w) :
  Calls Tryz.prog 182 #[.int .u64 x] w fun e w'=>e=.returned (.int .i64 (Lib.ctz 64 x))/\w'=w:=by
 obtain ⟨hlow,hk⟩:=Lib.lowest_bit 64 x hx0 hx
 obtain ⟨hi,htab⟩:=Lib.deBruijn64_at _ hk
 have hcell:=hT.2 _ hi
 rw [htab] at hcell
 exact tz_core x _ _ w (by simp;omega) (tz64_key x _ hx hx0 hlow) hi hk hcell
abbrev Sq (X:Nat):={ i:Nat // i∈listOf X }
def vals {X:Nat} (l:List (Sq X)):List Nat:=l.map (·.1)
theorem vals_snoc {X:Nat} (l:List (Sq X)) (x:Sq X):vals (l ++ [x])=vals l ++ [x.1]:=by simp [vals]
theorem vals_len {X:Nat} (l:List (Sq X)):(vals l).length=l.length:=by simp [vals]
theorem and_pred (x:Nat) (h0:x≠0) (hx:x<18446744073709551616):bits .and .u64 (x:Int) ((x:Int) - 1)=((x &&& (x - 1):Nat):Int):=by
 have e:((x:Int) - 1)=((x - 1:Nat):Int):=by omega
 rw [e,u64_and_nat x (x - 1) hx (by omega)]
theorem each1_in (n l Bn n₀ X:Nat) (hn:1<=n) (hX:X<18446744073709551616) (J Jx:List (Sq X)->World->Prop)
  (hY:∀ pre x W,J pre W->pre.length<(listOf X).length->YieldAt Fence.wide (n - 1) Tryz.prog l #[.int .i64 (x.1:Int)] W fun e W' =>
   (e=.returned (.bool true)/\J (pre ++ [x]) W'/\Below n₀ W W')\/(e=.returned (.bool false)/\Jx (pre ++ [x]) W'))
  (W:World) (hBn:W.cell? ⟨Bn,0,none⟩=some (.int .u64 X)) (hT:Tab W) (h1:4+1<=n₀) (h0:J [] W) :
  CallsIn Fence.wide n Tryz.prog 181 #[.func (.yield l) #[] #[],.pointer (some ⟨Bn,0,none⟩)] W fun e W'=>(∃ v,e=.returned v) /\
   ((∃ ys,vals ys=listOf X/\J ys W')\/(∃ pre,vals pre <+: listOf X/\Jx pre W')):=by
 refine callsIn_of_wp Tryz.func181 rfl trivial ?_ rfl
 simp only [Tryz.ntmps181,List.size_toArray,List.length_cons,List.length_nil,Nat.reduceAdd,Nat.reduceSub,Array.replicate_succ,Array.replicate_zero,List.push_toArray,List.append_toArray,List.nil_append,List.cons_append]
 gi_wp2
 gi_loopw [3] (fun p wr=>∃ (pre:List (Sq X)) (r:Nat),p=.int .u64 r/\r<18446744073709551616/\vals pre ++ listOf r=listOf X/\J pre wr/\Below n₀ W wr)
  (fun p _=>(intOf p).toNat)
 case atStart =>
  exact ⟨[],X,rfl,hX,rfl,h0,Below.refl _ _⟩
 case round =>
  obtain ⟨pre,r,rfl,hr,hl,hJs,hB⟩:=hrel
  have HL:=Lib.hid hl
  clear hl
  by_cases hr0:r=0
  ·subst hr0
   have HE:Hid (vals pre=listOf X):=Lib.hid (by have:=HL.out;rw [listOf_zero,List.append_nil] at this;exact this)
   gi_wp2
   go_end0
   exact ⟨⟨_,rfl⟩,.inl ⟨pre,HE.out,hJs⟩⟩
  ·have hstep:=listOf_step hr0 (by simpa using hr)
   have hmem:Lib.ctz 64 r∈listOf X:=by
    rw [<- HL.out,hstep]
    simp
   have HN:Hid (vals (pre ++ [⟨Lib.ctz 64 r,hmem⟩]) ++ listOf (r &&& (r - 1))=listOf X):=Lib.hid (by
    have e:vals (pre ++ [⟨Lib.ctz 64 r,hmem⟩])=vals pre ++ [Lib.ctz 64 r]:=vals_snoc pre ⟨_,hmem⟩
    rw [e,List.append_assoc]
    exact (congrArg (vals pre ++ ·) hstep.symm).trans HL.out)
   have hlen:pre.length<(listOf X).length:=by
    rw [<- HL.out,hstep,List.length_append,vals_len]
    simp
   have HP:Hid (vals (pre ++ [⟨Lib.ctz 64 r,hmem⟩]) <+: listOf X):=Lib.hid ⟨_,HN.out⟩
   have hAnd:=and_pred r hr0 hr
   have hlt:=and_pred_lt hr0
   have hz:((r:Int) != 0)=true:=by rw [bne_iff_ne];omega
   have hr1:(1:Int)<=(r:Int):=by omega
   have hT':=Lib.hid (hT.below hB h1)
   have hYx:=Lib.hid (hY pre ⟨Lib.ctz 64 r,hmem⟩ wr hJs hlen)
   clear hY hstep
   gi_wp2_with fail
   refine ⟨trivial,callsIn_wide.2 ((tz_any r hr0 hr _ hT'.out).mono ?_)⟩
   rintro e w1 ⟨rfl,rfl⟩
   obtain ⟨fn,tmps,assign,body,hy,hR⟩:=hYx.out
   gi_wp2
   refine hR.mono ?_
   rintro e W3 (⟨rfl,hJ3,hk3⟩ | ⟨rfl,hJx3⟩)
   ·gi_wp2
    go_roundw
    case rel=>exact ⟨_,r &&& (r - 1),rfl,by omega,HN.out,hJ3,hB.trans hk3⟩
    case measure=>simp [intOf];omega
   ·gi_wp2
    refine bodyPost_ret (results_none rfl _ _ _) rfl ?_
    exact ⟨⟨_,rfl⟩,.inr ⟨_,HP.out,hJx3⟩⟩
theorem each_any (X:Nat) (w:World) :
  Calls Tryz.prog 140 #[.int .u64 X] w fun e w'=>e=.returned (.func (.func 181) #[] #[.pointer (some ⟨w.heap.size,0,none⟩)])/\w'=w.alloc (.cells #[.int .u64 X] 85):=by
 go_enter Tryz.func140,Tryz.ntmps140
 go_wp2
 go_ret
 exact ⟨rfl,rfl⟩
theorem each_stops (n Bn n₀ X:Nat) (hn:1<=n) (hX:X<18446744073709551616) (w:World) (hBn:Bn<w.heap.size) (h1:4+1<=n₀)
  (hc:w.cell? ⟨Bn,0,none⟩=some (.int .u64 X)) (hT:Tab w) :
  SeqStopsK Fence.wide n Tryz.prog 181 #[.pointer (some ⟨Bn,0,none⟩)] (fun x:Sq X=>#[Value.int .i64 (x.1:Int)]) (Below n₀) (fun ys=>vals ys=listOf X) (fun pre=>vals pre <+: listOf X) (listOf X).length w:=fun l J Jx W hW _ _ hY h0 =>
 each1_in n l Bn n₀ X hn hX J Jx hY W ((hW.cell (p:=⟨Bn,0,none⟩) hBn).trans hc) (hT.below hW hT.1) h1 h0
end Go.Proofs.YtbccbgonlmkpkaaGreatDoor
namespace Go.Proofs.YtbccbgonlmkpkaaGreatDoor
open Go.RowKit Go.Shelf
attribute [local go_sem] Oper.semAt_some
theorem keeps_below {W W':World} (h:Below W.heap.size W W'):KeepsOthers W W':=⟨h.size,fun _ _ hk _=>(h.block _ (Array.getElem?_eq_some_iff.1 hk).1).trans hk⟩
end Go.Proofs.YtbccbgonlmkpkaaGreatDoor
namespace Go.Proofs.YtbccbgonlmkpkaaGreatDoor
open Go.RowKit Go.Shelf
theorem vl_lt {F R x y f r:Int} (hv:vsz F R) {pre:List (El (rayL F R x y f r))}:∀ i∈vl pre,(i:Int)<F * R:=by
 intro i hi
 obtain ⟨e,_,rfl⟩:=List.mem_map.1 hi
 exact rayL_lt hv _ e.2
theorem vl_64 {F R x y f r:Int} (hv:vsz F R) {pre:List (El (rayL F R x y f r))}:ofL (vl pre)<18446744073709551616:=by
 have:=ofL_lt (l:=vl pre) (n:=64) (fun i hi=>by have:=vl_lt hv i hi;have:=(vsz_mul hv).2;omega)
 simpa using this
theorem el_64 {F R:Int} (hv:vsz F R) {T:List Nat} (hT:∀ i∈T,(i:Int)<F * R):ofL T<18446744073709551616:=by
 have:=ofL_lt (l:=T) (n:=64) (fun i hi=>by have:=hT i hi;have:=(vsz_mul hv).2;omega)
 simpa using this
def ButS (S:Nat) (V W:World):Prop:=W.os=V.os/\W.tape=V.tape/\W.output=V.output/\V.heap.size<=W.heap.size/\∀ k,k<V.heap.size->k≠S->W.heap[k]?=V.heap[k]?
theorem ButS.refl (S:Nat) (V:World):ButS S V V:=⟨rfl,rfl,rfl,Nat.le_refl _,fun _ _ _=>rfl⟩
theorem ButS.size {S:Nat} {V W:World} (h:ButS S V W):V.heap.size<=W.heap.size:=h.2.2.2.1
theorem ButS.trans {S:Nat} {A B C:World} (h:ButS S A B) (k:ButS S B C):ButS S A C :=
 ⟨k.1.trans h.1,k.2.1.trans h.2.1,k.2.2.1.trans h.2.2.1,Nat.le_trans h.size k.size,fun i hi hn=>(k.2.2.2.2 i (Nat.lt_of_lt_of_le hi h.size) hn).trans (h.2.2.2.2 i hi hn)⟩
theorem ButS.of {S:Nat} {A B:World} (h:Below A.heap.size A B):ButS S A B:=⟨h.os,h.tape,h.output,h.size,fun k hk _=>h.block k hk⟩
theorem ButS.drew {S:Nat} {A B:World} (h:ButS S A B):ButS S A B.drew:=h
theorem ButS.drewN {S:Nat} {A B:World} (h:ButS S A B) (n:Nat):ButS S A (B.drewN n):=h
theorem ButS.set {S:Nat} (A:World) (o:Nat) (v:Value):ButS S A (A.setCell ⟨S,o,none⟩ v):=⟨rfl,rfl,rfl,by simp,fun _ _ hn=>Below.heap_setCell _ _ _ _ hn⟩
theorem ButS.below {S B:Nat} {V W:World} (h:ButS S V W) (hS:B<=S) (hV:B<=V.heap.size):Below B V W:=⟨h.1,h.2.1,h.2.2.1,h.size,fun k hk=>h.2.2.2.2 k (by omega) (by omega)⟩
theorem ButS.cell {S:Nat} {V W:World} (h:ButS S V W) {p:Addr} {v:Value} (hc:V.cell? p=some v) (hS:p.block≠S):W.cell? p=some v :=
 (World.cell?_of_block (h.2.2.2.2 _ (World.block_lt_of_cell? _ _ hc) hS)).trans hc
theorem ButS.kpR {S b:Nat} {V W:World} (h:ButS S V W) (hb:b+4<=V.heap.size) (hS:S<b\/b+4<=S):KpR 0 b V W :=
 ⟨h.below (Nat.zero_le _) (Nat.zero_le _),fun k h0 h1=>h.2.2.2.2 k (by omega) (by omega)⟩
theorem keeps_but {S:Nat} {V W:World} (h:ButS S V W) {v:Value} {o:Nat} (hc:V.cell? ⟨S,o,none⟩=some v):KeepsOthers V W:=by
 refine ⟨h.size,fun k ob hk hn=>?_⟩
 by_cases e:k=S
 ·subst e
  unfold World.cell? at hc
  rw [hk] at hc
  revert hc hn
  cases ob <;> simp [Obj.isCells]
 ·exact (h.2.2.2.2 k (Array.getElem?_eq_some_iff.1 hk).1 e).trans hk
theorem ownFrom_but {β:Type} {S B:Nat} {V:World} (hB:V.heap.size<=B):OwnFrom B (fun (_:β) W=>ButS S V W):=fun _ W W' row hs hg hr =>
 ⟨hg.os.trans hs.1,hg.tape.trans hs.2.1,hg.output.trans hs.2.2.1,Nat.le_trans hs.size hg.size,fun k hk hn =>
  (hg.block k (Nat.lt_of_lt_of_le hk hs.size) (fun e=>by have:=(hr k e.symm).1;omega)).trans (hs.2.2.2.2 k hk hn)⟩
theorem ownFrom_cell {β:Type} {B:Nat} (p:Addr) (g:β->Value):OwnFrom B (fun (s:β) W=>W.cell? p=some (g s)):=fun _ _ _ _ hs hg hr=>cell_kept hs hg (fun r e=>(hr r e).2)
theorem ownFrom_box {β:Type} {B:Nat} (p:Addr) (g:β->Value):OwnFrom B (fun (s:β) W=>W.cell? p=some (g s)/\W.frozen? p=false):=fun _ _ _ _ hs hg hr=>⟨cell_kept hs.1 hg (fun r e=>(hr r e).2),(frozen_kept hs.1 hg (fun r e=>(hr r e).2)).trans hs.2⟩
def rayPost {α:Type} (S:Nat) (G:List α->Value) (p:List α->Prop) (Gx:List α->Value) (px:Code->List α->Prop) (xs:List α) (W:World):Exit->Act->World->Prop
 | .normal,_,W'=>(W'.cell? ⟨S,0,none⟩=some (G xs)/\W'.frozen? ⟨S,0,none⟩=false)/\ButS S W W'/\p xs
 | .ret,_,W'=>(W'.cell? ⟨S,0,none⟩=some (Gx xs)/\W'.frozen? ⟨S,0,none⟩=false)/\ButS S W W'/\px .ret xs
 | .exit id,_,W'=>(W'.cell? ⟨S,0,none⟩=some (Gx xs)/\W'.frozen? ⟨S,0,none⟩=false)/\ButS S W W'/\px (.exit id) xs
 | .goto _,_,_=>False
 | .panic _,_,_=>False
 | .outgrown,_,_=>False
theorem range_ray {F R a f r:Int} {L:List Nat} (hL:RayIs F R a f r L) (f0:-9223372036854775808<=f) (f1:f<=9223372036854775807) (r0:-9223372036854775808<=r) (r1:r<=9223372036854775807) {n:Nat} (hn:2<=n)
  {g:Operand} {ps:Array Tmp} (hps:ps.size=1) {assign body:Code} {Q:Exit->Act->World->Prop} {A:Act} {V:World} (b S:Nat) (hSb:S<b\/b+4<=S) (hb:b+4<=V.heap.size)
  (hg:A.eval g=.func (.func 212) #[] #[.pointer (some ⟨b,0,none⟩),.pointer (some ⟨b+1,0,none⟩),.pointer (some ⟨b+1+1,0,none⟩),.pointer (some ⟨b+1+1+1,0,none⟩)])
  (c0:V.cell? ⟨b,0,none⟩=some (.int .i64 F)) (c1:V.cell? ⟨b,1,none⟩=some (.int .i64 R)) (ca:V.cell? ⟨b+1,0,none⟩=some (.int .i64 a)) (cf:V.cell? ⟨b+1+1,0,none⟩=some (.int .i64 f)) (cr:V.cell? ⟨b+1+1+1,0,none⟩=some (.int .i64 r))
  (G:List (El L)->Value) (p:List (El L)->Prop) (Gx:List (El L)->Value) (px:Code->List (El L)->Prop)
  (v0:V.cell? ⟨S,0,none⟩=some (G [])) (v1:V.frozen? ⟨S,0,none⟩=false) (p0:p []) (a₁:El L->Act)
  (hassign:∀ (l:Nat) (x:El L) (W:World) (K:Act->World->Prop),K (a₁ x) W ->
   assign.wpIn (Fence.wide.inRound l) (n - 1 - 1) Tryz.prog (Exit.then K (fun _ _ _=>False)) { tmps:=(ps.zip #[Value.int .i64 (x.1:Int)]).foldl (fun t (p,v)=>t.setIfInBounds p v) A.tmps,defers:=[] } W)
  (hbody:∀ (l:Nat) (pre:List (El L)) (x:El L) (W:World),W.cell? ⟨S,0,none⟩=some (G pre)->W.frozen? ⟨S,0,none⟩=false->ButS S V W->p pre->pre.length<L.length->body.wpIn (Fence.wide.inRound l) (n - 1 - 1) Tryz.prog (rayPost S G p Gx px (pre ++ [x]) W) (a₁ x) W)
  (hdone:∀ (D:Nat) (xs:List (El L)) (W:World),V.heap.size<=D->vl xs=L->W.cell? ⟨S,0,none⟩=some (G xs)->W.frozen? ⟨S,0,none⟩=false->ButS S V W->p xs->W.heap[D]?=some (.deferred (some []))->Q .normal { A with defers:={ target:=.collected D,args:=#[] } :: A.defers } W)
  (hstop:∀ (D:Nat) (c:Code) (pre:List (El L)) (W:World),V.heap.size<=D->vl pre <+: L->W.cell? ⟨S,0,none⟩=some (Gx pre)->W.frozen? ⟨S,0,none⟩=false->ButS S V W->px c pre->W.heap[D]?=some (.deferred (some []))->c.wpIn Fence.wide n Tryz.prog Q { A with defers:={ target:=.collected D,args:=#[] } :: A.defers } W) :
  (Code.rangeFunc g ps assign body).wpIn Fence.wide n Tryz.prog Q A V:=by
 refine wpIn_rangeFunc_ownF rfl (by omega) (gf:=212) hg trivial (enters_of Tryz.func212 (by kernel_rfl) rfl)
  (ray_stops (n - 1) b 0 F R a f r L hL (by omega) f0 f1 r0 r1 V (Nat.zero_le _) hb c0 c1 ca cf cr) kpR_t (kpR_b (Nat.zero_le _) hb) (Below.refl _ _) (fun _=>hps.symm)
  (fun pre W=>(W.cell? ⟨S,0,none⟩=some (G pre)/\W.frozen? ⟨S,0,none⟩=false)/\ButS S V W/\p pre)
  (fun cc pre W=>(W.cell? ⟨S,0,none⟩=some (Gx pre)/\W.frozen? ⟨S,0,none⟩=false)/\ButS S V W/\px cc pre)
  (OwnFrom.and (ownFrom_box _ _) (OwnFrom.and (ownFrom_but (Nat.le_refl _)) (ownFrom_pure _ _)))
  (fun cc=>OwnFrom.and (ownFrom_box _ _) (OwnFrom.and (ownFrom_but (Nat.le_refl _)) (ownFrom_pure _ _)))
  ⟨⟨v0,v1⟩,ButS.refl _ _,p0⟩ a₁ hassign ?_ ?_ ?_
 ·rintro l pre x W ⟨⟨hS,hf⟩,hB,hp⟩ hlen
  refine wpIn_mono (hbody l pre x W hS hf hB hp hlen) ?_
  intro e a' W' h
  have hbW:b+4<=W.heap.size:=Nat.le_trans hb hB.size
  cases e with
  | normal=>exact ⟨keeps_but h.2.1 hS,h.2.1.kpR hbW hSb,h.1,hB.trans h.2.1,h.2.2⟩
  | ret=>exact ⟨keeps_but h.2.1 hS,h.1,hB.trans h.2.1,h.2.2⟩
  | exit id=>exact ⟨keeps_but h.2.1 hS,h.1,hB.trans h.2.1,h.2.2⟩
  | goto t=>exact h.elim
  | panic c=>exact h.elim
  | outgrown=>exact h.elim
 ·rintro D xs W hD hxs ⟨⟨hS,hf⟩,hB,hp⟩ hK
  exact hdone D xs W hD hxs hS hf hB hp hK
 ·rintro D c pre W hD hpre ⟨⟨hS,hf⟩,hB,hp⟩ hK
  exact hstop D c pre W hD hpre hS hf hB hp hK
def marks (Ds:List Nat):List Deferred:=Ds.map fun D=>{ target:=.collected D,args:=#[] }
def MarksAt (n₀:Nat) (Ds:List Nat) (w:World):Prop:=Ds.Nodup/\∀ D∈Ds,n₀<=D/\w.heap[D]?=some (.deferred (some []))
theorem MarksAt.nil (n₀:Nat) (w:World):MarksAt n₀ [] w:=⟨List.nodup_nil,fun D h=>by cases h⟩
theorem MarksAt.lt {n₀:Nat} {Ds:List Nat} {w:World} (h:MarksAt n₀ Ds w) {D:Nat} (hD:D∈Ds):D<w.heap.size:=(Array.getElem?_eq_some_iff.1 (h.2 D hD).2).1
theorem MarksAt.but {n₀ S:Nat} {Ds:List Nat} {w w':World} (h:MarksAt n₀ Ds w) (hb:ButS S w w') (hS:S<n₀):MarksAt n₀ Ds w' :=
 ⟨h.1,fun D hD=>⟨(h.2 D hD).1,(hb.2.2.2.2 D (h.lt hD) (by have:=(h.2 D hD).1;omega)).trans (h.2 D hD).2⟩⟩
theorem MarksAt.cons {n₀ S:Nat} {Ds:List Nat} {w w':World} (h:MarksAt n₀ Ds w) (hb:ButS S w w') (hS:S<n₀) {D:Nat} (hD:w.heap.size<=D) (hn:n₀<=D) (hk:w'.heap[D]?=some (.deferred (some []))):MarksAt n₀ (D :: Ds) w':=by
 have h2:=h.but hb hS
 refine ⟨List.nodup_cons.2 ⟨fun hm=>by have:=h.lt hm;omega,h.1⟩,fun E hE=>?_⟩
 rcases List.mem_cons.1 hE with rfl | hE
 ·exact ⟨hn,hk⟩
 ·exact h2.2 E hE
theorem leaves_marks {Fe:Fence} {n:Nat} {P:Program} {fn:Func} {tmps:Array Value} {Rr:Ending->World->Prop} {n₀:Nat}:∀ (Ds:List Nat) (w:World),MarksAt n₀ Ds w->(∀ w',Below n₀ w w'->LeavesIn Fe n P fn tmps Rr [] .returning w')->LeavesInM Fe n P fn tmps Rr (marks Ds) .returning w
 | [],w,_,h=>h w (Below.refl _ _)
 | D :: Ds,w,hM,h=>by
  have hD:=hM.2 D (by simp)
  have hB:Below n₀ w (w.putObj D (.deferred none)):=(Below.refl _ _).grown (grownBy_putObj' w D _) (by have:=hM.lt (D:=D) (by simp);omega) (fun k e=>by cases e;omega)
  refine ⟨by simp,.inl ⟨D,_,rfl,run_takeDeferred hD.2,?_⟩⟩
  refine leaves_marks Ds _ ⟨(List.nodup_cons.1 hM.1).2,fun E hE=>?_⟩ (fun w' hw=>h w' (hB.trans hw))
  have hE2:=hM.2 E (by simp [hE])
  have hne:E≠D:=by rintro rfl;exact (List.nodup_cons.1 hM.1).1 hE
  exact ⟨hE2.1,(World.putObj_heap_other (fun e=>hne (by omega))).trans hE2.2⟩
end Go.Proofs.YtbccbgonlmkpkaaGreatDoor
namespace Go.Proofs.YtbccbgonlmkpkaaGreatDoor
open Go.RowKit
def offN (bl:Bool):Nat:=if bl then 10 else 2
def kP (bl:Bool) (k:Nat) (p:Int):Bool:=decide (k≠0) && (p == sdN bl * k)
def sS (l:List Int) (bl:Bool):Nat:=ofL (idx (sdP (sdN bl)) l)
def kS (l:List Int) (bl:Bool) (k:Nat):Nat:=ofL (idx (kP bl k) l)
def Fld (W:World) (B:Nat) (F R:Int) (S:Bool->Nat) (K:Bool->Nat->Nat):Prop :=
 (W.cell? ⟨B,0,none⟩=some (.int .i64 F)/\W.cell? ⟨B,1,none⟩=some (.int .i64 R))/\(∀ bl,W.cell? ⟨B,offN bl,none⟩=some (.int .u64 (S bl:Nat)))/\∀ bl k,k<7->W.cell? ⟨B,offN bl+1+k,none⟩=some (.int .u64 (K bl k:Nat))
theorem Fld.below {W W':World} {B:Nat} {F R:Int} {S:Bool->Nat} {K:Bool->Nat->Nat} (h:Fld W B F R S K) (hb:Below W.heap.size W W'):Fld W' B F R S K :=
 ⟨⟨(hb.cell (World.block_lt_of_cell? _ _ h.1.1)).trans h.1.1,(hb.cell (World.block_lt_of_cell? _ _ h.1.2)).trans h.1.2⟩,fun bl=>(hb.cell (World.block_lt_of_cell? _ _ (h.2.1 bl))).trans (h.2.1 bl),fun bl k hk=>(hb.cell (World.block_lt_of_cell? _ _ (h.2.2 bl k hk))).trans (h.2.2 bl k hk)⟩
theorem Fld.but {W W':World} {B T:Nat} {F R:Int} {S:Bool->Nat} {K:Bool->Nat->Nat} (h:Fld W B F R S K) (hb:ButS T W W') (hT:B≠T):Fld W' B F R S K :=
 ⟨⟨hb.cell h.1.1 hT,hb.cell h.1.2 hT⟩,fun bl=>hb.cell (h.2.1 bl) hT,fun bl k hk=>hb.cell (h.2.2 bl k hk) hT⟩
theorem Fld.lt {W:World} {B:Nat} {F R:Int} {S:Bool->Nat} {K:Bool->Nat->Nat} (h:Fld W B F R S K):B<W.heap.size:=World.block_lt_of_cell? _ _ h.1.1
def fieldV (F R:Int) (S:Bool->Nat) (K:Bool->Nat->Nat):Value:=.agg #[.int .i64 F,.int .i64 R,.int .u64 (S false:Nat),.int .u64 (K false 0:Nat),.int .u64 (K false 1:Nat),.int .u64 (K false 2:Nat),.int .u64 (K false 3:Nat),.int .u64 (K false 4:Nat),.int .u64 (K false 5:Nat),.int .u64 (K false 6:Nat),
 .int .u64 (S true:Nat),.int .u64 (K true 0:Nat),.int .u64 (K true 1:Nat),.int .u64 (K true 2:Nat),.int .u64 (K true 3:Nat),.int .u64 (K true 4:Nat),.int .u64 (K true 5:Nat),.int .u64 (K true 6:Nat)]
theorem seven {k:Nat} (h:k<7):k=0\/k=1\/k=2\/k=3\/k=4\/k=5\/k=6:=by omega
theorem Fld.new (w:World) (F R:Int) (S:Bool->Nat) (K:Bool->Nat->Nat):Fld (w.alloc (.cells (fieldV F R S K).cells 209)) w.heap.size F R S K:=by
 refine ⟨⟨?_,?_⟩,fun bl=>?_,fun bl k hk=>?_⟩
 ·rw [World.cell?_alloc_new];rfl
 ·rw [World.cell?_alloc_new];rfl
 ·rw [World.cell?_alloc_new];cases bl <;> rfl
 ·rw [World.cell?_alloc_new];rcases seven hk with rfl | rfl | rfl | rfl | rfl | rfl | rfl <;> cases bl <;> rfl
theorem aSingle_any (n:Int) (h0:0<=n) (h1:n<64) (w:World) :
  Calls Tryz.prog 213 #[.int .i64 n] w fun e w'=>e=.returned (.int .u64 (bitN n.toNat:Int))/\w=w':=by
 have E:=Lib.hid (pow_wrap n h1)
 go_enter Tryz.func213,Tryz.ntmps213
 go_wp2
 go_ret
 exact ⟨ret_int E.out,rfl⟩
theorem aSide_any (B:Nat) (bl:Bool) (w:World) :
  Calls Tryz.prog 201 #[.pointer (some ⟨B,0,none⟩),.bool bl] w fun e w'=>e=.returned (.pointer (some ⟨B,offN bl,none⟩))/\w=w':=by
 cases bl
 all_goals
  go_enter Tryz.func201,Tryz.ntmps201
  go_wp2
  go_ret
  exact ⟨rfl,rfl⟩
theorem aOcc_any (B x y:Nat) (hx:x<18446744073709551616) (hy:y<18446744073709551616) (w:World) (h1:w.cell? ⟨B,2,none⟩=some (.int .u64 (x:Nat))) (h2:w.cell? ⟨B,10,none⟩=some (.int .u64 (y:Nat))) :
  Calls Tryz.prog 204 #[.pointer (some ⟨B,0,none⟩)] w fun e w'=>e=.returned (.int .u64 ((x ||| y:Nat):Int))/\Below w.heap.size w w':=by
 have E:=Lib.hid (u64_or_nat x y hx hy)
 go_enter Tryz.func204,Tryz.ntmps204
 go_wp2
 go_quiet (fail)
 go_wp2
 go_ret
 exact ⟨ret_int E.out,drawn (Below.refl _ _) _⟩
end Go.Proofs.YtbccbgonlmkpkaaGreatDoor
namespace Go.Proofs.YtbccbgonlmkpkaaGreatDoor
open Go.RowKit
def AddP (B q k n x y:Nat) (w w':World):Prop:=ButS B w w'/\w'.heap.size=w.heap.size/\w'.cell? ⟨B,q,none⟩=some (.int .u64 ((x ||| bitN n:Nat):Int))/\w'.cell? ⟨B,q+1+k,none⟩=some (.int .u64 ((y ||| bitN n:Nat):Int)) /\
 (∀ o v,o≠q->o≠q+1+k->w.cell? ⟨B,o,none⟩=some v->w'.cell? ⟨B,o,none⟩=some v)/\∀ a,w'.frozen? a=w.frozen? a
theorem addP_of {B q k n x y:Nat} {w:World} (h1:w.cell? ⟨B,q,none⟩=some (.int .u64 (x:Nat))) (h2:w.cell? ⟨B,q+1+k,none⟩=some (.int .u64 (y:Nat))) :
  AddP B q k n x y w (((w.setCell ⟨B,q,none⟩ (.int .u64 ((x ||| bitN n:Nat):Int))).drew.setCell ⟨B,q+1+k,none⟩ (.int .u64 ((y ||| bitN n:Nat):Int))).drew):=by
 refine ⟨((ButS.set _ _ _).drew).trans ((ButS.set _ _ _).drew),by simp,?_,?_,?_,?_⟩
 ·rw [World.cell?_drew,World.cell?_setCell_other _ _ _ _ (fun e=>by injection e;omega)]
  exact World.cell?_setCell_same w ⟨B,q,none⟩ _ h1
 ·rw [World.cell?_drew]
  exact World.cell?_setCell_same _ ⟨B,q+1+k,none⟩ _ ((World.cell?_setCell_other w ⟨B,q,none⟩ ⟨B,q+1+k,none⟩ _ (fun e=>by injection e;omega)).trans h2)
 ·intro o v h3 h4 h5
  rw [World.cell?_drew]
  refine (World.cell?_setCell_other _ _ _ _ (fun e=>by injection e;omega)).trans ?_
  exact (World.cell?_setCell_other w ⟨B,q,none⟩ ⟨B,o,none⟩ _ (fun e=>by injection e;omega)).trans h5
 ·intro a'
  refine (World.frozen?_setCell ..).trans ?_
  exact World.frozen?_setCell ..
theorem aAdd_any (B q k n x y:Nat) (hk:k<7) (hn:n<64) (hx:x<18446744073709551616) (hy:y<18446744073709551616) (w:World) (h1:w.cell? ⟨B,q,none⟩=some (.int .u64 (x:Nat))) (h2:w.cell? ⟨B,q+1+k,none⟩=some (.int .u64 (y:Nat)))
  (f1:w.frozen? ⟨B,q,none⟩=false) (f2:w.frozen? ⟨B,q+1+k,none⟩=false) :
  Calls Tryz.prog 200 #[.pointer (some ⟨B,q,none⟩),.int .i8 k,.int .i64 n] w fun e w'=>e=.returned (.tuple #[])/\AddP B q k n x y w w':=by
 have HX:=Lib.hid (or_bitN x n hx hn)
 have HY:=Lib.hid (or_bitN y n hy hn)
 have HS:=Lib.hid (fun w=>aSingle_any n (by omega) (by omega) w)
 have HP:=Lib.hid (addP_of (n:=n) h1 h2)
 go_enter Tryz.func200,Tryz.ntmps200
 go_wp2
 go_region_with (go_at_call 213;refine (HS.out _).mono ?_;rintro e w4 ⟨rfl,rfl⟩)
 all_goals
  simp only [Int.toNat_natCast] at *
  go_wp2
  rw [HX.out]
  have hp:=HP.out
  have k2:(w.setCell ⟨B,q,none⟩ (.int .u64 ((x ||| bitN n:Nat):Int))).drew.cell? ⟨B,q+1+k,none⟩=some (.int .u64 (y:Nat)):=(World.cell?_setCell_other w ⟨B,q,none⟩ ⟨B,q+1+k,none⟩ _ (fun e=>by injection e;omega)).trans h2
  have g2:(w.setCell ⟨B,q,none⟩ (.int .u64 ((x ||| bitN n:Nat):Int))).drew.frozen? ⟨B,q+1+k,none⟩=false:=(World.frozen?_setCell ..).trans f2
  generalize (w.setCell ⟨B,q,none⟩ (.int .u64 ((x ||| bitN n:Nat):Int))).drew=V at *
  clear HP h1 h2 f1 f2
  have HP:=Lib.hid hp
  clear hp
  go_region_with (go_at_call 213;refine (HS.out _).mono ?_;rintro e w4 ⟨rfl,rfl⟩)
  all_goals
   try simp only [Int.toNat_natCast] at *
   go_wp2
   go_end0
   refine ⟨rfl,?_⟩
   rw [HY.out]
   exact HP.out
end Go.Proofs.YtbccbgonlmkpkaaGreatDoor
namespace Go.Proofs.YtbccbgonlmkpkaaGreatDoor
open Go.RowKit
def Sn (l:List Int) (k:Nat) (bl:Bool):Nat:=ofL (idxTo (sdP (sdN bl)) l k)
def Kn (l:List Int) (k:Nat) (bl:Bool) (j:Nat):Nat:=ofL (idxTo (kP bl j) l k)
theorem idxTo_lt64 (P:Int->Bool) (l:List Int) (k:Nat) (hk:k<=64):ofL (idxTo P l k)<18446744073709551616:=by
 have:=ofL_lt (l:=idxTo P l k) (n:=64) (fun i hi=>by
  unfold idxTo at hi
  have:=List.mem_range.1 (List.mem_filter.1 hi).1
  omega)
 simpa using this
theorem Sn_lt {l:List Int} {k:Nat} (hk:k<=64) (bl:Bool):Sn l k bl<18446744073709551616:=idxTo_lt64 _ _ _ hk
theorem Kn_lt {l:List Int} {k:Nat} (hk:k<=64) (bl:Bool) (j:Nat):Kn l k bl j<18446744073709551616:=idxTo_lt64 _ _ _ hk
theorem Sn_all (l:List Int):Sn l l.length=sS l:=rfl
theorem Kn_all (l:List Int):Kn l l.length=kS l:=rfl
def FldF (W:World) (B:Nat) (F R:Int) (S:Bool->Nat) (K:Bool->Nat->Nat):Prop:=Fld W B F R S K/\∀ o,W.frozen? ⟨B,o,none⟩=false
theorem fld_same {W:World} {B:Nat} {F R:Int} {l:List Int} {k:Nat} (h:FldF W B F R (Sn l k) (Kn l k)) (h0:l[k]?.getD 0=0):FldF W B F R (Sn l (k+1)) (Kn l (k+1)):=by
 have e1:Sn l (k+1)=Sn l k:=by
  funext bl
  unfold Sn
  rw [idxTo_no _ _ _ (by rw [h0];cases bl <;> rfl)]
 have e2:Kn l (k+1)=Kn l k:=by
  funext bl j
  unfold Kn
  rw [idxTo_no _ _ _ (by
   rw [h0]
   unfold kP
   by_cases hj:j=0
   ·simp [hj]
   ·cases bl <;> simp [sdN,hj] <;> omega)]
 rw [e1,e2]
 exact h
theorem fld_add {W W':World} {B:Nat} {F R:Int} {l:List Int} {k j:Nat} {bl:Bool} (h:FldF W B F R (Sn l k) (Kn l k)) (hj:1<=j) (hj6:j<=6) (hp:l[k]?.getD 0=sdN bl * j) (ha:AddP B (offN bl) j k (Sn l k bl) (Kn l k bl j) W W'):FldF W' B F R (Sn l (k+1)) (Kn l (k+1)):=by
 obtain ⟨_,_,a1,a2,a3,a4⟩:=ha
 have hs:∀ b,sdP (sdN b) (l[k]?.getD 0)=(b == bl):=by
  intro b
  rw [hp]
  unfold sdP sgnP
  cases b <;> cases bl <;> simp [sdN] <;> omega
 have hk:∀ b i,i<7->kP b i (l[k]?.getD 0)=((b == bl) && (i == j)):=by
  intro b i hi
  rw [hp]
  unfold kP
  rw [Bool.eq_iff_iff]
  cases b <;> cases bl <;> simp [sdN] <;> omega
 have hSy:Sn l (k+1) bl=Sn l k bl ||| bitN k:=by
  unfold Sn
  rw [idxTo_yes _ _ _ (by rw [hs];simp),ofL_snoc]
 have hSn:∀ b,b≠bl->Sn l (k+1) b=Sn l k b:=fun b hb=>by
  unfold Sn
  rw [idxTo_no _ _ _ (by rw [hs];simpa using hb)]
 have hKy:Kn l (k+1) bl j=Kn l k bl j ||| bitN k:=by
  unfold Kn
  rw [idxTo_yes _ _ _ (by rw [hk _ _ (by omega)];simp),ofL_snoc]
 have hKn:∀ b i,i<7->¬ (b=bl/\i=j)->Kn l (k+1) b i=Kn l k b i:=fun b i hi hb=>by
  unfold Kn
  rw [idxTo_no _ _ _ (by
   rw [hk _ _ hi,Bool.eq_false_iff]
   intro e
   simp at e
   exact hb e)]
 have off2:∀ b,offN b=2\/offN b=10:=fun b=>by cases b <;> simp [offN]
 have offne:∀ b,b≠bl->(offN b=2/\offN bl=10)\/(offN b=10/\offN bl=2):=fun b hb=>by cases b <;> cases bl <;> simp [offN] at hb ⊢
 have o2:=off2 bl
 refine ⟨⟨⟨a3 0 _ (by omega) (by omega) h.1.1.1,a3 1 _ (by omega) (by omega) h.1.1.2⟩,fun b=>?_,fun b i hi=>?_⟩,fun o=>(a4 _).trans (h.2 o)⟩
 ·by_cases hb:b=bl
  ·subst hb
   rw [hSy];exact a1
  ·rw [hSn b hb]
   have:=offne b hb
   exact a3 _ _ (by omega) (by omega) (h.1.2.1 b)
 ·by_cases hb:b=bl
  ·subst hb
   by_cases hi2:i=j
   ·subst hi2
    rw [hKy];exact a2
   ·rw [hKn b i hi (fun e=>hi2 e.2)]
    exact a3 _ _ (by omega) (by omega) (h.1.2.2 b i hi)
  ·rw [hKn b i hi (fun e=>hb e.1)]
   have:=offne b hb
   exact a3 _ _ (by omega) (by omega) (h.1.2.2 b i hi)
def putL (B:Nat):World->Nat->List Value->World
 | W,_,[]=>W
 | W,o,v :: vs=>putL B (W.setCell ⟨B,o,none⟩ v) (o+1) vs
theorem putL_but (B:Nat):∀ (vs:List Value) (W:World) (o:Nat),ButS B W (putL B W o vs)
 | [],_,_=>ButS.refl _ _
 | v :: vs,W,o=>(ButS.set W o v).trans (putL_but B vs _ _)
theorem putL_other (B:Nat):∀ (vs:List Value) (W:World) (o q:Nat) (u:Value),q<o->W.cell? ⟨B,q,none⟩=some u->(putL B W o vs).cell? ⟨B,q,none⟩=some u
 | [],_,_,_,_,_,h=>h
 | v :: vs,W,o,q,u,hq,h=>putL_other B vs _ (o+1) q u (by omega) ((World.cell?_setCell_other W ⟨B,o,none⟩ ⟨B,q,none⟩ _ (fun e=>by injection e;omega)).trans h)
theorem putL_cell (B:Nat):∀ (vs:List Value) (W:World) (o:Nat),(∀ j,j<vs.length->∃ u,W.cell? ⟨B,o+j,none⟩=some u)->∀ j (hj:j<vs.length),(putL B W o vs).cell? ⟨B,o+j,none⟩=some vs[j]
 | [],_,_,_,j,hj=>by simp at hj
 | v :: vs,W,o,h,0,_=>by
  obtain ⟨u,hu⟩:=h 0 (by simp)
  exact putL_other B vs _ (o+1) o v (by omega) (World.cell?_setCell_same W ⟨B,o,none⟩ _ hu)
 | v :: vs,W,o,h,j+1,hj=>by
  have:=putL_cell B vs (W.setCell ⟨B,o,none⟩ v) (o+1) (fun i hi=>by
   obtain ⟨u,hu⟩:=h (i+1) (by simpa using hi)
   rw [show o+(i+1)=o+1+i by omega] at hu
   exact ⟨u,(World.cell?_setCell_other W ⟨B,o,none⟩ ⟨B,o+1+i,none⟩ _ (fun e=>by injection e;omega)).trans hu⟩) j (by simpa using hj)
  rw [show o+(j+1)=o+1+j by omega]
  exact this
def fieldC (F R:Int) (S:Bool->Nat) (K:Bool->Nat->Nat):List Value:=[.int .i64 F,.int .i64 R,.int .u64 (S false:Nat),.int .u64 (K false 0:Nat),.int .u64 (K false 1:Nat),.int .u64 (K false 2:Nat),.int .u64 (K false 3:Nat),.int .u64 (K false 4:Nat),.int .u64 (K false 5:Nat),.int .u64 (K false 6:Nat),.int .u64 (S true:Nat),.int .u64 (K true 0:Nat),.int .u64 (K true 1:Nat),.int .u64 (K true 2:Nat),.int .u64 (K true 3:Nat),.int .u64 (K true 4:Nat),.int .u64 (K true 5:Nat),.int .u64 (K true 6:Nat)]
theorem fld_put {W:World} {B:Nat} {F R:Int} {S:Bool->Nat} {K:Bool->Nat->Nat} (h:∀ j,j<18->∃ u,W.cell? ⟨B,j,none⟩=some u):Fld (putL B W 0 (fieldC F R S K)) B F R S K:=by
 have hp:=putL_cell B (fieldC F R S K) W 0 (fun j hj=>by rw [Nat.zero_add];exact h j hj)
 simp only [Nat.zero_add] at hp
 have hq:∀ j (hj:j<18),(putL B W 0 (fieldC F R S K)).cell? ⟨B,j,none⟩=some ((fieldC F R S K)[j]'hj):=fun j hj=>hp j hj
 refine ⟨⟨hq 0 (by omega),hq 1 (by omega)⟩,fun bl=>?_,fun bl k hk=>?_⟩
 ·cases bl
  ·exact hq 2 (by omega)
  ·exact hq 10 (by omega)
 ·cases bl
  ·rcases seven hk with rfl | rfl | rfl | rfl | rfl | rfl | rfl
   ·exact hq 3 (by omega)
   ·exact hq 4 (by omega)
   ·exact hq 5 (by omega)
   ·exact hq 6 (by omega)
   ·exact hq 7 (by omega)
   ·exact hq 8 (by omega)
   ·exact hq 9 (by omega)
  ·rcases seven hk with rfl | rfl | rfl | rfl | rfl | rfl | rfl
   ·exact hq 11 (by omega)
   ·exact hq 12 (by omega)
   ·exact hq 13 (by omega)
   ·exact hq 14 (by omega)
   ·exact hq 15 (by omega)
   ·exact hq 16 (by omega)
   ·exact hq 17 (by omega)
theorem Fld.cells {W:World} {B:Nat} {F R:Int} {S:Bool->Nat} {K:Bool->Nat->Nat} (h:Fld W B F R S K):∀ j (hj:j<18),W.cell? ⟨B,j,none⟩=some ((fieldC F R S K)[j]'hj):=by
 intro j hj
 have:j=0\/j=1\/j=2\/j=3\/j=4\/j=5\/j=6\/j=7\/j=8\/j=9\/j=10\/j=11\/j=12\/j=13\/j=14\/j=15\/j=16\/j=17:=by omega
 rcases this with rfl | rfl | rfl | rfl | rfl | rfl | rfl | rfl | rfl | rfl | rfl | rfl | rfl | rfl | rfl | rfl | rfl | rfl
 ·exact h.1.1
 ·exact h.1.2
 ·exact h.2.1 false
 ·exact h.2.2 false 0 (by omega)
 ·exact h.2.2 false 1 (by omega)
 ·exact h.2.2 false 2 (by omega)
 ·exact h.2.2 false 3 (by omega)
 ·exact h.2.2 false 4 (by omega)
 ·exact h.2.2 false 5 (by omega)
 ·exact h.2.2 false 6 (by omega)
 ·exact h.2.1 true
 ·exact h.2.2 true 0 (by omega)
 ·exact h.2.2 true 1 (by omega)
 ·exact h.2.2 true 2 (by omega)
 ·exact h.2.2 true 3 (by omega)
 ·exact h.2.2 true 4 (by omega)
 ·exact h.2.2 true 5 (by omega)
 ·exact h.2.2 true 6 (by omega)
theorem res18 {fn:Func} {p u:Tmp} (hf:fn.results=#[.cell p 209,.tmp u]) {tmps:Array Value} {W:World} {B:Nat} {F R:Int} {S:Bool->Nat} {K:Bool->Nat->Nat} (hp:tmps.getD p undef=.pointer (some ⟨B,0,none⟩)) (h:Fld W B F R S K) :
  (results fn tmps).run Tryz.prog W=.ok (.tuple #[fieldV F R S K,tmps.getD u undef]) W:=by
 rw [results_cell_tmp hf,hp]
 have r0:=h.cells 0 (by omega)
 have r1:=h.cells 1 (by omega)
 have r2:=h.cells 2 (by omega)
 have r3:=h.cells 3 (by omega)
 have r4:=h.cells 4 (by omega)
 have r5:=h.cells 5 (by omega)
 have r6:=h.cells 6 (by omega)
 have r7:=h.cells 7 (by omega)
 have r8:=h.cells 8 (by omega)
 have r9:=h.cells 9 (by omega)
 have r10:=h.cells 10 (by omega)
 have r11:=h.cells 11 (by omega)
 have r12:=h.cells 12 (by omega)
 have r13:=h.cells 13 (by omega)
 have r14:=h.cells 14 (by omega)
 have r15:=h.cells 15 (by omega)
 have r16:=h.cells 16 (by omega)
 have r17:=h.cells 17 (by omega)
 simp only [fieldC,List.getElem_cons_zero,List.getElem_cons_succ] at r0 r1 r2 r3 r4 r5 r6 r7 r8 r9 r10 r11 r12 r13 r14 r15 r16 r17
 simp [go_sem,r0,r1,r2,r3,r4,r5,r6,r7,r8,r9,r10,r11,r12,r13,r14,r15,r16,r17]
 rfl
def zeroF (o:Nat):Value:=if o<2 then .int .i64 0 else .int .u64 0
theorem zero_cells (w:World) (o:Nat) (ho:o<18):(w.alloc (.cells (fieldV 0 0 (fun _=>0) (fun _ _=>0)).cells 209)).cell? ⟨w.heap.size,o,none⟩=some (zeroF o)/\(w.alloc (.cells (fieldV 0 0 (fun _=>0) (fun _ _=>0)).cells 209)).frozen? ⟨w.heap.size,o,none⟩=false:=by
 refine ⟨?_,by simp [go_sem]⟩
 rw [World.cell?_alloc_new]
 have:o=0\/o=1\/o=2\/o=3\/o=4\/o=5\/o=6\/o=7\/o=8\/o=9\/o=10\/o=11\/o=12\/o=13\/o=14\/o=15\/o=16\/o=17:=by omega
 rcases this with rfl | rfl | rfl | rfl | rfl | rfl | rfl | rfl | rfl | rfl | rfl | rfl | rfl | rfl | rfl | rfl | rfl | rfl <;> rfl
abbrev zS:Bool->Nat:=fun _=>0
abbrev zK:Bool->Nat->Nat:=fun _ _=>0
end Go.Proofs.YtbccbgonlmkpkaaGreatDoor
