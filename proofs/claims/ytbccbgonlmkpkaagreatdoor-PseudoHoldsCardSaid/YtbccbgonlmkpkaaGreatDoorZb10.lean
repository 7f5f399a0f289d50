/- What the theorem needs, piece Zb10. -/
import Derived.RangeFuncNested
import Derived.RangeFuncBound
import Derived.RangeFuncCalls
import Derived.RangeFuncLeaves
import Derived.Shelf.Abstract
import Derived.WalkKit
import Derived.OwnWalkIn
import Derived.TacticsInMore
import Derived.LoopNIn
import Derived.LoopIn
import Derived.Sort.QuietThIn
import Derived.Sort.QuietTacIn
import Derived.Sort.BigQuietIn
import Derived.Test.YtbccbgonlmkpkaaGreatDoorZb03
import Derived.Test.YtbccbgonlmkpkaaGreatDoorZb02
import Derived.Test.YtbccbgonlmkpkaaGreatDoorZb04
set_option linter.unusedSimpArgs false
set_option linter.unusedVariables false
set_option maxRecDepth 100000
set_option maxHeartbeats 16000000
namespace Go.Proofs.YtbccbgonlmkpkaaGreatDoor
open Go.RowKit Go.Shelf
attribute [local go_sem] Oper.semAt_some
theorem pSingle_any (n:Int) (h0:0<=n) (h1:n<64) (w:World) :
  Calls Tryz.prog 196 #[.int .i64 n] w fun e w'=>e=.returned (.int .u64 (bitN n.toNat:Int))/\w=w':=by
 have E:=Lib.hid (pow_wrap n h1)
 go_enter Tryz.func196,Tryz.ntmps196
 go_wp2
 go_ret
 exact ⟨ret_int E.out,rfl⟩
theorem pIsSet_yes (F R:Int) (X:Nat) (hX:X<18446744073709551616) (hv:vsz F R) (w:World) :
  Calls Tryz.prog 164 #[.agg #[.int .i64 F,.int .i64 R],.int .u64 X] w fun e w'=>e=.returned (.bool (decide (X<2 ^ (F * R).toNat)))/\Below w.heap.size w w':=by
 obtain ⟨m0,m1⟩:=vsz_mul hv
 have hn:=andNot_full X (F * R).toNat hX (by omega)
 have hq:(bits .andNot .u64 (X:Int) (fullN (F * R).toNat:Int) == 0)=decide (X<2 ^ (F * R).toNat):=by
  rw [bne] at hn
  cases h:(bits .andNot .u64 (X:Int) (fullN (F * R).toNat:Int) == 0)
  ·rw [h] at hn;revert hn;cases decide (X<2 ^ (F * R).toNat) <;> simp
  ·rw [h] at hn;revert hn;cases decide (X<2 ^ (F * R).toNat) <;> simp
 have HQ:=Lib.hid hq
 clear hq hn
 go_enter Tryz.func164,Tryz.ntmps164
 go_wp2_with fail
 refine (all_yes _ _ hv _).mono ?_
 rintro e w1 ⟨rfl,hb⟩
 go_wp2
 go_ret
 exact ⟨ret_bool HQ.out,after1 hb⟩
theorem pForward_any (b:Bool) (w:World):Calls Tryz.prog 195 #[.bool b] w fun e w'=>e=.returned (.int .i64 (fwd b))/\w=w':=by
 cases b
 all_goals
  go_enter Tryz.func195,Tryz.ntmps195
  go_wp2
  go_ret
  exact ⟨rfl,rfl⟩
theorem pSecond_any (F R:Int) (b:Bool) (hR:3<=R/\R<=8) (w:World):Calls Tryz.prog 193 #[.agg #[.int .i64 F,.int .i64 R],.bool b] w fun e w'=>e=.returned (.int .i64 (scd R b))/\Below w.heap.size w w':=by
 obtain ⟨r0,r1⟩:=hR
 cases b
 all_goals
  go_enter Tryz.func193,Tryz.ntmps193
  go_wp2
  go_ret
  exact ⟨rfl,box1 _ _⟩
theorem pRay_any (F R a f r:Int) (w:World) :
  Calls Tryz.prog 194 #[.agg #[.int .i64 F,.int .i64 R],.int .i64 a,.int .i64 f,.int .i64 r] w fun e w'=>e=.returned (.func (.func 212) #[] #[.pointer (some ⟨w.heap.size,0,none⟩),.pointer (some ⟨w.heap.size+1,0,none⟩),.pointer (some ⟨w.heap.size+1+1,0,none⟩),.pointer (some ⟨w.heap.size+1+1+1,0,none⟩)])/\w'=(((w.alloc (.cells #[.int .i64 F,.int .i64 R] 23)).alloc (.cells #[.int .i64 a] 3)).alloc (.cells #[.int .i64 f] 3)).alloc (.cells #[.int .i64 r] 3):=by
 go_enter Tryz.func194,Tryz.ntmps194
 go_wp2
 go_ret
 exact ⟨rfl,rfl⟩
def RayIs (F R a f r:Int) (L:List Nat):Prop:=(vat F R a/\¬ (f=0/\r=0)/\L=rayL F R (a % F) (a / F) f r)\/(vat F R a/\f=0/\r=0/\L=[])\/(¬ vat F R a/\L=[])
abbrev El (L:List Nat):={ i:Nat // i∈L }
def vl {L:List Nat} (l:List (El L)):List Nat:=l.map (·.1)
theorem vl_snoc {L:List Nat} (l:List (El L)) (x:El L):vl (l ++ [x])=vl l ++ [x.1]:=by simp [vl]
theorem vl_len {L:List Nat} (l:List (El L)):(vl l).length=l.length:=by simp [vl]
theorem vl_nil {L:List Nat}:vl ([]:List (El L))=[]:=rfl
theorem tw_pre (P:Nat->Bool) (m n:Nat) (hm:m<=n) (h:∀ j,j<m->P j=true):List.range m <+: (List.range n).takeWhile P:=by
 have e:List.range n=List.range' 0 m ++ List.range' m (n - m):=by
  rw [List.range_eq_range']
  have:=List.range'_append (s:=0) (m:=m) (n:=n - m) (step:=1)
  simp at this
  rw [this]
  congr 1
  omega
 rw [e,List.takeWhile_append,tw_all P m 0 (fun j hj=>by simpa using h j hj)]
 simp
 rw [List.range_eq_range']
 exact ⟨_,rfl⟩
theorem rayL_pre {F R x y f r:Int} {m:Nat} (hm:m<=8) (h:∀ j,j<m->rayP F R x y f r j=true):(List.range m).map (rayNum F x y f r) <+: rayL F R x y f r:=by
 obtain ⟨t,ht⟩:=tw_pre (rayP F R x y f r) m 8 hm h
 unfold rayL
 rw [<- ht,List.map_append]
 exact ⟨_,rfl⟩
theorem rayL_mem {F R x y f r:Int} {k:Nat} (hk:k<8) (h:∀ j,j<k+1->rayP F R x y f r j=true):rayNum F x y f r k∈rayL F R x y f r:=by
 refine (rayL_pre (m:=k+1) (by omega) h).subset ?_
 rw [List.mem_map]
 exact ⟨k,by simp,rfl⟩
theorem step_le {k x f F:Int} (hF:F<=8) (x0:0<=x) (x1:x<F) (h0:0<=x+k * f) (h1:x+k * f<F) (hf:f≠0):k<=7:=by
 apply Int.not_lt.1
 intro hk
 rcases Int.lt_or_gt_of_ne hf with h | h
 ·have:=Int.mul_le_mul_of_nonneg_left (a:=f) (b:=-1) (c:=k) (by omega) (by omega)
  omega
 ·have:=Int.mul_le_mul_of_nonneg_left (a:=1) (b:=f) (c:=k) (by omega) (by omega)
  omega
theorem wrap_on {F c f:Int} (hF:F<=8) (c0:0<=c) (c1:c<F) (f0:-9223372036854775808<=f) (f1:f<=9223372036854775807):(0<=c+f/\c+f<F) ↔ (0<=IntKind.i64.wrap (c+f)/\IntKind.i64.wrap (c+f)<F):=by
 rw [IntKind.wrap_i64];omega
theorem below_grown {w w':World} (h:Below w.heap.size w w'):w.grownBy w' none:=⟨h.os,h.tape,h.output,h.size,fun k hk _=>h.block k hk⟩
end Go.Proofs.YtbccbgonlmkpkaaGreatDoor
namespace Go.Proofs.YtbccbgonlmkpkaaGreatDoor
open Go.RowKit Go.Shelf
attribute [local go_sem] Oper.semAt_some
def KpR (n₀ b:Nat) (W W':World):Prop:=Below n₀ W W'/\∀ k,b<=k->k<b+4->W'.heap[k]?=W.heap[k]?
theorem KpR.trans {n₀ b:Nat} {A B C:World} (h:KpR n₀ b A B) (k:KpR n₀ b B C):KpR n₀ b A C:=⟨h.1.trans k.1,fun i h0 h1=>(k.2 i h0 h1).trans (h.2 i h0 h1)⟩
theorem KpR.refl (n₀ b:Nat) (A:World):KpR n₀ b A A:=⟨Below.refl _ _,fun _ _ _=>rfl⟩
theorem KpR.cell {n₀ b:Nat} {A B:World} (h:KpR n₀ b A B) {p:Addr} (h0:b<=p.block) (h1:p.block<b+4):B.cell? p=A.cell? p:=World.cell?_of_block (h.2 _ h0 h1)
theorem KpR.of {n₀ b:Nat} {A B:World} (h:Below A.heap.size A B) (hn:n₀<=A.heap.size) (hb:b+4<=A.heap.size):KpR n₀ b A B:=⟨h.mono hn,fun k _ h1=>h.block k (by omega)⟩
theorem kpR_t {n₀ b:Nat} {A B C:World} (h:KpR n₀ b A B) (k:KpR n₀ b B C):KpR n₀ b A C:=h.trans k
theorem kpR_b {n₀ b:Nat} {w:World} (hn:n₀<=w.heap.size) (hb:b+4<=w.heap.size) (W:World) (l:Nat) (o o':Obj) (hl:w.heap.size<=l) (h:W.heap[l]?=some o) (h1:o.isCells=false) (h2:o.isWalk=false):KpR n₀ b W (W.putObj l o') :=
 ⟨belowK_b hn W l o o' hl h h1 h2,fun k _ hk=>World.putObj_heap_other (fun e=>by omega)⟩
theorem ray1_in (n l b n₀:Nat) (F R a f r:Int) (L:List Nat) (hL:RayIs F R a f r L) (hn:1<=n) (f0:-9223372036854775808<=f) (f1:f<=9223372036854775807) (r0:-9223372036854775808<=r) (r1:r<=9223372036854775807) (J Jx:List (El L)->World->Prop)
  (hJd:∀ pre W W',J pre W->W.grownBy W' none->J pre W') (hJn:∀ pre W q,J pre W->J pre (W.drewN q))
  (hY:∀ pre x W,J pre W->pre.length<L.length->YieldAt Fence.wide (n - 1) Tryz.prog l #[.int .i64 (x.1:Int)] W fun e W' =>
   (e=.returned (.bool true)/\J (pre ++ [x]) W'/\KpR n₀ b W W')\/(e=.returned (.bool false)/\Jx (pre ++ [x]) W'))
  (W:World) (hn0:n₀<=W.heap.size) (hb:b+4<=W.heap.size) (c0:W.cell? ⟨b,0,none⟩=some (.int .i64 F)) (c1:W.cell? ⟨b,1,none⟩=some (.int .i64 R)) (ca:W.cell? ⟨b+1,0,none⟩=some (.int .i64 a)) (cf:W.cell? ⟨b+1+1,0,none⟩=some (.int .i64 f)) (cr:W.cell? ⟨b+1+1+1,0,none⟩=some (.int .i64 r)) (h0:J [] W) :
  CallsIn Fence.wide n Tryz.prog 212 #[.func (.yield l) #[] #[],.pointer (some ⟨b,0,none⟩),.pointer (some ⟨b+1,0,none⟩),.pointer (some ⟨b+1+1,0,none⟩),.pointer (some ⟨b+1+1+1,0,none⟩)] W fun e W'=>(∃ v,e=.returned v) /\
   ((∃ ys,vl ys=L/\J ys W')\/(∃ pre,vl pre <+: L/\Jx pre W')):=by
 refine callsIn_of_wp Tryz.func212 rfl trivial ?_ rfl
 simp only [Tryz.ntmps212,List.size_toArray,List.length_cons,List.length_nil,Nat.reduceAdd,Nat.reduceSub,Array.replicate_succ,Array.replicate_zero,List.push_toArray,List.append_toArray,List.nil_append,List.cons_append]
 rcases hL with ⟨ha,hd,hL⟩ | ⟨ha,rfl,rfl,hL⟩ | ⟨ha,hL⟩
 ·obtain ⟨p0,p1,p2,p3⟩:=place_bd ha.1 ha.2.1 ha.2.2
  have hF8:=ha.1.2.1
  have hR8:=ha.1.2.2.2
  have hv:=ha.1
  have HLL:=Lib.hid hL
  clear hL
  have HPL:=Lib.hid (placeX_yes F R a ha)
  obtain ⟨x,hx⟩:∃ x,a % F=x:=⟨_,rfl⟩
  obtain ⟨y,hy⟩:∃ y,a / F=y:=⟨_,rfl⟩
  rw [hx,hy] at HLL HPL
  rw [hx] at p0 p1
  rw [hy] at p2 p3
  have hg:((f == 0)=false)\/((f == 0)=true/\(r == 0)=false):=by
   by_cases h:f=0
   ·exact .inr ⟨by simp [h],beq_eq_false_iff_ne.2 (fun e=>hd ⟨h,e⟩)⟩
   ·exact .inl (beq_eq_false_iff_ne.2 h)
  have HD:=Lib.hid hd
  have HV:=Lib.hid hv
  have HY:=Lib.hid hY
  have HJ:=Lib.hid hJd
  have HJN:=Lib.hid hJn
  clear hx hy hd ha hv hY hJd hJn
  rcases hg with g1 | ⟨g1,g2⟩
  all_goals
   gi_wp2_with fail
   refine ⟨trivial,callsIn_wide.2 ((HPL.out _).mono ?_)⟩
   rintro e w1 ⟨rfl,hB1⟩
   have s1:=hB1.size
   have k0:=(hB1.cell (p:=⟨b,0,none⟩) (World.block_lt_of_cell? _ _ c0)).trans c0
   have k1:=(hB1.cell (p:=⟨b,1,none⟩) (World.block_lt_of_cell? _ _ c1)).trans c1
   have kf:=(hB1.cell (p:=⟨b+1+1,0,none⟩) (World.block_lt_of_cell? _ _ cf)).trans cf
   have kr:=(hB1.cell (p:=⟨b+1+1+1,0,none⟩) (World.block_lt_of_cell? _ _ cr)).trans cr
   have j1:J [] w1:=HJ.out _ _ _ h0 (below_grown hB1)
   clear c0 c1 ca cf cr h0
   gi_wp2
   gi_loopw [6,7] (fun u v wr=>∃ (k:Nat) (cx cy:Int) (pre:List (El L)),k<8/\u=.int .i64 cx/\v=.int .i64 cy/\Hid (cx=x+(k:Int) * f/\cy=y+(k:Int) * r)/\(0<=cx/\cx<F)/\(0<=cy/\cy<R)/\Hid (∀ j,j<k->rayP F R x y f r j=true)/\Hid (vl pre=(List.range k).map (rayNum F x y f r))/\J pre wr/\KpR n₀ b w1 wr)
    (fun u v _=>(if 0<f then F - intOf u else if f<0 then intOf u+1 else if 0<r then R - intOf v else intOf v+1).toNat)
   case atStart=>exact ⟨0,x,y,[],by omega,rfl,rfl,Lib.hid (by simp),⟨p0,p1⟩,⟨p2,p3⟩,Lib.hid (fun j hj=>by omega),Lib.hid rfl,j1,KpR.refl _ _ _⟩
   case round =>
    obtain ⟨k,cx,cy,pre,hk,rfl,rfl,HC,⟨x0,x1⟩,⟨y0,y1⟩,HP,HPR,hJs,hB⟩:=hrel
    have d0:=(hB.cell (p:=⟨b,0,none⟩) (by simp) (by simp)).trans k0
    have d1:=(hB.cell (p:=⟨b,1,none⟩) (by simp) (by simp)).trans k1
    have df:=(hB.cell (p:=⟨b+1+1,0,none⟩) (by simp;omega) (by simp)).trans kf
    have dr:=(hB.cell (p:=⟨b+1+1+1,0,none⟩) (by simp;omega) (by simp)).trans kr
    have hsz:=hB.1.size
    clear k0 k1 kf kr
    have hox:=wrap_on hF8 x0 x1 f0 f1
    have hoy:=wrap_on hR8 y0 y1 r0 r1
    have hpk:rayP F R x y f r k=true ↔ onb F R (cx+f) (cy+r):=by
     unfold rayP
     rw [onB_iff,HC.out.1,HC.out.2,Int.add_mul,Int.add_mul,Int.one_mul,Int.one_mul,Int.add_assoc,Int.add_assoc]
    have hnk:(rayNum F x y f r k)=((cy+r) * F+(cx+f)).toNat:=by
     unfold rayNum
     rw [HC.out.1,HC.out.2,Int.add_mul (k:Int) 1 f,Int.add_mul (k:Int) 1 r,Int.one_mul,Int.one_mul,Int.add_assoc,Int.add_assoc]
    have hxo:0<=cx+f->cx+f<F->IntKind.i64.wrap (cx+f)=cx+f:=fun _ _=>IntWalk.i64_in _ (by omega)
    have hyo:0<=cy+r->cy+r<R->IntKind.i64.wrap (cy+r)=cy+r:=fun _ _=>IntWalk.i64_in _ (by omega)
    obtain ⟨wx,hwx⟩:∃ wx,IntKind.i64.wrap (cx+f)=wx:=⟨_,rfl⟩
    obtain ⟨wy,hwy⟩:∃ wy,IntKind.i64.wrap (cy+r)=wy:=⟨_,rfl⟩
    rw [hwx] at hox hxo
    rw [hwy] at hoy hyo
    have HOX:=Lib.hid (And.intro hox hxo)
    have HOY:=Lib.hid (And.intro hoy hyo)
    have HPK:=Lib.hid (And.intro hpk hnk)
    clear hox hxo hoy hyo hpk hnk
    gi_wp2
    gi_quiet_th (fail)
    clear hwx hwy
    have hJq:=HJN.out _ _ nq hJs
    have hBq:KpR n₀ b w1 (wr.drewN nq):=⟨⟨hB.1.os,hB.1.tape,hB.1.output,hB.1.size,hB.1.block⟩,hB.2⟩
    have q0:(wr.drewN nq).cell? ⟨b,0,none⟩=some (.int .i64 F):=d0
    have q1:(wr.drewN nq).cell? ⟨b,1,none⟩=some (.int .i64 R):=d1
    have hqs:n₀<=(wr.drewN nq).heap.size/\b+4<=(wr.drewN nq).heap.size:=by show n₀<=wr.heap.size/\b+4<=wr.heap.size;omega
    clear d0 d1 df dr hJs hB
    generalize wr.drewN nq=wq at *
    cases hp:rayP F R x y f r k
    ·have hno:¬ onb F R wx wy:=fun ho=>by
      have e:onb F R (cx+f) (cy+r):=⟨(HOX.out.1.2 ⟨ho.1,ho.2.1⟩).1,(HOX.out.1.2 ⟨ho.1,ho.2.1⟩).2,(HOY.out.1.2 ⟨ho.2.2.1,ho.2.2.2⟩).1,(HOY.out.1.2 ⟨ho.2.2.1,ho.2.2.2⟩).2⟩
      rw [HPK.out.1.2 e] at hp
      cases hp
     have HE:Hid (vl pre=L):=Lib.hid (by rw [HPR.out,HLL.out,rayL_stop hk HP.out hp])
     gi_wp2_with fail
     refine ⟨trivial,callsIn_wide.2 ((at_off F R wx wy HV.out hno _).mono ?_)⟩
     rintro e w2 ⟨rfl,hB2⟩
     have j2:=HJ.out _ _ _ hJq (below_grown hB2)
     gi_wp2
     refine ⟨fun _ h=>(by cases h),?_⟩
     gi_wp2
     refine bodyPost_ret (results_none rfl _ _ _) rfl ?_
     exact ⟨⟨_,rfl⟩,.inl ⟨pre,HE.out,j2⟩⟩
    ·have ho:=HPK.out.1.1 hp
     obtain ⟨o0,o1,o2,o3⟩:=id ho
     have ex:=HOX.out.2 o0 o1
     have ey:=HOY.out.2 o2 o3
     obtain ⟨n0,n1,n2,n3,n4⟩:=number_bd HV.out o0 o1 o2 o3
     have hat:∀ w,Calls Tryz.prog 145 #[.agg #[.int .i64 F,.int .i64 R],.int .i64 wx,.int .i64 wy] w fun e w'=>e=.returned (.tuple #[.int .i64 ((rayNum F x y f r k:Nat):Int),.int .i64 0])/\Below w.heap.size w w':=fun w=>by
      have h:=at_yes F R (cx+f) (cy+r) HV.out ho w
      rw [HPK.out.2,ex,ey]
      have e2:(((cy+r) * F+(cx+f)).toNat:Int)=(cx+f)+(cy+r) * F:=by omega
      rw [e2]
      exact h
     have hF2:∀ j,j<k+1->rayP F R x y f r j=true:=fun j hj=>by
      by_cases e:j=k
      ·rw [e];exact hp
      ·exact HP.out j (by omega)
     have HF2:=Lib.hid hF2
     have hmem:rayNum F x y f r k∈L:=by rw [HLL.out];exact rayL_mem hk hF2
     have HPX:Hid (vl (pre ++ [⟨rayNum F x y f r k,hmem⟩])=(List.range (k+1)).map (rayNum F x y f r)):=Lib.hid (by rw [vl_snoc,HPR.out,List.range_succ,List.map_append];rfl)
     have hpre:(List.range (k+1)).map (rayNum F x y f r) <+: L:=by rw [HLL.out];exact rayL_pre (by omega) hF2
     have HPF:Hid (vl (pre ++ [⟨rayNum F x y f r k,hmem⟩]) <+: L):=Lib.hid (by rw [HPX.out];exact hpre)
     have hlen:pre.length<L.length:=by
      have h1:=congrArg List.length HPR.out
      rw [vl_len] at h1
      have h2:=hpre.length_le
      simp at h1 h2
      omega
     have HAT:=Lib.hid hat
     have EX:=Lib.hid ex
     have EY:=Lib.hid ey
     clear hat hF2 hpre ex ey n0 n1 n2 n3 n4 hp
     have hk7:k+1<8:=by
      have c1:cx+f=x+((k:Int)+1) * f:=by rw [HC.out.1,Int.add_mul,Int.one_mul,Int.add_assoc]
      have c2:cy+r=y+((k:Int)+1) * r:=by rw [HC.out.2,Int.add_mul,Int.one_mul,Int.add_assoc]
      by_cases hf:f=0
      ·have hr:r≠0:=fun e=>HD.out ⟨hf,e⟩
       have:=step_le (k:=(k:Int)+1) (f:=r) hR8 p2 p3 (by omega) (by omega) hr
       omega
      ·have:=step_le (k:=(k:Int)+1) (f:=f) hF8 p0 p1 (by omega) (by omega) hf
       omega
     gi_wp2_with fail
     refine ⟨trivial,callsIn_wide.2 ((HAT.out _).mono ?_)⟩
     rintro e w2 ⟨rfl,hB2⟩
     have j2:=HJ.out _ _ _ hJq (below_grown hB2)
     have hYx:=Lib.hid (HY.out pre ⟨rayNum F x y f r k,hmem⟩ w2 j2 hlen)
     have hB3:KpR n₀ b w1 w2:=hBq.trans (KpR.of hB2 hqs.1 hqs.2)
     obtain ⟨fn,tmps,assign,body,hy,hR⟩:=hYx.out
     clear hYx
     gi_wp2
     refine hR.mono ?_
     rintro e W3 (⟨rfl,hJ3,hk3⟩ | ⟨rfl,hJx3⟩)
     ·gi_wp2
      go_roundw
      case rel=>exact ⟨k+1,cx+f,cy+r,_,hk7,by rw [EX.out],by rw [EY.out],Lib.hid ⟨by rw [HC.out.1,Int.natCast_add,Int.add_mul];simp [Int.add_assoc],by rw [HC.out.2,Int.natCast_add,Int.add_mul];simp [Int.add_assoc]⟩,⟨o0,o1⟩,⟨o2,o3⟩,HF2,HPX,hJ3,hB3.trans hk3⟩
      case measure =>
       have e1:=EX.out
       have e2:=EY.out
       have hfr:f≠0\/r≠0:=by
        by_cases h:f=0
        ·exact .inr (fun e=>HD.out ⟨h,e⟩)
        ·exact .inl h
       simp only [intOf]
       split <;> (try split) <;> (try split) <;> omega
     ·gi_wp2
      refine bodyPost_ret (results_none rfl _ _ _) rfl ?_
      exact ⟨⟨_,rfl⟩,.inr ⟨_,HPF.out,hJx3⟩⟩
 ·have HPL:=Lib.hid (placeX_yes F R a ha)
  gi_wp2_with fail
  refine ⟨trivial,callsIn_wide.2 ((HPL.out _).mono ?_)⟩
  rintro e w1 ⟨rfl,hB1⟩
  have kf:=(hB1.cell (p:=⟨b+1+1,0,none⟩) (World.block_lt_of_cell? _ _ cf)).trans cf
  have kr:=(hB1.cell (p:=⟨b+1+1+1,0,none⟩) (World.block_lt_of_cell? _ _ cr)).trans cr
  have j1:J [] w1:=hJd _ _ _ h0 (below_grown hB1)
  gi_wp2
  refine bodyPost_ret (results_none rfl _ _ _) rfl ?_
  exact ⟨⟨_,rfl⟩,.inl ⟨[],hL.symm,j1⟩⟩
 ·have HPL:=Lib.hid (placeX_no F R a ha)
  gi_wp2_with fail
  refine ⟨trivial,callsIn_wide.2 ((HPL.out _).mono ?_)⟩
  rintro e w1 ⟨rfl,hB1⟩
  have j1:J [] w1:=hJd _ _ _ h0 (below_grown hB1)
  gi_wp2
  refine bodyPost_ret (results_none rfl _ _ _) rfl ?_
  exact ⟨⟨_,rfl⟩,.inl ⟨[],hL.symm,j1⟩⟩
theorem ray_stops (n b n₀:Nat) (F R a f r:Int) (L:List Nat) (hL:RayIs F R a f r L) (hn:1<=n) (f0:-9223372036854775808<=f) (f1:f<=9223372036854775807) (r0:-9223372036854775808<=r) (r1:r<=9223372036854775807)
  (w:World) (hn0:n₀<=w.heap.size) (hb:b+4<=w.heap.size) (c0:w.cell? ⟨b,0,none⟩=some (.int .i64 F)) (c1:w.cell? ⟨b,1,none⟩=some (.int .i64 R)) (ca:w.cell? ⟨b+1,0,none⟩=some (.int .i64 a)) (cf:w.cell? ⟨b+1+1,0,none⟩=some (.int .i64 f)) (cr:w.cell? ⟨b+1+1+1,0,none⟩=some (.int .i64 r)) :
  SeqStopsK Fence.wide n Tryz.prog 212 #[.pointer (some ⟨b,0,none⟩),.pointer (some ⟨b+1,0,none⟩),.pointer (some ⟨b+1+1,0,none⟩),.pointer (some ⟨b+1+1+1,0,none⟩)] (fun x:El L=>#[Value.int .i64 (x.1:Int)]) (KpR n₀ b) (fun ys=>vl ys=L) (fun pre=>vl pre <+: L) L.length w:=fun l J Jx W hW hJ _ hY h0 =>
 ray1_in n l b n₀ F R a f r L hL hn f0 f1 r0 r1 J Jx (fun pre A B hj hg=>hJ pre A B none hj hg (fun r e=>by cases e)) (fun pre A q hj=>hJ pre A (A.drewN q) none hj ⟨rfl,rfl,rfl,Nat.le_refl _,fun _ _ _=>rfl⟩ (fun r e=>by cases e)) hY W (Nat.le_trans hn0 hW.size) (Nat.le_trans hb hW.size)
  ((hW.cell (p:=⟨b,0,none⟩) (by simp;omega)).trans c0) ((hW.cell (p:=⟨b,1,none⟩) (by simp;omega)).trans c1) ((hW.cell (p:=⟨b+1,0,none⟩) (by simp;omega)).trans ca) ((hW.cell (p:=⟨b+1+1,0,none⟩) (by simp;omega)).trans cf) ((hW.cell (p:=⟨b+1+1+1,0,none⟩) (by simp;omega)).trans cr) h0
end Go.Proofs.YtbccbgonlmkpkaaGreatDoor
namespace Go.Proofs.YtbccbgonlmkpkaaGreatDoor
open Go.RowKit
def cheb (d q:Int):Int:=max (max (-d) d) (max (-q) q)
theorem dist_cheb (F a b:Int):dist F a b=cheb (b % F - a % F) (b / F - a / F):=by unfold dist cheb;omega
def lineD (d q:Int):Bool:=(d == 0) || (q == 0) || (d == q) || (d+q == 0)
theorem dir_dec:∀ i:Fin 15,∀ j:Fin 15,cheb ((i.1:Int) - 7) ((j.1:Int) - 7)≠0 ->
  (((Int.tmod ((i.1:Int) - 7) (cheb ((i.1:Int) - 7) ((j.1:Int) - 7)) != 0) || (Int.tmod ((j.1:Int) - 7) (cheb ((i.1:Int) - 7) ((j.1:Int) - 7)) != 0))=!lineD ((i.1:Int) - 7) ((j.1:Int) - 7)) /\
  (lineD ((i.1:Int) - 7) ((j.1:Int) - 7)=true->Int.tdiv ((i.1:Int) - 7) (cheb ((i.1:Int) - 7) ((j.1:Int) - 7))=sg ((i.1:Int) - 7)/\Int.tdiv ((j.1:Int) - 7) (cheb ((i.1:Int) - 7) ((j.1:Int) - 7))=sg ((j.1:Int) - 7)):=by decide +kernel
theorem dir_any {d q:Int} (d0:-7<=d) (d1:d<=7) (q0:-7<=q) (q1:q<=7) (h:cheb d q≠0) :
  (((Int.tmod d (cheb d q) != 0) || (Int.tmod q (cheb d q) != 0))=!lineD d q)/\(lineD d q=true->Int.tdiv d (cheb d q)=sg d/\Int.tdiv q (cheb d q)=sg q):=by
 have:=dir_dec ⟨(d+7).toNat,by omega⟩ ⟨(q+7).toNat,by omega⟩
 simp only [show (((d+7).toNat:Nat):Int) - 7=d by omega,show (((q+7).toNat:Nat):Int) - 7=q by omega] at this
 exact this h
theorem pDir_yes (F R a b:Int) (ha:vat F R a) (hb:vat F R b) (w:World) :
  Calls Tryz.prog 198 #[.agg #[.int .i64 F,.int .i64 R],.int .i64 a,.int .i64 b] w fun e w'=>e=.returned (if lineB F a b=true then .tuple #[.int .i64 (sg (b % F - a % F)),.int .i64 (sg (b / F - a / F)),.int .i64 0] else .tuple #[.int .i64 0,.int .i64 0,.int .i64 9])/\Below w.heap.size w w':=by
 obtain ⟨p0,p1,p2,p3⟩:=place_bd ha.1 ha.2.1 ha.2.2
 obtain ⟨q0,q1,q2,q3⟩:=place_bd hb.1 hb.2.1 hb.2.2
 have f2:=ha.1.2.1
 have r2:=ha.1.2.2.2
 have HPA:=Lib.hid (placeX_yes F R a ha)
 have HPB:=Lib.hid (placeX_yes F R b hb)
 have hds:=distance_yes F R a b ha hb
 rw [dist_cheb] at hds
 have HDS:=Lib.hid hds
 have hab:(a == b)=decide (cheb (b % F - a % F) (b / F - a / F)=0):=by
  by_cases e:a=b
  ·subst e;simp [cheb]
  ·have:cheb (b % F - a % F) (b / F - a / F)≠0:=fun h=>e (by
    unfold cheb at h
    have e1:b % F=a % F:=by omega
    have e2:b / F=a / F:=by omega
    have h1:=place_eq (a:=a) ha.1
    have h2:=place_eq (a:=b) ha.1
    rw [<- h1,<- h2,e1,e2])
   simp [e,this]
 obtain ⟨V,hV⟩:∃ V,(if lineB F a b=true then Value.tuple #[.int .i64 (sg (b % F - a % F)),.int .i64 (sg (b / F - a / F)),.int .i64 0] else .tuple #[.int .i64 0,.int .i64 0,.int .i64 9])=V:=⟨_,rfl⟩
 rw [hV]
 have hl:lineB F a b=(!(decide (cheb (b % F - a % F) (b / F - a / F)=0)) && lineD (b % F - a % F) (b / F - a / F)):=by unfold lineB lineD;rw [hab]
 rw [hl] at hV
 clear hl hab hds
 obtain ⟨x,hx⟩:∃ x,a % F=x:=⟨_,rfl⟩
 obtain ⟨y,hy⟩:∃ y,a / F=y:=⟨_,rfl⟩
 obtain ⟨u,hu⟩:∃ u,b % F=u:=⟨_,rfl⟩
 obtain ⟨v,hv⟩:∃ v,b / F=v:=⟨_,rfl⟩
 rw [hx,hy,hu,hv] at hV HDS
 rw [hx,hy] at HPA
 rw [hu,hv] at HPB
 rw [hx] at p0 p1
 rw [hy] at p2 p3
 rw [hu] at q0 q1
 rw [hv] at q2 q3
 have HVV:=Lib.hid hV
 clear hx hy hu hv hV ha hb
 have hda:=fun h=>dir_any (d:=u - x) (q:=v - y) (by omega) (by omega) (by omega) (by omega) h
 have hw1:IntKind.i64.wrap (u - x)=u - x:=IntWalk.i64_in _ (by omega)
 have hw2:IntKind.i64.wrap (v - y)=v - y:=IntWalk.i64_in _ (by omega)
 have hc1:0<=cheb (u - x) (v - y)/\cheb (u - x) (v - y)<=8:=by unfold cheb;omega
 obtain ⟨d,hd⟩:∃ d,u - x=d:=⟨_,rfl⟩
 obtain ⟨q,hq⟩:∃ q,v - y=q:=⟨_,rfl⟩
 rw [hd,hq] at hda hc1 HVV HDS
 obtain ⟨D,hD⟩:∃ D,cheb d q=D:=⟨_,rfl⟩
 rw [hD] at hda hc1 HVV HDS
 rw [hd] at hw1
 rw [hq] at hw2
 have d0:-7<=d/\d<=7:=by omega
 have e0:-7<=q/\q<=7:=by omega
 have HDA:=Lib.hid hda
 have HWD:=Lib.hid (And.intro hd hq)
 clear hda hD
 obtain ⟨D0,D1⟩:=hc1
 by_cases hz:D=0
 ·have HE:Hid (V=.tuple #[.int .i64 0,.int .i64 0,.int .i64 9]):=Lib.hid (by rw [<- HVV.out];simp [hz])
  go_enter Tryz.func198,Tryz.ntmps198
  go_wp2_with fail
  refine (HDS.out _).mono ?_
  rintro e w1 ⟨rfl,hb⟩
  go_wp2
  go_ret3
  exact ⟨by rw [HE.out];rfl,after1 hb⟩
 ·have hzb:(D == 0)=false:=beq_eq_false_iff_ne.2 hz
  have hpos:0<D:=by omega
  have hm:=(HDA.out hz).1
  have hq2:=(HDA.out hz).2
  have HZ:Hid (decide (D=0)=false):=Lib.hid (by simp [hz])
  rw [HZ.out] at HVV
  clear HDA HZ hz
  have H3:(((d.tmod D != 0)=true)/\Hid (V=.tuple #[.int .i64 0,.int .i64 0,.int .i64 9]))\/(((d.tmod D != 0)=false)/\((q.tmod D != 0)=true)/\Hid (V=.tuple #[.int .i64 0,.int .i64 0,.int .i64 9])) \/
    (((d.tmod D != 0)=false)/\((q.tmod D != 0)=false)/\(Hid (V=.tuple #[.int .i64 (sg d),.int .i64 (sg q),.int .i64 0]))/\IntKind.i64.wrap (d.tdiv D)=sg d/\IntKind.i64.wrap (q.tdiv D)=sg q):=by
   cases hln:lineD d q
   ·have HE:Hid (V=.tuple #[.int .i64 0,.int .i64 0,.int .i64 9]):=Lib.hid (by rw [<- HVV.out,hln];simp)
    rw [hln] at hm
    cases hA:(d.tmod D != 0)
    ·rw [hA] at hm
     exact .inr (.inl ⟨rfl,by simpa using hm,HE⟩)
    ·exact .inl ⟨rfl,HE⟩
   ·have HE:Hid (V=.tuple #[.int .i64 (sg d),.int .i64 (sg q),.int .i64 0]):=Lib.hid (by rw [<- HVV.out,hln];simp)
    rw [hln] at hm
    obtain ⟨k1,k2⟩:=hq2 hln
    have s0:-1<=sg d/\sg d<=1:=sg_bd d
    have s1:-1<=sg q/\sg q<=1:=sg_bd q
    cases hA:(d.tmod D != 0)
    ·rw [hA] at hm
     exact .inr (.inr ⟨rfl,by simpa using hm,HE,by rw [k1];exact IntWalk.i64_in _ (by omega),by rw [k2];exact IntWalk.i64_in _ (by omega)⟩)
    ·rw [hA] at hm;simp at hm
  clear hm hq2 HVV
  go_enter Tryz.func198,Tryz.ntmps198
  go_wp2_with fail
  refine (HDS.out _).mono ?_
  rintro e w1 ⟨rfl,hb⟩
  have s1:=hb.size
  simp at s1
  have c0:=hb.cell (p:=⟨w.heap.size,0,none⟩) (by simp)
  have c1:=hb.cell (p:=⟨w.heap.size,1,none⟩) (by simp)
  simp [go_sem] at c0 c1
  have hB1:=after1 hb
  clear hb
  go_wp2_with fail
  refine (HPA.out _).mono ?_
  rintro e w2 ⟨rfl,hb⟩
  have d0:=(hb.cell (p:=⟨w.heap.size,0,none⟩) (by simp;omega)).trans c0
  have d1:=(hb.cell (p:=⟨w.heap.size,1,none⟩) (by simp;omega)).trans c1
  have hB2:=chain hB1 hb
  clear hb c0 c1
  go_wp2_with fail
  refine (HPB.out _).mono ?_
  rintro e w3 ⟨rfl,hb⟩
  have hB3:=chain hB2 hb
  clear hb d0 d1
  rcases H3 with ⟨t1,HE⟩ | ⟨t1,t2,HE⟩ | ⟨t1,t2,HE,v1,v2⟩
  ·go_wp2
   go_ret3
   exact ⟨by rw [HE.out];rfl,hB3⟩
  ·go_wp2
   go_ret3
   exact ⟨by rw [HE.out];rfl,hB3⟩
  ·go_wp2
   go_quiet (fail)
   go_wp2
   go_ret3
   exact ⟨by rw [HE.out];rfl,drawn hB3 _⟩
end Go.Proofs.YtbccbgonlmkpkaaGreatDoor
namespace Go.Proofs.YtbccbgonlmkpkaaGreatDoor
def stopL (L:List Nat) (X:Nat):List Nat:=L.takeWhile (fun i=>!X.testBit i) ++ (L.dropWhile (fun i=>!X.testBit i)).take 1
theorem stop_nil (X:Nat):stopL [] X=[]:=rfl
theorem stop_cons_yes {i X:Nat} {L:List Nat} (h:X.testBit i=true):stopL (i :: L) X=[i]:=by simp [stopL,h]
theorem stop_cons_no {i X:Nat} {L:List Nat} (h:X.testBit i=false):stopL (i :: L) X=i :: stopL L X:=by simp [stopL,h]
theorem stop_done {L:List Nat} {X:Nat} (h:∀ i∈L,X.testBit i=false):stopL L X=L:=by
 induction L with
 | nil=>rfl
 | cons a L ih=>rw [stop_cons_no (h a (by simp)),ih (fun i hi=>h i (by simp [hi]))]
theorem stop_hit {l1 l2:List Nat} {i X:Nat} (h:∀ j∈l1,X.testBit j=false) (hi:X.testBit i=true):stopL (l1 ++ i :: l2) X=l1 ++ [i]:=by
 induction l1 with
 | nil=>exact stop_cons_yes hi
 | cons a L ih=>rw [List.cons_append,stop_cons_no (h a (by simp)),ih (fun j hj=>h j (by simp [hj])),List.cons_append]
theorem stop_pre {l:List Nat} {L:List Nat} {i X:Nat} (hp:l ++ [i] <+: L) (h:∀ j∈l,X.testBit j=false) (hi:X.testBit i=true):stopL L X=l ++ [i]:=by
 obtain ⟨t,rfl⟩:=hp
 rw [List.append_assoc]
 exact stop_hit h hi
theorem mem_stop {L:List Nat} {X n:Nat}:n∈stopL L X ↔ ∃ k,∃ h:k<L.length,L[k]=n/\∀ j (hj:j<k),X.testBit (L[j]'(by omega))=false:=by
 induction L with
 | nil=>simp [stop_nil]
 | cons a L ih =>
  cases ha:X.testBit a
  ·rw [stop_cons_no ha,List.mem_cons,ih]
   constructor
   ·rintro (rfl | ⟨k,hk,e,h⟩)
    ·exact ⟨0,by simp,rfl,fun j hj=>by omega⟩
    ·refine ⟨k+1,by simpa using hk,by simpa using e,fun j hj=>?_⟩
     match j,hj with
     | 0,_=>simpa using ha
     | j+1,hj=>simpa using h j (by omega)
   ·rintro ⟨k,hk,e,h⟩
    match k,hk,e,h with
    | 0,_,e,_=>exact .inl (by simpa using e.symm)
    | k+1,hk,e,h=>exact .inr ⟨k,by simpa using hk,by simpa using e,fun j hj=>by simpa using h (j+1) (by omega)⟩
  ·rw [stop_cons_yes ha]
   constructor
   ·intro h
    exact ⟨0,by simp,by simpa using (List.mem_singleton.1 h).symm,fun j hj=>by omega⟩
   ·rintro ⟨k,hk,e,h⟩
    match k,hk,e,h with
    | 0,_,e,_=>simpa using e.symm
    | k+1,hk,e,h=>have:=h 0 (by omega);simp at this;rw [ha] at this;cases this
theorem rayL_get {F R x y f r:Int} {k:Nat} (hk:k<(rayL F R x y f r).length):(rayL F R x y f r)[k]=rayNum F x y f r k/\rayP F R x y f r k=true/\k<8:=by
 have key:∀ (n:Nat) (P:Nat->Bool) (j:Nat) (h:j<((List.range n).takeWhile P).length),((List.range n).takeWhile P)[j]=j/\P j=true/\j<n:=by
  intro n P j h
  have hp:=List.takeWhile_prefix (l:=List.range n) P
  have hl:=hp.length_le
  have e:((List.range n).takeWhile P)[j]=j:=by rw [hp.getElem h];simp
  refine ⟨e,?_,by simp at hl;omega⟩
  have:=tw_mem P (List.range n) (List.getElem_mem h)
  rwa [e] at this
 unfold rayL at hk ⊢
 have hk':=hk
 rw [List.length_map] at hk'
 obtain ⟨e,hp,h8⟩:=key 8 _ k hk'
 refine ⟨?_,hp,h8⟩
 rw [List.getElem_map,e]
theorem rayL_has {F R x y f r:Int} {k:Nat} (hk:k<8) (h:∀ j,j<k+1->rayP F R x y f r j=true):∃ hl:k<(rayL F R x y f r).length,(rayL F R x y f r)[k]=rayNum F x y f r k:=by
 have hp:=rayL_pre (m:=k+1) (by omega) h
 have hl:k<(rayL F R x y f r).length:=by have:=hp.length_le;simp at this;omega
 exact ⟨hl,(rayL_get hl).1⟩
theorem rayP_iff {F R x y f r:Int} {j:Nat}:rayP F R x y f r j=true ↔ onb F R (x+((j:Int)+1) * f) (y+((j:Int)+1) * r):=by unfold rayP;exact onB_iff
theorem ray_place {F R x y f r:Int} {j:Nat} (hv:vsz F R) (h:rayP F R x y f r j=true):((rayNum F x y f r j:Nat):Int) % F=x+((j:Int)+1) * f/\((rayNum F x y f r j:Nat):Int) / F=y+((j:Int)+1) * r/\vat F R (rayNum F x y f r j:Nat):=by
 obtain ⟨o0,o1,o2,o3⟩:=rayP_iff.1 h
 obtain ⟨n0,n1,n2,n3,n4⟩:=number_bd hv o0 o1 o2 o3
 have e:((rayNum F x y f r j:Nat):Int)=(x+((j:Int)+1) * f)+(y+((j:Int)+1) * r) * F:=by unfold rayNum;omega
 rw [e]
 exact ⟨n3,n4,hv,by omega,n2⟩
theorem place_inj {F R a b:Int} (ha:vat F R a) (_hb:vat F R b) (h1:a % F=b % F) (h2:a / F=b / F):a=b:=by
 have e1:=place_eq (a:=a) ha.1
 have e2:=place_eq (a:=b) ha.1
 rw [<- e1,<- e2,h1,h2]
theorem sg_cases (n:Int):(n<0/\sg n=-1)\/(n=0/\sg n=0)\/(0<n/\sg n=1):=by
 unfold sg
 by_cases h:n<0
 ·left;exact ⟨h,by rw [if_pos h]⟩
 ·by_cases h2:0<n
  ·right;right;exact ⟨h2,by rw [if_neg h,if_pos h2]⟩
  ·right;left;exact ⟨by omega,by rw [if_neg h,if_neg h2]⟩
theorem line_steps {d q:Int} (h:lineD d q=true):cheb d q * sg d=d/\cheb d q * sg q=q:=by
 unfold lineD at h
 simp at h
 rcases sg_cases d with ⟨h1,e1⟩ | ⟨h1,e1⟩ | ⟨h1,e1⟩ <;> rcases sg_cases q with ⟨h2,e2⟩ | ⟨h2,e2⟩ | ⟨h2,e2⟩ <;> rw [e1,e2] <;> unfold cheb <;> omega
theorem steps_line {d q m f r:Int} (hm:0<m) (f0:-1<=f) (f1:f<=1) (r0:-1<=r) (r1:r<=1) (hd:d=m * f) (hq:q=m * r):lineD d q=true/\sg d=f/\sg q=r/\(f≠0\/r≠0->cheb d q=m):=by
 have hf:f=-1\/f=0\/f=1:=by omega
 have hr:r=-1\/r=0\/r=1:=by omega
 rcases hf with rfl | rfl | rfl <;> rcases hr with rfl | rfl | rfl <;> simp at hd hq <;> subst hd <;> subst hq <;> refine ⟨?_,?_,?_,?_⟩ <;> (first | (unfold lineD;simp;done) | (unfold lineD;simp;omega) | (unfold cheb;omega) | (unfold sg;(try split) <;> (try split) <;> omega))
theorem on_way {F R x y u v m f r:Int} (_hm:0<m) (f0:-1<=f) (f1:f<=1) (r0:-1<=r) (r1:r<=1) (hx:0<=x/\x<F) (hy:0<=y/\y<R) (hu:0<=u/\u<F) (hv:0<=v/\v<R) (e1:u=x+m * f) (e2:v=y+m * r) (j:Int) (j0:0<=j) (j1:j<=m) :
  onb F R (x+j * f) (y+j * r):=by
 have hf:f=-1\/f=0\/f=1:=by omega
 have hr:r=-1\/r=0\/r=1:=by omega
 unfold onb
 rcases hf with rfl | rfl | rfl <;> rcases hr with rfl | rfl | rfl <;> simp at e1 e2 ⊢ <;> omega
theorem line_ray {F R a b:Int} (ha:vat F R a) (hb:vat F R b) (hl:lineB F a b=true) :
  ∃ m:Nat,m<8/\((m:Int)+1=cheb (b % F - a % F) (b / F - a / F))/\(∀ j,j<m+1->rayP F R (a % F) (a / F) (sg (b % F - a % F)) (sg (b / F - a / F)) j=true) /\
   ((rayNum F (a % F) (a / F) (sg (b % F - a % F)) (sg (b / F - a / F)) m:Nat):Int)=b/\betL F R a b=(List.range m).map (rayNum F (a % F) (a / F) (sg (b % F - a % F)) (sg (b / F - a / F))):=by
 obtain ⟨p0,p1,p2,p3⟩:=place_bd ha.1 ha.2.1 ha.2.2
 obtain ⟨q0,q1,q2,q3⟩:=place_bd hb.1 hb.2.1 hb.2.2
 have f2:=ha.1.2.1
 have r2:=ha.1.2.2.2
 have hab:a≠b:=by
  intro e
  unfold lineB at hl
  rw [e] at hl
  simp at hl
 have hdir:=dir_ne ha hb hab
 have hlD:lineD (b % F - a % F) (b / F - a / F)=true:=by
  unfold lineB at hl
  simp only [Bool.and_eq_true] at hl
  exact hl.2
 obtain ⟨e1,e2⟩:=line_steps hlD
 have s0:=sg_bd (b % F - a % F)
 have s1:=sg_bd (b / F - a / F)
 have hc:0<cheb (b % F - a % F) (b / F - a / F)/\cheb (b % F - a % F) (b / F - a / F)<=7:=by
  have:¬ (b % F - a % F=0/\b / F - a / F=0):=fun h=>hab (place_inj ha hb (by omega) (by omega))
  unfold cheb;omega
 have hon:=fun j j0 j1=>on_way (F:=F) (R:=R) (x:=a % F) (y:=a / F) (u:=b % F) (v:=b / F) hc.1 s0.1 s0.2 s1.1 s1.2 ⟨p0,p1⟩ ⟨p2,p3⟩ ⟨q0,q1⟩ ⟨q2,q3⟩ (by omega) (by omega) j j0 j1
 have hbet:betL F R a b=befL (rayL F R (a % F) (a / F) (sg (b % F - a % F)) (sg (b / F - a / F))) b:=rfl
 generalize sg (b % F - a % F)=f at *
 generalize sg (b / F - a / F)=r at *
 have hP:∀ j,j<((cheb (b % F - a % F) (b / F - a / F)).toNat - 1)+1->rayP F R (a % F) (a / F) f r j=true:=fun j hj=>rayP_iff.2 (hon ((j:Int)+1) (by omega) (by omega))
 have hNb:((rayNum F (a % F) (a / F) f r ((cheb (b % F - a % F) (b / F - a / F)).toNat - 1):Nat):Int)=b:=by
  obtain ⟨g1,g2,g3⟩:=ray_place ha.1 (hP ((cheb (b % F - a % F) (b / F - a / F)).toNat - 1) (by omega))
  have em:((((cheb (b % F - a % F) (b / F - a / F)).toNat - 1:Nat):Int)+1)=cheb (b % F - a % F) (b / F - a / F):=by omega
  rw [em] at g1 g2
  exact place_inj g3 hb (by omega) (by omega)
 refine ⟨(cheb (b % F - a % F) (b / F - a / F)).toNat - 1,by omega,by omega,hP,hNb,?_⟩
 generalize (cheb (b % F - a % F) (b / F - a / F)).toNat - 1=m at *
 have hm8:m<8:=by
  apply Nat.lt_of_not_le
  intro h8
  have hk:=step_le (k:=((7:Nat):Int)+1) (x:=a % F) (f:=f) (F:=F) f2 p0 p1
  have hk2:=step_le (k:=((7:Nat):Int)+1) (x:=a / F) (f:=r) (F:=R) r2 p2 p3
  have o:=rayP_iff.1 (hP 7 (by omega))
  by_cases hf:f=0
  ·have hr:r≠0:=fun e=>hdir ⟨hf,e⟩
   have:=hk2 o.2.2.1 o.2.2.2 hr
   omega
  ·have:=hk o.1 o.2.1 hf
   omega
 obtain ⟨hl,hg⟩:=rayL_has hm8 hP
 have hlt:∀ j (hj:j<m),(((rayL F R (a % F) (a / F) f r)[j]'(by omega):Nat):Int)≠b:=by
  intro j hj he
  rw [(rayL_get (by omega)).1] at he
  obtain ⟨g1,g2,_⟩:=ray_place ha.1 (hP j (by omega))
  obtain ⟨k1,k2,_⟩:=ray_place ha.1 (hP m (by omega))
  rw [he] at g1 g2
  rw [hNb] at k1 k2
  have e3:((m:Int)+1) * f=((j:Int)+1) * f:=by omega
  have e4:((m:Int)+1) * r=((j:Int)+1) * r:=by omega
  apply hdir
  constructor
  ·by_cases h:f=0
   ·exact h
   ·have:=Int.eq_of_mul_eq_mul_right h e3
    omega
  ·by_cases h:r=0
   ·exact h
   ·have:=Int.eq_of_mul_eq_mul_right h e4
    omega
 rw [hbet,bef_hit hl hlt (by rw [hg];exact hNb)]
 have hp:=rayL_pre (F:=F) (R:=R) (x:=a % F) (y:=a / F) (f:=f) (r:=r) (m:=m) (by omega) (fun j hj=>hP j (by omega))
 have:=List.prefix_iff_eq_take.1 hp
 rw [List.length_map,List.length_range] at this
 exact this.symm
theorem freeB_iff {l:List Nat} {X:Nat}:freeB (l.map fun i:Nat=>(i:Int)) X=true ↔ ∀ i∈l,X.testBit i=false:=by
 unfold freeB
 rw [List.all_eq_true]
 constructor
 ·intro h i hi
  have:=h (i:Int) (List.mem_map.2 ⟨i,hi,rfl⟩)
  simpa using this
 ·intro h n hn
  obtain ⟨i,hi,rfl⟩:=List.mem_map.1 hn
  simpa using h i hi
theorem slide_mem {F R a b f r:Int} {n X:Nat} (hn:(n:Int)=b) (ha:vat F R a) (hb:vat F R b) (f0:-1<=f) (f1:f<=1) (r0:-1<=r) (r1:r<=1) (hfr:¬ (f=0/\r=0)) :
  n∈stopL (rayL F R (a % F) (a / F) f r) X ↔ (lineB F a b=true/\sg (b % F - a % F)=f/\sg (b / F - a / F)=r/\freeB ((betL F R a b).map fun i:Nat=>(i:Int)) X=true):=by
 rw [mem_stop]
 constructor
 ·rintro ⟨k,hk,e,hfree⟩
  obtain ⟨g1,g2,g3⟩:=rayL_get hk
  rw [g1] at e
  obtain ⟨h1,h2,h3⟩:=ray_place ha.1 g2
  rw [e,hn] at h1 h2
  obtain ⟨l1,l2,l3,l4⟩:=steps_line (d:=b % F - a % F) (q:=b / F - a / F) (m:=(k:Int)+1) (by omega) f0 f1 r0 r1 (by omega) (by omega)
  have hc:=l4 (by by_cases h:f=0;exact .inr (fun h2=>hfr ⟨h,h2⟩);exact .inl h)
  have hab:a≠b:=by
   rintro rfl
   apply hfr
   rw [<- l2,<- l3]
   simp [sg]
  have hline:lineB F a b=true:=by
   unfold lineB
   unfold lineD at l1
   rw [l1]
   simp [hab]
  obtain ⟨m,m8,hm,hP,hNb,hbet⟩:=line_ray ha hb hline
  refine ⟨hline,l2,l3,?_⟩
  rw [freeB_iff,hbet,l2,l3]
  have hmk:m=k:=by omega
  subst hmk
  intro i hi
  obtain ⟨j,hj,rfl⟩:=List.mem_map.1 hi
  have hj':j<m:=by simpa using hj
  have:=hfree j hj'
  rwa [(rayL_get (by omega)).1] at this
 ·rintro ⟨hline,l2,l3,hfree⟩
  obtain ⟨m,m8,hm,hP,hNb,hbet⟩:=line_ray ha hb hline
  rw [l2,l3] at hP hNb hbet
  obtain ⟨hl,hg⟩:=rayL_has m8 hP
  refine ⟨m,hl,by rw [hg];omega,fun j hj=>?_⟩
  rw [freeB_iff,hbet] at hfree
  rw [(rayL_get (by omega)).1]
  exact hfree _ (List.mem_map.2 ⟨j,by simpa using hj,rfl⟩)
theorem leap_mem {F R a b f r:Int} {n:Nat} (hn:(n:Int)=b) (ha:vat F R a) (hb:vat F R b) :
  n∈(rayL F R (a % F) (a / F) f r).take 1 ↔ (b % F - a % F=f/\b / F - a / F=r):=by
 constructor
 ·intro h
  obtain ⟨k,hk,e⟩:=List.mem_iff_getElem.1 h
  have hk1:k=0:=by rw [List.length_take] at hk;omega
  subst hk1
  rw [List.getElem_take,(rayL_get (by rw [List.length_take] at hk;omega)).1] at e
  obtain ⟨h1,h2,h3⟩:=ray_place ha.1 (rayL_get (F:=F) (R:=R) (x:=a % F) (y:=a / F) (f:=f) (r:=r) (k:=0) (by rw [List.length_take] at hk;omega)).2.1
  rw [e,hn] at h1 h2
  simp at h1 h2
  omega
 ·rintro ⟨h1,h2⟩
  obtain ⟨q0,q1,q2,q3⟩:=place_bd hb.1 hb.2.1 hb.2.2
  have hP:∀ j,j<0+1->rayP F R (a % F) (a / F) f r j=true:=fun j hj=>by
   have:j=0:=by omega
   subst this
   refine rayP_iff.2 ?_
   simp
   unfold onb
   omega
  obtain ⟨hl,hg⟩:=rayL_has (by omega) hP
  have h0:=hP 0 (by omega)
  obtain ⟨k1,k2,k3⟩:=ray_place ha.1 h0
  simp at k1 k2
  have e:((rayNum F (a % F) (a / F) f r 0:Nat):Int)=b:=place_inj k3 hb (by omega) (by omega)
  have e':n=rayNum F (a % F) (a / F) f r 0:=by omega
  rw [e',<- hg]
  rw [List.mem_iff_getElem]
  exact ⟨0,by rw [List.length_take];omega,by rw [List.getElem_take]⟩
def slideL (F R a:Int) (ds:List (Int × Int)) (X:Nat):List Nat:=ds.flatMap fun d=>stopL (rayL F R (a % F) (a / F) d.1 d.2) X
theorem slide_snoc (F R a:Int) (ds:List (Int × Int)) (d:Int × Int) (X:Nat):slideL F R a (ds ++ [d]) X=slideL F R a ds X ++ stopL (rayL F R (a % F) (a / F) d.1 d.2) X:=by simp [slideL]
theorem stop_sub {L:List Nat} {X n:Nat} (h:n∈stopL L X):n∈L:=by
 obtain ⟨k,hk,e,_⟩:=mem_stop.1 h
 rw [<- e];exact List.getElem_mem hk
theorem slide_lt {F R a:Int} (hv:vsz F R) {ds:List (Int × Int)} {X n:Nat} (h:n∈slideL F R a ds X):(n:Int)<F * R:=by
 unfold slideL at h
 obtain ⟨d,_,hd⟩:=List.mem_flatMap.1 h
 exact rayL_lt hv n (stop_sub hd)
end Go.Proofs.YtbccbgonlmkpkaaGreatDoor
