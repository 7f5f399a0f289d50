/- What the theorem needs, piece Zb37. -/
import Derived.RangeFuncBox
import Derived.RangeFuncNested
import Derived.OwnWalkIn
import Derived.Test.YtbccbgonlmkpkaaGreatDoorZb20
import Derived.Test.YtbccbgonlmkpkaaGreatDoorZb36
set_option linter.unusedSimpArgs false
set_option linter.unusedVariables false
set_option maxRecDepth 100000
set_option maxHeartbeats 16000000
namespace Go.Proofs.YtbccbgonlmkpkaaGreatDoor
open Go.RowKit Go.Shelf
attribute [local go_sem] Oper.semAt_some
def accO (p:Po) (pre:List Nat):List Mv:=pre.flatMap fun (a:Nat)=>qFr p (a:Int)
def accI (p:Po) (a:Int) (pre:List Nat):List Mv:=pre.flatMap fun (b:Nat)=>qTo p a (b:Int)
theorem accO_all (p:Po) (X:Nat):accO p (listOf X)=qMv p X:=rfl
theorem accI_all (p:Po) (a:Int):accI p a (listOf (qSq p a))=qFr p a:=rfl
theorem accO_snoc (p:Po) (pre:List Nat) (x:Nat):accO p (pre ++ [x])=accO p pre ++ qFr p (x:Int):=by unfold accO;rw [List.flatMap_append];simp
theorem accI_snoc (p:Po) (a:Int) (pre:List Nat) (x:Nat):accI p a (pre ++ [x])=accI p a pre ++ qTo p a (x:Int):=by unfold accI;rw [List.flatMap_append];simp
theorem qPm_len (p:Po) (a b:Int):(qPm p a b).length<=4:=by unfold qPm;split <;> simp
theorem accI_len (p:Po) (a:Int):∀ pre:List Nat,(accI p a pre).length<=4 * pre.length
 | []=>by simp [accI]
 | x :: pre=>by
  have h1:=accI_len p a pre
  have h2:=qPm_len p a (x:Int)
  have e:accI p a (x :: pre)=qTo p a (x:Int) ++ accI p a pre:=by unfold accI;rw [List.flatMap_cons]
  rw [e,List.length_append,List.length_cons]
  unfold qTo
  rw [List.length_map]
  omega
theorem qFr_len (p:Po) (a:Int):(qFr p a).length<=256:=by
 rw [<- accI_all]
 have h1:=accI_len p a (listOf (qSq p a))
 have h2:=listOf_len (qSq p a)
 omega
theorem accO_len (p:Po):∀ pre:List Nat,(accO p pre).length<=256 * pre.length
 | []=>by simp [accO]
 | x :: pre=>by
  have h1:=accO_len p pre
  have h2:=qFr_len p (x:Int)
  have e:accO p (x :: pre)=qFr p (x:Int) ++ accO p pre:=by unfold accO;rw [List.flatMap_cons]
  rw [e,List.length_append,List.length_cons]
  omega
def HoldM (n₀ g:Nat) (W:World) (L:List Mv):Prop:=∃ v,Boxed W g 49 v/\W.ownsRow n₀ 30 3 v L.length (vmvs L)/\True
theorem hold_own {β:Type} (n₀ g:Nat) (f:β->List Mv):Own (fun s W=>HoldM n₀ g W (f s)):=holdsRow_own n₀ g 49 30 3 (fun s=>(f s).length) (fun s=>vmvs (f s)) (fun _ _=>True)
theorem pm_cases (p:Po) (a b:Int):∃ (f:Int) (n:Nat),(0<=f/\f<=2)/\(1<=n/\n<=4)/\prA p.F p.R b p.bl (kdP (pc p.l a))=f/\prB p.F p.R b p.bl (kdP (pc p.l a))=f+(n:Int) - 1/\(qPm p a b).length=n/\∀ j:Nat,j<n->(qPm p a b)[j]?=some (f+(j:Int)):=by
 unfold prA prB qPm
 by_cases h:b / p.F=lastR p.R p.bl/\kdP (pc p.l a)=1
 ·refine ⟨2,4,by decide,by decide,by rw [if_pos h],by rw [if_pos h];rfl,by rw [if_pos h];rfl,fun j hj=>?_⟩
  rw [if_pos h]
  match j,hj with
  | 0,_=>rfl
  | 1,_=>rfl
  | 2,_=>rfl
  | 3,_=>rfl
 ·refine ⟨0,1,by decide,by decide,by rw [if_neg h],by rw [if_neg h];rfl,by rw [if_neg h];rfl,fun j hj=>?_⟩
  rw [if_neg h]
  match j,hj with
  | 0,_=>rfl
theorem qTo_take (p:Po) (a b f:Int) {n j:Nat} (hl:(qPm p a b).length=n) (h:∀ j:Nat,j<n->(qPm p a b)[j]?=some (f+(j:Int))) (hj:j<n):(qTo p a b).take (j+1)=(qTo p a b).take j ++ [⟨a,b,f+(j:Int)⟩]:=by
 unfold qTo
 have:=h j hj
 rw [List.take_add_one,List.getElem?_map,this]
 rfl
theorem keeps_bel3 {W W':World} (h:Below W.heap.size W W'):KeepsOthers W W':=⟨h.size,fun k o hk _=>(h.block k (Array.getElem?_eq_some_iff.1 hk).1).trans hk⟩
theorem boxed_bel {W W':World} {B:Nat} {t:TypeId} {v:Value} (h:Boxed W B t v) (hb:Below W.heap.size W W'):Boxed W' B t v:=(hb.block B h.lt).trans h
theorem keepsF_up {A B:Nat} {W W':World} (h:KeepsFrom A W W') (hAB:A<=B):KeepsFrom B W W':=⟨h.size,fun k o hk=>h.same k o (Nat.le_trans hAB hk)⟩
theorem HoldM.bel {n₀ g:Nat} {W W':World} {L:List Mv} (h:HoldM n₀ g W L) (hb:Below W.heap.size W W'):HoldM n₀ g W' L:=by
 obtain ⟨v,h1,h2,h3⟩:=h
 exact ⟨v,boxed_bel h1 hb,own_below h2 hb,h3⟩
theorem ownFrom_size {β:Type} {B:Nat} (n:Nat):OwnFrom B (fun (_:β) W=>n<=W.heap.size):=fun _ _ _ _ hs hg _=>Nat.le_trans hs hg.size
theorem HoldM.lt {n₀ g:Nat} {W:World} {L:List Mv} (h:HoldM n₀ g W L):g<W.heap.size:=h.elim fun _ h=>h.1.lt
theorem range_sqH {X:Nat} {n:Nat} {g:Operand} {ps:Array Tmp} {assign body:Code} {Q:Exit->Act->World->Prop} {a:Act} {w:World} (h1:1<=n) {gf:Nat} {lb:Array Value} (hg:a.eval g=.func (.func gf) #[] lb) (eg:∀ args w,(callFunc gf args).run Tryz.prog w=.ok (.enter gf args) w)
  {encs:Sq X->Array Value} {Kp:World->World->Prop} {S Sp:List (Sq X)->Prop} {N:Nat} {w0:World} (hseq:SeqStopsK Fence.wide (n - 1) Tryz.prog gf lb encs Kp S Sp N w0)
  (hKt:∀ {A B C:World},Kp A B->Kp B C->Kp A C) (hKb:∀ (W:World) (l:Nat) (o o':Obj),w.heap.size<=l->W.heap[l]?=some o->o.isCells=false->o.isWalk=false->Kp W (W.putObj l o')) (hb0:Below w0.heap.size w0 w) (hps:∀ x,(encs x).size=ps.size)
  (I:List (Sq X)->World->Prop) (hI:OwnFrom w.heap.size I) (h0:I [] w) (m:Nat) (A:Sq X->Nat->Act)
  (hassign:∀ (l:Nat) (pre:List (Sq X)) (x:Sq X) (W:World) (K:Act->World->Prop),I pre W->(∀ a' W',KeepsFrom w.heap.size W W'->Kp W W'->I pre W'->(∃ gu,a'=A x gu/\m<gu/\Boxed W' gu 3 (.int .i64 (x.1:Int)))->K a' W') ->
   assign.wpIn (Fence.wide.inRound l) (n - 1 - 1) Tryz.prog (Exit.then K (fun _ _ _=>False)) { tmps:=(ps.zip (encs x)).foldl (fun t (p,v)=>t.setIfInBounds p v) a.tmps,defers:=[] } W)
  (hbody:∀ (l:Nat) (pre:List (Sq X)) (x:Sq X) (a':Act) (W:World),w.heap.size<=l->(∃ r,W.heap[l]?=some (.loop r))->I pre W->(∃ gu,a'=A x gu/\m<gu/\Boxed W gu 3 (.int .i64 (x.1:Int)))->pre.length<N->body.wpIn (Fence.wide.inRound l) (n - 1 - 1) Tryz.prog (ownPostG w.heap.size Kp I (fun _ _ _=>False) (pre ++ [x]) W) a' W)
  (hdone:∀ (D:Nat) (xs:List (Sq X)) (W:World),w.heap.size<=D->S xs->I xs W->W.heap[D]?=some (.deferred (some []))->Q .normal { a with defers:={ target:=.collected D,args:=#[] } :: a.defers } W) :
  (Code.rangeFunc g ps assign body).wpIn Fence.wide n Tryz.prog Q a w :=
 wpIn_rangeFunc_ownH rfl h1 hg trivial eg hseq hKt hKb hb0 hps I (fun _ _ _=>False) hI (fun _ _ _ _ _ hs _ _=>hs) h0 (fun x a' W=>∃ gu,a'=A x gu/\m<gu/\Boxed W gu 3 (.int .i64 (x.1:Int)))
  (fun x a' _ X Y row hs hg hr=>by obtain ⟨gu,h1,h2,h3⟩:=hs;exact ⟨gu,h1,h2,boxed_own gu 3 (fun (_:Unit)=>Value.int .i64 (x.1:Int)) () X Y row h3 hg (fun r e=>(hr r e).2)⟩) hassign hbody hdone (fun _ _ _ _ _ _ h _=>h.elim)
theorem range_sqN {X:Nat} {n:Nat} {g:Operand} {ps:Array Tmp} {assign body:Code} {Q:Exit->Act->World->Prop} {a:Act} {w:World} {l₀:Nat} {r₀:Loop} (hl₀:w.heap[l₀]?=some (.loop r₀)) (h1:1<=n) {gf:Nat} {lb:Array Value} (hg:a.eval g=.func (.func gf) #[] lb) (eg:∀ args w,(callFunc gf args).run Tryz.prog w=.ok (.enter gf args) w)
  {encs:Sq X->Array Value} {Kp:World->World->Prop} {S Sp:List (Sq X)->Prop} {N:Nat} {w0:World} (hseq:SeqStopsK Fence.wide (n - 1) Tryz.prog gf lb encs Kp S Sp N w0)
  (hKt:∀ {A B C:World},Kp A B->Kp B C->Kp A C) (hKb:∀ (W:World) (l:Nat) (o o':Obj),w.heap.size<=l->W.heap[l]?=some o->o.isCells=false->o.isWalk=false->Kp W (W.putObj l o')) (hb0:Below w0.heap.size w0 w) (hps:∀ x,(encs x).size=ps.size)
  (I:List (Sq X)->World->Prop) (hI:OwnFrom w.heap.size I) (h0:I [] w) (A:Sq X->Act)
  (hassign:∀ (l:Nat) (pre:List (Sq X)) (x:Sq X) (W:World) (K:Act->World->Prop),I pre W->(∀ a' W',KeepsFrom w.heap.size W W'->Kp W W'->I pre W'->a'=A x->K a' W') ->
   assign.wpIn ((Fence.wide.inRound l₀).inRound l) (n - 1 - 1) Tryz.prog (Exit.then K (fun _ _ _=>False)) { tmps:=(ps.zip (encs x)).foldl (fun t (p,v)=>t.setIfInBounds p v) a.tmps,defers:=[] } W)
  (hbody:∀ (l:Nat) (pre:List (Sq X)) (x:Sq X) (W:World),w.heap.size<=l->(∃ r,W.heap[l]?=some (.loop r))->I pre W->pre.length<N->body.wpIn ((Fence.wide.inRound l₀).inRound l) (n - 1 - 1) Tryz.prog (ownPostG w.heap.size Kp I (fun _ _ _=>False) (pre ++ [x]) W) (A x) W)
  (hdone:∀ (xs:List (Sq X)) (W:World),S xs->I xs W->Q .normal a W) :
  (Code.rangeFunc g ps assign body).wpIn (Fence.wide.inRound l₀) n Tryz.prog Q a w :=
 wpIn_rangeFunc_ownN rfl hl₀ h1 hg trivial eg (hseq.inRound l₀) hKt hKb hb0 hps I (fun _ _ _=>False) hI (fun _ _ _ _ _ hs _ _=>hs) h0 (fun x a' _=>a'=A x)
  (fun _ _ _ _ _ _ hs _ _=>hs) hassign (fun l pre x a' W h2 h3 h4 h5 h6=>by subst h5;exact hbody l pre x W h2 h3 h4 h6) hdone (fun _ _ _ _ h=>h.elim)
theorem qSq_lt {p:Po} (hp:OkP p) (a:Int):qSq p a<18446744073709551616:=by
 have hl64:p.l.length<=64:=by have:=(vsz_mul hp.hv).2;have:=hp.len;omega
 unfold qSq
 split
 ·unfold qPwn
  have h1:ofL (stepL p.F p.R a p.bl (occX p.l))<18446744073709551616:=ofL_64 (fun i hi=>by
   unfold stepL pickTo at hi
   have:=List.mem_range.1 (List.mem_filter.1 hi).1
   have:=(vsz_mul hp.hv).2
   omega)
  have h2:ofL (pawnL p.F p.R a p.bl)<18446744073709551616:=ofL_64 (fun i hi=>by
   unfold pawnL pickTo at hi
   have:=List.mem_range.1 (List.mem_filter.1 hi).1
   have:=(vsz_mul hp.hv).2
   omega)
  exact Nat.or_lt_two_pow (n:=64) h1 (Nat.lt_of_le_of_lt Nat.and_le_left h2)
 ·refine clr_lt ?_
  split
  ·exact Nat.or_lt_two_pow (n:=64) (qRch_lt hp a) (qCas_lt hp a)
  ·exact qRch_lt hp a
theorem qMvs_in (F R:Int) (l:List Int) (A:Option Addr) (c:Nat) (bl:Bool) (ca:Nat) (ps ha fu:Int) (b X:Nat) (hca:ca<256) (hlen:l.length<=100000) (hcap:l.length<=c) (hp:OkP ⟨F,R,l,bl,ca,ps,ha,fu⟩) (hX:X<18446744073709551616) (hXo:∀ i∈listOf X,i<l.length/\ownB (pc l (i:Int)) bl=true) (w:World) (hAC:AftC) (hT:T8 w) (hA:RdP w w.heap.size A l c) (hBx:Bxs w b [.int .i64 F,.int .i64 R,.slice A l.length c,.bool bl,.int .u8 (ca:Int),.int .i64 ps,.int .i64 ha,.int .i64 fu,.int .u64 (ownS l bl:Int),.int .u64 (ownS l (!bl):Int)]) :
  CallsIn Fence.wide 8 Tryz.prog 78 #[.pointer (some ⟨b,0,none⟩),.int .u64 (X:Int)] w fun e w'=>∃ v,e=.returned v/\w'.ownsRow w.heap.size 30 3 v (qMv ⟨F,R,l,bl,ca,ps,ha,fu⟩ X).length (vmvs (qMv ⟨F,R,l,bl,ca,ps,ha,fu⟩ X))/\Below w.heap.size w w':=by
 obtain ⟨i0,hi,hz0,hz1,hz2⟩:=info_parts infoMv
 have HSQ:=Lib.hid (fun n hn ho w hT hA hX=>qSqs_any F R l A c bl ca ps ha fu b n hca hlen hcap hp hn ho w hAC hT hA hX)
 have HPM:=Lib.hid (fun n y hn hy w hA hX=>qPrm_any F R l A c bl ca ps ha fu (ownS l bl) (ownS l (!bl)) b n y hp.vbd hn hy w hA hX)
 have hBt:=hBx.lt
 have HTW:Hid (∀ W,Bw w W->T8 W):=Lib.hid (fun W h=>hT.below h)
 have HAW:Hid (∀ W,Bw w W->RdP W W.heap.size A l c):=Lib.hid (fun W h=>rdBo h hA)
 have HXW:Hid (∀ W,Bw w W->Bxs W b [.int .i64 F,.int .i64 R,.slice A l.length c,.bool bl,.int .u8 (ca:Int),.int .i64 ps,.int .i64 ha,.int .i64 fu,.int .u64 (ownS l bl:Int),.int .u64 (ownS l (!bl):Int)]):=Lib.hid (fun W h=>hBx.below h hBt)
 have htab:4+1<=w.heap.size:=hT.1.1.1
 refine callsIn_of_wp_marks Tryz.func78 rfl trivial ?_ rfl
 simp only [Tryz.ntmps78,List.size_toArray,List.length_cons,List.length_nil,Nat.reduceAdd,Nat.reduceSub,Array.replicate_succ,Array.replicate_zero,List.push_toArray,List.append_toArray,List.nil_append,List.cons_append]
 gi_wp2_with fail
 refine ⟨trivial,callsIn_wide.2 ((each_any X _).mono ?_)⟩
 rintro e w1 ⟨rfl,rfl⟩
 gi_wp2_with fail
 have b2:=((Boxed.new w 169 (.pointer (some ⟨b,0,none⟩))).alloc (.cells #[.slice none 0 0] 49)).alloc (.cells #[.int .u64 (X:Int)] 85)
 have b5:=(Boxed.new (w.alloc (.cells #[.pointer (some ⟨b,0,none⟩)] 169)) 49 (.slice none 0 0)).alloc (.cells #[.int .u64 (X:Int)] 85)
 have bE:=Boxed.new ((w.alloc (.cells #[.pointer (some ⟨b,0,none⟩)] 169)).alloc (.cells #[.slice none 0 0] 49)) 85 (.int .u64 (X:Int))
 simp only [World.size_alloc] at b5 bE
 have hB0:Below w.heap.size w (((w.alloc (.cells #[.pointer (some ⟨b,0,none⟩)] 169)).alloc (.cells #[.slice none 0 0] 49)).alloc (.cells #[.int .u64 (X:Int)] 85)):=(((Below.refl _ w).alloc (Nat.le_refl _) _).alloc (by simp) _).alloc (by simp;omega) _
 have hsz:(((w.alloc (.cells #[.pointer (some ⟨b,0,none⟩)] 169)).alloc (.cells #[.slice none 0 0] 49)).alloc (.cells #[.int .u64 (X:Int)] 85)).heap.size=w.heap.size+3:=by simp
 obtain ⟨W0,hW0⟩:∃ W0,((w.alloc (.cells #[.pointer (some ⟨b,0,none⟩)] 169)).alloc (.cells #[.slice none 0 0] 49)).alloc (.cells #[.int .u64 (X:Int)] 85)=W0:=⟨_,rfl⟩
 rw [hW0] at b2 b5 bE hB0 hsz ⊢
 have hsz2:w.heap.size+3<=W0.heap.size:=by omega
 clear hW0 hsz
 have hH0:HoldM w.heap.size (w.heap.size+1) W0 (accO ⟨F,R,l,bl,ca,ps,ha,fu⟩ (vals ([]:List (Sq X)))):=⟨_,b5,World.ownsRow_nil _ _ _ _,trivial⟩
 apply range_sqH (X:=X) (by omega) (gf:=181) (lb:=#[.pointer (some ⟨w.heap.size+1+1,0,none⟩)]) rfl (enters_of Tryz.func181 (by kernel_rfl) rfl)
  (each_stops (8 - 1) (w.heap.size+1+1) w.heap.size X (by omega) hX W0 (by omega) htab bE.cell (hT.below hB0).1.1) belowK_t (belowK_b (by omega)) (Below.refl _ _) (fun _=>rfl)
  (fun (pre:List (Sq X)) W=>(Boxed W w.heap.size 169 (.pointer (some ⟨b,0,none⟩))/\HoldM w.heap.size (w.heap.size+1) W (accO ⟨F,R,l,bl,ca,ps,ha,fu⟩ (vals pre)))/\(Below w.heap.size w W/\W0.heap.size<=W.heap.size))
  (OwnFrom.and (OwnFrom.and (Own.from (boxed_own _ _ _) _) (Own.from (hold_own _ _ _) _)) (OwnFrom.and (ownFrom_below (Nat.le_refl _) (by omega)) (ownFrom_size W0.heap.size)))
  ⟨⟨b2,hH0⟩,hB0,Nat.le_refl _⟩ (w.heap.size+1)
 case hassign =>
  rintro lp pre x W K ⟨⟨b2,hH⟩,hB,hWW⟩ hK
  have HK:=Lib.hid (fun a' h=>hK a' _ ((KeepsOthers.alloc W (.cells #[.int .i64 (x.1:Int)] 3)).from _) ((Below.refl _ W).alloc hB.size _) ⟨⟨b2.alloc _,hH.bel (box1 _ _)⟩,hB.alloc hB.size _,Nat.le_trans hWW (by simp)⟩ h)
  have HN:=Lib.hid (Boxed.new W 3 (.int .i64 (x.1:Int)))
  have hlt:=hH.lt
  clear hK b2 hH hB
  gi_wp2_with fail
  obtain ⟨gu,hgu⟩:∃ gu,W.heap.size=gu:=⟨_,rfl⟩
  rw [hgu] at HN hlt
  rw [hgu]
  exact HK.out _ ⟨gu,rfl,hlt,HN.out⟩
 case hbody =>
  rintro lp pre x a' W hlp ⟨r,hr⟩ ⟨⟨b2,hH⟩,hB,hWW⟩ ⟨Bx,rfl,hBx,bX⟩ hlen
  obtain ⟨hxn,hxo⟩:=hXo x.1 x.2
  have hpl:pre.length<64:=Nat.lt_of_lt_of_le hlen (listOf_len X)
  have c2:=b2.cell
  have cX:=bX.cell
  have hPa:=pre.length
  have HBW:Hid (Bw w W):=Lib.hid hB
  have HSQ1:=Lib.hid (HSQ.out x.1 hxn hxo W (HTW.out W hB) (HAW.out W hB) (HXW.out W hB))
  gi_wp2_with fail
  refine ⟨trivial,callsIn_wide.2 (HSQ1.out.mono ?_)⟩
  rintro e w2 ⟨rfl,hq⟩
  gi_wp2_with fail
  refine ⟨trivial,callsIn_wide.2 ((each_any _ _).mono ?_)⟩
  rintro e w3 ⟨rfl,rfl⟩
  gi_wp2_with fail
  have hq3:Below W.heap.size W (w2.alloc (.cells #[.int .u64 (qSq ⟨F,R,l,bl,ca,ps,ha,fu⟩ (x.1:Int):Int)] 85)):=chain hq (box1 _ _)
  have hsz3:(w2.alloc (.cells #[.int .u64 (qSq ⟨F,R,l,bl,ca,ps,ha,fu⟩ (x.1:Int):Int)] 85)).heap.size=w2.heap.size+1:=by simp
  have bE3:=Boxed.new w2 85 (.int .u64 (qSq ⟨F,R,l,bl,ca,ps,ha,fu⟩ (x.1:Int):Int))
  have hq2:=hq.size
  obtain ⟨V,hV⟩:∃ V,w2.alloc (.cells #[.int .u64 (qSq ⟨F,R,l,bl,ca,ps,ha,fu⟩ (x.1:Int):Int)] 85)=V:=⟨_,rfl⟩
  rw [hV] at hq3 bE3 hsz3 ⊢
  have hsz4:w2.heap.size+1<=V.heap.size:=by omega
  clear hV hsz3
  have hWV:W0.heap.size<=V.heap.size:=Nat.le_trans hWW hq3.size
  have hBV:=hB.trans (hq3.mono hB.size)
  have hrV:V.heap[lp]?=some (.loop r):=(hq3.block lp (Array.getElem?_eq_some_iff.1 hr).1).trans hr
  have hsB:=hB.size
  have hY64:qSq ⟨F,R,l,bl,ca,ps,ha,fu⟩ (x.1:Int)<18446744073709551616:=qSq_lt hp (x.1:Int)
  apply range_sqN (X:=qSq ⟨F,R,l,bl,ca,ps,ha,fu⟩ (x.1:Int)) (l₀:=lp) (r₀:=r) hrV (by omega) (gf:=181) (lb:=#[.pointer (some ⟨w2.heap.size,0,none⟩)]) rfl (enters_of Tryz.func181 (by kernel_rfl) rfl)
   (each_stops (8 - 1 - 1 - 1) w2.heap.size w.heap.size _ (by omega) hY64 V (by omega) htab bE3.cell (hT.below hBV).1.1) belowK_t (belowK_b (by omega)) (Below.refl _ _) (fun _=>rfl)
   (fun (pre':List (Sq (qSq ⟨F,R,l,bl,ca,ps,ha,fu⟩ (x.1:Int)))) W'=>((Boxed W' w.heap.size 169 (.pointer (some ⟨b,0,none⟩))/\Boxed W' Bx 3 (.int .i64 (x.1:Int)))/\HoldM w.heap.size (w.heap.size+1) W' (accO ⟨F,R,l,bl,ca,ps,ha,fu⟩ (vals pre) ++ accI ⟨F,R,l,bl,ca,ps,ha,fu⟩ (x.1:Int) (vals pre')))/\(Below w.heap.size W W'/\KeepsFrom W0.heap.size W W'))
   (OwnFrom.and (OwnFrom.and (OwnFrom.and (Own.from (boxed_own _ _ _) _) (Own.from (boxed_own _ _ _) _)) (Own.from (hold_own _ _ _) _)) (OwnFrom.and (ownFrom_below hsB (by omega)) (ownFrom_keepsFrom hq3.size)))
   ⟨⟨⟨boxed_bel b2 hq3,boxed_bel bX hq3⟩,by have:=hH.bel hq3;simpa [accI,vals] using this⟩,hq3.mono hsB,(keeps_bel3 hq3).from _⟩
  case hassign =>
   rintro l2 pre' y W' K hI hK
   have HK:=Lib.hid (fun a' h=>hK a' W' (KeepsFrom.refl _ _) (Below.refl _ _) hI h)
   clear hK hI
   gi_wp2_with fail
   exact HK.out _ rfl
  case hbody =>
   rintro l2 pre' y W' hl2 _ ⟨⟨⟨b2',bX'⟩,hH'⟩,hBW',hKF⟩ hlen2
   have hyn:y.1<l.length:=by
    rcases Nat.lt_or_ge y.1 l.length with h | h
    ·exact h
    ·have h1:=(mem_listOf.1 y.2).2
     rw [qSq_hi hp (a:=(x.1:Int)) ⟨hp.hv,by omega,by have:=hp.len;simp only at this ⊢;omega⟩ h] at h1
     cases h1
   have hyv:vat F R (y.1:Int):=⟨hp.hv,by omega,by have:=hp.len;simp only at this ⊢;omega⟩
   have hpl2:pre'.length<64:=Nat.lt_of_lt_of_le hlen2 (listOf_len _)
   have hBW2:=hB.trans hBW'
   have c2':=b2'.cell
   have cX':=bX'.cell
   have HPM1:=HPM.out x.1 (y.1:Int) hxn hyv W' (HAW.out W' hBW2) (HXW.out W' hBW2)
   obtain ⟨f,cnt,⟨hf0,hf2⟩,⟨hc1,hc4⟩,hfa,hfb,hpn,hget⟩:=pm_cases ⟨F,R,l,bl,ca,ps,ha,fu⟩ (x.1:Int) (y.1:Int)
   simp only at hfa hfb
   rw [hfa,hfb] at HPM1
   replace HPM1:=Lib.hid HPM1
   have HGET:=Lib.hid (fun j (hj:j<cnt)=>qTo_take ⟨F,R,l,bl,ca,ps,ha,fu⟩ (x.1:Int) (y.1:Int) f hpn hget hj)
   have HALL:Hid ((qTo ⟨F,R,l,bl,ca,ps,ha,fu⟩ (x.1:Int) (y.1:Int)).take cnt=qTo ⟨F,R,l,bl,ca,ps,ha,fu⟩ (x.1:Int) (y.1:Int)):=Lib.hid (List.take_of_length_le (by unfold qTo;rw [List.length_map,hpn];exact Nat.le_refl _))
   have HLN:Hid (∀ j,(accO ⟨F,R,l,bl,ca,ps,ha,fu⟩ (vals pre) ++ accI ⟨F,R,l,bl,ca,ps,ha,fu⟩ (x.1:Int) (vals pre') ++ (qTo ⟨F,R,l,bl,ca,ps,ha,fu⟩ (x.1:Int) (y.1:Int)).take j).length<=20000):=Lib.hid (fun j=>by
    have h1:=accO_len ⟨F,R,l,bl,ca,ps,ha,fu⟩ (vals pre)
    have h2:=accI_len ⟨F,R,l,bl,ca,ps,ha,fu⟩ (x.1:Int) (vals pre')
    have h3:(qTo ⟨F,R,l,bl,ca,ps,ha,fu⟩ (x.1:Int) (y.1:Int)).length<=4:=by unfold qTo;rw [List.length_map];exact qPm_len _ _ _
    rw [vals_len] at h1 h2
    simp only [List.length_append,List.length_take]
    omega)
   clear hget hpn hfa hfb
   gi_wp2_with fail
   refine ⟨trivial,callsIn_wide.2 (HPM1.out.mono ?_)⟩
   rintro e w4 ⟨rfl,hq4⟩
   have b24:=boxed_bel b2' hq4
   have bX4:=boxed_bel bX' hq4
   have hH4:=hH'.bel hq4
   have hn0:w.heap.size<=W'.heap.size:=hBW2.size
   have hB4:Below w.heap.size W' w4:=hq4.mono hn0
   have hK4:KeepsFrom W0.heap.size W' w4:=(keeps_bel3 hq4).from _
   clear hq4 HPM1 c2' cX' b2' bX' hH'
   gi_wp2_with fail
   gi_loopw [10] (fun kd wr=>∃ j:Nat,j<=cnt/\kd=.int .i8 (f+(j:Int))/\((Boxed wr w.heap.size 169 (.pointer (some ⟨b,0,none⟩))/\Boxed wr Bx 3 (.int .i64 (x.1:Int)))/\HoldM w.heap.size (w.heap.size+1) wr (accO ⟨F,R,l,bl,ca,ps,ha,fu⟩ (vals pre) ++ accI ⟨F,R,l,bl,ca,ps,ha,fu⟩ (x.1:Int) (vals pre') ++ (qTo ⟨F,R,l,bl,ca,ps,ha,fu⟩ (x.1:Int) (y.1:Int)).take j))/\Below w.heap.size W' wr/\KeepsFrom W0.heap.size W' wr) (fun kd _=>cnt - (intOf kd - f).toNat)
   case atStart=>exact ⟨0,by omega,by simp,⟨⟨b24,bX4⟩,by simpa using hH4⟩,hB4,hK4⟩
   case round =>
    obtain ⟨j,hj,rfl,⟨⟨b2r,bXr⟩,hHr⟩,hBr,hKr⟩:=hrel
    by_cases hlt:j<cnt
    ·have hle:f+(j:Int)<=f+(cnt:Int) - 1:=by omega
     obtain ⟨v,hv,hrow,_⟩:=hHr
     have hL:=HLN.out j
     have hT1:=HGET.out j hlt
     generalize hLs:accO ⟨F,R,l,bl,ca,ps,ha,fu⟩ (vals pre) ++ accI ⟨F,R,l,bl,ca,ps,ha,fu⟩ (x.1:Int) (vals pre') ++ (qTo ⟨F,R,l,bl,ca,ps,ha,fu⟩ (x.1:Int) (y.1:Int)).take j=Ls at *
     have hT2:accO ⟨F,R,l,bl,ca,ps,ha,fu⟩ (vals pre) ++ accI ⟨F,R,l,bl,ca,ps,ha,fu⟩ (x.1:Int) (vals pre') ++ (qTo ⟨F,R,l,bl,ca,ps,ha,fu⟩ (x.1:Int) (y.1:Int)).take (j+1)=Ls ++ [⟨(x.1:Int),(y.1:Int),f+(j:Int)⟩]:=by rw [hT1,<- List.append_assoc,hLs]
     have HT2:=Lib.hid hT2
     clear hT1 hLs hT2
     have c5:=hv.cell
     have cXr:=bXr.cell
     have hnr:w.heap.size<=wr.heap.size:=Nat.le_trans hn0 hBr.size
     have hj0:(0:Int)<=(j:Int):=by omega
     have hj4:(j:Int)<4:=by omega
     gi_wp2_with (gi_at_builtin;(refine wpListIn_append_own _ rfl _ _ 49 rfl w.heap.size 30 i0 (.agg #[.int .i64 0,.int .i64 0,.int .i8 0]) 3 24 Tryz.underlying49 hi hz0 hz1 hz2 rfl (by decide) _ _ _ rfl (hrow.alloc _) ⟨wr.heap.size,0,none⟩ 1 1 [.int .i64 (x.1:Int),.int .i64 (y.1:Int),.int .i8 (f+(j:Int))] rfl rfl ?c1 ?c2 ?c3 ?c4 ?c5 ?_))
     case c1 =>
      intro j u hj
      match j,hj with
      | 0,hj=>simp at hj;subst hj;simp [go_sem]
      | 1,hj=>simp at hj;subst hj;simp [go_sem]
      | 2,hj=>simp at hj;subst hj;simp [go_sem]
     case c2 =>
      intro u hu
      simp at hu
      rcases hu with rfl | rfl | rfl <;> rfl
     case c3=>unfold maxLen;omega
     case c4=>omega
     case c5=>simp;omega
     intro v' w5 hown' hgrow _
     obtain ⟨g',cap',rfl⟩:=ownsRow_succ hown'
     obtain ⟨hv3,hv4,hr4,hk4,hb4⟩:=hv.appended (by decide) hrow hnr (by omega) hown' hgrow
     have c3:=hv3.cell
     have f3:=hv3.frozen
     have hb25:=(Boxed.kept (b2r.alloc _) hgrow (b2r.not_row (by decide) hrow)).other (B':=w.heap.size+1) (by omega) (.slice (some ⟨g',0,none⟩) (Ls.length+1) cap')
     have hbX5:=(Boxed.kept (bXr.alloc _) hgrow (bXr.not_row (by decide) hrow)).other (B':=w.heap.size+1) (by omega) (.slice (some ⟨g',0,none⟩) (Ls.length+1) cap')
     have HR:=Lib.hid (show ((Boxed _ w.heap.size 169 (.pointer (some ⟨b,0,none⟩))/\Boxed _ Bx 3 (.int .i64 (x.1:Int)))/\HoldM w.heap.size (w.heap.size+1) _ (Ls ++ [⟨(x.1:Int),(y.1:Int),f+(j:Int)⟩]))/\Below w.heap.size W' _/\KeepsFrom W0.heap.size W' _ from ⟨⟨⟨hb25,hbX5⟩,_,hv4,by rw [vmvs_app,vmvs_one,List.length_append];exact hr4,trivial⟩,hBr.trans hb4,hKr.trans (hk4.from _)⟩)
     clear hb25 hbX5 hv4 hr4 hk4 hb4
     gi_wp2
     go_roundw
     case rel=>exact ⟨j+1,by omega,by simp only [Value.int.injEq,true_and];omega,by rw [HT2.out];exact HR.out.1,HR.out.2⟩
     case measure=>simp [intOf];omega
    ·have hjc:j=cnt:=by omega
     subst hjc
     rw [HALL.out,List.append_assoc,<- accI_snoc,<- vals_snoc] at hHr
     have hle:¬ (f+(j:Int)<=f+(j:Int) - 1):=by omega
     gi_wp2
     exact ⟨keepsF_up hKr hWV,hBr,⟨⟨b2r,bXr⟩,hHr⟩,hBW'.trans hBr,hKF.trans hKr⟩
  case hdone =>
   rintro ys W' hys ⟨⟨⟨b2',bX'⟩,hH'⟩,hBW',hKF⟩
   have hfin:accO ⟨F,R,l,bl,ca,ps,ha,fu⟩ (vals pre) ++ accI ⟨F,R,l,bl,ca,ps,ha,fu⟩ (x.1:Int) (vals ys)=accO ⟨F,R,l,bl,ca,ps,ha,fu⟩ (vals (pre ++ [x])):=by rw [vals_snoc,accO_snoc,<- accI_all,<- hys]
   rw [hfin] at hH'
   gi_wp2
   exact ⟨hKF,hBW',⟨b2',hH'⟩,hB.trans hBW',Nat.le_trans hWW hBW'.size⟩
 case hdone =>
  rintro D zs W hD hzs ⟨⟨b2,hH⟩,hB,_⟩ hK
  rw [hzs,accO_all] at hH
  obtain ⟨v,hv,hrow,_⟩:=hH
  have c5:=hv.cell
  gi_wp2
  refine ⟨by simp,.inl ⟨_,_,rfl,run_takeDeferred hK,?_⟩⟩
  exact ⟨_,results_tmp rfl _ _ _,v,rfl,ownsRow_putObj hrow _ hK rfl,hB.trans (belowK_b (w:=w) (Nat.le_refl _) W D _ _ (by omega) hK rfl rfl)⟩
end Go.Proofs.YtbccbgonlmkpkaaGreatDoor
namespace Go.Proofs.YtbccbgonlmkpkaaGreatDoor
open Go.RowKit Go.Sort
def MvsP (w:World) (L:List Mv) (e:Ending) (w':World):Prop:=∃ v,e=.returned v/\w'.ownsRow w.heap.size 30 3 v L.length (vmvs L)/\Below w.heap.size w w'
def MovsP (w:World) (L:List Mv) (e:Ending) (w':World):Prop:=∃ v,e=.returned (.tuple #[v,.int .i64 0])/\w'.ownsRow w.heap.size 30 3 v L.length (vmvs L)/\Below w.heap.size w w'
theorem qMvs_any (F R:Int) (l:List Int) (A:Option Addr) (c:Nat) (bl:Bool) (ca:Nat) (ps ha fu:Int) (b X:Nat) (hca:ca<256) (hlen:l.length<=100000) (hcap:l.length<=c) (hp:OkP ⟨F,R,l,bl,ca,ps,ha,fu⟩) (hX:X<18446744073709551616) (hXo:∀ i∈listOf X,i<l.length/\ownB (pc l (i:Int)) bl=true) (w:World) (hAC:AftC) (hT:T8 w) (hA:RdP w w.heap.size A l c) (hBx:Bxs w b [.int .i64 F,.int .i64 R,.slice A l.length c,.bool bl,.int .u8 (ca:Int),.int .i64 ps,.int .i64 ha,.int .i64 fu,.int .u64 (ownS l bl:Int),.int .u64 (ownS l (!bl):Int)]) :
  Calls Tryz.prog 78 #[.pointer (some ⟨b,0,none⟩),.int .u64 (X:Int)] w (MvsP w (qMv ⟨F,R,l,bl,ca,ps,ha,fu⟩ X)) :=
 callsIn_wide.1 (qMvs_in F R l A c bl ca ps ha fu b X hca hlen hcap hp hX hXo w hAC hT hA hBx)
theorem own_lq {W:World} {B B' e sz n:Nat} {v:Value} {xs:List Value} (ho:W.ownsRow B e sz v n xs) (h:B'<=B):W.ownsRow B' e sz v n xs:=by
 obtain ⟨hl,hh | ⟨g2,cap2,cur,hv,hgB,hh,hr⟩⟩:=ho
 ·exact ⟨hl,.inl hh⟩
 ·exact ⟨hl,.inr ⟨g2,cap2,cur,hv,Nat.le_trans h hgB,hh,hr⟩⟩
theorem own_sqs {p:Po} (hp:OkP p) {X:Nat} (h:∀ j,X.testBit j=true->(ownS p.l p.bl).testBit j=true):∀ i∈listOf X,i<p.l.length/\ownB (pc p.l (i:Int)) p.bl=true:=fun i hi=>by
 have h1:=h i (mem_listOf.1 hi).2
 have hn:i<p.l.length:=by
  unfold ownS setP at h1
  rw [ofL_bit,decide_eq_true_eq] at h1
  exact (idx_lt h1).1
 have hb:=ownS_bit p.bl (l:=p.l) (n:=(i:Int)) (by omega) (by omega)
 rw [Int.toNat_natCast,h1] at hb
 exact ⟨hn,hb.symm⟩
theorem qMov_no (F R:Int) (l:List Int) (A:Option Addr) (c:Nat) (bl:Bool) (ca:Nat) (ps ha fu:Int) (hca:ca<256) (hlen:l.length<=100000) (hcap:l.length<=c) (hok:okPo ⟨F,R,l,bl,ca,ps,ha,fu⟩=false) (w:World) (hT:T8 w) (hA:RdP w w.heap.size A l c) :
  Calls Tryz.prog 28 #[.agg #[.int .i64 F,.int .i64 R,.slice A l.length c,.bool bl,.int .u8 (ca:Int),.int .i64 ps,.int .i64 ha,.int .i64 fu]] w fun e w'=>e=.returned (.tuple #[.slice none 0 0,.int .i64 2])/\Below w.heap.size w w':=by
 have HLK:=Lib.hid (fun w hT hA=>qLook_no F R l A c bl ca ps ha fu hca hlen hcap hok w hT hA)
 unfold trz at HLK
 have B1:=box1 (w) (.cells #[.int .i64 F,.int .i64 R,.slice A l.length c,.bool bl,.int .u8 (ca:Int),.int .i64 ps,.int .i64 ha,.int .i64 fu] 26)
 have hHP:=Bxs.new (w) [.int .i64 F,.int .i64 R,.slice A l.length c,.bool bl,.int .u8 (ca:Int),.int .i64 ps,.int .i64 ha,.int .i64 fu] 26
 have HP0:=Lib.hid (hHP)
 have hB:=B1
 have HB0:Hid (Bw w (w.alloc (.cells #[.int .i64 F,.int .i64 R,.slice A l.length c,.bool bl,.int .u8 (ca:Int),.int .i64 ps,.int .i64 ha,.int .i64 fu] 26))):=Lib.hid hB
 have HA0:=Lib.hid (rdBo hB hA)
 have HT0:=Lib.hid (hT.below hB)
 clear hB B1 hHP hA hT hok hca hlen hcap
 go_enter Tryz.func28,Tryz.ntmps28
 go_upto_region 1 with fail
 generalize w.alloc (.cells #[.int .i64 F,.int .i64 R,.slice A l.length c,.bool bl,.int .u8 (ca:Int),.int .i64 ps,.int .i64 ha,.int .i64 fu] 26)=V at *
 obtain ⟨p0,p1,p2,p3,p4,p5,p6,p7⟩:=HP0.out.h8
 go_wp2_with fail
 refine (HLK.out _ HT0.out HA0.out).mono ?_
 rintro e w1 ⟨rfl,hq⟩
 have HP_1:=Lib.hid (HP0.out.below hq HP0.out.lt)
 have HB_1:Hid (Bw w _):=Lib.hid (chain HB0.out hq)
 have HA_1:=Lib.hid (rdBo hq HA0.out)
 have HT_1:=Lib.hid (HT0.out.below hq)
 clear hq HP0 HB0 HA0 HT0 p0 p1 p2 p3 p4 p5 p6 p7 HLK
 go_wp2
 go_ret2
 exact ⟨rfl,Bw.alloc HB_1.out _⟩
theorem qFrm_no (F R:Int) (l:List Int) (A:Option Addr) (c:Nat) (bl:Bool) (ca:Nat) (ps ha fu:Int) (at_:Int) (hca:ca<256) (hlen:l.length<=100000) (hcap:l.length<=c) (hok:okPo ⟨F,R,l,bl,ca,ps,ha,fu⟩=false) (w:World) (hT:T8 w) (hA:RdP w w.heap.size A l c) :
  Calls Tryz.prog 29 #[.agg #[.int .i64 F,.int .i64 R,.slice A l.length c,.bool bl,.int .u8 (ca:Int),.int .i64 ps,.int .i64 ha,.int .i64 fu],.int .i64 at_] w fun e w'=>e=.returned (.tuple #[.slice none 0 0,.int .i64 2])/\Below w.heap.size w w':=by
 have HLK:=Lib.hid (fun w hT hA=>qLook_no F R l A c bl ca ps ha fu hca hlen hcap hok w hT hA)
 unfold trz at HLK
 have B1:=box1 (w) (.cells #[.int .i64 F,.int .i64 R,.slice A l.length c,.bool bl,.int .u8 (ca:Int),.int .i64 ps,.int .i64 ha,.int .i64 fu] 26)
 have hHP:=Bxs.new (w) [.int .i64 F,.int .i64 R,.slice A l.length c,.bool bl,.int .u8 (ca:Int),.int .i64 ps,.int .i64 ha,.int .i64 fu] 26
 have HP0:=Lib.hid (hHP)
 have hB:=B1
 have HB0:Hid (Bw w (w.alloc (.cells #[.int .i64 F,.int .i64 R,.slice A l.length c,.bool bl,.int .u8 (ca:Int),.int .i64 ps,.int .i64 ha,.int .i64 fu] 26))):=Lib.hid hB
 have HA0:=Lib.hid (rdBo hB hA)
 have HT0:=Lib.hid (hT.below hB)
 clear hB B1 hHP hA hT hok hca hlen hcap
 go_enter Tryz.func29,Tryz.ntmps29
 go_upto_region 1 with fail
 generalize w.alloc (.cells #[.int .i64 F,.int .i64 R,.slice A l.length c,.bool bl,.int .u8 (ca:Int),.int .i64 ps,.int .i64 ha,.int .i64 fu] 26)=V at *
 obtain ⟨p0,p1,p2,p3,p4,p5,p6,p7⟩:=HP0.out.h8
 go_wp2_with fail
 refine (HLK.out _ HT0.out HA0.out).mono ?_
 rintro e w1 ⟨rfl,hq⟩
 have HP_1:=Lib.hid (HP0.out.below hq HP0.out.lt)
 have HB_1:Hid (Bw w _):=Lib.hid (chain HB0.out hq)
 have HA_1:=Lib.hid (rdBo hq HA0.out)
 have HT_1:=Lib.hid (HT0.out.below hq)
 clear hq HP0 HB0 HA0 HT0 p0 p1 p2 p3 p4 p5 p6 p7 HLK
 go_wp2
 go_ret2
 exact ⟨rfl,Bw.alloc HB_1.out _⟩
theorem qMov_yes (F R:Int) (l:List Int) (A:Option Addr) (c:Nat) (bl:Bool) (ca:Nat) (ps ha fu:Int) (hca:ca<256) (hlen:l.length<=100000) (hcap:l.length<=c) (hok:okPo ⟨F,R,l,bl,ca,ps,ha,fu⟩=true) (w:World) (hAC:AftC) (hT:T8 w) (hA:RdP w w.heap.size A l c) :
  Calls Tryz.prog 28 #[.agg #[.int .i64 F,.int .i64 R,.slice A l.length c,.bool bl,.int .u8 (ca:Int),.int .i64 ps,.int .i64 ha,.int .i64 fu]] w (MovsP w (psdL ⟨F,R,l,bl,ca,ps,ha,fu⟩)):=by
 have hp:OkP ⟨F,R,l,bl,ca,ps,ha,fu⟩:=(okPo_iff _).1 hok
 have hl64:l.length<=64:=by have:=(vsz_mul hp.hv).2;have h2:(l.length:Int)=F * R:=hp.len;simp only at *;omega
 have HLK:=Lib.hid (fun w hT hA=>qLook_yes F R l A c bl ca ps ha fu hca hlen hcap hok w hT hA)
 unfold trq at HLK
 have HMV:=Lib.hid (fun b w hT hA hX=>qMvs_any F R l A c bl ca ps ha fu b (ownS l bl) hca hlen hcap hp (ownS_lt bl hl64) (own_sqs hp (fun _ h=>h)) w hAC hT hA hX)
 have HEQ:Hid (psdL ⟨F,R,l,bl,ca,ps,ha,fu⟩=qMv ⟨F,R,l,bl,ca,ps,ha,fu⟩ (ownS l bl)):=Lib.hid (psdL_own hp)
 obtain ⟨L,hL⟩:∃ L,qMv ⟨F,R,l,bl,ca,ps,ha,fu⟩ (ownS l bl)=L:=⟨_,rfl⟩
 rw [hL] at HMV HEQ
 have B1:=box1 (w) (.cells #[.int .i64 F,.int .i64 R,.slice A l.length c,.bool bl,.int .u8 (ca:Int),.int .i64 ps,.int .i64 ha,.int .i64 fu] 26)
 have hHP:=Bxs.new (w) [.int .i64 F,.int .i64 R,.slice A l.length c,.bool bl,.int .u8 (ca:Int),.int .i64 ps,.int .i64 ha,.int .i64 fu] 26
 have HP0:=Lib.hid (hHP)
 have hB:=B1
 have HB0:Hid (Bw w (w.alloc (.cells #[.int .i64 F,.int .i64 R,.slice A l.length c,.bool bl,.int .u8 (ca:Int),.int .i64 ps,.int .i64 ha,.int .i64 fu] 26))):=Lib.hid hB
 have HA0:=Lib.hid (rdBo hB hA)
 have HT0:=Lib.hid (hT.below hB)
 clear hB B1 hHP hA hT hok hca hlen hcap hp hl64 hL
 generalize ownS l (!bl)=fo at *
 generalize ownS l bl=ow at *
 go_enter Tryz.func28,Tryz.ntmps28
 go_upto_region 1 with fail
 generalize w.alloc (.cells #[.int .i64 F,.int .i64 R,.slice A l.length c,.bool bl,.int .u8 (ca:Int),.int .i64 ps,.int .i64 ha,.int .i64 fu] 26)=V at *
 obtain ⟨p0,p1,p2,p3,p4,p5,p6,p7⟩:=HP0.out.h8
 go_wp2_with fail
 refine (HLK.out _ HT0.out HA0.out).mono ?_
 rintro e w1 ⟨rfl,hq⟩
 have HP_1:=Lib.hid (HP0.out.below hq HP0.out.lt)
 have HB_1:Hid (Bw w _):=Lib.hid (chain HB0.out hq)
 have HA_1:=Lib.hid (rdBo hq HA0.out)
 have HT_1:=Lib.hid (HT0.out.below hq)
 clear hq HP0 HB0 HA0 HT0 p0 p1 p2 p3 p4 p5 p6 p7 HLK
 go_upto_region 2 with fail
 have HQ0:=Lib.hid (Bxs.new w1 [.int .i64 F,.int .i64 R,.slice A l.length c,.bool bl,.int .u8 (ca:Int),.int .i64 ps,.int .i64 ha,.int .i64 fu,.int .u64 (ow:Int),.int .u64 (fo:Int)] 116)
 have hq:=box1 w1 (.cells #[.int .i64 F,.int .i64 R,.slice A l.length c,.bool bl,.int .u8 (ca:Int),.int .i64 ps,.int .i64 ha,.int .i64 fu,.int .u64 (ow:Int),.int .u64 (fo:Int)] 116)
 generalize w1.alloc (.cells #[.int .i64 F,.int .i64 R,.slice A l.length c,.bool bl,.int .u8 (ca:Int),.int .i64 ps,.int .i64 ha,.int .i64 fu,.int .u64 (ow:Int),.int .u64 (fo:Int)] 116)=w2 at *
 have HP_2:=Lib.hid (HP_1.out.below hq HP_1.out.lt)
 have HB_2:Hid (Bw w _):=Lib.hid (chain HB_1.out hq)
 have HA_2:=Lib.hid (rdBo hq HA_1.out)
 have HT_2:=Lib.hid (HT_1.out.below hq)
 clear hq HP_1 HB_1 HA_1 HT_1
 generalize w1.heap.size=g at *
 have z8:=HQ0.out.c 8 rfl
 go_wp2_with fail
 refine (HMV.out g _ HT_2.out HA_2.out HQ0.out).mono ?_
 rintro e w3 ⟨v,rfl,hown,hq⟩
 have hB3:=chain HB_2.out hq
 have hown2:=own_lq hown (HB_2.out).size
 have HO:=Lib.hid hown2
 clear hown hown2 hq HMV
 go_wp2
 go_ret2
 exact ⟨v,rfl,by rw [HEQ.out];exact HO.out,hB3⟩
theorem qFrm_off (F R:Int) (l:List Int) (A:Option Addr) (c:Nat) (bl:Bool) (ca:Nat) (ps ha fu:Int) (at_:Int) (hca:ca<256) (hlen:l.length<=100000) (hcap:l.length<=c) (hok:okPo ⟨F,R,l,bl,ca,ps,ha,fu⟩=true) (hat:¬ vat F R at_) (w:World) (hT:T8 w) (hA:RdP w w.heap.size A l c) :
  Calls Tryz.prog 29 #[.agg #[.int .i64 F,.int .i64 R,.slice A l.length c,.bool bl,.int .u8 (ca:Int),.int .i64 ps,.int .i64 ha,.int .i64 fu],.int .i64 at_] w fun e w'=>e=.returned (.tuple #[.slice none 0 0,.int .i64 2])/\Below w.heap.size w w':=by
 have HLK:=Lib.hid (fun w hT hA=>qLook_yes F R l A c bl ca ps ha fu hca hlen hcap hok w hT hA)
 unfold trq at HLK
 have HVL:=Lib.hid (fun w=>valid_no F R at_ hat w)
 have B1:=box1 (w) (.cells #[.int .i64 F,.int .i64 R,.slice A l.length c,.bool bl,.int .u8 (ca:Int),.int .i64 ps,.int .i64 ha,.int .i64 fu] 26)
 have hHP:=Bxs.new (w) [.int .i64 F,.int .i64 R,.slice A l.length c,.bool bl,.int .u8 (ca:Int),.int .i64 ps,.int .i64 ha,.int .i64 fu] 26
 have HP0:=Lib.hid (hHP)
 have hB:=B1
 have HB0:Hid (Bw w (w.alloc (.cells #[.int .i64 F,.int .i64 R,.slice A l.length c,.bool bl,.int .u8 (ca:Int),.int .i64 ps,.int .i64 ha,.int .i64 fu] 26))):=Lib.hid hB
 have HA0:=Lib.hid (rdBo hB hA)
 have HT0:=Lib.hid (hT.below hB)
 clear hB B1 hHP hA hT hok hca hlen hcap hat
 generalize ownS l (!bl)=fo at *
 generalize ownS l bl=ow at *
 go_enter Tryz.func29,Tryz.ntmps29
 go_upto_region 1 with fail
 generalize w.alloc (.cells #[.int .i64 F,.int .i64 R,.slice A l.length c,.bool bl,.int .u8 (ca:Int),.int .i64 ps,.int .i64 ha,.int .i64 fu] 26)=V at *
 obtain ⟨p0,p1,p2,p3,p4,p5,p6,p7⟩:=HP0.out.h8
 go_wp2_with fail
 refine (HLK.out _ HT0.out HA0.out).mono ?_
 rintro e w1 ⟨rfl,hq⟩
 have HP_1:=Lib.hid (HP0.out.below hq HP0.out.lt)
 have HB_1:Hid (Bw w _):=Lib.hid (chain HB0.out hq)
 have HA_1:=Lib.hid (rdBo hq HA0.out)
 have HT_1:=Lib.hid (HT0.out.below hq)
 clear hq HP0 HB0 HA0 HT0 p0 p1 p2 p3 p4 p5 p6 p7 HLK
 go_upto_region 2 with fail
 have hq:=box1 w1 (.cells #[.int .i64 F,.int .i64 R,.slice A l.length c,.bool bl,.int .u8 (ca:Int),.int .i64 ps,.int .i64 ha,.int .i64 fu,.int .u64 (ow:Int),.int .u64 (fo:Int)] 116)
 generalize w1.alloc (.cells #[.int .i64 F,.int .i64 R,.slice A l.length c,.bool bl,.int .u8 (ca:Int),.int .i64 ps,.int .i64 ha,.int .i64 fu,.int .u64 (ow:Int),.int .u64 (fo:Int)] 116)=w2 at *
 have HP_2:=Lib.hid (HP_1.out.below hq HP_1.out.lt)
 have HB_2:Hid (Bw w _):=Lib.hid (chain HB_1.out hq)
 have HA_2:=Lib.hid (rdBo hq HA_1.out)
 have HT_2:=Lib.hid (HT_1.out.below hq)
 clear hq HP_1 HB_1 HA_1 HT_1
 generalize w1.heap.size=g at *
 obtain ⟨p0,p1⟩:=HP_2.out.h2
 go_wp2_with fail
 refine (HVL.out _).mono ?_
 rintro e w3 ⟨rfl,hq⟩
 have HP_3:=Lib.hid (HP_2.out.below hq HP_2.out.lt)
 have HB_3:Hid (Bw w _):=Lib.hid (chain HB_2.out hq)
 have HA_3:=Lib.hid (rdBo hq HA_2.out)
 have HT_3:=Lib.hid (HT_2.out.below hq)
 clear hq HP_2 HB_2 HA_2 HT_2 p0 p1
 go_wp2
 go_ret2
 exact ⟨rfl,HB_3.out⟩
theorem qFrm_yes (F R:Int) (l:List Int) (A:Option Addr) (c:Nat) (bl:Bool) (ca:Nat) (ps ha fu:Int) (at_:Int) (hca:ca<256) (hlen:l.length<=100000) (hcap:l.length<=c) (hok:okPo ⟨F,R,l,bl,ca,ps,ha,fu⟩=true) (hat:vat F R at_) (w:World) (hAC:AftC) (hT:T8 w) (hA:RdP w w.heap.size A l c) :
  Calls Tryz.prog 29 #[.agg #[.int .i64 F,.int .i64 R,.slice A l.length c,.bool bl,.int .u8 (ca:Int),.int .i64 ps,.int .i64 ha,.int .i64 fu],.int .i64 at_] w (MovsP w (psdF ⟨F,R,l,bl,ca,ps,ha,fu⟩ at_)):=by
 have hp:OkP ⟨F,R,l,bl,ca,ps,ha,fu⟩:=(okPo_iff _).1 hok
 have h64:F * R<=64:=(vsz_mul hp.hv).2
 have hl64:l.length<=64:=by have h2:(l.length:Int)=F * R:=hp.len;omega
 have ha0:=hat.2.1
 have ha1:at_<64:=by have:=hat.2.2;omega
 have HLK:=Lib.hid (fun w hT hA=>qLook_yes F R l A c bl ca ps ha fu hca hlen hcap hok w hT hA)
 unfold trq at HLK
 have HVL:=Lib.hid (fun w=>valid_yes F R at_ hat w)
 have HSG:=Lib.hid (fun w=>qSing_any at_ ha0 ha1 w)
 have HAN:=Lib.hid (u64_and_nat (ownS l bl) (bitN at_.toNat) (ownS_lt bl hl64) (bitN_lt (by omega)))
 have HMV:=Lib.hid (fun b w hT hA hX=>qMvs_any F R l A c bl ca ps ha fu b (ownS l bl &&& bitN at_.toNat) hca hlen hcap hp (Nat.lt_of_le_of_lt Nat.and_le_left (ownS_lt bl hl64)) (own_sqs hp (fun j h=>by rw [Nat.testBit_and,Bool.and_eq_true] at h;exact h.1)) w hAC hT hA hX)
 have HEQ:Hid (psdF ⟨F,R,l,bl,ca,ps,ha,fu⟩ at_=qMv ⟨F,R,l,bl,ca,ps,ha,fu⟩ (ownS l bl &&& bitN at_.toNat)):=Lib.hid (psdF_and hp hat)
 obtain ⟨L,hL⟩:∃ L,qMv ⟨F,R,l,bl,ca,ps,ha,fu⟩ (ownS l bl &&& bitN at_.toNat)=L:=⟨_,rfl⟩
 rw [hL] at HMV HEQ
 have B1:=box1 (w) (.cells #[.int .i64 F,.int .i64 R,.slice A l.length c,.bool bl,.int .u8 (ca:Int),.int .i64 ps,.int .i64 ha,.int .i64 fu] 26)
 have hHP:=Bxs.new (w) [.int .i64 F,.int .i64 R,.slice A l.length c,.bool bl,.int .u8 (ca:Int),.int .i64 ps,.int .i64 ha,.int .i64 fu] 26
 have HP0:=Lib.hid (hHP)
 have hB:=B1
 have HB0:Hid (Bw w (w.alloc (.cells #[.int .i64 F,.int .i64 R,.slice A l.length c,.bool bl,.int .u8 (ca:Int),.int .i64 ps,.int .i64 ha,.int .i64 fu] 26))):=Lib.hid hB
 have HA0:=Lib.hid (rdBo hB hA)
 have HT0:=Lib.hid (hT.below hB)
 clear hB B1 hHP hA hT hok hca hlen hcap hp hl64 hL hat ha0 ha1 h64
 generalize bitN at_.toNat=sg at *
 generalize ownS l (!bl)=fo at *
 generalize ownS l bl=ow at *
 go_enter Tryz.func29,Tryz.ntmps29
 go_upto_region 1 with fail
 generalize w.alloc (.cells #[.int .i64 F,.int .i64 R,.slice A l.length c,.bool bl,.int .u8 (ca:Int),.int .i64 ps,.int .i64 ha,.int .i64 fu] 26)=V at *
 obtain ⟨p0,p1,p2,p3,p4,p5,p6,p7⟩:=HP0.out.h8
 go_wp2_with fail
 refine (HLK.out _ HT0.out HA0.out).mono ?_
 rintro e w1 ⟨rfl,hq⟩
 have HP_1:=Lib.hid (HP0.out.below hq HP0.out.lt)
 have HB_1:Hid (Bw w _):=Lib.hid (chain HB0.out hq)
 have HA_1:=Lib.hid (rdBo hq HA0.out)
 have HT_1:=Lib.hid (HT0.out.below hq)
 clear hq HP0 HB0 HA0 HT0 p0 p1 p2 p3 p4 p5 p6 p7 HLK
 go_upto_region 2 with fail
 have HQ0:=Lib.hid (Bxs.new w1 [.int .i64 F,.int .i64 R,.slice A l.length c,.bool bl,.int .u8 (ca:Int),.int .i64 ps,.int .i64 ha,.int .i64 fu,.int .u64 (ow:Int),.int .u64 (fo:Int)] 116)
 have hq:=box1 w1 (.cells #[.int .i64 F,.int .i64 R,.slice A l.length c,.bool bl,.int .u8 (ca:Int),.int .i64 ps,.int .i64 ha,.int .i64 fu,.int .u64 (ow:Int),.int .u64 (fo:Int)] 116)
 generalize w1.alloc (.cells #[.int .i64 F,.int .i64 R,.slice A l.length c,.bool bl,.int .u8 (ca:Int),.int .i64 ps,.int .i64 ha,.int .i64 fu,.int .u64 (ow:Int),.int .u64 (fo:Int)] 116)=w2 at *
 have HP_2:=Lib.hid (HP_1.out.below hq HP_1.out.lt)
 have HB_2:Hid (Bw w _):=Lib.hid (chain HB_1.out hq)
 have HA_2:=Lib.hid (rdBo hq HA_1.out)
 have HT_2:=Lib.hid (HT_1.out.below hq)
 clear hq HP_1 HB_1 HA_1 HT_1
 generalize w1.heap.size=g at *
 obtain ⟨p0,p1⟩:=HP_2.out.h2
 go_wp2_with fail
 refine (HVL.out _).mono ?_
 rintro e w3 ⟨rfl,hq⟩
 have HP_3:=Lib.hid (HP_2.out.below hq HP_2.out.lt)
 have HB_3:Hid (Bw w _):=Lib.hid (chain HB_2.out hq)
 have HA_3:=Lib.hid (rdBo hq HA_2.out)
 have HT_3:=Lib.hid (HT_2.out.below hq)
 have HQ_3:=Lib.hid (HQ0.out.below hq HQ0.out.lt)
 clear hq HP_2 HB_2 HA_2 HT_2 HQ0 p0 p1
 have HMW:Hid (∀ W,Bw w3 W->Calls Tryz.prog 78 #[.pointer (some ⟨g,0,none⟩),.int .u64 ((ow &&& sg:Nat):Int)] W (MvsP W L)):=Lib.hid (fun W h=>HMV.out g W (HT_3.out.below h) (rdBo h HA_3.out) (HQ_3.out.below h HQ_3.out.lt))
 clear HMV
 go_upto_region 4 with fail
 have z8:=HQ_3.out.c 8 rfl
 have z9:=HQ_3.out.c 9 rfl
 have KB:∀ W':World,Bw w3 W'->(W'.cell? ⟨g,8,none⟩=some (.int .u64 (ow:Int))/\W'.cell? ⟨g,9,none⟩=some (.int .u64 (fo:Int)))/\Bw w3 W':=fun W' hW=>⟨⟨cBo hW (by assumption),cBo hW (by assumption)⟩,hW⟩
 replace KB:=Lib.hid KB
 have hS0:=KB.out w3 (Below.refl _ _)
 (first | (go_region_held3 (fun w'=>(w'.cell? ⟨g,8,none⟩=some (.int .u64 (ow:Int))/\w'.cell? ⟨g,9,none⟩=some (.int .u64 (fo:Int)))/\Bw w3 w')
  (first | assumption | exact KB.out _ (Bw.step (And.right (by assumption)) (by assumption)) | exact KB.out _ (Bw.step (And.right (by assumption)) ((Below.refl _ _).drew)))
  (first
   | (go_at_call 80;refine (HSG.out _).mono ?_;rintro e wa ⟨rfl,hqa⟩)
   | (go_at_call 78;rw [HAN.out];refine (HMW.out _ (And.right (by assumption:_/\Bw w3 _))).mono ?_;rintro e wb ⟨v,rfl,hown,hqb⟩))) | fail)
 have hQ:Below w3.heap.size w3 wb:=And.right (by assumption:_/\Bw w3 wb)
 have hQa:w3.heap.size<=wa.heap.size:=hqa.size
 have hB3:=chain HB_3.out hQ
 have hown2:=own_lq hown (Nat.le_trans (HB_3.out).size hQa)
 have HO:=Lib.hid hown2
 clear hown hown2
 go_wp2
 go_ret2
 exact ⟨v,rfl,by rw [HEQ.out];exact HO.out,hB3⟩
end Go.Proofs.YtbccbgonlmkpkaaGreatDoor
