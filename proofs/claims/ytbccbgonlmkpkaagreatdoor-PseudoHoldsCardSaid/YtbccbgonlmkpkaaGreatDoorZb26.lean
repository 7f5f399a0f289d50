/- What the theorem needs, piece Zb26. -/
import Derived.Test.YtbccbgonlmkpkaaGreatDoorZb15
import Derived.Test.YtbccbgonlmkpkaaGreatDoorZb20
import Derived.Test.YtbccbgonlmkpkaaGreatDoorZb23
set_option linter.unusedSimpArgs false
set_option linter.unusedVariables false
set_option maxRecDepth 100000
set_option maxHeartbeats 16000000
namespace Go.Proofs.YtbccbgonlmkpkaaGreatDoor
open Go.RowKit
def psB (p:Po) (m:Mv):Bool:=ownB (pc p.l m.a) p.bl && soM p m
def isB (p:Po) (m:Mv):Bool:=decide (okPo p=true/\okM p.F p.R m) && psB p m
def isE (p:Po) (m:Mv):Int:=if okPo p=true/\okM p.F p.R m then 0 else 2
def dmE (p:Po) (m:Mv):Int:=if okPo p=true/\okM p.F p.R m then (if psB p m then 0 else 10) else 2
theorem err_cases (p:Po) (m:Mv):(errM p m=2/\isE p m=2/\isB p m=false)\/((errM p m=9\/errM p m=10)/\isE p m=0/\isB p m=false)\/((errM p m=0\/errM p m=90\/errM p m=7)/\isE p m=0/\isB p m=true):=by
 unfold errM isE isB psB
 by_cases h:okPo p=true/\okM p.F p.R m
 ·rw [if_neg (fun hh=>hh h),if_pos h,decide_eq_true h,Bool.true_and]
  cases h1:ownB (pc p.l m.a) p.bl
  ·exact .inr (.inl ⟨.inl (if_pos rfl),rfl,rfl⟩)
  ·rw [if_neg (by simp)]
   cases h2:soM p m
   ·exact .inr (.inl ⟨.inr (if_pos rfl),rfl,rfl⟩)
   ·rw [if_neg (by simp)]
    refine .inr (.inr ⟨?_,rfl,rfl⟩)
    split
    ·exact .inr (.inl rfl)
    ·split
     ·exact .inr (.inr rfl)
     ·exact .inl rfl
 ·rw [if_pos h,if_neg h,decide_eq_false h,Bool.false_and]
  exact .inl ⟨rfl,rfl,rfl⟩
theorem dm_cases (p:Po) (m:Mv):(isE p m=2/\isB p m=false/\dmE p m=2)\/(isE p m=0/\isB p m=true/\dmE p m=0)\/(isE p m=0/\isB p m=false/\dmE p m=10):=by
 unfold isE isB dmE
 by_cases h:okPo p=true/\okM p.F p.R m
 ·rw [if_pos h,if_pos h,decide_eq_true h,Bool.true_and]
  cases psB p m
  ·exact .inr (.inr ⟨rfl,rfl,rfl⟩)
  ·exact .inr (.inl ⟨rfl,rfl,rfl⟩)
 ·rw [if_neg h,if_neg h,decide_eq_false h,Bool.false_and]
  exact .inl ⟨rfl,rfl,rfl⟩
theorem dm_mov {p:Po} {m:Mv} (h:dmE p m=0):Mov p m:=by
 unfold dmE at h
 by_cases h1:okPo p=true/\okM p.F p.R m
 ·rw [if_pos h1] at h
  cases h2:psB p m
  ·rw [h2] at h;simp at h
  ·unfold psB at h2
   rw [Bool.and_eq_true] at h2
   exact ⟨(okPo_iff p).1 h1.1,h1.2,h2.1,h2.2⟩
 ·rw [if_neg h1] at h;simp at h
def clr (X Y:Nat):Nat:=X &&& (18446744073709551615 - Y)
theorem clr_bit {X Y:Nat} (hY:Y<18446744073709551616) (j:Nat):(clr X Y).testBit j=(X.testBit j && (decide (j<64) && !Y.testBit j)):=by
 unfold clr
 rw [show 18446744073709551615 - Y=2 ^ 64 - (Y+1) by omega,Nat.testBit_and,Nat.testBit_two_pow_sub_succ (by simpa using hY)]
theorem clr_lt {X Y:Nat} (hX:X<18446744073709551616):clr X Y<18446744073709551616:=by
 have:=Nat.and_le_left (n:=X) (m:=18446744073709551615 - Y)
 unfold clr
 omega
def qPas (ps:Int):Nat:=if 0<=ps then bitN ps.toNat else 0
def qPwn (p:Po) (a:Int):Nat:=ofL (stepL p.F p.R a p.bl (occX p.l)) ||| (ofL (pawnL p.F p.R a p.bl) &&& (ownS p.l (!p.bl) ||| qPas p.ps))
def qCs1 (p:Po) (a b:Int):Nat:=if isB p ⟨a,b,0⟩ then bitN b.toNat else 0
def qCas (p:Po) (a:Int):Nat:=if p.ca=0 then 0 else qCs1 p a (a - 2) ||| qCs1 p a (a+2)
def qRch (p:Po) (a:Int):Nat:=ofL (reachL p.F p.R (kdP (pc p.l a)) a (occX p.l))
def qSq (p:Po) (a:Int):Nat:=if kdP (pc p.l a)=1 then qPwn p a else clr (if kdP (pc p.l a)=6 then qRch p a ||| qCas p a else qRch p a) (ownS p.l p.bl)
def qPm (p:Po) (a b:Int):List Int:=if b / p.F=lastR p.R p.bl/\kdP (pc p.l a)=1 then [2,3,4,5] else [0]
theorem bit_bitN (i j:Nat):(bitN i).testBit j=decide (j=i):=by
 unfold bitN
 rw [Nat.testBit_two_pow]
 by_cases h:i=j <;> simp [h,eq_comm]
theorem qPas_bit {ps b:Int} (hb:0<=b):(qPas ps).testBit b.toNat=(b == ps):=by
 unfold qPas
 split
 ·rw [bit_bitN]
  by_cases h:b=ps
  ·subst h;simp
  ·rw [beq_eq_false_iff_ne.2 h]
   exact decide_eq_false (by omega)
 ·rw [Nat.zero_testBit,beq_eq_false_iff_ne.2 (by omega)]
theorem qCs1_bit {p:Po} {a b c:Int} (hb:0<=b) (hp:OkP p):(qCs1 p a c).testBit b.toNat=(b == c && isB p ⟨a,b,0⟩):=by
 unfold qCs1
 by_cases h:b=c
 ·subst h
  cases isB p ⟨a,b,0⟩ <;> simp [bit_bitN]
 ·rw [beq_eq_false_iff_ne.2 h,Bool.false_and]
  cases hi:isB p ⟨a,c,0⟩
  ·simp
  ·rw [if_pos rfl,bit_bitN]
   have:okM p.F p.R ⟨a,c,0⟩:=by
    unfold isB at hi
    simp only [Bool.and_eq_true,decide_eq_true_eq] at hi
    exact hi.1.2
   have h0:0<=c:=this.2.1.2.1
   exact decide_eq_false (by omega)
section
variable {p:Po} {a b t:Int}
theorem reach_bit (hb0:0<=b) (hb1:b<p.F * p.R):(qRch p a).testBit b.toNat=reachB p.F p.R (kdP (pc p.l a)) a b (occX p.l):=by
 unfold qRch
 rw [ofL_bit]
 unfold reachL pickTo
 have e:((b.toNat:Nat):Int)=b:=by omega
 cases h:reachB p.F p.R (kdP (pc p.l a)) a b (occX p.l) with
 | true=>exact decide_eq_true (List.mem_filter.2 ⟨List.mem_range.2 (by omega),by rw [e];exact h⟩)
 | false=>exact decide_eq_false (fun hm=>by have:=(List.mem_filter.1 hm).2;rw [e,h] at this;cases this)
theorem qPm_mem (ht:t=0\/t=2\/t=3\/t=4\/t=5) (hk:kdP (pc p.l a)=1):decide (t∈qPm p a b)=((b / p.F == lastR p.R p.bl) == decide (t≠0)):=by
 unfold qPm
 by_cases h:b / p.F=lastR p.R p.bl
 ·rw [if_pos ⟨h,hk⟩,beq_iff_eq.2 h]
  rcases ht with rfl | rfl | rfl | rfl | rfl <;> decide
 ·rw [if_neg (fun hh=>h hh.1),beq_eq_false_iff_ne.2 h]
  rcases ht with rfl | rfl | rfl | rfl | rfl <;> decide
theorem okM_mk (ha:vat p.F p.R a) (hb:vat p.F p.R b) (hne:a≠b) (ht:t=0\/t=2\/t=3\/t=4\/t=5):okM p.F p.R ⟨a,b,t⟩:=⟨ha,hb,hne,by
 unfold okPr
 simp only
 omega⟩
theorem dst_pawn (hp:OkP p) (ha:vat p.F p.R a) (hb:vat p.F p.R b) (hk:kdP (pc p.l a)=1) (ht:t=0\/t=2\/t=3\/t=4\/t=5) :
  (decide (okM p.F p.R ⟨a,b,t⟩) && soM p ⟨a,b,t⟩)=((qSq p a).testBit b.toNat && decide (t∈qPm p a b)):=by
 rw [qPm_mem ht hk]
 unfold soM qSq
 simp only
 rw [if_pos hk,if_pos hk]
 unfold pwnM qPwn
 simp only
 have hbl:b<(p.l.length:Int):=by have:=hb.2.2;have:=hp.len;omega
 rw [Nat.testBit_or,Nat.testBit_and,Nat.testBit_or,hasO hb.2.1,hasO hb.2.1,qPas_bit hb.2.1,ownS_bit (!p.bl) hb.2.1 hbl]
 generalize ((b / p.F == lastR p.R p.bl) == decide (t≠0))=lt
 cases hs:hasL ((stepL p.F p.R a p.bl (occX p.l)).map fun i:Nat=>(i:Int)) b
 ·cases hq:hasL ((pawnL p.F p.R a p.bl).map fun i:Nat=>(i:Int)) b
  ·simp
  ·obtain ⟨_,hr,hf⟩:=pawn_cases hq
   have hne:a≠b:=by rintro rfl;omega
   rw [decide_eq_true (okM_mk ha hb hne ht)]
   cases ho:ownB (pc p.l b) p.bl
   ·rw [own_other ho]
    cases lt <;> simp
   ·have h1:ownB (pc p.l b) (!p.bl)=false:=by
     unfold ownB at ho ⊢
     cases h2:p.bl <;> simp [h2] at ho ⊢ <;> omega
    have h2:(b == p.ps)=false:=by
     rw [beq_eq_false_iff_ne]
     rintro rfl
     rcases poPas_iff.1 hp.pas with h | h
     ·have:=hb.2.1;omega
     ·have:=h.e0
      rw [this] at ho
      simp [ownB] at ho
    rw [h1,h2]
    simp
 ·have hc:=step_cases hp.hv hp.len ha hb hs
  have hf:fwd p.bl=1\/fwd p.bl=-1:=by unfold fwd;split <;> simp
  have hne:a≠b:=by
   rintro rfl
   rcases hc with h | h
   ·have:=h.2.1;omega
   ·have:=h.2.2.2.1;omega
  have he:pc p.l b=0:=by
   rcases hc with h | h
   ·exact h.2.2
   ·exact h.2.2.2.2.1
  rw [decide_eq_true (okM_mk ha hb hne ht),he]
  cases lt <;> simp [ownB]
theorem cas_bit (hp:OkP p) (hb:0<=b) (hown:ownB (pc p.l a) p.bl=true):(qCas p a).testBit b.toNat=(decide (p.ca≠0) && ((b == a - 2 || b == a+2) && (decide (okM p.F p.R ⟨a,b,0⟩) && soM p ⟨a,b,0⟩))):=by
 have hi:isB p ⟨a,b,0⟩=(decide (okM p.F p.R ⟨a,b,0⟩) && soM p ⟨a,b,0⟩):=by
  unfold isB psB
  simp only
  rw [hown,Bool.true_and]
  congr 1
  by_cases h:okM p.F p.R ⟨a,b,0⟩
  ·rw [decide_eq_true h];exact decide_eq_true ⟨(okPo_iff p).2 hp,h⟩
  ·rw [decide_eq_false h];exact decide_eq_false (fun hh=>h hh.2)
 unfold qCas
 by_cases h:p.ca=0
 ·simp [h]
 ·rw [if_neg h,Nat.testBit_or,qCs1_bit hb hp,qCs1_bit hb hp,hi,decide_eq_true h,Bool.true_and]
  generalize (decide (okM p.F p.R ⟨a,b,0⟩) && soM p ⟨a,b,0⟩)=z
  cases (b == a - 2) <;> cases (b == a+2) <;> cases z <;> rfl
theorem cas_ca0 {ca bit:Nat} (h:poBit ca bit=true):ca≠0:=by
 rintro rfl
 unfold poBit at h
 simp at h
theorem dst_other (hp:OkP p) (ha:vat p.F p.R a) (hb:vat p.F p.R b) (hown:ownB (pc p.l a) p.bl=true) (hk:kdP (pc p.l a)≠1) (ht:t=0\/t=2\/t=3\/t=4\/t=5) :
  (decide (okM p.F p.R ⟨a,b,t⟩) && soM p ⟨a,b,t⟩)=((qSq p a).testBit b.toNat && decide (t∈qPm p a b)):=by
 have hpm:decide (t∈qPm p a b)=(t == 0):=by
  unfold qPm
  rw [if_neg (fun hh=>hk hh.2)]
  rcases ht with rfl | rfl | rfl | rfl | rfl <;> decide
 rw [hpm]
 have hbl:b<(p.l.length:Int):=by have:=hb.2.2;have:=hp.len;omega
 have h64:p.F * p.R<=64:=(vsz_mul hp.hv).2
 have hl64:p.l.length<=64:=by have:=hp.len;omega
 have hj:b.toNat<64:=by have:=hb.2.1;omega
 unfold qSq
 rw [if_neg hk,clr_bit (ownS_lt p.bl hl64),ownS_bit p.bl hb.2.1 hbl,decide_eq_true hj,Bool.true_and]
 by_cases h0:t=0
 ·subst h0
  rw [show ((0:Int) == 0)=true from rfl,Bool.and_true]
  by_cases hne:a=b
  ·subst hne
   rw [hown]
   have:decide (okM p.F p.R ⟨a,a,0⟩)=false:=decide_eq_false (fun h=>h.2.2.1 rfl)
   rw [this]
   simp
  ·rw [decide_eq_true (okM_mk ha hb hne (.inl rfl)),Bool.true_and]
   by_cases h6:kdP (pc p.l a)=6
   ·rw [if_pos h6,Nat.testBit_or,reach_bit hb.2.1 hb.2.2,cas_bit hp hb.2.1 hown,decide_eq_true (okM_mk ha hb hne (.inl rfl)),Bool.true_and]
    unfold soM
    simp only
    rw [if_neg hk,show ((0:Int) == 0)=true from rfl,Bool.true_and]
    cases ho:ownB (pc p.l b) p.bl
    ·simp only [Bool.not_false,Bool.true_and,Bool.and_true]
     cases hr:reachB p.F p.R (kdP (pc p.l a)) a b (occX p.l)
     ·simp only [Bool.or_false,Bool.false_or]
      rcases casM_or (m:=⟨a,b,0⟩) hp with hc | hc
      ·rw [hc];simp
      ·have hz:casM p ⟨a,b,0⟩≠0:=by
        rcases hc.or4 with h | h | h | h <;> omega
       rw [decide_eq_true hz,Bool.and_true,decide_eq_true (cas_ca0 hc.cb),Bool.true_and]
       have ea:=hc.ea
       have eb:=hc.eb
       simp only at ea eb
       symm
       rw [Bool.or_eq_true,beq_iff_eq,beq_iff_eq]
       rcases hc.or4 with h | h | h | h <;> rw [h] at ea eb <;> simp [cKf,cKt] at ea eb <;> omega
     ·simp
    ·simp
   ·rw [if_neg h6,reach_bit hb.2.1 hb.2.2]
    unfold soM
    simp only
    have hc:casM p ⟨a,b,0⟩=0:=by unfold casM;rw [if_neg (fun h=>h6 h.1)]
    rw [if_neg hk,hc,show ((0:Int) == 0)=true from rfl]
    simp only [Bool.true_and,ne_eq,not_true_eq_false,decide_false,Bool.false_or]
    exact Bool.and_comm _ _
 ·rw [beq_eq_false_iff_ne.2 h0,Bool.and_false]
  unfold soM
  simp only
  have hc:casM p ⟨a,b,t⟩=0:=by unfold casM;rw [if_neg (fun h=>h0 h.2)]
  rw [if_neg hk,hc,beq_eq_false_iff_ne.2 h0]
  simp
theorem dst_iff (hp:OkP p) (ha:vat p.F p.R a) (hb:vat p.F p.R b) (hown:ownB (pc p.l a) p.bl=true) (ht:t=0\/t=2\/t=3\/t=4\/t=5) :
  (decide (okM p.F p.R ⟨a,b,t⟩) && soM p ⟨a,b,t⟩)=((qSq p a).testBit b.toNat && decide (t∈qPm p a b)):=by
 by_cases hk:kdP (pc p.l a)=1
 ·exact dst_pawn hp ha hb hk ht
 ·exact dst_other hp ha hb hown hk ht
end
def psdT (p:Po) (a b:Int):List Mv:=([0,2,3,4,5]:List Int).filterMap fun t=>if decide (okM p.F p.R ⟨a,b,t⟩) && psB p ⟨a,b,t⟩ then some ⟨a,b,t⟩ else none
def psdF (p:Po) (a:Int):List Mv:=(List.range p.l.length).flatMap fun (b:Nat)=>psdT p a (b:Int)
def psdL (p:Po):List Mv:=(List.range p.l.length).flatMap fun (a:Nat)=>psdF p (a:Int)
def qTo (p:Po) (a b:Int):List Mv:=(qPm p a b).map fun t=>⟨a,b,t⟩
def qFr (p:Po) (a:Int):List Mv:=(listOf (qSq p a)).flatMap fun (b:Nat)=>qTo p a (b:Int)
def qMv (p:Po) (X:Nat):List Mv:=(listOf X).flatMap fun (a:Nat)=>qFr p (a:Int)
theorem flatMap_filter {α β:Type} (P:α->Bool) (f:α->List β):∀ l:List α,(l.filter P).flatMap f=l.flatMap fun x=>if P x then f x else []
 | []=>rfl
 | x :: l=>by
  rw [List.filter_cons,List.flatMap_cons]
  cases h:P x
  ·simp [flatMap_filter P f l]
  ·simp [flatMap_filter P f l]
theorem flatMap_same {α β:Type} {f g:α->List β}:∀ {l:List α} (_:∀ x∈l,f x=g x),l.flatMap f=l.flatMap g
 | [],_=>rfl
 | x :: l,h=>by
  rw [List.flatMap_cons,List.flatMap_cons,h x (by simp),flatMap_same (l:=l) (fun y hy=>h y (by simp [hy]))]
theorem listOf_rng {X n:Nat} (hn:n<=64) (hX:∀ j,n<=j->X.testBit j=false):listOf X=(List.range n).filter fun i=>X.testBit i:=by
 unfold listOf
 obtain ⟨k,hk⟩:∃ k,64=n+k:=⟨64 - n,by omega⟩
 rw [hk,List.range_add,List.filter_append]
 have:List.filter (fun i=>X.testBit i) ((List.range k).map (n+·))=[]:=by
  rw [List.filter_eq_nil_iff]
  intro x hx
  obtain ⟨y,_,rfl⟩:=List.mem_map.1 hx
  rw [hX _ (by omega)]
  simp
 rw [this,List.append_nil]
theorem listOf_bit1 (n:Nat) (h:n<64):listOf (bitN n)=[n]:=by
 have:∀ k:Fin 64,listOf (bitN k.1)=[k.1]:=by decide +kernel
 exact this ⟨n,h⟩
theorem psdT_is {p:Po} {a b:Int} (hp:OkP p) (ha:vat p.F p.R a) (hb:vat p.F p.R b) (hown:ownB (pc p.l a) p.bl=true) :
  psdT p a b=if (qSq p a).testBit b.toNat then qTo p a b else []:=by
 have h:∀ t:Int,(t=0\/t=2\/t=3\/t=4\/t=5)->(decide (okM p.F p.R ⟨a,b,t⟩) && psB p ⟨a,b,t⟩)=((qSq p a).testBit b.toNat && decide (t∈qPm p a b)):=fun t ht=>by
  unfold psB
  simp only
  rw [hown,Bool.true_and]
  exact dst_iff hp ha hb hown ht
 unfold psdT qTo
 simp only [List.filterMap_cons,List.filterMap_nil,h 0 (by simp),h 2 (by simp),h 3 (by simp),h 4 (by simp),h 5 (by simp)]
 have hq:qPm p a b=[2,3,4,5]\/qPm p a b=[0]:=by unfold qPm;split <;> simp
 cases (qSq p a).testBit b.toNat
 ·simp
 ·rcases hq with e | e <;> rw [e] <;> simp
theorem psdF_no {p:Po} {a:Int} (hown:ownB (pc p.l a) p.bl=false):psdF p a=[]:=by
 unfold psdF
 rw [List.flatMap_eq_nil_iff]
 intro b _
 unfold psdT psB
 simp [hown]
theorem qSq_hi {p:Po} {a:Int} (hp:OkP p) (ha:vat p.F p.R a) {j:Nat} (hj:p.l.length<=j):(qSq p a).testBit j=false:=by
 have hlen:=hp.len
 have h1:(ofL (stepL p.F p.R a p.bl (occX p.l))).testBit j=false:=by
  rw [ofL_bit]
  exact decide_eq_false (fun h=>by unfold stepL pickTo at h;have:=List.mem_range.1 (List.mem_filter.1 h).1;omega)
 have h2:(ofL (pawnL p.F p.R a p.bl)).testBit j=false:=by
  rw [ofL_bit]
  exact decide_eq_false (fun h=>by unfold pawnL pickTo at h;have:=List.mem_range.1 (List.mem_filter.1 h).1;omega)
 have h3:(qRch p a).testBit j=false:=by
  unfold qRch
  rw [ofL_bit]
  exact decide_eq_false (fun h=>by unfold reachL pickTo at h;have:=List.mem_range.1 (List.mem_filter.1 h).1;omega)
 have h4:∀ c,(qCs1 p a c).testBit j=false:=fun c=>by
  unfold qCs1
  cases hi:isB p ⟨a,c,0⟩
  ·simp
  ·rw [if_pos rfl,bit_bitN]
   unfold isB at hi
   simp only [Bool.and_eq_true,decide_eq_true_eq] at hi
   have h5:vat p.F p.R c:=hi.1.2.2.1
   have:=h5.2.1
   have:=h5.2.2
   exact decide_eq_false (by omega)
 have h5:(qCas p a).testBit j=false:=by
  unfold qCas
  split
  ·simp
  ·rw [Nat.testBit_or,h4,h4];rfl
 have hl64:p.l.length<=64:=by have:=(vsz_mul hp.hv).2;omega
 unfold qSq
 split
 ·unfold qPwn
  rw [Nat.testBit_or,Nat.testBit_and,h1,h2];rfl
 ·rw [clr_bit (ownS_lt p.bl hl64)]
  split
  ·rw [Nat.testBit_or,h3,h5];rfl
  ·rw [h3];rfl
theorem psdF_own {p:Po} {a:Int} (hp:OkP p) (ha:vat p.F p.R a) (hown:ownB (pc p.l a) p.bl=true):psdF p a=qFr p a:=by
 have hl64:p.l.length<=64:=by have:=(vsz_mul hp.hv).2;have:=hp.len;omega
 unfold psdF qFr
 rw [listOf_rng hl64 (fun j hj=>qSq_hi hp ha hj),flatMap_filter]
 refine flatMap_same (fun b hb=>?_)
 have hb1:=List.mem_range.1 hb
 rw [psdT_is hp ha ⟨hp.hv,by omega,by have:=hp.len;omega⟩ hown,Int.toNat_natCast]
theorem psdL_own {p:Po} (hp:OkP p):psdL p=qMv p (ownS p.l p.bl):=by
 have hl64:p.l.length<=64:=by have:=(vsz_mul hp.hv).2;have:=hp.len;omega
 have hhi:∀ j,p.l.length<=j->(ownS p.l p.bl).testBit j=false:=fun j hj=>by
  unfold ownS setP
  rw [ofL_bit]
  exact decide_eq_false (fun h=>by have:=(idx_lt h).1;omega)
 unfold psdL qMv
 rw [listOf_rng hl64 hhi,flatMap_filter]
 refine flatMap_same (fun a ha=>?_)
 have ha1:=List.mem_range.1 ha
 have hb:=ownS_bit p.bl (l:=p.l) (n:=(a:Int)) (by omega) (by omega)
 rw [Int.toNat_natCast] at hb
 rw [hb]
 cases ho:ownB (pc p.l (a:Int)) p.bl
 ·exact psdF_no ho
 ·exact psdF_own hp ⟨hp.hv,by omega,by have:=hp.len;omega⟩ ho
theorem psdF_and {p:Po} {a:Int} (hp:OkP p) (ha:vat p.F p.R a):psdF p a=qMv p (ownS p.l p.bl &&& bitN a.toNat):=by
 have hl64:p.l.length<=64:=by have:=(vsz_mul hp.hv).2;have:=hp.len;omega
 have hlen:=hp.len
 have h0:=ha.2.1
 have h1:=ha.2.2
 obtain ⟨n,rfl⟩:∃ n:Nat,a=(n:Int):=⟨a.toNat,by omega⟩
 have hb:=ownS_bit p.bl (l:=p.l) (n:=(n:Int)) (by omega) (by omega)
 rw [Int.toNat_natCast] at hb ⊢
 have hl:listOf (ownS p.l p.bl &&& bitN n)=if ownB (pc p.l (n:Int)) p.bl then [n] else []:=by
  cases ho:ownB (pc p.l (n:Int)) p.bl
  ·rw [if_neg (by simp)]
   unfold listOf
   rw [List.filter_eq_nil_iff]
   intro j _
   rw [Nat.testBit_and,bit_bitN]
   by_cases hj:j=n
   ·subst hj;rw [hb,ho];simp
   ·simp [hj]
  ·rw [if_pos rfl]
   have e:ownS p.l p.bl &&& bitN n=bitN n:=by
    apply Nat.eq_of_testBit_eq
    intro j
    rw [Nat.testBit_and,bit_bitN]
    by_cases hj:j=n
    ·subst hj;rw [hb,ho];simp
    ·simp [hj]
   rw [e,listOf_bit1 n (by omega)]
 unfold qMv
 rw [hl]
 cases ho:ownB (pc p.l (n:Int)) p.bl
 ·simpa using psdF_no ho
 ·simpa using psdF_own hp ha ho
end Go.Proofs.YtbccbgonlmkpkaaGreatDoor
