/- What the theorem needs, piece Zb23. -/
import Derived.Test.YtbccbgonlmkpkaaGreatDoorZb07
import Derived.Test.YtbccbgonlmkpkaaGreatDoorZb20
import Derived.Test.YtbccbgonlmkpkaaGreatDoorZb06
import Derived.Test.YtbccbgonlmkpkaaGreatDoorZb22
set_option linter.unusedSimpArgs false
set_option linter.unusedVariables false
set_option maxRecDepth 100000
set_option maxHeartbeats 16000000
namespace Go.Proofs.YtbccbgonlmkpkaaGreatDoor
open Go.RowKit
def ownS (l:List Int) (bl:Bool):Nat:=setP (sdP (sdN bl)) l
theorem sdP_own (q:Int) (bl:Bool):sdP (sdN bl) q=ownB q bl:=by
 unfold sdP sdN sgnP ownB
 cases bl
 ·by_cases h0:q<0
  ·simp [h0]
  ·by_cases h1:0<q
   ·simp [h0,h1];omega
   ·have:q=0:=by omega
    subst this;decide
 ·by_cases h0:q<0
  ·simp [h0];omega
  ·by_cases h1:0<q
   ·simp [h0,h1]
   ·have:q=0:=by omega
    subst this;decide
theorem ownS_bit {l:List Int} (bl:Bool) {n:Int} (h0:0<=n) (h1:n<(l.length:Int)):(ownS l bl).testBit n.toNat=ownB (pc l n) bl:=by
 unfold ownS setP
 rw [ofL_bit]
 have e:pc l n=l[n.toNat]?.getD 0:=rfl
 rw [e,<- sdP_own]
 cases h:sdP (sdN bl) (l[n.toNat]?.getD 0) with
 | true=>exact decide_eq_true (idx_mem.2 ⟨by omega,h⟩)
 | false=>exact decide_eq_false (fun hm=>by have:=(idx_mem.1 hm).2;rw [h] at this;cases this)
theorem ownS_or (l:List Int) (bl:Bool):ownS l bl ||| ownS l (!bl)=occX l:=by
 apply Nat.eq_of_testBit_eq
 intro j
 rw [Nat.testBit_or]
 unfold ownS setP occX occL
 rw [ofL_bit,ofL_bit,ofL_bit]
 apply Bool.eq_iff_iff.2
 simp only [Bool.or_eq_true,decide_eq_true_eq,List.mem_append]
 cases bl
 ·exact Iff.rfl
 ·exact Or.comm
theorem ownS_lt {l:List Int} (bl:Bool) (h:l.length<=64):ownS l bl<18446744073709551616:=by
 have:=ofL_lt (l:=idx (sdP (sdN bl)) l) (n:=64) (fun i hi=>by have:=(idx_lt hi).1;omega)
 unfold ownS setP
 simpa using this
theorem occX_in {F R:Int} {l:List Int} (h:(l.length:Int)=F * R):occX l<2 ^ (F * R).toNat:=by
 unfold occX
 exact ofL_lt (fun i hi=>by
  unfold occL at hi
  rcases List.mem_append.1 hi with h1 | h1 <;> have:=(idx_lt h1).1 <;> omega)
theorem hasO {L:List Nat} {y:Int} (h:0<=y):(ofL L).testBit y.toNat=hasL (L.map fun i:Nat=>(i:Int)) y:=by
 rw [ofL_bit]
 unfold hasL
 apply Bool.eq_iff_iff.2
 rw [decide_eq_true_eq,List.contains_iff_mem,List.mem_map]
 constructor
 ·intro hm
  exact ⟨_,hm,by omega⟩
 ·rintro ⟨i,hi,rfl⟩
  simpa using hi
theorem own_other {q:Int} {bl:Bool} (h:ownB q bl=false):ownB q (!bl)=decide (q≠0):=by
 unfold ownB at h ⊢
 by_cases h0:q=0
 ·subst h0;simp
 ·by_cases h1:q<0 <;> cases bl <;> simp [h0,h1] at h ⊢
def hitB (ca:Nat) (m:Mv) (bit:Nat):Bool:=poBit ca bit && (m.a == (cKf bit:Int) && m.b == (cKt bit:Int))
def pcA (ca:Nat) (m:Mv):Nat:=if hitB ca m 1 then 1 else if hitB ca m 2 then 2 else if hitB ca m 4 then 4 else if hitB ca m 8 then 8 else 0
theorem pcA_hit {ca:Nat} {m:Mv} {k:Nat} (hk:k<4) (hn:∀ j,j<k->hitB ca m (bitK j)=false) (hy:hitB ca m (bitK k)=true):pcA ca m=bitK k:=by
 unfold pcA
 match k,hk with
 | 0,_=>have a:hitB ca m 1=true:=hy;rw [a];rfl
 | 1,_ =>
  have a:hitB ca m 1=false:=hn 0 (by omega)
  have b:hitB ca m 2=true:=hy
  rw [a,b];rfl
 | 2,_ =>
  have a:hitB ca m 1=false:=hn 0 (by omega)
  have b:hitB ca m 2=false:=hn 1 (by omega)
  have c:hitB ca m 4=true:=hy
  rw [a,b,c];rfl
 | 3,_ =>
  have a:hitB ca m 1=false:=hn 0 (by omega)
  have b:hitB ca m 2=false:=hn 1 (by omega)
  have c:hitB ca m 4=false:=hn 2 (by omega)
  have d:hitB ca m 8=true:=hy
  rw [a,b,c,d];rfl
theorem pcA_no {ca:Nat} {m:Mv} (hn:∀ j,j<4->hitB ca m (bitK j)=false):pcA ca m=0:=by
 unfold pcA
 have a:hitB ca m 1=false:=hn 0 (by omega)
 have b:hitB ca m 2=false:=hn 1 (by omega)
 have c:hitB ca m 4=false:=hn 2 (by omega)
 have d:hitB ca m 8=false:=hn 3 (by omega)
 rw [a,b,c,d];rfl
theorem pcA_or (ca:Nat) (m:Mv):pcA ca m=0\/((pcA ca m=1\/pcA ca m=2\/pcA ca m=4\/pcA ca m=8)/\hitB ca m (pcA ca m)=true):=by
 unfold pcA
 split
 ·rename_i h;exact .inr ⟨.inl rfl,h⟩
 ·split
  ·rename_i h;exact .inr ⟨.inr (.inl rfl),h⟩
  ·split
   ·rename_i h;exact .inr ⟨.inr (.inr (.inl rfl)),h⟩
   ·split
    ·rename_i h;exact .inr ⟨.inr (.inr (.inr rfl)),h⟩
    ·exact .inl rfl
theorem hit_iff {ca:Nat} {m:Mv} {bit:Nat}:hitB ca m bit=true ↔ poBit ca bit=true/\m.a=(cKf bit:Int)/\m.b=(cKt bit:Int):=by
 unfold hitB
 simp
structure Hit (p:Po) (m:Mv) (bit:Nat):Prop where
 or4:bit=1\/bit=2\/bit=4\/bit=8
 cb:poBit p.ca bit=true
 ea:m.a=(cKf bit:Int)
 eb:m.b=(cKt bit:Int)
 sd:decide (2<bit)=p.bl
 f8:p.F=8
 r8:p.R=8
 k6:kdP (pc p.l m.a)=6
theorem hit_of {p:Po} {m:Mv} (hp:OkP p) (ho:ownB (pc p.l m.a) p.bl=true) {bit:Nat} (hb:bit=1\/bit=2\/bit=4\/bit=8) (h:hitB p.ca m bit=true):Hit p m bit:=by
 obtain ⟨hc,ha,hbb⟩:=hit_iff.1 h
 obtain ⟨f8,r8,kf,rf⟩:=cas_home hp.cas hb hc
 rw [ha,kf] at ho
 have hs:decide (2<bit)=p.bl:=by
  unfold ownB at ho
  by_cases h2:2<bit
  ·rw [if_pos h2] at ho
   rw [decide_eq_true h2]
   cases hbl:p.bl with
   | true=>rfl
   | false=>rw [hbl] at ho;exact absurd ho (by decide)
  ·rw [if_neg h2] at ho
   rw [decide_eq_false h2]
   cases hbl:p.bl with
   | false=>rfl
   | true=>rw [hbl] at ho;exact absurd ho (by decide)
 refine ⟨hb,hc,ha,hbb,hs,f8,r8,?_⟩
 rw [ha,kf]
 split <;> decide
theorem Hit.casB {p:Po} {m:Mv} {bit:Nat} (h:Hit p m bit):casB p m bit=allE p.l (betL p.F p.R (cKf bit:Int) (cRf bit:Int)):=by
 unfold Go.Proofs.YtbccbgonlmkpkaaGreatDoor.casB
 rw [h.cb,h.sd,h.ea,h.eb]
 simp
theorem way_one {b b':Nat} (h:b=1\/b=2\/b=4\/b=8) (h':b'=1\/b'=2\/b'=4\/b'=8) (ht:cKt b=cKt b'):b=b':=by
 rcases h with rfl | rfl | rfl | rfl <;> rcases h' with rfl | rfl | rfl | rfl <;> first | rfl | (exact absurd ht (by decide))
theorem cas_prog {p:Po} {m:Mv} (hp:OkP p) (ho:ownB (pc p.l m.a) p.bl=true) (h0:m.p=0):decide (casM p m≠0)=(decide (pcA p.ca m≠0) && allE p.l (betL p.F p.R (cKf (pcA p.ca m):Int) (cRf (pcA p.ca m):Int))):=by
 rcases pcA_or p.ca m with hz | ⟨hor,hh⟩
 ·rw [hz]
  have hc:casM p m=0:=by
   rcases casM_or (m:=m) hp with h | h
   ·exact h
   ·exfalso
    have:=hit_iff.2 ⟨h.cb,h.ea,h.eb⟩
    have:pcA p.ca m≠0:=by
     unfold pcA
     rcases h.or4 with e | e | e | e <;> rw [e] at this <;> simp only [this,if_true] <;> (repeat' split) <;> omega
    exact this hz
  rw [hc]
  rfl
 ·have hH:=hit_of hp ho hor hh
  have hne:pcA p.ca m≠0:=by rcases hor with e | e | e | e <;> rw [e] <;> decide
  rw [decide_eq_true hne,Bool.true_and,<- hH.casB]
  cases hc:casB p m (pcA p.ca m) with
  | true =>
   apply decide_eq_true
   unfold casM
   rw [if_pos ⟨hH.k6,h0⟩]
   intro h
   rcases hor with e | e | e | e <;> rw [e] at hc <;> simp only [hc,if_true] at h <;> (repeat' split at h) <;> omega
  | false =>
   apply decide_eq_false
   intro h
   apply h
   rcases casM_or (m:=m) hp with h1 | h1
   ·exact h1
   ·exfalso
    have hbit:casM p m=pcA p.ca m:=way_one h1.or4 hor (by
     have:=h1.eb
     rw [hH.eb] at this
     omega)
    have hcas:casB p m (casM p m)=true:=by
     have hk:=h1.or4
     unfold casM at hk ⊢
     rw [if_pos ⟨hH.k6,h0⟩] at hk ⊢
     by_cases c1:casB p m 1=true
     ·simp [c1]
     ·by_cases c2:casB p m 2=true
      ·simp [c1,c2]
      ·by_cases c4:casB p m 4=true
       ·simp [c1,c2,c4]
       ·by_cases c8:casB p m 8=true
        ·simp [c1,c2,c4,c8]
        ·simp [c1,c2,c4,c8] at hk
    rw [hbit,hc] at hcas
    cases hcas
theorem so_prog {p:Po} {m:Mv} (hp:OkP p) (ho:ownB (pc p.l m.a) p.bl=true):soM p m=(!ownB (pc p.l m.b) p.bl && (if kdP (pc p.l m.a)=1 then pwnM p m else (m.p == 0 && (reachB p.F p.R (kdP (pc p.l m.a)) m.a m.b (occX p.l) || (decide (pcA p.ca m≠0) && allE p.l (betL p.F p.R (cKf (pcA p.ca m):Int) (cRf (pcA p.ca m):Int))))))):=by
 unfold soM
 congr 1
 split
 ·rfl
 ·by_cases h0:m.p=0
  ·rw [cas_prog hp ho h0]
   rw [beq_iff_eq.2 h0]
   simp only [Bool.true_and]
   exact Bool.or_comm _ _
  ·rw [beq_eq_false_iff_ne.2 h0]
   have hc:casM p m=0:=by unfold casM;rw [if_neg (fun h=>h0 h.2)]
   rw [hc]
   rfl
theorem pcA_mov {p:Po} {m:Mv} (h:Mov p m):pcA p.ca m=casM p m:=by
 rcases pcA_or p.ca m with hz | ⟨hor,hh⟩
 ·by_cases h0:m.p=0
  ·have:=cas_prog h.hp h.own h0
   rw [hz] at this ⊢
   by_cases hc:casM p m=0
   ·exact hc.symm
   ·rw [decide_eq_true hc] at this
    simp at this
  ·have hc:casM p m=0:=by unfold casM;rw [if_neg (fun h=>h0 h.2)]
   rw [hz,hc]
 ·have hH:=hit_of h.hp h.own hor hh
  rcases h.other (by rw [hH.k6];decide) with hc | ⟨_,hp0,hr⟩
  ·exact way_one hor hc.or4 (by have:=hc.eb;rw [hH.eb] at this;omega)
  ·exfalso
   rw [hH.k6] at hr
   unfold reachB at hr
   rw [hH.f8,hH.ea,hH.eb] at hr
   revert hr
   rcases hor with e | e | e | e <;> rw [e] <;> simp [cKf,cKt] <;> decide
end Go.Proofs.YtbccbgonlmkpkaaGreatDoor
namespace Go.Proofs.YtbccbgonlmkpkaaGreatDoor
open Go.RowKit
def capP (p:Po) (m:Mv):Int:=if ownB (pc p.l m.b) (!p.bl)=true then m.b else if kdP (pc p.l m.a)=1/\m.b=p.ps then numV p.F p.R (m.b % p.F) (m.a / p.F) else -1
theorem capP_eq {p:Po} {m:Mv} (h:Mov p m):capP p m=capM p m:=by
 have ho:=own_other h.free
 unfold capP
 rw [ho]
 rcases cap_or h with h1 | h1 | h1
 ·rw [h1.1,if_neg (by simp [h1.2.1]),if_neg h1.2.2]
 ·rw [h1.1,if_pos (by simp [h1.2.1])]
 ·unfold capM
  rw [if_neg (by simp [h1.b0]),if_pos ⟨h1.k1,h1.eb⟩,if_pos ⟨h1.k1,h1.eb⟩]
def carP (l:List Int) (a b:Int):List Int:=upd (upd l b (pc l a)) a 0
def aftQ (p:Po) (m:Mv) (cap:Int) (k:Nat):List Int :=
 let l1:=if cap≠-1 then upd p.l cap 0 else p.l
 let l2:=carP l1 m.a m.b
 let l3:=if m.p≠0 then upd l2 m.b (if p.bl then -m.p else m.p) else l2
 if k≠0 then carP l3 (cRf k:Int) (cRt k:Int) else l3
theorem upd_comm {l:List Int} {a b:Int} (x y:Int) (ha:0<=a) (hb:0<=b) (h:a≠b):upd (upd l a x) b y=upd (upd l b y) a x:=by
 unfold upd
 exact List.set_comm x y (by omega)
theorem upd_upd (l:List Int) (a x y:Int):upd (upd l a x) a y=upd l a y:=by
 unfold upd
 rw [List.set_set]
theorem aftQ_eq {p:Po} {m:Mv} (h:Mov p m):aftQ p m (capM p m) (casM p m)=aftL p m:=by
 have ha:=h.la
 have hb:=h.lb
 have hne:=h.hm.2.2.1
 have hc:=h.capN
 have hl1:(if capM p m≠-1 then upd p.l (capM p m) 0 else p.l)=(if 0<=capM p m then upd p.l (capM p m) 0 else p.l):=by
  rcases hc with hc | hc
  ·rw [hc];rfl
  ·rw [if_pos (by omega),if_pos (by omega)]
 have hpa:pc (if 0<=capM p m then upd p.l (capM p m) 0 else p.l) m.a=pc p.l m.a:=by
  rcases hc with hc | hc
  ·rw [if_neg (by omega)]
  ·rw [if_pos (by omega),pc_other (by omega) (by omega) ha.1 (by omega)]
 unfold aftQ aftL
 simp only
 rw [hl1]
 generalize hL:(if 0<=capM p m then upd p.l (capM p m) 0 else p.l)=L at *
 have h3:(if m.p≠0 then upd (carP L m.a m.b) m.b (if p.bl then -m.p else m.p) else carP L m.a m.b)=upd (upd L m.a 0) m.b (if m.p≠0 then m.p * sgnP (pc p.l m.a) else pc p.l m.a):=by
  have hpr:(if m.p≠0 then m.p * sgnP (pc p.l m.a) else pc p.l m.a)=prmM p m:=rfl
  rw [hpr]
  unfold carP
  rcases h.pr with ⟨e,e2⟩ | ⟨e1,e2,_,e4⟩
  ·rw [if_neg (by simp [e]),e2,hpa,upd_comm _ _ hb.1 ha.1 (by omega)]
  ·rw [if_pos (by omega),e4,upd_comm _ _ hb.1 ha.1 (by omega),upd_upd]
 rw [h3]
 rfl
def clrC (ca bit:Nat):Nat:=if poBit ca bit then ca - bit else ca
theorem clr_bits {k ca:Nat} (hk:k<4) (h:ca<=15):bits .andNot .u8 (ca:Int) (bitK k:Int)=(clrC ca (bitK k):Int):=by
 have:∀ k,k<4->∀ c,c<16->bits .andNot .u8 ((c:Nat):Int) (bitK k:Int)=(clrC c (bitK k):Int):=by decide +kernel
 exact this k hk ca (by omega)
theorem clr_le {k ca:Nat} (_:k<4) (h:ca<=15):clrC ca (bitK k)<=15:=by
 unfold clrC
 split <;> omega
theorem clr_two {k ca:Nat} (hk:k<4) (h:ca<=15):clrC (clrC ca (bitK k)) (bitK k)=clrC ca (bitK k):=by
 have:∀ k,k<4->∀ c,c<16->clrC (clrC c (bitK k)) (bitK k)=clrC c (bitK k):=by decide +kernel
 exact this k hk ca (by omega)
def cutK (m:Mv) (ca:Nat):Nat->Nat
 | 0=>ca
 | k+1=>cutC m (cutK m ca k) (bitK k)
theorem cut_clr (m:Mv) (ca bit:Nat):cutC m ca bit=if tchB m bit then clrC ca bit else ca:=by
 unfold cutC clrC
 cases tchB m bit <;> cases poBit ca bit <;> rfl
theorem cutK_le (m:Mv) {ca:Nat} (h:ca<=15):∀ k,k<=4->cutK m ca k<=15
 | 0,_=>h
 | k+1,hk=>by
  have:=cutK_le m h k (by omega)
  show cutC m (cutK m ca k) (bitK k)<=15
  rw [cut_clr]
  split
  ·exact clr_le (by omega) this
  ·exact this
theorem cutK_all (p:Po) (m:Mv):cutK m p.ca 4=aftC p m:=rfl
theorem pass_prog {p:Po} {m:Mv} (h:Mov p m):(if kdP (pc p.l m.a)=1/\dist p.F m.a m.b=2 then (m.a+m.b).tdiv 2 else -1)=aftP p m:=by
 unfold aftP
 by_cases hk:kdP (pc p.l m.a)=1
 ·have hw:=h.pawn hk
  have hv:=h.hp.hv
  have hva:=h.hm.1
  have hvb:=h.hm.2.1
  have ea:=place_eq (F:=p.F) (R:=p.R) (a:=m.a) hv
  have eb:=place_eq (F:=p.F) (R:=p.R) (a:=m.b) hv
  obtain ⟨a1,a2,a3,a4⟩:=place_bd hva.1 hva.2.1 hva.2.2
  obtain ⟨b1,b2,b3,b4⟩:=place_bd hvb.1 hvb.2.1 hvb.2.2
  unfold pwnM at hw
  simp only [Bool.and_eq_true,Bool.or_eq_true] at hw
  have hf:fwd p.bl=1\/fwd p.bl=-1:=by unfold fwd;cases p.bl <;> simp
  rcases hw.2 with hs | hs
  ·rcases step_cases hv h.hp.len hva hvb hs with h1 | h2
   ·obtain ⟨e1,e2,_⟩:=h1
    rw [if_neg (by rintro ⟨_,hd⟩;unfold dist at hd;omega),if_neg (by rintro ⟨_,hd⟩;omega)]
   ·obtain ⟨_,_,e1,e2,_⟩:=h2
    rw [if_pos ⟨hk,by unfold dist;omega⟩,if_pos ⟨hk,by omega⟩]
    have hmid:(m.a / p.F+m.b / p.F).tdiv 2=m.a / p.F+fwd p.bl:=by
     rw [Int.tdiv_eq_ediv_of_nonneg (by omega)]
     omega
    rw [hmid,numV_on ⟨a1,a2,by omega,by omega⟩]
    have hs2:m.a+m.b=2 * ((m.a / p.F+fwd p.bl) * p.F+m.a % p.F):=by
     have hb2:m.b=(m.a / p.F+2 * fwd p.bl) * p.F+m.a % p.F:=by rw [<- e1,<- e2];omega
     have ha2:m.a=(m.a / p.F) * p.F+m.a % p.F:=by omega
     generalize m.a / p.F=r at *
     generalize m.a % p.F=f at *
     rw [ha2,hb2]
     rcases hf with e | e <;> rw [e] <;> simp only [Int.add_mul,Int.mul_add] <;> omega
    rw [hs2,Int.tdiv_eq_ediv_of_nonneg (by rw [<- hs2];have:=hva.2.1;have:=hvb.2.1;omega)]
    omega
  ·obtain ⟨_,e1,e2⟩:=pawn_cases hs.1
   rw [if_neg (by rintro ⟨_,hd⟩;unfold dist at hd;omega),if_neg (by rintro ⟨_,hd⟩;omega)]
 ·rw [if_neg (fun h=>hk h.1),if_neg (fun h=>hk h.1)]
end Go.Proofs.YtbccbgonlmkpkaaGreatDoor
namespace Go.Proofs.YtbccbgonlmkpkaaGreatDoor
open Go.RowKit Go.Sort
theorem and_bit8 {k ca:Nat} (hk:k<4) (h:ca<256):(bits .and .u8 (ca:Int) (bitK k:Int) != 0)=poBit ca (bitK k):=by
 have:∀ k,k<4->∀ c,c<256->(bits .and .u8 ((c:Nat):Int) (bitK k:Int) != 0)=poBit c (bitK k):=by decide +kernel
 exact this k hk ca (by omega)
def wF (b:Nat):Int:=if b=0 then 0 else (cKf b:Int)
def wT (b:Nat):Int:=if b=0 then 0 else (cKt b:Int)
def wR (b:Nat):Int:=if b=0 then 0 else (cRf b:Int)
def wS (b:Nat):Int:=if b=0 then 0 else (cRt b:Int)
def wayW (b:Nat):List Value:=[.int .u8 (b:Int),.int .i64 (wF b),.int .i64 (wT b),.int .i64 (wR b),.int .i64 (wS b)]
def casW (b:Nat):Value:=.tuple #[.agg (wayW b).toArray,.bool (decide (b≠0))]
theorem casW_k {k:Nat} (hk:k<4):casW (bitK k)=.tuple #[.agg (wayV (bitK k)).toArray,.bool true]:=by
 match k,hk with
 | 0,_=>rfl
 | 1,_=>rfl
 | 2,_=>rfl
 | 3,_=>rfl
theorem pCsl_any (F R:Int) (l:List Int) (A:Option Addr) (c:Nat) (bl:Bool) (ca:Nat) (ps ha fu:Int) (x y t:Int) (hca:ca<256) (w:World) (hT:Cst w) :
  Calls Tryz.prog 114 #[.agg #[.int .i64 F,.int .i64 R,.slice A l.length c,.bool bl,.int .u8 (ca:Int),.int .i64 ps,.int .i64 ha,.int .i64 fu],.agg #[.int .i64 x,.int .i64 y,.int .i8 t]] w fun e w'=>e=.returned (casW (pcA ca ⟨x,y,t⟩))/\Below w.heap.size w w':=by
 have HA:=Lib.hid (fun k (hk:k<4)=>and_bit8 (ca:=ca) hk hca)
 have HY:=Lib.hid (fun k (hk:k<4) hn hy=>pcA_hit (ca:=ca) (m:=⟨x,y,t⟩) hk hn hy)
 have HN:=Lib.hid (fun hn=>pcA_no (ca:=ca) (m:=⟨x,y,t⟩) hn)
 have B1:=box1 w (.cells #[.int .i64 F,.int .i64 R,.slice A l.length c,.bool bl,.int .u8 (ca:Int),.int .i64 ps,.int .i64 ha,.int .i64 fu] 26)
 have B2:=box1 (w.alloc (.cells #[.int .i64 F,.int .i64 R,.slice A l.length c,.bool bl,.int .u8 (ca:Int),.int .i64 ps,.int .i64 ha,.int .i64 fu] 26)) (.cells #[.int .i64 x,.int .i64 y,.int .i8 t] 30)
 have B3:=box1 ((w.alloc (.cells #[.int .i64 F,.int .i64 R,.slice A l.length c,.bool bl,.int .u8 (ca:Int),.int .i64 ps,.int .i64 ha,.int .i64 fu] 26)).alloc (.cells #[.int .i64 x,.int .i64 y,.int .i8 t] 30)) (.cells #[.int .u8 0,.int .i64 0,.int .i64 0,.int .i64 0,.int .i64 0] 146)
 have HX:=(box8 w F R (.slice A l.length c) bl ca ps ha fu).below B2 (by simp)
 have HM:=box3 (w.alloc (.cells #[.int .i64 F,.int .i64 R,.slice A l.length c,.bool bl,.int .u8 (ca:Int),.int .i64 ps,.int .i64 ha,.int .i64 fu] 26)) x y t
 have HR:=Bxs.new ((w.alloc (.cells #[.int .i64 F,.int .i64 R,.slice A l.length c,.bool bl,.int .u8 (ca:Int),.int .i64 ps,.int .i64 ha,.int .i64 fu] 26)).alloc (.cells #[.int .i64 x,.int .i64 y,.int .i8 t] 30)) [.int .u8 0,.int .i64 0,.int .i64 0,.int .i64 0,.int .i64 0] 146
 rw [World.size_alloc] at HM
 rw [World.size_alloc,World.size_alloc] at HR
 replace HX:=Lib.hid (HX.below B3 HX.lt)
 replace HM:=Lib.hid (HM.below B3 HM.lt)
 replace HR:=Lib.hid HR
 have hB:=chain (chain B1 B2) B3
 have hT1:=hT.below hB
 obtain ⟨X,hld,hix⟩:=ctShut
 have hld:=hld _ hT1
 have HI:=Lib.hid hix
 clear hix hT hT1 B1 B2 B3 hca
 go_enter Tryz.func114,Tryz.ntmps114
 go_upto_region 1 with fail
 refine wp_region_lit ?_
 refine BigFrame.wpList_want (by kernel_rfl) ?_
 intro K1 hK1
 refine wp_load rfl hld ?_
 refine hK1 _ _ ?_
 refine BigFrame.wpList_want (by kernel_rfl) ?_
 intro K2 hK2
 refine wp_move rfl ?_
 refine hK2 _ _ ?_
 refine wpList_nil ?_
 simp [Act.put,Act.eval]
 clear hK1 hK2 hld
 generalize ((w.alloc (.cells #[.int .i64 F,.int .i64 R,.slice A l.length c,.bool bl,.int .u8 (ca:Int),.int .i64 ps,.int .i64 ha,.int .i64 fu] 26)).alloc (.cells #[.int .i64 x,.int .i64 y,.int .i8 t] 30)).alloc (.cells #[.int .u8 0,.int .i64 0,.int .i64 0,.int .i64 0,.int .i64 0] 146)=W at *
 have HB:=Lib.hid hB
 clear hB
 go_wp2
 go_loopw [7,9] (fun _ i wr=>∃ k:Nat,k<=4/\i=.int .i64 k/\Hid (∀ j,j<k->hitB ca ⟨x,y,t⟩ (bitK j)=false)/\Below W.heap.size W wr) (fun _ i _=>4 - (intOf i).toNat)
 case atStart=>exact ⟨0,by omega,rfl,Lib.hid (fun j hj=>absurd hj (by omega)),Below.refl _ _⟩
 case round =>
  obtain ⟨k,hk,rfl,hno,hq⟩:=hrel
  have HX1:=Lib.hid (HX.out.below hq HX.out.lt)
  have HM1:=Lib.hid (HM.out.below hq HM.out.lt)
  have HR1:=Lib.hid (HR.out.below hq HR.out.lt)
  have HB1:=Lib.hid (chain HB.out hq)
  have HQ:=Lib.hid hq
  clear HX HM HR HB hq
  by_cases hlt:k<4
  ·have hab:=HA.out k hlt
   have hih:Hid (hitB ca ⟨x,y,t⟩ (bitK k)=(poBit ca (bitK k) && (x == (cKf (bitK k):Int) && y == (cKt (bitK k):Int)))):=Lib.hid rfl
   have HYk:=Lib.hid (fun hy=>(show casW (pcA ca ⟨x,y,t⟩)=.tuple #[.agg (wayV (bitK k)).toArray,.bool true] by rw [HY.out k hlt hno.out hy];exact casW_k hlt))
   have HNk:Hid (hitB ca ⟨x,y,t⟩ (bitK k)=false->Hid (∀ j,j<k+1->hitB ca ⟨x,y,t⟩ (bitK j)=false)):=Lib.hid (fun h=>Lib.hid (fun j hj=>by
    by_cases e:j=k
    ·rw [e];exact h
    ·exact hno.out j (by omega)))
   have hi:=HI.out k hlt wr
   clear HA HY HN HI hno
   have HV:=Lib.hid (Bxs.new wr (wayV (bitK k)) 146)
   have hVB:=box1 wr (.cells (wayV (bitK k)).toArray 146)
   obtain ⟨V,hV⟩:∃ V,wr.alloc (.cells (wayV (bitK k)).toArray 146)=V:=⟨_,rfl⟩
   rw [hV] at HV hVB
   have HX2:=HX1.out.below hVB HX1.out.lt
   have HM2:=HM1.out.below hVB HM1.out.lt
   have HR2:=Lib.hid (HR1.out.below hVB HR1.out.lt)
   obtain ⟨s0,s1,s2,s3,s4⟩:=HV.out.h5
   have HBV:Hid (Bw w V):=Lib.hid (chain HB1.out hVB)
   have HQV:=Lib.hid (chain HQ.out hVB)
   unfold wayV at hi hV HYk
   generalize hitB ca ⟨x,y,t⟩ (bitK k)=hb at *
   generalize poBit ca (bitK k)=pb at *
   generalize (cKf (bitK k):Int)=f at *
   generalize (cKt (bitK k):Int)=f2 at *
   generalize (cRf (bitK k):Int)=f3 at *
   generalize (cRt (bitK k):Int)=f4 at *
   generalize bitK k=bk at *
   have HVV:=Lib.hid hV
   clear hV HX1 HM1 HR1 HB1 HQ hVB
   obtain ⟨⟨x0,x1,x2,x3,x4,x5,x6,x7⟩,xf⟩:=HX2
   obtain ⟨⟨m0,m1,m2⟩,mf⟩:=HM2
   clear xf mf
   obtain ⟨r0,r1,r2,r3,r4⟩:=HR2.out.h5
   have rf:=HR2.out.2
   cases pb
   case false =>
    go_upto_region 4 with fail
    rw [HVV.out]
    go_wp2
    go_roundw
    case rel=>exact ⟨k+1,by omega,by go_num,HNk.out (by rw [hih.out];rfl),HQV.out⟩
    case measure=>simp [intOf];omega
   case true =>
    cases hx:(x == f)
    case false =>
     rw [hx] at hih
     go_upto_region 4 with fail
     rw [HVV.out]
     go_wp2
     go_roundw
     case rel=>exact ⟨k+1,by omega,by go_num,HNk.out (by rw [hih.out];rfl),HQV.out⟩
     case measure=>simp [intOf];omega
    case true =>
     rw [hx] at hih
     cases hy:(y == f2)
     case false =>
      rw [hy] at hih
      go_upto_region 4 with fail
      rw [HVV.out]
      go_wp2
      go_roundw
      case rel=>exact ⟨k+1,by omega,by go_num,HNk.out (by rw [hih.out];rfl),HQV.out⟩
      case measure=>simp [intOf];omega
     case true =>
      rw [hy] at hih
      have HW:=Lib.hid (HYk.out (by rw [hih.out];rfl))
      go_upto_region 4 with fail
      rw [HVV.out]
      go_upto_region 5 with fail
      repeat (first | go_values | go_skip | go_guarded | go_step | go_upon | go_in)
      apply bodyPost_ret (v:=.tuple #[.agg #[.int .u8 (bk:Int),.int .i64 f,.int .i64 f2,.int .i64 f3,.int .i64 f4],.bool true])
      rotate_left
      ·rfl
      ·exact ⟨by rw [HW.out],bw5 HBV.out (by omega) _ _ _ _ _⟩
      have hP:=HR2.out.put5 (.int .u8 (bk:Int)) (.int .i64 f) (.int .i64 f2) (.int .i64 f3) (.int .i64 f4)
      obtain ⟨t0,t1,t2,t3,t4⟩:=hP.h5
      simp [results,Tryz.results114,go_sem,t0,t1,t2,t3,t4]
  ·have hk4:k=4:=by omega
   subst hk4
   have HW:=Lib.hid (show casW (pcA ca ⟨x,y,t⟩)=.tuple #[.agg #[.int .u8 0,.int .i64 0,.int .i64 0,.int .i64 0,.int .i64 0],.bool false] by rw [HN.out hno.out];rfl)
   obtain ⟨r0,r1,r2,r3,r4⟩:=HR1.out.h5
   have rf:=HR1.out.2
   clear HX1 HM1 HQ HA HY HN HI hno
   go_upto_region 7 with fail
   repeat (first | go_values | go_skip | go_guarded | go_step | go_upon | go_in)
   apply bodyPost_ret (v:=.tuple #[.agg #[.int .u8 0,.int .i64 0,.int .i64 0,.int .i64 0,.int .i64 0],.bool false])
   rotate_left
   ·rfl
   ·exact ⟨by rw [HW.out],bw5 (show Bw w wr from HB1.out) (by omega) _ _ _ _ _⟩
   have hP:=HR1.out.put5 (.int .u8 0) (.int .i64 0) (.int .i64 0) (.int .i64 0) (.int .i64 0)
   obtain ⟨t0,t1,t2,t3,t4⟩:=hP.h5
   simp [results,Tryz.results114,go_sem,t0,t1,t2,t3,t4]
end Go.Proofs.YtbccbgonlmkpkaaGreatDoor
namespace Go.Proofs.YtbccbgonlmkpkaaGreatDoor
open Go.RowKit Go.Sort
theorem tPass_any (F R:Int) (l:List Int) (A:Option Addr) (c:Nat) (bl:Bool) (ca:Nat) (ps ha fu:Int) (x y t kd:Int) (ow fo:Nat) (b:Nat) (hx:vat F R x) (hy:vat F R y) (w:World) (hX:Bxs w b [.int .i64 F,.int .i64 R,.slice A l.length c,.bool bl,.int .u8 (ca:Int),.int .i64 ps,.int .i64 ha,.int .i64 fu,.int .i64 x,.int .i64 y,.int .i8 t,.int .i8 kd,.int .u64 (ow:Int),.int .u64 (fo:Int)]) :
  Calls Tryz.prog 118 #[.pointer (some ⟨b,0,none⟩)] w fun e w'=>e=.returned (.int .i64 (if kd=1/\dist F x y=2 then (x+y).tdiv 2 else -1))/\Below w.heap.size w w':=by
 have HD:=Lib.hid (distance_yes F R x y hx hy)
 have h64:=(vsz_mul hx.1).2
 have x0:=hx.2.1
 have x1:x<64:=by have:=hx.2.2;omega
 have y0:=hy.2.1
 have y1:y<64:=by have:=hy.2.2;omega
 have k1:IntKind.i64.wrap (x+y)=x+y:=IntWalk.i64_in _ (by omega)
 have k2:(x+y).tdiv 2=(x+y) / 2:=Int.tdiv_eq_ediv_of_nonneg (by omega)
 have k3:IntKind.i64.wrap ((x+y) / 2)=(x+y) / 2:=IntWalk.i64_in _ (by omega)
 rw [k2]
 obtain ⟨r,hr⟩:∃ r,(if kd=1/\dist F x y=2 then (x+y) / 2 else -1)=r:=⟨_,rfl⟩
 rw [hr]
 have HR:=Lib.hid hr
 clear hr
 have K1:=Lib.hid k1
 have K2:=Lib.hid k2
 have K3:=Lib.hid k3
 have HX:=Lib.hid hX
 clear hX hx hy h64 k1 k2 k3
 generalize dist F x y=d at *
 go_enter Tryz.func118,Tryz.ntmps118
 obtain ⟨z0,z1⟩:=HX.out.h2
 have z8:=HX.out.c 8 rfl
 have z9:=HX.out.c 9 rfl
 go_wp2_with fail
 have kq0:=cell_regrown z0
 have kq1:=cell_regrown z1
 have kq2:=cell_regrown z8
 have kq3:=cell_regrown z9
 refine wp_region_quiet_below (by kernel_rfl) (by kernel_rfl) ?_
 repeat (go_big_quiet_step (first | (go_at_call 84;exact Calls.regrown_of (HD.out _))))
 refine wpQuiet_nil ?_
 rintro _ ⟨⟨dq,osq⟩,rfl⟩
 have hq:=below_regrown w dq osq
 clear kq0 kq1 kq2 kq3 z0 z1 z8 z9
 generalize grow (redrawn w dq) osq=w1 at *
 have HX1:=Lib.hid (HX.out.below hq HX.out.lt)
 have HB1:=Lib.hid hq
 clear HX HD hq
 have z8:=HX1.out.c 8 rfl
 have z9:=HX1.out.c 9 rfl
 have z11:=HX1.out.c 11 rfl
 by_cases h1:kd=1
 ·have e1:(kd != 1)=false:=by simp [h1]
  by_cases h2:d=2
  ·have e2:(d != 2)=false:=by simp [h2]
   have HV:=HR.out
   rw [if_pos ⟨h1,h2⟩] at HV
   replace HV:=Lib.hid HV
   clear h1 h2 HR
   go_wp2_with fail
   have k1:=K1.out
   have k2:=K2.out
   have k3:=K3.out
   have k4:¬ (2:Int)=0:=by decide
   have kq0:=cell_regrown z8
   have kq1:=cell_regrown z9
   refine wp_region_quiet_below (by kernel_rfl) (by kernel_rfl) ?_
   repeat (go_big_quiet_step (first | fail))
   refine wpQuiet_nil ?_
   rintro _ ⟨⟨dq,osq⟩,rfl⟩
   have hq:=below_regrown w1 dq osq
   clear k1 k2 k3
   go_wp2
   go_ret
   exact ⟨ret_int HV.out,chain HB1.out hq⟩
  ·have e2:(d != 2)=true:=by simp [h2]
   have HV:=HR.out
   rw [if_neg (fun h=>h2 h.2)] at HV
   replace HV:=Lib.hid HV
   clear h1 h2 HR
   go_wp2
   go_ret
   exact ⟨ret_int HV.out,HB1.out⟩
 ·have e1:(kd != 1)=true:=by simp [h1]
  have HV:=HR.out
  rw [if_neg (fun h=>h1 h.1)] at HV
  replace HV:=Lib.hid HV
  clear h1 HR
  go_wp2
  go_ret
  exact ⟨ret_int HV.out,HB1.out⟩
end Go.Proofs.YtbccbgonlmkpkaaGreatDoor
namespace Go.Proofs.YtbccbgonlmkpkaaGreatDoor
open Go.RowKit Go.Sort
theorem and_free {L:List Nat} {l:List Int} (hl:l.length<=64) (hL:∀ n∈L,n<l.length):(bits .and .u64 (ofL L:Int) (occX l:Int) == 0)=allE l L:=by
 have h1:ofL L<18446744073709551616:=by
  have:=ofL_lt (l:=L) (n:=64) (fun i hi=>by have:=hL i hi;omega)
  simpa using this
 have h2:occX l<18446744073709551616:=by
  have:=ofL_lt (l:=occL l) (n:=64) (fun i hi=>by
   unfold occL at hi
   rcases List.mem_append.1 hi with h | h <;> have:=(idx_lt h).1 <;> omega)
  unfold occX
  simpa using this
 rw [u64_and_nat _ _ h1 h2]
 unfold allE
 apply Bool.eq_iff_iff.2
 rw [beq_iff_eq,List.all_eq_true]
 constructor
 ·intro h n hn
  have hz:ofL L &&& occX l=0:=by omega
  have hb:(ofL L &&& occX l).testBit n=false:=by rw [hz];exact Nat.zero_testBit n
  rw [Nat.testBit_and,ofL_bit,decide_eq_true hn,Bool.true_and,occX_bit] at hb
  by_cases hz2:pc l (n:Int)=0
  ·exact beq_iff_eq.2 hz2
  ·rw [decide_eq_true (⟨hL n hn,hz2⟩:n<l.length/\pc l (n:Int)≠0)] at hb
   cases hb
 ·intro h
  have hz:ofL L &&& occX l=0:=by
   apply Nat.eq_of_testBit_eq
   intro j
   rw [Nat.zero_testBit,Nat.testBit_and,ofL_bit,occX_bit]
   by_cases hj:j∈L
   ·have:=beq_iff_eq.1 (h j hj)
    simp [this]
   ·rw [decide_eq_false hj];rfl
  rw [hz];rfl
theorem tCso_any (F R:Int) (l:List Int) (A:Option Addr) (c:Nat) (bl:Bool) (ca:Nat) (ps ha fu:Int) (x y t kd:Int) (ow fo:Nat) (b:Nat) (hca:ca<256) (hl:(l.length:Int)=F * R) (h64:l.length<=64) (h8:pcA ca ⟨x,y,t⟩≠0->F=8/\R=8) (how:ow<18446744073709551616) (hfo:fo<18446744073709551616) (hoc:ow ||| fo=occX l) (w:World) (hT:Cst w) (hX:Bxs w b [.int .i64 F,.int .i64 R,.slice A l.length c,.bool bl,.int .u8 (ca:Int),.int .i64 ps,.int .i64 ha,.int .i64 fu,.int .i64 x,.int .i64 y,.int .i8 t,.int .i8 kd,.int .u64 (ow:Int),.int .u64 (fo:Int)]) :
  Calls Tryz.prog 112 #[.pointer (some ⟨b,0,none⟩)] w fun e w'=>e=.returned (.bool (decide (pcA ca ⟨x,y,t⟩≠0) && allE l (betL F R (cKf (pcA ca ⟨x,y,t⟩):Int) (cRf (pcA ca ⟨x,y,t⟩):Int))))/\Below w.heap.size w w':=by
 have HCT:=Lib.hid (fun w hT=>pCsl_any F R l A c bl ca ps ha fu x y t hca w hT)
 have HOC:=Lib.hid (tOcc_any b ow fo how hfo)
 have HBE:Hid (pcA ca ⟨x,y,t⟩≠0->(∀ w,Calls Tryz.prog 167 #[.agg #[.int .i64 F,.int .i64 R],.int .i64 (cKf (pcA ca ⟨x,y,t⟩):Int),.int .i64 (cRf (pcA ca ⟨x,y,t⟩):Int)] w fun e w'=>e=.returned (.tuple #[.int .u64 (ofL (betL F R (cKf (pcA ca ⟨x,y,t⟩):Int) (cRf (pcA ca ⟨x,y,t⟩):Int)):Int),.int .i64 0])/\Below w.heap.size w w') /\
   (bits .and .u64 (ofL (betL F R (cKf (pcA ca ⟨x,y,t⟩):Int) (cRf (pcA ca ⟨x,y,t⟩):Int)):Int) (occX l:Int) == 0)=allE l (betL F R (cKf (pcA ca ⟨x,y,t⟩):Int) (cRf (pcA ca ⟨x,y,t⟩):Int))):=Lib.hid (fun hne=>by
  obtain ⟨rfl,rfl⟩:=h8 hne
  rcases pcA_or ca ⟨x,y,t⟩ with hz | ⟨hor,_⟩
  ·exact absurd hz hne
  ·obtain ⟨b1,b2,b3,b4,b5⟩:=way_bd hor
   refine ⟨fun w=>pBet_yes 8 8 _ _ (vatN88 b1) (vatN88 b3) b5 w,and_free h64 (fun n hn=>?_)⟩
   have:=betL_lt (F:=8) (R:=8) ⟨by omega,by omega,by omega,by omega⟩ _ _ n hn
   omega)
 obtain ⟨r,hr⟩:∃ r,(decide (pcA ca ⟨x,y,t⟩≠0) && allE l (betL F R (cKf (pcA ca ⟨x,y,t⟩):Int) (cRf (pcA ca ⟨x,y,t⟩):Int)))=r:=⟨_,rfl⟩
 rw [hr]
 have HR:=Lib.hid hr
 clear hr
 have HX:=Lib.hid hX
 have HT:=Lib.hid hT
 rw [hoc] at HOC
 unfold casW at HCT
 clear hX hT hl h64 h8 how hfo hoc hca
 generalize allE l (betL F R (cKf (pcA ca ⟨x,y,t⟩):Int) (cRf (pcA ca ⟨x,y,t⟩):Int))=fre at *
 generalize ofL (betL F R (cKf (pcA ca ⟨x,y,t⟩):Int) (cRf (pcA ca ⟨x,y,t⟩):Int))=be at *
 generalize occX l=oc at *
 have HVB:=Lib.hid (show wayW (pcA ca ⟨x,y,t⟩)=[.int .u8 (pcA ca ⟨x,y,t⟩:Int),.int .i64 (wF (pcA ca ⟨x,y,t⟩)),.int .i64 (wT (pcA ca ⟨x,y,t⟩)),.int .i64 (wR (pcA ca ⟨x,y,t⟩)),.int .i64 (wS (pcA ca ⟨x,y,t⟩))] from rfl)
 have HWF:Hid (pcA ca ⟨x,y,t⟩≠0->(cKf (pcA ca ⟨x,y,t⟩):Int)=wF (pcA ca ⟨x,y,t⟩)/\(cRf (pcA ca ⟨x,y,t⟩):Int)=wR (pcA ca ⟨x,y,t⟩)):=Lib.hid (fun h=>⟨by unfold wF;rw [if_neg h],by unfold wR;rw [if_neg h]⟩)
 rw [HVB.out] at HCT
 clear HVB
 obtain ⟨ok,hok⟩:∃ ok,decide (pcA ca ⟨x,y,t⟩≠0)=ok:=⟨_,rfl⟩
 rw [hok] at HCT HR
 have HOK:=Lib.hid hok
 clear hok
 generalize wF (pcA ca ⟨x,y,t⟩)=f at *
 generalize wT (pcA ca ⟨x,y,t⟩)=f2 at *
 generalize wR (pcA ca ⟨x,y,t⟩)=f3 at *
 generalize wS (pcA ca ⟨x,y,t⟩)=f4 at *
 generalize (cKf (pcA ca ⟨x,y,t⟩):Int)=g1 at *
 generalize (cRf (pcA ca ⟨x,y,t⟩):Int)=g3 at *
 generalize pcA ca ⟨x,y,t⟩=k at *
 go_enter Tryz.func112,Tryz.ntmps112
 obtain ⟨z0,z1,z2,z3,z4,z5,z6,z7,z8,z9,z10⟩:=HX.out.h11
 go_upto_region 1 with fail
 go_cut [3,4] (fun s3 s4 wx=>∃ g:Nat,s3=.pointer (some ⟨g,0,none⟩)/\s4=.bool ok/\w.heap.size<=g/\Bxs wx g [.int .u8 (k:Int),.int .i64 f,.int .i64 f2,.int .i64 f3,.int .i64 f4]/\Bw w wx)
 case first =>
  have KB:∀ W':World,Bw w W'->(W'.cell? ⟨b,0,none⟩=some (.int .i64 F)/\W'.cell? ⟨b,1,none⟩=some (.int .i64 R)/\W'.cell? ⟨b,2,none⟩=some (.slice A l.length c)/\W'.cell? ⟨b,3,none⟩=some (.bool bl)/\W'.cell? ⟨b,4,none⟩=some (.int .u8 (ca:Int))/\W'.cell? ⟨b,5,none⟩=some (.int .i64 ps)/\W'.cell? ⟨b,6,none⟩=some (.int .i64 ha)/\W'.cell? ⟨b,7,none⟩=some (.int .i64 fu)/\W'.cell? ⟨b,8,none⟩=some (.int .i64 x)/\W'.cell? ⟨b,9,none⟩=some (.int .i64 y)/\W'.cell? ⟨b,10,none⟩=some (.int .i8 t))/\Bw w W':=fun W' hW=>⟨⟨cBo hW (by assumption),cBo hW (by assumption),cBo hW (by assumption),cBo hW (by assumption),cBo hW (by assumption),cBo hW (by assumption),cBo hW (by assumption),cBo hW (by assumption),cBo hW (by assumption),cBo hW (by assumption),cBo hW (by assumption)⟩,hW⟩
  replace KB:=Lib.hid KB
  have hS0:=KB.out w (Below.refl _ _)
  (first | (go_region_held3 (fun w'=>(w'.cell? ⟨b,0,none⟩=some (.int .i64 F)/\w'.cell? ⟨b,1,none⟩=some (.int .i64 R)/\w'.cell? ⟨b,2,none⟩=some (.slice A l.length c)/\w'.cell? ⟨b,3,none⟩=some (.bool bl)/\w'.cell? ⟨b,4,none⟩=some (.int .u8 (ca:Int))/\w'.cell? ⟨b,5,none⟩=some (.int .i64 ps)/\w'.cell? ⟨b,6,none⟩=some (.int .i64 ha)/\w'.cell? ⟨b,7,none⟩=some (.int .i64 fu)/\w'.cell? ⟨b,8,none⟩=some (.int .i64 x)/\w'.cell? ⟨b,9,none⟩=some (.int .i64 y)/\w'.cell? ⟨b,10,none⟩=some (.int .i8 t))/\Bw w w')
   (first | (simp only [Bw.mark5];exact KB.out _ (bw5 hb1 (by first | exact Nat.le_refl _ | (have e1:=hb1.size;simp at e1 ⊢;omega)) _ _ _ _ _)) | assumption | exact KB.out _ hb1 | exact KB.out _ (Bw.alloc hb1 _) | exact KB.out _ (Bw.step (And.right (by assumption)) (by assumption)) | exact KB.out _ (Bw.drew (And.right (by assumption))) | exact KB.out _ (Bw.alloc (And.right (by assumption)) _))
   (first
    | (go_at_call 114;refine (HCT.out _ (HT.out.below (And.right (by assumption)))).mono ?_;rintro e u1 ⟨rfl,hc1⟩;have hb1:Bw w u1:=Bw.step (And.right (by assumption)) hc1;(try (first | (have yz1:=zbxd hc1) | (have yz1:=zbx hc1)));(try (have e0:=yz1.c 0 rfl;have e1:=yz1.c 1 rfl;have e2:=yz1.c 2 rfl;have e3:=yz1.c 3 rfl;have e4:=yz1.c 4 rfl;have ef:=yz1.2))))) | fail)
  all_goals
   go_wp2_with fail
   (conv=>arg 2;simp [Act.put])
   go_meet
   case rel =>
    refine ⟨_,rfl,rfl,?_,?_,?_⟩
    ·first | exact Nat.le_refl _ | (have e1:=hc1.size;simp at e1 ⊢;omega)
    ·first | exact yz1.put5 _ _ _ _ _ | exact Bxs.new _ _ _
    ·exact And.right (by assumption)
 case rest =>
  obtain ⟨g,rfl,rfl,hg,hC,hW⟩:=hcut
  have HX1:=Lib.hid (HX.out.below hW HX.out.lt)
  have HC1:=Lib.hid hC
  have HB1:=Lib.hid hW
  clear hC hW HX HT HCT z0 z1 z2 z3 z4 z5 z6 z7 z8 z9 z10
  cases ok
  ·have HV:=HR.out
   rw [Bool.false_and] at HV
   replace HV:=Lib.hid HV
   clear HR
   go_wp2
   go_ret
   exact ⟨by rw [<- HV.out];rfl,HB1.out⟩
  ·have hk:k≠0:=of_decide_eq_true HOK.out
   have HV:=HR.out
   rw [Bool.true_and] at HV
   replace HV:=Lib.hid HV
   obtain ⟨HBT,HAN⟩:=HBE.out hk
   obtain ⟨e1,e3⟩:=HWF.out hk
   rw [e1,e3] at HBT
   clear hk HBE HWF e1 e3
   replace HBT:=Lib.hid HBT
   replace HAN:=Lib.hid HAN
   obtain ⟨z0,z1⟩:=HX1.out.h2
   have y1:=HC1.out.c 1 rfl
   have y3:=HC1.out.c 3 rfl
   go_wp2_with fail
   have kq0:=cell_regrown z0
   have kq1:=cell_regrown z1
   have kq2:=cell_regrown y1
   have kq3:=cell_regrown y3
   refine wp_region_quiet_below (by kernel_rfl) (by kernel_rfl) ?_
   repeat (go_big_quiet_step (first | (go_at_call 167;exact Calls.regrown_of (HBT.out _))))
   refine wpQuiet_nil ?_
   rintro _ ⟨⟨dq,osq⟩,rfl⟩
   have hq:=below_regrown wc dq osq
   clear kq0 kq1 kq2 kq3 z0 z1 y1 y3
   generalize grow (redrawn wc dq) osq=w1 at *
   have HX2:=Lib.hid (HX1.out.below hq HX1.out.lt)
   have HB2:=Lib.hid (chain HB1.out hq)
   clear HX1 HB1 HC1 HBT hq
   have z12:=HX2.out.c 12 rfl
   have z13:=HX2.out.c 13 rfl
   go_wp2_with fail
   refine (HOC.out _ z12 z13).mono ?_
   rintro e w2 ⟨rfl,hq⟩
   have HB3:=Lib.hid (chain HB2.out hq)
   clear HB2 HX2 HOC z12 z13 hq
   go_wp2
   go_ret
   exact ⟨by rw [HAN.out,HV.out];rfl,HB3.out⟩
end Go.Proofs.YtbccbgonlmkpkaaGreatDoor
