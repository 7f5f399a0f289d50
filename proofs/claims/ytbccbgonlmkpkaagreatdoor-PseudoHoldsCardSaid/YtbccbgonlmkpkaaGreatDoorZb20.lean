/- What the theorem needs, piece Zb20. -/
import Derived.Test.YtbccbgonlmkpkaaGreatDoorZb19
import Derived.Test.YtbccbgonlmkpkaaGreatDoorZb06
import Derived.Test.YtbccbgonlmkpkaaGreatDoorZb01
import Derived.Lib.QuietBelow
import Derived.Deep.RegionHeld3
import Derived.Deep.DeepCutAuto
set_option linter.unusedSimpArgs false
set_option linter.unusedVariables false
set_option maxRecDepth 100000
set_option maxHeartbeats 16000000
namespace Go.Proofs.YtbccbgonlmkpkaaGreatDoor
open Go.RowKit
theorem pc_neg {l:List Int} {k:Int} (h:k<0):pc l k=pc l 0:=by
 unfold pc
 rw [show k.toNat=(0:Int).toNat by omega]
theorem kgN_kd (bl:Bool):kdP (kgN bl)=6:=by cases bl <;> rfl
theorem kgN_own (bl:Bool):ownB (kgN bl) bl=true:=by cases bl <;> rfl
theorem kd6 {q:Int} {bl:Bool} (h:kdP q=6) (ho:ownB q bl=true):q=kgN bl:=by
 obtain ⟨_,o2⟩:=ownB_iff.1 ho
 unfold kdP at h
 unfold kgN
 cases bl <;> simp at o2 ⊢ <;> split at h <;> omega
theorem own_sgn {q:Int} {bl:Bool} (ho:ownB q bl=true):sgnP q=(if bl then -1 else 1):=by
 obtain ⟨o1,o2⟩:=ownB_iff.1 ho
 unfold sgnP
 cases bl with
 | false =>
  have hn:¬ q<0:=by simpa using o2
  rw [if_neg hn,if_pos (by omega)]
  rfl
 | true =>
  have hn:q<0:=by simpa using o2
  rw [if_pos hn]
  rfl
theorem Mov.pr0 {p:Po} {m:Mv} (h:Mov p m) (hk:kdP (pc p.l m.a)≠1):m.p=0:=by
 rcases h.other hk with hc | hc
 ·exact hc.p0
 ·exact hc.2.1
theorem Mov.pr {p:Po} {m:Mv} (h:Mov p m):(m.p=0/\prmM p m=pc p.l m.a)\/(2<=m.p/\m.p<=5/\kdP (pc p.l m.a)=1/\prmM p m=(if p.bl then -m.p else m.p)):=by
 unfold prmM
 rcases h.hm.2.2.2 with e | ⟨e1,e2⟩
 ·exact .inl ⟨e,by rw [if_neg (by simp [e])]⟩
 ·refine .inr ⟨e1,e2,?_,?_⟩
  ·by_cases hk:kdP (pc p.l m.a)=1
   ·exact hk
   ·have:=h.pr0 hk;omega
  ·rw [if_pos (by omega),own_sgn h.own]
   split <;> omega
theorem prm_own {p:Po} {m:Mv} (h:Mov p m):ownB (prmM p m) p.bl=true:=by
 rcases h.pr with ⟨_,e⟩ | ⟨e1,e2,_,e⟩
 ·rw [e];exact h.own
 ·rw [e,ownB_iff]
  cases p.bl <;> simp <;> omega
theorem prm_orth {p:Po} {m:Mv} (h:Mov p m):orthB (prmM p m)=true:=by
 rcases h.pr with ⟨_,e⟩ | ⟨e1,e2,_,e⟩
 ·rw [e]
  exact (h.hp.orth m.a).resolve_left (ownB_iff.1 h.own).1
 ·rw [e]
  unfold orthB
  cases p.bl <;> simp <;> omega
theorem Mov.capV {p:Po} {m:Mv} (h:Mov p m) (hc:0<=capM p m):pc p.l (capM p m)≠0/\ownB (pc p.l (capM p m)) p.bl=false/\pc p.l (capM p m)≠kgN (!p.bl):=by
 rcases cap_or h with h1 | h1 | h1
 ·omega
 ·rw [h1.1]
  exact ⟨h1.2.1,h.free,not_king h⟩
 ·rw [h1.pcc]
  unfold pcS kgN ownB
  cases p.bl <;> simp
structure Mk (p:Po) (m:Mv):Prop extends Mov p m where
 saf:safM p m=true
 ha:(aftM p m).ha<=10000
 fu:(aftM p m).fu<=10000
theorem err_iff {p:Po} {m:Mv}:errM p m=0 ↔ Mk p m:=by
 unfold errM
 constructor
 ·intro h
  split at h
  ·omega
  ·rename_i h1
   split at h
   ·omega
   ·rename_i h2
    split at h
    ·omega
    ·rename_i h3
     split at h
     ·omega
     ·rename_i h4
      split at h
      ·omega
      ·rename_i h5
       have h1':okPo p=true/\okM p.F p.R m:=by
        by_cases hh:okPo p=true/\okM p.F p.R m
        ·exact hh
        ·exact absurd hh h1
       exact ⟨⟨(okPo_iff p).1 h1'.1,h1'.2,by simpa using h2,by simpa using h3⟩,by simpa using h4,by omega,by omega⟩
 ·rintro ⟨⟨h1,h2,h3,h4⟩,h5,h6,h7⟩
  rw [if_neg (by simp [(okPo_iff p).2 h1,h2]),if_neg (by simp [h3]),if_neg (by simp [h4]),if_neg (by simp [h5]),if_neg (by omega)]
theorem king_aft {p:Po} {m:Mv} (h:Mov p m) (s:Bool):0<=kingV (aftL p m) s:=by
 have ha:=h.la
 have hb:=h.lb
 have hne:=h.hm.2.2.1
 have hlen:=aft_len p m
 have hkv:0<=kingV p.l s:=by cases s with
  | false=>exact h.hp.kw
  | true=>exact h.hp.kb
 obtain ⟨k1,k2,k3⟩:=king_at hkv
 have hkn:kgN s≠0:=by unfold kgN;split <;> omega
 have hkl:0<=kingV p.l s:=hkv
 rcases casM_or (m:=m) h.hp with hc | hc
 ·by_cases hs:s=p.bl
  ·subst hs
   by_cases h6:kdP (pc p.l m.a)=6
   ·have e:=kd6 h6 h.own
    have hpr:prmM p m=kgN p.bl:=by
     unfold prmM
     rw [if_neg (by simp [h.pr0 (by omega)]),e]
    have hka:=k3 m.a ha.1 ha.2 e
    rw [king_mk hb.1 (by rw [hlen];exact hb.2) (by rw [aft_pc h hc hb.1,if_pos rfl,hpr]) (fun j j0 j1 hj=>?_)]
    ·exact hb.1
    ·rw [aft_pc h hc j0] at hj
     rw [hlen] at j1
     by_cases e1:j=m.b
     ·exact e1
     ·rw [if_neg e1] at hj
      by_cases e2:j=m.a
      ·rw [if_pos e2] at hj;exact absurd hj.symm hkn
      ·rw [if_neg e2] at hj
       by_cases e3:j=capM p m
       ·rw [if_pos e3] at hj;exact absurd hj.symm hkn
       ·rw [if_neg e3] at hj
        have:=k3 j j0 j1 hj
        omega
   ·have hka:kingV p.l p.bl≠m.a:=fun e=>h6 (by rw [<- e,k2];exact kgN_kd _)
    have hkb:kingV p.l p.bl≠m.b:=fun e=>by
     have:=h.free
     rw [<- e,k2,kgN_own] at this
     cases this
    have hkc:kingV p.l p.bl≠capM p m:=fun e=>by
     have:=(h.capV (by omega)).2.1
     rw [<- e,k2,kgN_own] at this
     cases this
    rw [king_mk hkl (by rw [hlen];exact k1) (by rw [aft_pc h hc hkl,if_neg hkb,if_neg hka,if_neg hkc,k2]) (fun j j0 j1 hj=>?_)]
    ·exact hkl
    ·rw [aft_pc h hc j0] at hj
     rw [hlen] at j1
     by_cases e1:j=m.b
     ·rw [if_pos e1] at hj
      exfalso
      rcases h.pr with ⟨_,e⟩ | ⟨p1,p2,_,e⟩
      ·rw [e] at hj
       exact h6 (by rw [hj];exact kgN_kd _)
      ·rw [e] at hj
       unfold kgN at hj
       split at hj <;> simp_all <;> omega
     ·rw [if_neg e1] at hj
      by_cases e2:j=m.a
      ·rw [if_pos e2] at hj;exact absurd hj.symm hkn
      ·rw [if_neg e2] at hj
       by_cases e3:j=capM p m
       ·rw [if_pos e3] at hj;exact absurd hj.symm hkn
       ·rw [if_neg e3] at hj
        exact k3 j j0 j1 hj
  ·have hs':s=!p.bl:=by cases s <;> cases hb:p.bl <;> simp_all
   subst hs'
   have hnown:∀ q:Int,ownB q p.bl=true->q≠kgN (!p.bl):=fun q hq e=>by
    rw [e] at hq
    unfold ownB kgN at hq
    cases hb:p.bl <;> rw [hb] at hq <;> simp at hq
   have hka:kingV p.l (!p.bl)≠m.a:=fun e=>hnown _ h.own (by rw [<- e,k2])
   have hkb:kingV p.l (!p.bl)≠m.b:=fun e=>not_king h (by rw [<- e,k2])
   have hkc:kingV p.l (!p.bl)≠capM p m:=fun e=>(h.capV (by omega)).2.2 (by rw [<- e,k2])
   rw [king_mk hkl (by rw [hlen];exact k1) (by rw [aft_pc h hc hkl,if_neg hkb,if_neg hka,if_neg hkc,k2]) (fun j j0 j1 hj=>?_)]
   ·exact hkl
   ·rw [aft_pc h hc j0] at hj
    rw [hlen] at j1
    by_cases e1:j=m.b
    ·rw [if_pos e1] at hj
     exact absurd hj (hnown _ (prm_own h))
    ·rw [if_neg e1] at hj
     by_cases e2:j=m.a
     ·rw [if_pos e2] at hj;exact absurd hj.symm hkn
     ·rw [if_neg e2] at hj
      by_cases e3:j=capM p m
      ·rw [if_pos e3] at hj;exact absurd hj.symm hkn
      ·rw [if_neg e3] at hj
       exact k3 j j0 j1 hj
 ·obtain ⟨s1,s2,s3,s4,n1,n2,n3,n4,n5,n6⟩:=hc.sq
  have ea:=hc.ea
  have eb:=hc.eb
  have hl:=hc.len h.hp
  have hrk:pc p.l (cRf (casM p m):Int)≠kgN s:=by
   rw [hc.rf]
   unfold kgN
   split <;> split <;> omega
  by_cases hs:s=p.bl
  ·subst hs
   have e:=kd6 hc.k6 h.own
   have hka:=k3 m.a ha.1 ha.2 e
   rw [king_mk hb.1 (by rw [hlen];exact hb.2) (by rw [aft_cas h hc hb.1,if_neg (by omega),if_neg (by omega),if_pos rfl,e]) (fun j j0 j1 hj=>?_)]
   ·exact hb.1
   ·rw [aft_cas h hc j0] at hj
    rw [hlen] at j1
    by_cases e1:j=(cRf (casM p m):Int)
    ·rw [if_pos e1] at hj;exact absurd hj.symm hkn
    ·rw [if_neg e1] at hj
     by_cases e2:j=(cRt (casM p m):Int)
     ·rw [if_pos e2] at hj;exact absurd hj hrk
     ·rw [if_neg e2] at hj
      by_cases e3:j=m.b
      ·exact e3
      ·rw [if_neg e3] at hj
       by_cases e4:j=m.a
       ·rw [if_pos e4] at hj;exact absurd hj.symm hkn
       ·rw [if_neg e4] at hj
        have:=k3 j j0 j1 hj
        omega
  ·have hs':s=!p.bl:=by cases s <;> cases hb:p.bl <;> simp_all
   subst hs'
   have hoth:∀ q:Int,pc p.l q=kgN (!p.bl)->q≠m.a/\q≠m.b/\q≠(cRf (casM p m):Int)/\q≠(cRt (casM p m):Int):=fun q hq=>by
    refine ⟨fun e=>?_,fun e=>not_king h (by rw [<- e,hq]),fun e=>hrk (by rw [<- e,hq]),fun e=>?_⟩
    ·have:=kd6 hc.k6 h.own
     rw [<- e,hq] at this
     unfold kgN at this
     cases hb:p.bl <;> rw [hb] at this <;> simp at this
    ·have:=hc.rt
     rw [<- e,hq] at this
     exact hkn this
   obtain ⟨q1,q2,q3,q4⟩:=hoth _ k2
   rw [king_mk hkl (by rw [hlen];exact k1) (by rw [aft_cas h hc hkl,if_neg q3,if_neg q4,if_neg q2,if_neg q1,k2]) (fun j j0 j1 hj=>?_)]
   ·exact hkl
   ·rw [aft_cas h hc j0] at hj
    rw [hlen] at j1
    by_cases e1:j=(cRf (casM p m):Int)
    ·rw [if_pos e1] at hj;exact absurd hj.symm hkn
    ·rw [if_neg e1] at hj
     by_cases e2:j=(cRt (casM p m):Int)
     ·rw [if_pos e2] at hj;exact absurd hj hrk
     ·rw [if_neg e2] at hj
      by_cases e3:j=m.b
      ·rw [if_pos e3,kd6 hc.k6 h.own] at hj
       exfalso
       unfold kgN at hj
       cases hb:p.bl <;> rw [hb] at hj <;> simp at hj
      ·rw [if_neg e3] at hj
       by_cases e4:j=m.a
       ·rw [if_pos e4] at hj;exact absurd hj.symm hkn
       ·rw [if_neg e4] at hj
        exact k3 j j0 j1 hj
end Go.Proofs.YtbccbgonlmkpkaaGreatDoor
namespace Go.Proofs.YtbccbgonlmkpkaaGreatDoor
open Go.RowKit
theorem aft_orth {p:Po} {m:Mv} (h:Mov p m) (k:Int):pc (aftL p m) k=0\/orthB (pc (aftL p m) k)=true:=by
 have key:∀ k:Int,0<=k->pc (aftL p m) k=0\/orthB (pc (aftL p m) k)=true:=by
  intro k hk
  rcases casM_or (m:=m) h.hp with hc | hc
  ·rw [aft_pc h hc hk]
   split
   ·exact .inr (prm_orth h)
   ·split
    ·exact .inl rfl
    ·split
     ·exact .inl rfl
     ·exact h.hp.orth k
  ·rw [aft_cas h hc hk]
   split
   ·exact .inl rfl
   ·split
    ·exact h.hp.orth _
    ·split
     ·exact h.hp.orth _
     ·split
      ·exact .inl rfl
      ·exact h.hp.orth k
 by_cases hk:0<=k
 ·exact key k hk
 ·rw [pc_neg (by omega)]
  exact key 0 (by omega)
theorem cas_ca {p:Po} (h:poCas p.F p.R p.l p.ca=true):p.ca<=15:=by
 unfold poCas at h
 simp only [Bool.and_eq_true,decide_eq_true_eq] at h
 exact h.1
end Go.Proofs.YtbccbgonlmkpkaaGreatDoor
namespace Go.Proofs.YtbccbgonlmkpkaaGreatDoor
open Go.RowKit
theorem mkM_some {p:Po} {m:Mv} {r:Po × Un} (h:mkM p m=some r):Mk p m/\r=(aftM p m,recM p m):=by
 unfold mkM at h
 split at h
 ·rename_i he
  simp only [Option.some.injEq] at h
  exact ⟨err_iff.1 he,h.symm⟩
 ·cases h
attribute [local irreducible] mkM unM
end Go.Proofs.YtbccbgonlmkpkaaGreatDoor
namespace Go.Proofs.YtbccbgonlmkpkaaGreatDoor
open Go.RowKit Go.Sort
theorem rOwn_any (q:Int) (bl:Bool) (w:World) :
  Calls Tryz.prog 54 #[.int .i8 q,.bool bl] w fun e w'=>e=.returned (.bool (ownB q bl))/\w=w':=by
 unfold ownB
 by_cases h0:q=0
 ·subst h0
  go_enter Tryz.func54,Tryz.ntmps54
  go_wp2
  go_ret
  exact ⟨rfl,rfl⟩
 ·have hz:(q != 0)=true:=by simp [h0]
  have hd:decide (q≠0)=true:=decide_eq_true h0
  go_enter Tryz.func54,Tryz.ntmps54
  go_wp2
  go_ret
  exact ⟨by simp [h0],rfl⟩
theorem rSquare_any (s:ByteArray) (n:Nat) (hs:nameB 8 (n:Int)=s) (h8:n<64) (w:World) :
  Calls Tryz.prog 71 #[.string s] w fun e w'=>e=.returned (.int .i64 (n:Int))/\Below w.heap.size w w':=by
 have HP:=Lib.hid (refParse_yes 8 8 (n:Int) s (vatN88 h8) hs)
 clear hs
 go_enter Tryz.func71,Tryz.ntmps71
 go_wp2_with fail
 refine (HP.out _).mono ?_
 rintro e w1 ⟨rfl,hb⟩
 go_wp2
 go_ret
 exact ⟨rfl,hb⟩
def castV (bit:Nat):Array Value:=#[.string (nameB 8 (cKf bit:Int)),.string (nameB 8 (cKt bit:Int)),.string (nameB 8 (cRf bit:Int)),.string (nameB 8 (cRt bit:Int))]
theorem rRow_any (bit:Nat) (h:bit=1\/bit=2\/bit=4\/bit=8) (w:World) :
  Calls Tryz.prog 70 #[.int .u8 (bit:Int)] w fun e w'=>e=.returned (.slice (some ⟨w.heap.size,0,none⟩) 4 4)/\w'=w.alloc (.cells (castV bit) 9):=by
 rcases h with rfl | rfl | rfl | rfl
 ·have e:castV 1=#[.string ⟨#[101,49]⟩,.string ⟨#[103,49]⟩,.string ⟨#[104,49]⟩,.string ⟨#[102,49]⟩]:=by
   unfold castV
   rw [show nameB 8 (cKf 1:Int)=⟨#[101,49]⟩ from by decide +kernel,show nameB 8 (cKt 1:Int)=⟨#[103,49]⟩ from by decide +kernel,show nameB 8 (cRf 1:Int)=⟨#[104,49]⟩ from by decide +kernel,show nameB 8 (cRt 1:Int)=⟨#[102,49]⟩ from by decide +kernel]
  rw [e]
  go_enter Tryz.func70,Tryz.ntmps70
  go_wp2
  go_ret
  exact ⟨rfl,rfl⟩
 ·have e:castV 2=#[.string ⟨#[101,49]⟩,.string ⟨#[99,49]⟩,.string ⟨#[97,49]⟩,.string ⟨#[100,49]⟩]:=by
   unfold castV
   rw [show nameB 8 (cKf 2:Int)=⟨#[101,49]⟩ from by decide +kernel,show nameB 8 (cKt 2:Int)=⟨#[99,49]⟩ from by decide +kernel,show nameB 8 (cRf 2:Int)=⟨#[97,49]⟩ from by decide +kernel,show nameB 8 (cRt 2:Int)=⟨#[100,49]⟩ from by decide +kernel]
  rw [e]
  go_enter Tryz.func70,Tryz.ntmps70
  go_wp2
  go_ret
  exact ⟨rfl,rfl⟩
 ·have e:castV 4=#[.string ⟨#[101,56]⟩,.string ⟨#[103,56]⟩,.string ⟨#[104,56]⟩,.string ⟨#[102,56]⟩]:=by
   unfold castV
   rw [show nameB 8 (cKf 4:Int)=⟨#[101,56]⟩ from by decide +kernel,show nameB 8 (cKt 4:Int)=⟨#[103,56]⟩ from by decide +kernel,show nameB 8 (cRf 4:Int)=⟨#[104,56]⟩ from by decide +kernel,show nameB 8 (cRt 4:Int)=⟨#[102,56]⟩ from by decide +kernel]
  rw [e]
  go_enter Tryz.func70,Tryz.ntmps70
  go_wp2
  go_ret
  exact ⟨rfl,rfl⟩
 ·have e:castV 8=#[.string ⟨#[101,56]⟩,.string ⟨#[99,56]⟩,.string ⟨#[97,56]⟩,.string ⟨#[100,56]⟩]:=by
   unfold castV
   rw [show nameB 8 (cKf 8:Int)=⟨#[101,56]⟩ from by decide +kernel,show nameB 8 (cKt 8:Int)=⟨#[99,56]⟩ from by decide +kernel,show nameB 8 (cRf 8:Int)=⟨#[97,56]⟩ from by decide +kernel,show nameB 8 (cRt 8:Int)=⟨#[100,56]⟩ from by decide +kernel]
  rw [e]
  go_enter Tryz.func70,Tryz.ntmps70
  go_wp2
  go_ret
  exact ⟨rfl,rfl⟩
theorem rHas8_any (l:List Int) (n:Int) (A:Option Addr) (c:Nat) (w:World) (hlen:l.length<=100000) (hA:RdI w w.heap.size A l) :
  Calls Tryz.prog 126 #[.slice A l.length c,.int .i64 n] w fun e w'=>e=.returned (.bool (hasL l n))/\w=w':=by
 go_enter Tryz.func126,Tryz.ntmps126
 go_wp2
 go_loop [5] (fun i=>∃ k:Nat,k<=l.length/\i=.int .i64 k/\Hid (∀ j,j<k->l[j]?.getD 0≠n)) (fun i=>l.length - (intOf i).toNat)
 case atStart=>exact ⟨0,by omega,rfl,Lib.hid (fun j hj=>by omega)⟩
 case round =>
  obtain ⟨k,hk,rfl,HO⟩:=hrel
  by_cases hlt:k<l.length
  ·obtain ⟨ad,rfl,hb,hc⟩:=hA.at_ hlt
   have hm:l[k]?.getD 0∈l:=by rw [List.getElem?_eq_getElem hlt];exact List.getElem_mem hlt
   have HM:=Lib.hid hm
   clear hA hm
   by_cases he:l[k]?.getD 0=n
   ·have h1:(l[k]?.getD 0 == n)=true:=by simp [he]
    have HC:Hid (hasL l n=true):=Lib.hid (by unfold hasL;rw [List.contains_iff_mem,<- he];exact HM.out)
    clear he
    generalize l[k]?.getD 0=x at *
    go_wp2
    go_ret
    exact ⟨by rw [HC.out];rfl,rfl⟩
   ·have h1:(l[k]?.getD 0 == n)=false:=by simp [he]
    have HK:Hid (∀ j,j<k+1->l[j]?.getD 0≠n):=Lib.hid (fun j hj=>by
     by_cases e:j=k
     ·rw [e];exact he
     ·exact HO.out j (by omega))
    clear he
    generalize l[k]?.getD 0=x at *
    go_wp2
    go_round
    case rel=>exact ⟨k+1,by omega,by go_num,HK⟩
    case measure=>simp [intOf];omega
  ·have hkl:k=l.length:=by omega
   subst hkl
   have HC:Hid (hasL l n=false):=Lib.hid (by
    unfold hasL
    rw [<- Bool.not_eq_true,List.contains_iff_mem]
    intro hm
    obtain ⟨j,hj,rfl⟩:=List.getElem_of_mem hm
    exact HO.out j hj (by rw [List.getElem?_eq_getElem hj];rfl))
   go_wp2
   go_ret
   exact ⟨by rw [HC.out];rfl,rfl⟩
theorem rEmpty8_any (F R:Int) (l:List Int) (A:Option Addr) (c:Nat) (bl:Bool) (ca:Nat) (ps ha fu:Int) (z:List Nat) (Z:Option Addr) (zc:Nat) (w:World) (_hlen:l.length<=100000) (hz:z.length<=100000) (hzl:∀ n∈z,n<l.length) (hA:RdP w w.heap.size A l c) (hZ:RdI w w.heap.size Z (z.map fun n:Nat=>(n:Int))) :
  Calls Tryz.prog 87 #[.agg #[.int .i64 F,.int .i64 R,.slice A l.length c,.bool bl,.int .u8 (ca:Int),.int .i64 ps,.int .i64 ha,.int .i64 fu],.slice Z z.length zc] w fun e w'=>e=.returned (.bool (allE l z))/\Below w.heap.size w w':=by
 go_enter Tryz.func87,Tryz.ntmps87
 go_wp2
 have HX:=Lib.hid (box8 w F R (.slice A l.length c) bl ca ps ha fu)
 have HA:=Lib.hid (rdBo (box1 w (.cells #[.int .i64 F,.int .i64 R,.slice A l.length c,.bool bl,.int .u8 (ca:Int),.int .i64 ps,.int .i64 ha,.int .i64 fu] 26)) hA)
 have HZ:=Lib.hid (hZ.below (box1 w (.cells #[.int .i64 F,.int .i64 R,.slice A l.length c,.bool bl,.int .u8 (ca:Int),.int .i64 ps,.int .i64 ha,.int .i64 fu] 26)))
 have hB:=box1 w (.cells #[.int .i64 F,.int .i64 R,.slice A l.length c,.bool bl,.int .u8 (ca:Int),.int .i64 ps,.int .i64 ha,.int .i64 fu] 26)
 have hs:w.heap.size+1=(w.alloc (.cells #[.int .i64 F,.int .i64 R,.slice A l.length c,.bool bl,.int .u8 (ca:Int),.int .i64 ps,.int .i64 ha,.int .i64 fu] 26)).heap.size:=by simp
 generalize w.alloc (.cells #[.int .i64 F,.int .i64 R,.slice A l.length c,.bool bl,.int .u8 (ca:Int),.int .i64 ps,.int .i64 ha,.int .i64 fu] 26)=W at *
 clear hA hZ
 have hml:(z.map fun n:Nat=>(n:Int)).length=z.length:=List.length_map ..
 go_loopw [5] (fun i wr=>∃ k:Nat,k<=z.length/\i=.int .i64 k/\Hid (∀ j,j<k->pc l ((z[j]?.getD 0:Nat):Int)=0)/\Below W.heap.size W wr) (fun i _=>z.length - (intOf i).toNat)
 case atStart=>exact ⟨0,by omega,rfl,Lib.hid (fun j hj=>by omega),Below.refl _ _⟩
 case round =>
  obtain ⟨k,hk,rfl,HO,hR⟩:=hrel
  by_cases hlt:k<z.length
  ·have hZ1:=HZ.out.below (hR.mono (show w.heap.size<=W.heap.size by omega))
   have hA1:=HA.out.below hR
   have hX1:=HX.out.below hR (by omega)
   obtain ⟨zd,rfl,zb,zcell⟩:=hZ1.at_ (k:=k) (by rw [hml];exact hlt)
   have hm:z[k]?.getD 0∈z:=by rw [List.getElem?_eq_getElem hlt];exact List.getElem_mem hlt
   have hn:=hzl _ hm
   have HM:=Lib.hid hm
   have ez:(z.map fun n:Nat=>(n:Int))[k]?.getD 0=((z[k]?.getD 0:Nat):Int):=by
    rw [List.getElem?_map,List.getElem?_eq_getElem hlt];rfl
   rw [ez] at zcell
   clear ez hm
   obtain ⟨ad,rfl,hb,hc⟩:=hA1.at_ hn
   rw [<- pc_nat] at hc
   obtain ⟨⟨q0,q1,q2,q3,q4,q5,q6,q7⟩,qf⟩:=hX1
   clear hA1 hZ1
   by_cases he:pc l ((z[k]?.getD 0:Nat):Int)=0
   ·have HK:Hid (∀ j,j<k+1->pc l ((z[j]?.getD 0:Nat):Int)=0):=Lib.hid (fun j hj=>by
     by_cases e:j=k
     ·rw [e];exact he
     ·exact HO.out j (by omega))
    have h1:(pc l ((z[k]?.getD 0:Nat):Int) != 0)=false:=by simp [he]
    clear he
    generalize pc l ((z[k]?.getD 0:Nat):Int)=x at *
    generalize z[k]?.getD 0=n at *
    go_wp2
    go_region
    all_goals go_wp2
    go_roundw
    case rel=>exact ⟨k+1,by omega,by go_num,HK,chain hR (Below.refl _ _).drew⟩
    case measure=>simp [intOf];omega
   ·have h1:(pc l ((z[k]?.getD 0:Nat):Int) != 0)=true:=by simp [he]
    have HC:Hid (allE l z=false):=Lib.hid (by
     unfold allE
     rw [List.all_eq_false]
     exact ⟨_,HM.out,by simpa using he⟩)
    clear he
    generalize pc l ((z[k]?.getD 0:Nat):Int)=x at *
    generalize z[k]?.getD 0=n at *
    go_wp2
    go_region
    all_goals go_wp2
    go_ret
    exact ⟨by rw [HC.out];rfl,chain hB (chain hR (Below.refl _ _).drew)⟩
  ·have hkl:k=z.length:=by omega
   subst hkl
   have HC:Hid (allE l z=true):=Lib.hid (by
    unfold allE
    rw [List.all_eq_true]
    intro n hn
    obtain ⟨j,hj,rfl⟩:=List.getElem_of_mem hn
    have:=HO.out j hj
    rw [List.getElem?_eq_getElem hj] at this
    simpa using this)
   go_wp2
   go_ret
   exact ⟨by rw [HC.out];rfl,chain hB hR⟩
end Go.Proofs.YtbccbgonlmkpkaaGreatDoor
namespace Go.Proofs.YtbccbgonlmkpkaaGreatDoor
open Go.RowKit
def Mv.val (m:Mv):Value:=.agg #[.int .i64 m.a,.int .i64 m.b,.int .i8 m.p]
theorem vmvs_len (l:List Mv):(vmvs l).length=l.length * 3:=by
 unfold vmvs
 induction l with
 | nil=>rfl
 | cons m l ih=>rw [List.flatMap_cons,List.length_append,ih];simp [Mv.cells];omega
theorem vmvs_app (l k:List Mv):vmvs (l ++ k)=vmvs l ++ vmvs k:=by unfold vmvs;rw [List.flatMap_append]
theorem vmvs_one (m:Mv):vmvs [m]=[.int .i64 m.a,.int .i64 m.b,.int .i8 m.p]:=rfl
theorem vmvs_get:∀ {l:List Mv} {k:Nat} {m:Mv},l[k]?=some m->(vmvs l)[k * 3]?=some (.int .i64 m.a)/\(vmvs l)[k * 3+1]?=some (.int .i64 m.b)/\(vmvs l)[k * 3+2]?=some (.int .i8 m.p)
 | [],_,_,h=>by simp at h
 | x :: l,0,m,h=>by
  simp at h
  subst h
  exact ⟨rfl,rfl,rfl⟩
 | x :: l,k+1,m,h=>by
  have ih:=vmvs_get (l:=l) (k:=k) (m:=m) (by simpa using h)
  have e:vmvs (x :: l)=Value.int .i64 x.a :: Value.int .i64 x.b :: Value.int .i8 x.p :: vmvs l:=rfl
  rw [e,show (k+1) * 3=k * 3+1+1+1 from by omega]
  exact ⟨ih.1,ih.2.1,ih.2.2⟩
theorem vmvs_cell {l:List Mv}:∀ u∈vmvs l,u.oneCell'=true:=by
 intro u hu
 unfold vmvs at hu
 obtain ⟨m,_,hm⟩:=List.mem_flatMap.1 hu
 simp [Mv.cells] at hm
 rcases hm with rfl | rfl | rfl <;> rfl
def RdM (w:World) (B:Nat) (A:Option Addr) (l:List Mv):Prop :=
 0<l.length->∃ ad,A=some ad/\ad.block<B/\∀ j u,(vmvs l)[j]?=some u->w.cell? (ad.add j)=some u
theorem add_more (ad:Addr) (n i:Nat):(⟨(ad.add n).block,(ad.add n).off+(i+1),none⟩:Addr)=ad.add (n+(i+1)):=by
 rw [<- Addr.add_add]
 simp [Addr.add]
theorem RdM.at_ {w:World} {B:Nat} {A:Option Addr} {l:List Mv} (h:RdM w B A l) {k:Nat} {m:Mv} (hm:l[k]?=some m):∃ ad,A=some ad/\ad.block<B/\w.cell? (ad.add (k * 3))=some (.int .i64 m.a) /\
  w.cell? ⟨(ad.add (k * 3)).block,(ad.add (k * 3)).off+1,none⟩=some (.int .i64 m.b)/\w.cell? ⟨(ad.add (k * 3)).block,(ad.add (k * 3)).off+2,none⟩=some (.int .i8 m.p):=by
 have hk:=(List.getElem?_eq_some_iff.1 hm).1
 obtain ⟨ad,e,hb,hc⟩:=h (by omega)
 obtain ⟨h0,h1,h2⟩:=vmvs_get hm
 exact ⟨ad,e,hb,hc _ _ h0,by rw [add_more ad _ 0];exact hc _ _ h1,by rw [add_more ad _ 1];exact hc _ _ h2⟩
theorem RdM.below {w w':World} {B:Nat} {A:Option Addr} {l:List Mv} (h:RdM w B A l) (hb:Below B w w'):RdM w' B A l:=fun hl=>by
 obtain ⟨ad,e,h1,h2⟩:=h hl
 exact ⟨ad,e,h1,fun j u hu=>(hb.cell (by rw [blk_add];exact h1)).trans (h2 j u hu)⟩
theorem RdM.grow {w:World} {B B':Nat} {A:Option Addr} {l:List Mv} (h:RdM w B A l) (hB:B<=B'):RdM w B' A l:=fun hl=>by
 obtain ⟨ad,e,h1,h2⟩:=h hl
 exact ⟨ad,e,Nat.lt_of_lt_of_le h1 hB,h2⟩
theorem rdMv {w w':World} {A:Option Addr} {l:List Mv} (hb:Below w.heap.size w w') (h:RdM w w.heap.size A l):RdM w' w'.heap.size A l:=(h.below hb).grow hb.size
theorem rdM_nil (w:World) (B:Nat) (A:Option Addr):RdM w B A []:=fun h=>absurd h (by simp)
theorem RdM.own {w:World} {B e:Nat} {v:Value} {l:List Mv} (h:w.ownsRow B e 3 v l.length (vmvs l)):∃ A c,v=.slice A l.length c/\l.length<=c/\RdM w w.heap.size A l:=by
 have h0:=h
 obtain ⟨hl,⟨rfl,hz⟩ | ⟨g,cap,cur,rfl,hg,hh,hn,hc,hs,ht⟩⟩:=h
 ·have:l=[]:=List.eq_nil_of_length_eq_zero hz
  subst this
  exact ⟨none,0,rfl,by simp,rdM_nil _ _ _⟩
 ·refine ⟨some ⟨g,0,none⟩,cap,rfl,hn,fun _=>⟨_,rfl,(Array.getElem?_eq_some_iff.1 hh).1,fun j u hu=>?_⟩⟩
  have hj:=(List.getElem?_eq_some_iff.1 hu).1
  rw [show (⟨g,0,none⟩:Addr).add j=⟨g,j,none⟩ by (by_cases hj0:j=0 <;> simp [Addr.add,hj0]),h0.cellAt j (by omega)]
  exact hu
theorem infoMv:(Tryz.prog.info? 30).map (fun i=>(i.zero,i.size,i.bytes))=some (some (.agg #[.int .i64 0,.int .i64 0,.int .i8 0]),3,24):=by kernel_rfl
end Go.Proofs.YtbccbgonlmkpkaaGreatDoor
namespace Go.Proofs.YtbccbgonlmkpkaaGreatDoor
open Go.RowKit Go.Sort
def Bx2 (W:World) (b:Nat) (F R:Int):Prop:=W.cell? ⟨b,0,none⟩=some (.int .i64 F)/\W.cell? ⟨b,1,none⟩=some (.int .i64 R)
theorem box2 (w:World) (F R:Int):Bx2 (w.alloc (.cells #[.int .i64 F,.int .i64 R] 23)) w.heap.size F R:=by
 refine ⟨?_,?_⟩ <;> simp [go_sem]
theorem Bx2.lt {W:World} {b:Nat} {F R:Int} (h:Bx2 W b F R):b<W.heap.size:=World.block_lt_of_cell? W _ h.1
theorem Bx2.below {W W':World} {B b:Nat} {F R:Int} (h:Bx2 W b F R) (hb:Below B W W') (hB:b<B):Bx2 W' b F R:=by
 have q:∀ o,W'.cell? ⟨b,o,none⟩=W.cell? ⟨b,o,none⟩:=fun o=>hb.cell (p:=⟨b,o,none⟩) hB
 unfold Bx2
 simp only [q]
 exact h
def Bx3 (W:World) (b:Nat) (x y p:Int):Prop:=(W.cell? ⟨b,0,none⟩=some (.int .i64 x)/\W.cell? ⟨b,1,none⟩=some (.int .i64 y)/\W.cell? ⟨b,2,none⟩=some (.int .i8 p))/\∀ o,W.frozen? ⟨b,o,none⟩=false
theorem box3 (w:World) (x y p:Int):Bx3 (w.alloc (.cells #[.int .i64 x,.int .i64 y,.int .i8 p] 30)) w.heap.size x y p:=by
 refine ⟨⟨?_,?_,?_⟩,fun o=>?_⟩ <;> simp [go_sem]
theorem Bx3.lt {W:World} {b:Nat} {x y p:Int} (h:Bx3 W b x y p):b<W.heap.size:=World.block_lt_of_cell? W _ h.1.1
theorem Bx3.below {W W':World} {B b:Nat} {x y p:Int} (h:Bx3 W b x y p) (hb:Below B W W') (hB:b<B):Bx3 W' b x y p:=by
 have q:∀ o,W'.cell? ⟨b,o,none⟩=W.cell? ⟨b,o,none⟩:=fun o=>hb.cell (p:=⟨b,o,none⟩) hB
 have f:∀ o,W'.frozen? ⟨b,o,none⟩=W.frozen? ⟨b,o,none⟩:=fun o=>hb.frozen (p:=⟨b,o,none⟩) hB
 unfold Bx3
 simp only [q,f]
 exact h
theorem Bx3.setp {W:World} {b:Nat} {x y p:Int} (h:Bx3 W b x y p) (u:Int):Bx3 (W.setCell ⟨b,2,none⟩ (.int .i8 u)) b x y u:=by
 have q:∀ o,o≠2->(W.setCell ⟨b,2,none⟩ (.int .i8 u)).cell? ⟨b,o,none⟩=W.cell? ⟨b,o,none⟩:=fun o ho=>World.cell?_setCell_other _ _ _ _ (by simp)
 refine ⟨⟨(q 0 (by decide)).trans h.1.1,(q 1 (by decide)).trans h.1.2.1,World.cell?_setCell_same _ _ _ h.1.2.2⟩,fun o=>(World.frozen?_setCell ..).trans (h.2 o)⟩
theorem b_true {b:Bool} {P:Prop} (h:b=true ↔ P) (hp:P):b=true:=h.2 hp
theorem b_false {b:Bool} {P:Prop} (h:b=true ↔ P) (hp:¬ P):b=false:=by
 cases b
 ·rfl
 ·exact absurd (h.1 rfl) hp
end Go.Proofs.YtbccbgonlmkpkaaGreatDoor
namespace Go.Proofs.YtbccbgonlmkpkaaGreatDoor
open Go.RowKit Go.Sort
def Bw (V W:World):Prop:=Below V.heap.size V W
theorem Bw.step {a:World} {V W:World} (h:Bw V W) (hb:Below W.heap.size W a):Bw V a:=Below.trans h (hb.mono (Below.size h))
theorem casM_hit {p:Po} {m:Mv} {k:Nat} (hk:k<4) (h6:kdP (pc p.l m.a)=6) (h0:m.p=0) (hn:∀ j,j<k->casB p m (bitK j)=false) (hy:casB p m (bitK k)=true):casM p m=bitK k:=by
 unfold casM
 rw [if_pos ⟨h6,h0⟩]
 match k,hk with
 | 0,_ =>
  have y:casB p m 1=true:=hy
  rw [if_pos y];rfl
 | 1,_ =>
  have y:casB p m 2=true:=hy
  have a:casB p m 1=false:=hn 0 (by omega)
  rw [if_neg (by simp [a]),if_pos y];rfl
 | 2,_ =>
  have y:casB p m 4=true:=hy
  have a:casB p m 1=false:=hn 0 (by omega)
  have b:casB p m 2=false:=hn 1 (by omega)
  rw [if_neg (by simp [a]),if_neg (by simp [b]),if_pos y];rfl
 | 3,_ =>
  have y:casB p m 8=true:=hy
  have a:casB p m 1=false:=hn 0 (by omega)
  have b:casB p m 2=false:=hn 1 (by omega)
  have c:casB p m 4=false:=hn 2 (by omega)
  rw [if_neg (by simp [a]),if_neg (by simp [b]),if_neg (by simp [c]),if_pos y];rfl
theorem casM_no {p:Po} {m:Mv} (hn:∀ j,j<4->casB p m (bitK j)=false):casM p m=0:=by
 unfold casM
 have a:casB p m 1=false:=hn 0 (by omega)
 have b:casB p m 2=false:=hn 1 (by omega)
 have c:casB p m 4=false:=hn 2 (by omega)
 have d:casB p m 8=false:=hn 3 (by omega)
 rw [a,b,c,d]
 simp
theorem way_bd {b:Nat} (h:b=1\/b=2\/b=4\/b=8):cKf b<64/\cKt b<64/\cRf b<64/\cRt b<64/\lineB 8 (cKf b:Int) (cRf b:Int)=true:=by
 rcases h with rfl | rfl | rfl | rfl <;> decide +kernel
theorem castV_at (w:World) (b:Nat):(w.alloc (.cells (castV b) 9)).cell? ⟨w.heap.size,0,none⟩=some (.string (nameB 8 (cKf b:Int)))/\(w.alloc (.cells (castV b) 9)).cell? ⟨w.heap.size,1,none⟩=some (.string (nameB 8 (cKt b:Int)))/\(w.alloc (.cells (castV b) 9)).cell? ⟨w.heap.size,2,none⟩=some (.string (nameB 8 (cRf b:Int)))/\(w.alloc (.cells (castV b) 9)).cell? ⟨w.heap.size,3,none⟩=some (.string (nameB 8 (cRt b:Int))):=by
 unfold castV
 refine ⟨?_,?_,?_,?_⟩ <;> simp [go_sem]
theorem rCstl_any (F R:Int) (l:List Int) (A:Option Addr) (c:Nat) (bl:Bool) (ca:Nat) (ps ha fu:Int) (x y t:Int) (hca:ca<256) (hlen:l.length<=64) (hx:0<=x/\x<(l.length:Int)) (ho:orthB (pc l x)=true) (hc8:∀ bit,bit=1\/bit=2\/bit=4\/bit=8->poBit ca bit=true->F=8/\R=8) (hl:(l.length:Int)=F * R) (w:World) (hA:RdP w w.heap.size A l c) :
  Calls Tryz.prog 39 #[.agg #[.int .i64 F,.int .i64 R,.slice A l.length c,.bool bl,.int .u8 (ca:Int),.int .i64 ps,.int .i64 ha,.int .i64 fu],.agg #[.int .i64 x,.int .i64 y,.int .i8 t]] w fun e w'=>e=.returned (.int .u8 (casM ⟨F,R,l,bl,ca,ps,ha,fu⟩ ⟨x,y,t⟩:Int))/\Below w.heap.size w w':=by
 have HK:=Lib.hid (fun w=>rKind_or (pc l x) ho w)
 obtain ⟨n,rfl⟩:∃ n:Nat,x=(n:Int):=⟨x.toNat,by omega⟩
 have hn:n<l.length:=by omega
 obtain ⟨ad,rfl,hb,hc⟩:=hA.at_ hn
 rw [<- pc_nat] at hc
 have B1:=box1 w (.cells #[.int .i64 F,.int .i64 R,.slice (some ad) l.length c,.bool bl,.int .u8 (ca:Int),.int .i64 ps,.int .i64 ha,.int .i64 fu] 26)
 have B2:=box1 (w.alloc (.cells #[.int .i64 F,.int .i64 R,.slice (some ad) l.length c,.bool bl,.int .u8 (ca:Int),.int .i64 ps,.int .i64 ha,.int .i64 fu] 26)) (.cells #[.int .i64 (n:Int),.int .i64 y,.int .i8 t] 30)
 have HA:=Lib.hid (rdBo B2 (rdBo B1 hA))
 have HX:=Lib.hid ((box8 w F R (.slice (some ad) l.length c) bl ca ps ha fu).below B2 (by simp))
 have HM:=(box3 (w.alloc (.cells #[.int .i64 F,.int .i64 R,.slice (some ad) l.length c,.bool bl,.int .u8 (ca:Int),.int .i64 ps,.int .i64 ha,.int .i64 fu] 26)) (n:Int) y t)
 rw [World.size_alloc] at HM
 replace HM:=Lib.hid HM
 have hcc:=cBo B2 (cBo B1 hc)
 have hB:=chain B1 B2
 have HH:=Lib.hid (fun k hk h6 h0 hn hy=>casM_hit (p:=⟨F,R,l,bl,ca,ps,ha,fu⟩) (m:=⟨(n:Int),y,t⟩) (k:=k) hk h6 h0 hn hy)
 have HN:=Lib.hid (casM_no (p:=⟨F,R,l,bl,ca,ps,ha,fu⟩) (m:=⟨(n:Int),y,t⟩))
 have HZ:Hid (¬ (kdP (pc l (n:Int))=6/\t=0)->casM ⟨F,R,l,bl,ca,ps,ha,fu⟩ ⟨(n:Int),y,t⟩=0):=Lib.hid (fun h=>by unfold casM;rw [if_neg h])
 have HE:=Lib.hid (fun z Z zc w hz hzl hA hZ=>rEmpty8_any F R l (some ad) c bl ca ps ha fu z Z zc w (by omega) hz hzl hA hZ)
 have HCB:Hid (∀ b,casB ⟨F,R,l,bl,ca,ps,ha,fu⟩ ⟨(n:Int),y,t⟩ b=(poBit ca b && ((decide (2<b) == bl) && ((n:Int) == (cKf b:Int) && (y == (cKt b:Int) && allE l (betL F R (cKf b:Int) (cRf b:Int))))))):=Lib.hid (fun b=>rfl)
 replace hc8:=Lib.hid hc8
 replace hl:=Lib.hid hl
 go_enter Tryz.func39,Tryz.ntmps39
 by_cases h6:kdP (pc l (n:Int))=6
 ·have e6:(kdP (pc l (n:Int)) != 6)=false:=by simp [h6]
  have H6:=Lib.hid h6
  clear h6 ho
  go_wp2_with fail
  refine (HK.out _).mono ?_
  rintro e w1 ⟨rfl,rfl⟩
  by_cases h0:t=0
  ·have e0:(t != 0)=false:=by simp [h0]
   have H0:=Lib.hid h0
   clear h0
   go_wp2
   have hk4:∀ k,k<4->(((w.alloc (.cells #[.int .i64 F,.int .i64 R,.slice (some ad) l.length c,.bool bl,.int .u8 (ca:Int),.int .i64 ps,.int .i64 ha,.int .i64 fu] 26)).alloc (.cells #[.int .i64 (n:Int),.int .i64 y,.int .i8 t] 30)).alloc (.cells #[.int .u8 1,.int .u8 2,.int .u8 4,.int .u8 8] 5)).cell? ⟨w.heap.size+2,k,none⟩=some (.int .u8 (bitK k:Int)):=by
    intro k hk
    match k,hk with
    | 0,_=>simp [go_sem,bitK]
    | 1,_=>simp [go_sem,bitK]
    | 2,_=>simp [go_sem,bitK]
    | 3,_=>simp [go_sem,bitK]
   have B3:=box1 ((w.alloc (.cells #[.int .i64 F,.int .i64 R,.slice (some ad) l.length c,.bool bl,.int .u8 (ca:Int),.int .i64 ps,.int .i64 ha,.int .i64 fu] 26)).alloc (.cells #[.int .i64 (n:Int),.int .i64 y,.int .i8 t] 30)) (.cells #[.int .u8 1,.int .u8 2,.int .u8 4,.int .u8 8] 5)
   have hs3:w.heap.size+3=(((w.alloc (.cells #[.int .i64 F,.int .i64 R,.slice (some ad) l.length c,.bool bl,.int .u8 (ca:Int),.int .i64 ps,.int .i64 ha,.int .i64 fu] 26)).alloc (.cells #[.int .i64 (n:Int),.int .i64 y,.int .i8 t] 30)).alloc (.cells #[.int .u8 1,.int .u8 2,.int .u8 4,.int .u8 8] 5)).heap.size:=by simp
   have HX3:=Lib.hid (HX.out.below B3 (by simp;omega))
   have HM3:=Lib.hid (HM.out.below B3 (by simp))
   have HA3:=Lib.hid (rdBo B3 HA.out)
   have hB3:=chain hB B3
   replace hk4:=Lib.hid hk4
   clear B1 B2 B3 HX HM HA hA hcc hB hc
   generalize ((w.alloc (.cells #[.int .i64 F,.int .i64 R,.slice (some ad) l.length c,.bool bl,.int .u8 (ca:Int),.int .i64 ps,.int .i64 ha,.int .i64 fu] 26)).alloc (.cells #[.int .i64 (n:Int),.int .i64 y,.int .i8 t] 30)).alloc (.cells #[.int .u8 1,.int .u8 2,.int .u8 4,.int .u8 8] 5)=W at *
   go_loopw [23] (fun i wr=>∃ k:Nat,k<=4/\i=.int .i64 k/\Hid (∀ j,j<k->casB ⟨F,R,l,bl,ca,ps,ha,fu⟩ ⟨(n:Int),y,t⟩ (bitK j)=false)/\Below W.heap.size W wr) (fun i _=>4 - (intOf i).toNat)
   case atStart=>exact ⟨0,by omega,rfl,Lib.hid (fun j hj=>absurd hj (by omega)),Below.refl _ _⟩
   case round =>
    obtain ⟨k,hk,rfl,HO,hR⟩:=hrel
    have s2:=hR.size
    by_cases hlt:k<4
    ·have hc:=(hR.cell (p:=⟨w.heap.size+2,k,none⟩) (show w.heap.size+2<W.heap.size by omega)).trans (hk4.out k hlt)
     have hbo:=bitK_or hlt
     have HCK:=Lib.hid (HCB.out (bitK k))
     have HHk:=Lib.hid (fun h=>HH.out k hlt H6.out H0.out HO.out h)
     have HOk:Hid (casB ⟨F,R,l,bl,ca,ps,ha,fu⟩ ⟨(n:Int),y,t⟩ (bitK k)=false->Hid (∀ j,j<k+1->casB ⟨F,R,l,bl,ca,ps,ha,fu⟩ ⟨(n:Int),y,t⟩ (bitK j)=false)):=Lib.hid (fun h=>Lib.hid (fun j hj=>by
      rcases Nat.lt_or_ge j k with hj2 | hj2
      ·exact HO.out j hj2
      ·have:j=k:=by omega
       subst this;exact h))
     have HWB:=Lib.hid (way_bd hbo)
     have HRW:=Lib.hid (fun w=>rRow_any (bitK k) hbo w)
     have HCA:=Lib.hid (fun h=>hc8.out (bitK k) hbo h)
     clear hk4 HCB
     generalize casB ⟨F,R,l,bl,ca,ps,ha,fu⟩ ⟨(n:Int),y,t⟩ (bitK k)=ck at *
     generalize bitK k=b at *
     go_wp2_with fail
     refine (HRW.out _).mono ?_
     rintro e w1 ⟨rfl,rfl⟩
     obtain ⟨r0,r1,r2,r3⟩:=castV_at wr b
     have B4:=box1 wr (.cells (castV b) 9)
     have hX4:=(HX3.out.below hR (by omega)).below B4 (by omega)
     have hM4:=(HM3.out.below hR (by omega)).below B4 (by omega)
     have HA4:=rdBo B4 (rdBo (hR.mono (Nat.le_refl _)) HA3.out)
     have hRV:=chain hR B4
     obtain ⟨y0,y1,y2,y3,yl⟩:=HWB.out
     have HS0:=Lib.hid (fun w=>rSquare_any (nameB 8 (cKf b:Int)) (cKf b) rfl y0 w)
     have HS1:=Lib.hid (fun w=>rSquare_any (nameB 8 (cKt b:Int)) (cKt b) rfl y1 w)
     have HS2:=Lib.hid (fun w=>rSquare_any (nameB 8 (cRf b:Int)) (cRf b) rfl y2 w)
     have HBT0:=Lib.hid (between_any 8 8 (cKf b:Int) (cRf b:Int) (vatN88 y0) (vatN88 y2) yl)
     have hzl0:∀ n∈betL 8 8 (cKf b:Int) (cRf b:Int),n<64:=betL_lt ⟨by omega,by omega,by omega,by omega⟩ _ _
     have hzn0:=betL_len 8 8 (cKf b:Int) (cRf b:Int)
     replace hzl0:=Lib.hid hzl0
     replace hzn0:=Lib.hid hzn0
     have HAV:Hid (∀ W',Bw (wr.alloc (.cells (castV b) 9)) W'->RdP W' W'.heap.size (some ad) l c):=Lib.hid (fun W' hW=>rdBo hW HA4)
     clear HA4 B4 HRW HWB y0 y1 y2 y3 yl
     generalize nameB 8 (cKf b:Int)=s0 at *
     generalize nameB 8 (cKt b:Int)=s1 at *
     generalize nameB 8 (cRf b:Int)=s2 at *
     generalize cKf b=k0 at *
     generalize cKt b=k1 at *
     generalize cRf b=k2 at *
     obtain ⟨⟨z0,z1,z2,z3,z4,z5,z6,z7⟩,zf⟩:=hX4
     obtain ⟨⟨m0,m1,m2⟩,mf⟩:=hM4
     clear zf mf r3 m2
     generalize hVe:wr.alloc (.cells (castV b) 9)=V at *
     replace hVe:=Lib.hid hVe
     have hb0:¬ (b:Int)=0:=by omega
     have hb1:(0:Int)<(b:Int):=by omega
     have hb2:(b:Int)<=8:=by omega
     clear hbo
     have hq:((ca:Int) / (b:Int) % 2 == 1)=poBit ca b:=by
      unfold poBit
      rw [show (ca:Int) / (b:Int) % 2=((ca / b % 2:Nat):Int) by simp]
      by_cases h:ca / b % 2=1
      ·simp [h]
      ·rw [beq_eq_false_iff_ne.2 h,beq_eq_false_iff_ne.2 (by omega)]
     have hquo:IntKind.u8.wrap ((ca:Int).tdiv (b:Int))=(ca:Int) / (b:Int):=IntWalk.u8_quo _ _ ⟨by omega,by omega,by omega⟩
     have hrem:IntKind.u8.wrap (((ca:Int) / (b:Int)).tmod 2)=(ca:Int) / (b:Int) % 2:=by
      have h0:0<=(ca:Int) / (b:Int):=Int.ediv_nonneg (by omega) (by omega)
      rw [Int.tmod_eq_emod_of_nonneg h0]
      exact IntWalk.u8_in _ ⟨by omega,by omega⟩
     have hb0':¬ b=0:=by omega
     have hwd:IntKind.u8.wrap ((ca:Int) / (b:Int))=(ca:Int) / (b:Int):=by
      have h0:0<=(ca:Int) / (b:Int):=Int.ediv_nonneg (by omega) (by omega)
      have h1:(ca:Int) / (b:Int)<=(ca:Int):=Int.ediv_le_self _ (by omega)
      exact IntWalk.u8_in _ ⟨h0,by omega⟩
     have hmd:((ca:Int) / (b:Int)).tmod 2=(ca:Int) / (b:Int) % 2:=Int.tmod_eq_emod_of_nonneg (Int.ediv_nonneg (by omega) (by omega))
     generalize poBit ca b=pb at *
     have hg:(decide (2<(b:Int)) == bl)=(decide (2<b) == bl):=by
      congr 1
      apply decide_eq_decide.2
      omega
     generalize (decide (2<b) == bl)=gb at *
     cases pb with
     | false =>
      go_wp2_with fail
      have kq0:=cell_regrown z0
      have kq1:=cell_regrown z1
      have kq2:=cell_regrown z2
      have kq3:=cell_regrown z3
      have kq4:=cell_regrown z4
      have kq5:=cell_regrown z5
      have kq6:=cell_regrown z6
      have kq7:=cell_regrown z7
      have kq8:=cell_regrown m0
      have kq9:=cell_regrown m1
      have kq10:=cell_regrown r0
      have kq11:=cell_regrown r1
      have kq12:=cell_regrown r2
      refine wp_region_quiet_below (by kernel_rfl) (by kernel_rfl) ?_
      repeat (go_big_quiet_step (first | (go_at_call 71;exact Calls.regrown_of (HS0.out _)) | (go_at_call 71;exact Calls.regrown_of (HS1.out _)) | (go_at_call 71;exact Calls.regrown_of (HS2.out _))))
      refine wpQuiet_nil ?_
      rintro _ ⟨⟨dq,osq⟩,rfl⟩
      have hQ:=below_regrown V dq osq
      go_wp2
      go_roundw
      case rel=>exact ⟨k+1,by omega,by go_num,HOk.out (by rw [HCK.out];rfl),chain hRV hQ⟩
      case measure=>simp [intOf];omega
     | true =>
      obtain ⟨rfl,rfl⟩:=HCA.out rfl
      clear HCA
      cases gb with
      | false =>
       go_wp2_with fail
       have kq0:=cell_regrown z0
       have kq1:=cell_regrown z1
       have kq2:=cell_regrown z2
       have kq3:=cell_regrown z3
       have kq4:=cell_regrown z4
       have kq5:=cell_regrown z5
       have kq6:=cell_regrown z6
       have kq7:=cell_regrown z7
       have kq8:=cell_regrown m0
       have kq9:=cell_regrown m1
       have kq10:=cell_regrown r0
       have kq11:=cell_regrown r1
       have kq12:=cell_regrown r2
       refine wp_region_quiet_below (by kernel_rfl) (by kernel_rfl) ?_
       repeat (go_big_quiet_step (first | (go_at_call 71;exact Calls.regrown_of (HS0.out _)) | (go_at_call 71;exact Calls.regrown_of (HS1.out _)) | (go_at_call 71;exact Calls.regrown_of (HS2.out _))))
       refine wpQuiet_nil ?_
       rintro _ ⟨⟨dq,osq⟩,rfl⟩
       have hQ:=below_regrown V dq osq
       go_wp2
       go_roundw
       case rel=>exact ⟨k+1,by omega,by go_num,HOk.out (by rw [HCK.out];rfl),chain hRV hQ⟩
       case measure=>simp [intOf];omega
      | true =>
       by_cases e3:(n:Int)=(k0:Int)
       ·have e3b:((n:Int) == (k0:Int))=true:=by simp [e3]
        rw [e3b] at HCK
        clear e3
        by_cases e4:y=(k1:Int)
        ·have e4b:(y == (k1:Int))=true:=by simp [e4]
         rw [e4b] at HCK
         clear e4
         have hl64:l.length=64:=by have:=hl.out;omega
         have HEM:=Lib.hid (fun Z zc w hA hZ=>HE.out (betL 8 8 (k0:Int) (k2:Int)) Z zc w (by have:=hzn0.out;omega) (fun n hn=>by rw [hl64];exact hzl0.out n hn) hA hZ)
         clear hzl0 hzn0 HE hl64
         generalize betL 8 8 (k0:Int) (k2:Int)=z at *
         generalize allE l z=al at *
         go_wp2_with fail
         have KB:∀ W':World,Bw V W'->(W'.cell? ⟨w.heap.size,0,none⟩=some (.int .i64 8)/\W'.cell? ⟨w.heap.size,1,none⟩=some (.int .i64 8)/\W'.cell? ⟨w.heap.size,2,none⟩=some (.slice (some ad) l.length c)/\W'.cell? ⟨w.heap.size,3,none⟩=some (.bool bl)/\W'.cell? ⟨w.heap.size,4,none⟩=some (.int .u8 (ca:Int))/\W'.cell? ⟨w.heap.size,5,none⟩=some (.int .i64 ps)/\W'.cell? ⟨w.heap.size,6,none⟩=some (.int .i64 ha)/\W'.cell? ⟨w.heap.size,7,none⟩=some (.int .i64 fu)/\W'.cell? ⟨w.heap.size+1,0,none⟩=some (.int .i64 (n:Int))/\W'.cell? ⟨w.heap.size+1,1,none⟩=some (.int .i64 y)/\W'.cell? ⟨wr.heap.size,0,none⟩=some (.string s0)/\W'.cell? ⟨wr.heap.size,1,none⟩=some (.string s1)/\W'.cell? ⟨wr.heap.size,2,none⟩=some (.string s2))/\Bw V W':=fun W' hW=>⟨⟨cBo hW (by assumption),cBo hW (by assumption),cBo hW (by assumption),cBo hW (by assumption),cBo hW (by assumption),cBo hW (by assumption),cBo hW (by assumption),cBo hW (by assumption),cBo hW (by assumption),cBo hW (by assumption),cBo hW (by assumption),cBo hW (by assumption),cBo hW (by assumption)⟩,hW⟩
         replace KB:=Lib.hid KB
         have hS0:=KB.out V (Below.refl _ _)
         (first | (go_region_held3 (fun w'=>(w'.cell? ⟨w.heap.size,0,none⟩=some (.int .i64 8)/\w'.cell? ⟨w.heap.size,1,none⟩=some (.int .i64 8)/\w'.cell? ⟨w.heap.size,2,none⟩=some (.slice (some ad) l.length c)/\w'.cell? ⟨w.heap.size,3,none⟩=some (.bool bl)/\w'.cell? ⟨w.heap.size,4,none⟩=some (.int .u8 (ca:Int))/\w'.cell? ⟨w.heap.size,5,none⟩=some (.int .i64 ps)/\w'.cell? ⟨w.heap.size,6,none⟩=some (.int .i64 ha)/\w'.cell? ⟨w.heap.size,7,none⟩=some (.int .i64 fu)/\w'.cell? ⟨w.heap.size+1,0,none⟩=some (.int .i64 (n:Int))/\w'.cell? ⟨w.heap.size+1,1,none⟩=some (.int .i64 y)/\w'.cell? ⟨wr.heap.size,0,none⟩=some (.string s0)/\w'.cell? ⟨wr.heap.size,1,none⟩=some (.string s1)/\w'.cell? ⟨wr.heap.size,2,none⟩=some (.string s2))/\Bw V w')
          (first | assumption | exact KB.out _ (Bw.step (And.right (by assumption)) (by assumption)) | exact KB.out _ (Bw.step (And.right (by assumption)) ((Below.refl _ _).drew)))
          (first
           | (go_at_call 71;refine (HS0.out _).mono ?_;rintro e wq0 ⟨rfl,hq0⟩)
           | (go_at_call 71;refine (HS1.out _).mono ?_;rintro e wq1 ⟨rfl,hq1⟩)
           | (go_at_call 71;refine (HS2.out _).mono ?_;rintro e wq2 ⟨rfl,hq2⟩)
           | (go_at_call 88;refine (HBT0.out _).mono ?_;rintro e wb ⟨Az,dz,rfl,hAz,hqb⟩)
           | (go_at_call 87;refine (HEM.out _ _ _ (HAV.out _ (And.right (by assumption:_/\Bw V _))) hAz).mono ?_;rintro e we ⟨rfl,hqe⟩))) | fail)
         have hQ:Below V.heap.size V we:=And.right (by assumption:_/\Bw V we)
         cases al with
         | false =>
          go_wp2
          go_roundw
          case rel=>exact ⟨k+1,by omega,by go_num,HOk.out (by rw [HCK.out];rfl),chain hRV hQ⟩
          case measure=>simp [intOf];omega
         | true =>
          go_wp2
          go_ret
          exact ⟨by rw [HHk.out (by rw [HCK.out];rfl)];rfl,chain hB3 (chain hRV hQ)⟩
        ·have e4b:(y == (k1:Int))=false:=by simp [e4]
         rw [e4b] at HCK
         clear e4
         go_wp2_with fail
         have kq0:=cell_regrown z0
         have kq1:=cell_regrown z1
         have kq2:=cell_regrown z2
         have kq3:=cell_regrown z3
         have kq4:=cell_regrown z4
         have kq5:=cell_regrown z5
         have kq6:=cell_regrown z6
         have kq7:=cell_regrown z7
         have kq8:=cell_regrown m0
         have kq9:=cell_regrown m1
         have kq10:=cell_regrown r0
         have kq11:=cell_regrown r1
         have kq12:=cell_regrown r2
         refine wp_region_quiet_below (by kernel_rfl) (by kernel_rfl) ?_
         repeat (go_big_quiet_step (first | (go_at_call 71;exact Calls.regrown_of (HS0.out _)) | (go_at_call 71;exact Calls.regrown_of (HS1.out _)) | (go_at_call 71;exact Calls.regrown_of (HS2.out _))))
         refine wpQuiet_nil ?_
         rintro _ ⟨⟨dq,osq⟩,rfl⟩
         have hQ:=below_regrown V dq osq
         go_wp2
         go_roundw
         case rel=>exact ⟨k+1,by omega,by go_num,HOk.out (by rw [HCK.out];rfl),chain hRV hQ⟩
         case measure=>simp [intOf];omega
       ·have e3b:((n:Int) == (k0:Int))=false:=by simp [e3]
        rw [e3b] at HCK
        clear e3
        go_wp2_with fail
        have kq0:=cell_regrown z0
        have kq1:=cell_regrown z1
        have kq2:=cell_regrown z2
        have kq3:=cell_regrown z3
        have kq4:=cell_regrown z4
        have kq5:=cell_regrown z5
        have kq6:=cell_regrown z6
        have kq7:=cell_regrown z7
        have kq8:=cell_regrown m0
        have kq9:=cell_regrown m1
        have kq10:=cell_regrown r0
        have kq11:=cell_regrown r1
        have kq12:=cell_regrown r2
        refine wp_region_quiet_below (by kernel_rfl) (by kernel_rfl) ?_
        repeat (go_big_quiet_step (first | (go_at_call 71;exact Calls.regrown_of (HS0.out _)) | (go_at_call 71;exact Calls.regrown_of (HS1.out _)) | (go_at_call 71;exact Calls.regrown_of (HS2.out _))))
        refine wpQuiet_nil ?_
        rintro _ ⟨⟨dq,osq⟩,rfl⟩
        have hQ:=below_regrown V dq osq
        go_wp2
        go_roundw
        case rel=>exact ⟨k+1,by omega,by go_num,HOk.out (by rw [HCK.out];rfl),chain hRV hQ⟩
        case measure=>simp [intOf];omega
    ·have hkl:k=4:=by omega
     subst hkl
     have HE4:=Lib.hid (HN.out HO.out)
     go_wp2
     go_ret
     exact ⟨by rw [HE4.out];rfl,chain hB3 hR⟩
  ·have e0:(t != 0)=true:=by simp [h0]
   have HE0:=Lib.hid (HZ.out (fun h=>h0 h.2))
   clear h0
   go_wp2
   go_ret
   exact ⟨by rw [HE0.out];rfl,hB⟩
 ·have e6:(kdP (pc l (n:Int)) != 6)=true:=by simp [h6]
  have HE0:=Lib.hid (HZ.out (fun h=>h6 h.1))
  clear h6 ho
  go_wp2_with fail
  refine (HK.out _).mono ?_
  rintro e w1 ⟨rfl,rfl⟩
  go_wp2
  go_ret
  exact ⟨by rw [HE0.out];rfl,hB⟩
end Go.Proofs.YtbccbgonlmkpkaaGreatDoor
