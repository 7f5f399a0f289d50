/- What the theorem needs, piece Zb15. -/
import Derived.Test.YtbccbgonlmkpkaaGreatDoorZb10
import Derived.Test.YtbccbgonlmkpkaaGreatDoorZb05
import Derived.Test.YtbccbgonlmkpkaaGreatDoorZb08
import Derived.Test.YtbccbgonlmkpkaaGreatDoorZb01
import Derived.Test.YtbccbgonlmkpkaaGreatDoorZb11
import Derived.Test.YtbccbgonlmkpkaaGreatDoorZb14
set_option linter.unusedSimpArgs false
set_option linter.unusedVariables false
set_option maxRecDepth 100000
set_option maxHeartbeats 16000000
namespace Go.Proofs.YtbccbgonlmkpkaaGreatDoor
open Go.RowKit
theorem lineB_symm2 (F a b:Int):lineB F b a=lineB F a b:=by
 unfold lineB
 rw [Bool.eq_iff_iff]
 simp
 omega
theorem cheb_symm2 (a b c d:Int):cheb (a - b) (c - d)=cheb (b - a) (d - c):=by unfold cheb;omega
theorem sg_symm2 (a b:Int):sg (a - b)=- sg (b - a):=by unfold sg;split <;> split <;> (try split) <;> (try split) <;> omega
theorem sg_val2 (n:Int):sg n=-1\/sg n=0\/sg n=1:=by unfold sg;split <;> (try split) <;> omega
theorem bet_sub2 {F R a b:Int} {i:Nat} (ha:vat F R a) (hb:vat F R b) (hl:lineB F a b=true) (hi:i∈betL F R a b):i∈betL F R b a:=by
 obtain ⟨m,m8,hm,hP,hN,hbet⟩:=line_ray ha hb hl
 obtain ⟨m',m8',hm',hP',hN',hbet'⟩:=line_ray hb ha (by rw [lineB_symm2];exact hl)
 rw [cheb_symm2 (a % F) (b % F) (a / F) (b / F),<- hm] at hm'
 obtain rfl:m'=m:=by omega
 rw [hbet] at hi
 rw [hbet']
 obtain ⟨j,hj,rfl⟩:=List.mem_map.1 hi
 have hj2:j<m':=List.mem_range.1 hj
 rw [List.mem_map]
 refine ⟨m' - 1 - j,List.mem_range.2 (by omega),?_⟩
 obtain ⟨e1,e2,_⟩:=ray_place ha.1 (hP m' (by omega))
 rw [hN] at e1 e2
 have hc:((m' - 1 - j:Nat):Int)=(m':Int) - 1 - (j:Int):=by omega
 have s1:=sg_symm2 (a % F) (b % F)
 have s2:=sg_symm2 (a / F) (b / F)
 unfold rayNum
 rw [s1,s2,hc]
 generalize a % F=x at *
 generalize b % F=u at *
 generalize a / F=y at *
 generalize b / F=v at *
 have v1:=sg_val2 (u - x)
 have v2:=sg_val2 (v - y)
 have k1:v+((m':Int) - 1 - (j:Int)+1) * -sg (v - y)=y+((j:Int)+1) * sg (v - y):=by
  generalize sg (v - y)=r at *
  rcases v2 with rfl | rfl | rfl <;> omega
 have k2:u+((m':Int) - 1 - (j:Int)+1) * -sg (u - x)=x+((j:Int)+1) * sg (u - x):=by
  generalize sg (u - x)=f at *
  rcases v1 with rfl | rfl | rfl <;> omega
 rw [k1,k2]
end Go.Proofs.YtbccbgonlmkpkaaGreatDoor
namespace Go.Proofs.YtbccbgonlmkpkaaGreatDoor
open Go.RowKit Go.Sort
theorem atk_mem {F R:Int} {l:List Int} {t:Int} {bl:Bool} {i:Nat}:i∈atkL F R l t bl ↔ (i<l.length/\sdP (sdN bl) (l[i]?.getD 0)=true)/\attP F R (l[i]?.getD 0) (ofL (occL l)) i t=true:=by
 unfold atkL
 rw [List.mem_filter,idx_mem]
 rfl
theorem freeN {l:List Nat} {X:Nat}:freeB (l.map fun i:Nat=>(i:Int)) X=true ↔ ∀ i∈l,X.testBit i=false:=by
 unfold freeB
 rw [List.all_eq_true]
 simp
end Go.Proofs.YtbccbgonlmkpkaaGreatDoor
namespace Go.Proofs.YtbccbgonlmkpkaaGreatDoor
open Go.RowKit
theorem ix7_0 (v0 v1 v2 v3 v4 v5 v6:Int) (w:World):(Instr.index 205 (.agg #[.int .u64 v0,.int .u64 v1,.int .u64 v2,.int .u64 v3,.int .u64 v4,.int .u64 v5,.int .u64 v6]) (.int .i64 0)).run Tryz.prog w=.ok (.int .u64 v0) w:=by kernel_rfl
theorem ix7_1 (v0 v1 v2 v3 v4 v5 v6:Int) (w:World):(Instr.index 205 (.agg #[.int .u64 v0,.int .u64 v1,.int .u64 v2,.int .u64 v3,.int .u64 v4,.int .u64 v5,.int .u64 v6]) (.int .i64 1)).run Tryz.prog w=.ok (.int .u64 v1) w:=by kernel_rfl
theorem ix7_2 (v0 v1 v2 v3 v4 v5 v6:Int) (w:World):(Instr.index 205 (.agg #[.int .u64 v0,.int .u64 v1,.int .u64 v2,.int .u64 v3,.int .u64 v4,.int .u64 v5,.int .u64 v6]) (.int .i64 2)).run Tryz.prog w=.ok (.int .u64 v2) w:=by kernel_rfl
theorem ix7_3 (v0 v1 v2 v3 v4 v5 v6:Int) (w:World):(Instr.index 205 (.agg #[.int .u64 v0,.int .u64 v1,.int .u64 v2,.int .u64 v3,.int .u64 v4,.int .u64 v5,.int .u64 v6]) (.int .i64 3)).run Tryz.prog w=.ok (.int .u64 v3) w:=by kernel_rfl
theorem ix7_4 (v0 v1 v2 v3 v4 v5 v6:Int) (w:World):(Instr.index 205 (.agg #[.int .u64 v0,.int .u64 v1,.int .u64 v2,.int .u64 v3,.int .u64 v4,.int .u64 v5,.int .u64 v6]) (.int .i64 4)).run Tryz.prog w=.ok (.int .u64 v4) w:=by kernel_rfl
theorem ix7_5 (v0 v1 v2 v3 v4 v5 v6:Int) (w:World):(Instr.index 205 (.agg #[.int .u64 v0,.int .u64 v1,.int .u64 v2,.int .u64 v3,.int .u64 v4,.int .u64 v5,.int .u64 v6]) (.int .i64 5)).run Tryz.prog w=.ok (.int .u64 v5) w:=by kernel_rfl
theorem ix7_6 (v0 v1 v2 v3 v4 v5 v6:Int) (w:World):(Instr.index 205 (.agg #[.int .u64 v0,.int .u64 v1,.int .u64 v2,.int .u64 v3,.int .u64 v4,.int .u64 v5,.int .u64 v6]) (.int .i64 6)).run Tryz.prog w=.ok (.int .u64 v6) w:=by kernel_rfl
theorem ofL_app (a b:List Nat):ofL (a ++ b)=ofL a ||| ofL b:=by
 apply Nat.eq_of_testBit_eq
 intro j
 rw [Nat.testBit_or,ofL_bit,ofL_bit,ofL_bit,Bool.eq_iff_iff]
 simp
theorem occ_or (l:List Int):sS l false ||| sS l true=ofL (occL l):=(ofL_app _ _).symm
theorem idx_64 (P:Int->Bool) (l:List Int) (h:l.length<=64):ofL (idx P l)<18446744073709551616:=by
 have:=ofL_lt (l:=idx P l) (n:=64) (fun i hi=>by have:=idx_lt hi;omega)
 simpa using this
theorem occ_full {F R:Int} {l:List Int} (hb:vbd F R l):ofL (occL l)<2 ^ (F * R).toNat:=by
 apply ofL_lt
 intro i hi
 unfold occL at hi
 have h1:=hb.2.1
 rcases List.mem_append.1 hi with h | h
 ·have:=idx_lt h;omega
 ·have:=idx_lt h;omega
theorem kS_zero (l:List Int) (bl:Bool):kS l bl 0=0:=by
 unfold kS idx idxTo
 have:(List.range l.length).filter (fun i=>kP bl 0 (l[i]?.getD 0))=[]:=by
  rw [List.filter_eq_nil_iff]
  intro i _
  simp [kP]
 rw [this]
 rfl
theorem kS_bit {l:List Int} {bl:Bool} {k j:Nat} (hk:1<=k):(kS l bl k).testBit j=true ↔ j<l.length/\l[j]?.getD 0=sdN bl * k:=by
 unfold kS
 rw [ofL_bit,decide_eq_true_eq,idx_mem]
 unfold kP
 simp only [Bool.and_eq_true,decide_eq_true_eq,beq_iff_eq]
 constructor
 ·rintro ⟨h1,_,h2⟩;exact ⟨h1,h2⟩
 ·rintro ⟨h1,h2⟩;exact ⟨h1,by omega,h2⟩
def accA (F R:Int) (l:List Int) (t:Int) (bl:Bool):Nat->Nat
 | 0=>0
 | k+1=>accA F R l t bl k ||| (kS l bl k &&& ofL (attL F R k (!bl) t (ofL (occL l))))
theorem accA_lt {F R:Int} {l:List Int} {t:Int} {bl:Bool} (hl:l.length<=64):∀ k,accA F R l t bl k<18446744073709551616
 | 0=>by simp [accA]
 | k+1=>by
  have h1:=accA_lt (F:=F) (R:=R) (t:=t) (bl:=bl) hl k
  have h2:kS l bl k &&& ofL (attL F R k (!bl) t (ofL (occL l)))<2 ^ 64:=Nat.lt_of_le_of_lt Nat.and_le_left (idx_64 (kP bl k) l hl)
  exact Nat.or_lt_two_pow (n:=64) h1 h2
theorem pick_lt {P:Nat->Bool} {F R:Int} (hv:vsz F R):∀ i∈pickTo P (F * R).toNat,i<64:=fun i hi=>by
 have:=(mem_pick.1 hi).1
 have:=(vsz_mul hv).2
 omega
theorem attL_64 {F R:Int} (hv:vsz F R) (k:Nat) (bl:Bool) (a:Int) (X:Nat):ofL (attL F R k bl a X)<18446744073709551616:=by
 have:=ofL_lt (l:=attL F R k bl a X) (n:=64) (fun i hi=>by
  unfold attL at hi
  split at hi
  ·exact pick_lt hv i hi
  ·exact pick_lt hv i hi)
 simpa using this
theorem acc_step {F R:Int} {l:List Int} {t:Int} {bl:Bool} (hv:vsz F R) (hl:l.length<=64) (k:Nat):bits .or .u64 (accA F R l t bl k:Int) (bits .and .u64 (kS l bl k:Int) (ofL (attL F R k (!bl) t (ofL (occL l))):Int))=(accA F R l t bl (k+1):Int):=by
 have h1:=u64_and_nat (kS l bl k) (ofL (attL F R k (!bl) t (ofL (occL l)))) (idx_64 (kP bl k) l hl) (attL_64 hv ..)
 rw [h1,u64_or_nat _ _ (accA_lt hl k)]
 ·rfl
 ·exact Nat.lt_of_le_of_lt Nat.and_le_left (idx_64 (kP bl k) l hl)
theorem acc_skip {F R:Int} {l:List Int} {t:Int} {bl:Bool} {k:Nat} (h:kS l bl k=0):accA F R l t bl (k+1)=accA F R l t bl k:=by
 unfold accA
 rw [h]
 cases k <;> simp [accA]
theorem lineB_sy (F a b:Int):lineB F b a=lineB F a b:=lineB_symm2 F a b
theorem free_sy {F R a b:Int} (ha:vat F R a) (hb:vat F R b) (hl:lineB F a b=true) (X:Nat):freeB ((betL F R b a).map fun i:Nat=>(i:Int)) X=freeB ((betL F R a b).map fun i:Nat=>(i:Int)) X:=by
 rw [Bool.eq_iff_iff,freeN,freeN]
 exact ⟨fun h i hi=>h i (bet_sub2 ha hb hl hi),fun h i hi=>h i (bet_sub2 hb ha (by rw [lineB_sy];exact hl) hi)⟩
theorem reachB_sy {F R k a b:Int} (ha:vat F R a) (hb:vat F R b) (X:Nat):reachB F R k b a X=reachB F R k a b X:=by
 unfold reachB
 have e1:(a % F - b % F) * (a % F - b % F)=(b % F - a % F) * (b % F - a % F):=by rw [<- Int.neg_mul_neg,Int.neg_sub]
 have e2:(a / F - b / F) * (a / F - b / F)=(b / F - a / F) * (b / F - a / F):=by rw [<- Int.neg_mul_neg,Int.neg_sub]
 have e3:((a % F - b % F == 0) || (a / F - b / F == 0))=((b % F - a % F == 0) || (b / F - a / F == 0)):=by rw [Bool.eq_iff_iff];simp;omega
 have e4:dist F b a=dist F a b:=by unfold dist;omega
 rw [e1,e2,e3,e4,lineB_sy]
 cases hl:lineB F a b
 ·simp
 ·rw [free_sy ha hb hl]
theorem reachB_ne {F R k a:Int} {X:Nat}:reachB F R k a a X=false:=by
 unfold reachB
 split
 ·simp
 ·split
  ·simp [dist]
  ·simp [lineB]
theorem sdN_kd {bl:Bool} {k:Nat} (hk:1<=k):kdP (sdN bl * k)=(k:Int)/\decide (sdN bl * k<0)=bl:=by
 unfold kdP
 cases bl
 ·simp [sdN];omega
 ·simp [sdN];omega
theorem mem_att {F R:Int} {k n:Nat} {bl:Bool} {a:Int} {X:Nat} (hn:(n:Int)<F * R):n∈attL F R k bl a X ↔ (if k=1 then pawnB F a bl (n:Int)=true else reachB F R k a (n:Int) X=true):=by
 have:n<(F * R).toNat:=by omega
 unfold attL
 split
 ·unfold pawnL;rw [mem_pick];simp [this]
 ·unfold reachL;rw [mem_pick];simp [this]
theorem att_back {F R:Int} {k n:Nat} {bl:Bool} {t:Int} {X:Nat} (hk:1<=k) (ht:vat F R t) (hn:vat F R (n:Int)):attP F R (sdN bl * k) X n t=true ↔ n∈attL F R k (!bl) t X:=by
 obtain ⟨e1,e2⟩:=sdN_kd (bl:=bl) hk
 rw [mem_att hn.2.2]
 unfold attP
 rw [e1,e2]
 by_cases h:k=1
 ·subst h
  rw [if_pos (by simp),if_pos rfl]
  have hh:hasL ((pawnL F R n bl).map fun i:Nat=>(i:Int)) t=true ↔ t.toNat∈pawnL F R n bl:=by
   unfold hasL
   rw [List.contains_iff_mem,List.mem_map]
   have:=ht.2.1
   constructor
   ·rintro ⟨x,hx,rfl⟩;simpa using hx
   ·intro hx;exact ⟨_,hx,by omega⟩
  have ht2:t.toNat<(F * R).toNat:=by have:=ht.2.1;have:=ht.2.2;omega
  have ht3:((t.toNat:Nat):Int)=t:=by have:=ht.2.1;omega
  rw [hh]
  unfold pawnL
  rw [mem_pick]
  simp only [ht2,ht3,true_and,pawnB]
  cases bl <;> simp [fwd] <;> omega
 ·rw [if_neg (by omega),if_neg h]
  rw [reachB_sy hn ht]
  by_cases hnt:(n:Int)=t
  ·subst hnt
   rw [reachB_ne]
   simp
  ·simp [hnt]
theorem orth_kind {bl:Bool} {p:Int} (ho:orB p=true) (hs:sdP (sdN bl) p=true):∃ k:Nat,1<=k/\k<=6/\p=sdN bl * k:=by
 unfold sdP sgnP at hs
 unfold orB orthB at ho
 refine ⟨p.natAbs,?_⟩
 cases bl
 ·simp [sdN] at hs ho ⊢
  split at hs
  ·simp at hs
  ·split at hs <;> simp at hs <;> omega
 ·simp [sdN] at hs ho ⊢
  split at hs
  ·omega
  ·by_cases h0:0<=p
   ·exact absurd (hs h0) (by omega)
   ·omega
theorem orA_at {l:List Int} (h:orA l=true) {j:Nat} (hj:j<l.length):orB (l[j]?.getD 0)=true:=by
 unfold orA at h
 rw [List.all_eq_true] at h
 rw [List.getElem?_eq_getElem hj]
 exact h _ (List.getElem_mem hj)
theorem sdP_kind {bl:Bool} {k:Nat} (hk:1<=k):sdP (sdN bl) (sdN bl * k)=true:=by
 unfold sdP sgnP
 cases bl
 ·simp [sdN];omega
 ·simp [sdN];omega
theorem acc_bit {F R:Int} {l:List Int} {t:Int} {bl:Bool} {j:Nat}:∀ k,(accA F R l t bl k).testBit j=true ↔ ∃ i,i<k/\(kS l bl i).testBit j=true/\j∈attL F R i (!bl) t (ofL (occL l))
 | 0=>by simp [accA]
 | k+1=>by
  unfold accA
  rw [Nat.testBit_or,Nat.testBit_and,ofL_bit,Bool.or_eq_true,acc_bit k,Bool.and_eq_true,decide_eq_true_eq]
  constructor
  ·rintro (⟨i,h1,h2⟩ | h)
   ·exact ⟨i,by omega,h2⟩
   ·exact ⟨k,by omega,h⟩
  ·rintro ⟨i,h1,h2⟩
   by_cases e:i=k
   ·subst e;exact .inr h2
   ·exact .inl ⟨i,by omega,h2⟩
theorem acc_all {F R:Int} {l:List Int} {t:Int} {bl:Bool} (hb:vbd F R l) (ho:orA l=true) (ht:vat F R t):accA F R l t bl 7=ofL (atkL F R l t bl):=by
 apply Nat.eq_of_testBit_eq
 intro j
 rw [Bool.eq_iff_iff,acc_bit,ofL_bit,decide_eq_true_eq,atk_mem]
 have hl:=hb.2.1
 constructor
 ·rintro ⟨i,h1,h2,h3⟩
  by_cases hi:i=0
  ·subst hi;rw [kS_zero] at h2;simp at h2
  ·obtain ⟨h4,h5⟩:=(kS_bit (by omega)).1 h2
   refine ⟨⟨h4,by rw [h5];exact sdP_kind (by omega)⟩,?_⟩
   rw [h5]
   exact (att_back (by omega) ht ⟨hb.1,by omega,by omega⟩).2 h3
 ·rintro ⟨⟨h1,h2⟩,h3⟩
  obtain ⟨k,k1,k6,e⟩:=orth_kind (orA_at ho h1) h2
  refine ⟨k,by omega,(kS_bit k1).2 ⟨h1,e⟩,?_⟩
  rw [e] at h3
  exact (att_back k1 ht ⟨hb.1,by omega,by omega⟩).1 h3
theorem aAtk_false (F R t:Int) (l:List Int) (B:Nat) (hb:vbd F R l) (ho:orA l=true) (ht:vat F R t) (w:World) (hT:Tb w) (hF:Fld w B F R (sS l) (kS l)) :
  Calls Tryz.prog 170 #[.pointer (some ⟨B,0,none⟩),.int .i64 t,.bool false] w fun e w'=>e=.returned (.int .u64 (ofL (atkL F R l t false):Int))/\Below w.heap.size w w':=by
 have hlen:l.length<=64:=by have:=(vsz_mul hb.1).2;have:=hb.2.1;omega
 rw [<- acc_all hb ho ht]
 have HO:=Lib.hid (fun w h1 h2=>aOcc_any B (sS l false) (sS l true) (idx_64 _ l hlen) (idx_64 _ l hlen) w h1 h2)
 rw [occ_or] at HO
 have HA:=Lib.hid (fun k hk hk6 w hT h0 h1=>aAtt_any F R t k true B (ofL (occL l)) hk hk6 ht (occ_full hb) w hT h0 h1)
 have HS:Hid (∀ w,Calls Tryz.prog 201 #[.pointer (some ⟨B,0,none⟩),.bool false] w fun e w'=>e=.returned (.pointer (some ⟨B,2,none⟩))/\w=w'):=Lib.hid (aSide_any B false)
 have HT:=Lib.hid hT
 have hF0:=Lib.hid hF
 have HE1:=Lib.hid (acc_step (F:=F) (R:=R) (t:=t) (bl:=false) hb.1 hlen 1)
 have HE2:=Lib.hid (acc_step (F:=F) (R:=R) (t:=t) (bl:=false) hb.1 hlen 2)
 have HE3:=Lib.hid (acc_step (F:=F) (R:=R) (t:=t) (bl:=false) hb.1 hlen 3)
 have HE4:=Lib.hid (acc_step (F:=F) (R:=R) (t:=t) (bl:=false) hb.1 hlen 4)
 have HE5:=Lib.hid (acc_step (F:=F) (R:=R) (t:=t) (bl:=false) hb.1 hlen 5)
 have HE6:=Lib.hid (acc_step (F:=F) (R:=R) (t:=t) (bl:=false) hb.1 hlen 6)
 have H0:Hid (accA F R l t false 0=0):=Lib.hid rfl
 clear hb ho ht hT
 have g0:=hF.2.2 false 0 (by omega)
 have g1:=hF.2.2 false 1 (by omega)
 have g2:=hF.2.2 false 2 (by omega)
 have g3:=hF.2.2 false 3 (by omega)
 have g4:=hF.2.2 false 4 (by omega)
 have g5:=hF.2.2 false 5 (by omega)
 have g6:=hF.2.2 false 6 (by omega)
 simp only [offN,if_false,Bool.false_eq_true,Nat.reduceAdd] at g0 g1 g2 g3 g4 g5 g6
 rw [kS_zero] at g0
 clear hF
 go_enter Tryz.func170,Tryz.ntmps170
 go_wp2_with fail
 refine (HS.out _).mono ?_
 rintro e w1 ⟨rfl,rfl⟩
 go_wp2_with fail
 go_loopw [7,8,9,16] (fun s _ _ i wr=>∃ (k:Nat) (m:Int),k<=7/\m=k/\i=.int .i64 m/\s=.int .u64 (accA F R l t false k:Nat)/\Below w.heap.size w wr) (fun _ _ _ i _=>7 - (intOf i).toNat)
 case atStart=>exact ⟨0,0,by omega,rfl,rfl,by rw [H0.out];rfl,Below.refl _ _⟩
 case round =>
  obtain ⟨k,m,hk,hm,rfl,rfl,hB⟩:=hrel
  clear H0 g0 g1 g2 g3 g4 g5 g6
  by_cases hlt:k<7
  ·rcases seven hlt with rfl | rfl | rfl | rfl | rfl | rfl | rfl
   ·obtain rfl:m=0:=hm
    have hx:=fun w'=>ix7_0 0 ((kS l false 1:Nat):Int) ((kS l false 2:Nat):Int) ((kS l false 3:Nat):Int) ((kS l false 4:Nat):Int) ((kS l false 5:Nat):Int) ((kS l false 6:Nat):Int) w'
    have HS2:=Lib.hid (acc_skip (F:=F) (R:=R) (t:=t) (kS_zero l false))
    go_wp2
    go_roundw
    case rel=>exact ⟨1,1,by omega,rfl,rfl,by rw [HS2.out],hB⟩
    case measure=>simp [intOf]
   ·obtain rfl:m=1:=hm
    have hx:=fun w'=>ix7_1 0 ((kS l false 1:Nat):Int) ((kS l false 2:Nat):Int) ((kS l false 3:Nat):Int) ((kS l false 4:Nat):Int) ((kS l false 5:Nat):Int) ((kS l false 6:Nat):Int) w'
    by_cases hz:kS l false 1=0
    ·have hz2:(((kS l false 1:Nat):Int) == 0)=true:=by simp [hz]
     have HS2:=Lib.hid (acc_skip (F:=F) (R:=R) (t:=t) hz)
     clear hz
     go_wp2
     go_roundw
     case rel=>exact ⟨2,2,by omega,rfl,rfl,by rw [HS2.out],hB⟩
     case measure=>simp [intOf]
    ·have hz2:(((kS l false 1:Nat):Int) == 0)=false:=beq_eq_false_iff_ne.2 (by omega)
     have hFr:=hF0.out.below hB
     clear hz
     go_wp2_with fail
     refine (HO.out _ (hFr.2.1 false) (hFr.2.1 true)).mono ?_
     rintro e w2 ⟨rfl,hb2⟩
     have hB2:=chain hB hb2
     have hFr2:=hF0.out.below hB2
     have hT2:=HT.out.below hB2
     clear hb2 hFr
     go_wp2_with fail
     refine (HA.out 1 (by omega) (by omega) _ hT2 hFr2.1.1 hFr2.1.2).mono ?_
     rintro e w3 ⟨rfl,hb3⟩
     have hB3:=chain hB2 hb3
     clear hb3 hFr2 hT2
     go_wp2
     go_roundw
     case rel=>exact ⟨2,2,by omega,rfl,rfl,by rw [<- HE1.out];rfl,hB3⟩
     case measure=>simp [intOf]
   ·obtain rfl:m=2:=hm
    have hx:=fun w'=>ix7_2 0 ((kS l false 1:Nat):Int) ((kS l false 2:Nat):Int) ((kS l false 3:Nat):Int) ((kS l false 4:Nat):Int) ((kS l false 5:Nat):Int) ((kS l false 6:Nat):Int) w'
    by_cases hz:kS l false 2=0
    ·have hz2:(((kS l false 2:Nat):Int) == 0)=true:=by simp [hz]
     have HS2:=Lib.hid (acc_skip (F:=F) (R:=R) (t:=t) hz)
     clear hz
     go_wp2
     go_roundw
     case rel=>exact ⟨3,3,by omega,rfl,rfl,by rw [HS2.out],hB⟩
     case measure=>simp [intOf]
    ·have hz2:(((kS l false 2:Nat):Int) == 0)=false:=beq_eq_false_iff_ne.2 (by omega)
     have hFr:=hF0.out.below hB
     clear hz
     go_wp2_with fail
     refine (HO.out _ (hFr.2.1 false) (hFr.2.1 true)).mono ?_
     rintro e w2 ⟨rfl,hb2⟩
     have hB2:=chain hB hb2
     have hFr2:=hF0.out.below hB2
     have hT2:=HT.out.below hB2
     clear hb2 hFr
     go_wp2_with fail
     refine (HA.out 2 (by omega) (by omega) _ hT2 hFr2.1.1 hFr2.1.2).mono ?_
     rintro e w3 ⟨rfl,hb3⟩
     have hB3:=chain hB2 hb3
     clear hb3 hFr2 hT2
     go_wp2
     go_roundw
     case rel=>exact ⟨3,3,by omega,rfl,rfl,by rw [<- HE2.out];rfl,hB3⟩
     case measure=>simp [intOf]
   ·obtain rfl:m=3:=hm
    have hx:=fun w'=>ix7_3 0 ((kS l false 1:Nat):Int) ((kS l false 2:Nat):Int) ((kS l false 3:Nat):Int) ((kS l false 4:Nat):Int) ((kS l false 5:Nat):Int) ((kS l false 6:Nat):Int) w'
    by_cases hz:kS l false 3=0
    ·have hz2:(((kS l false 3:Nat):Int) == 0)=true:=by simp [hz]
     have HS2:=Lib.hid (acc_skip (F:=F) (R:=R) (t:=t) hz)
     clear hz
     go_wp2
     go_roundw
     case rel=>exact ⟨4,4,by omega,rfl,rfl,by rw [HS2.out],hB⟩
     case measure=>simp [intOf]
    ·have hz2:(((kS l false 3:Nat):Int) == 0)=false:=beq_eq_false_iff_ne.2 (by omega)
     have hFr:=hF0.out.below hB
     clear hz
     go_wp2_with fail
     refine (HO.out _ (hFr.2.1 false) (hFr.2.1 true)).mono ?_
     rintro e w2 ⟨rfl,hb2⟩
     have hB2:=chain hB hb2
     have hFr2:=hF0.out.below hB2
     have hT2:=HT.out.below hB2
     clear hb2 hFr
     go_wp2_with fail
     refine (HA.out 3 (by omega) (by omega) _ hT2 hFr2.1.1 hFr2.1.2).mono ?_
     rintro e w3 ⟨rfl,hb3⟩
     have hB3:=chain hB2 hb3
     clear hb3 hFr2 hT2
     go_wp2
     go_roundw
     case rel=>exact ⟨4,4,by omega,rfl,rfl,by rw [<- HE3.out];rfl,hB3⟩
     case measure=>simp [intOf]
   ·obtain rfl:m=4:=hm
    have hx:=fun w'=>ix7_4 0 ((kS l false 1:Nat):Int) ((kS l false 2:Nat):Int) ((kS l false 3:Nat):Int) ((kS l false 4:Nat):Int) ((kS l false 5:Nat):Int) ((kS l false 6:Nat):Int) w'
    by_cases hz:kS l false 4=0
    ·have hz2:(((kS l false 4:Nat):Int) == 0)=true:=by simp [hz]
     have HS2:=Lib.hid (acc_skip (F:=F) (R:=R) (t:=t) hz)
     clear hz
     go_wp2
     go_roundw
     case rel=>exact ⟨5,5,by omega,rfl,rfl,by rw [HS2.out],hB⟩
     case measure=>simp [intOf]
    ·have hz2:(((kS l false 4:Nat):Int) == 0)=false:=beq_eq_false_iff_ne.2 (by omega)
     have hFr:=hF0.out.below hB
     clear hz
     go_wp2_with fail
     refine (HO.out _ (hFr.2.1 false) (hFr.2.1 true)).mono ?_
     rintro e w2 ⟨rfl,hb2⟩
     have hB2:=chain hB hb2
     have hFr2:=hF0.out.below hB2
     have hT2:=HT.out.below hB2
     clear hb2 hFr
     go_wp2_with fail
     refine (HA.out 4 (by omega) (by omega) _ hT2 hFr2.1.1 hFr2.1.2).mono ?_
     rintro e w3 ⟨rfl,hb3⟩
     have hB3:=chain hB2 hb3
     clear hb3 hFr2 hT2
     go_wp2
     go_roundw
     case rel=>exact ⟨5,5,by omega,rfl,rfl,by rw [<- HE4.out];rfl,hB3⟩
     case measure=>simp [intOf]
   ·obtain rfl:m=5:=hm
    have hx:=fun w'=>ix7_5 0 ((kS l false 1:Nat):Int) ((kS l false 2:Nat):Int) ((kS l false 3:Nat):Int) ((kS l false 4:Nat):Int) ((kS l false 5:Nat):Int) ((kS l false 6:Nat):Int) w'
    by_cases hz:kS l false 5=0
    ·have hz2:(((kS l false 5:Nat):Int) == 0)=true:=by simp [hz]
     have HS2:=Lib.hid (acc_skip (F:=F) (R:=R) (t:=t) hz)
     clear hz
     go_wp2
     go_roundw
     case rel=>exact ⟨6,6,by omega,rfl,rfl,by rw [HS2.out],hB⟩
     case measure=>simp [intOf]
    ·have hz2:(((kS l false 5:Nat):Int) == 0)=false:=beq_eq_false_iff_ne.2 (by omega)
     have hFr:=hF0.out.below hB
     clear hz
     go_wp2_with fail
     refine (HO.out _ (hFr.2.1 false) (hFr.2.1 true)).mono ?_
     rintro e w2 ⟨rfl,hb2⟩
     have hB2:=chain hB hb2
     have hFr2:=hF0.out.below hB2
     have hT2:=HT.out.below hB2
     clear hb2 hFr
     go_wp2_with fail
     refine (HA.out 5 (by omega) (by omega) _ hT2 hFr2.1.1 hFr2.1.2).mono ?_
     rintro e w3 ⟨rfl,hb3⟩
     have hB3:=chain hB2 hb3
     clear hb3 hFr2 hT2
     go_wp2
     go_roundw
     case rel=>exact ⟨6,6,by omega,rfl,rfl,by rw [<- HE5.out];rfl,hB3⟩
     case measure=>simp [intOf]
   ·obtain rfl:m=6:=hm
    have hx:=fun w'=>ix7_6 0 ((kS l false 1:Nat):Int) ((kS l false 2:Nat):Int) ((kS l false 3:Nat):Int) ((kS l false 4:Nat):Int) ((kS l false 5:Nat):Int) ((kS l false 6:Nat):Int) w'
    by_cases hz:kS l false 6=0
    ·have hz2:(((kS l false 6:Nat):Int) == 0)=true:=by simp [hz]
     have HS2:=Lib.hid (acc_skip (F:=F) (R:=R) (t:=t) hz)
     clear hz
     go_wp2
     go_roundw
     case rel=>exact ⟨7,7,by omega,rfl,rfl,by rw [HS2.out],hB⟩
     case measure=>simp [intOf]
    ·have hz2:(((kS l false 6:Nat):Int) == 0)=false:=beq_eq_false_iff_ne.2 (by omega)
     have hFr:=hF0.out.below hB
     clear hz
     go_wp2_with fail
     refine (HO.out _ (hFr.2.1 false) (hFr.2.1 true)).mono ?_
     rintro e w2 ⟨rfl,hb2⟩
     have hB2:=chain hB hb2
     have hFr2:=hF0.out.below hB2
     have hT2:=HT.out.below hB2
     clear hb2 hFr
     go_wp2_with fail
     refine (HA.out 6 (by omega) (by omega) _ hT2 hFr2.1.1 hFr2.1.2).mono ?_
     rintro e w3 ⟨rfl,hb3⟩
     have hB3:=chain hB2 hb3
     clear hb3 hFr2 hT2
     go_wp2
     go_roundw
     case rel=>exact ⟨7,7,by omega,rfl,rfl,by rw [<- HE6.out];rfl,hB3⟩
     case measure=>simp [intOf]
  ·obtain rfl:k=7:=by omega
   obtain rfl:m=7:=hm
   go_wp2
   go_ret
   exact ⟨rfl,hB⟩
theorem aAtk_true (F R t:Int) (l:List Int) (B:Nat) (hb:vbd F R l) (ho:orA l=true) (ht:vat F R t) (w:World) (hT:Tb w) (hF:Fld w B F R (sS l) (kS l)) :
  Calls Tryz.prog 170 #[.pointer (some ⟨B,0,none⟩),.int .i64 t,.bool true] w fun e w'=>e=.returned (.int .u64 (ofL (atkL F R l t true):Int))/\Below w.heap.size w w':=by
 have hlen:l.length<=64:=by have:=(vsz_mul hb.1).2;have:=hb.2.1;omega
 rw [<- acc_all hb ho ht]
 have HO:=Lib.hid (fun w h1 h2=>aOcc_any B (sS l false) (sS l true) (idx_64 _ l hlen) (idx_64 _ l hlen) w h1 h2)
 rw [occ_or] at HO
 have HA:=Lib.hid (fun k hk hk6 w hT h0 h1=>aAtt_any F R t k false B (ofL (occL l)) hk hk6 ht (occ_full hb) w hT h0 h1)
 have HS:Hid (∀ w,Calls Tryz.prog 201 #[.pointer (some ⟨B,0,none⟩),.bool true] w fun e w'=>e=.returned (.pointer (some ⟨B,10,none⟩))/\w=w'):=Lib.hid (aSide_any B true)
 have HT:=Lib.hid hT
 have hF0:=Lib.hid hF
 have HE1:=Lib.hid (acc_step (F:=F) (R:=R) (t:=t) (bl:=true) hb.1 hlen 1)
 have HE2:=Lib.hid (acc_step (F:=F) (R:=R) (t:=t) (bl:=true) hb.1 hlen 2)
 have HE3:=Lib.hid (acc_step (F:=F) (R:=R) (t:=t) (bl:=true) hb.1 hlen 3)
 have HE4:=Lib.hid (acc_step (F:=F) (R:=R) (t:=t) (bl:=true) hb.1 hlen 4)
 have HE5:=Lib.hid (acc_step (F:=F) (R:=R) (t:=t) (bl:=true) hb.1 hlen 5)
 have HE6:=Lib.hid (acc_step (F:=F) (R:=R) (t:=t) (bl:=true) hb.1 hlen 6)
 have H0:Hid (accA F R l t true 0=0):=Lib.hid rfl
 clear hb ho ht hT
 have g0:=hF.2.2 true 0 (by omega)
 have g1:=hF.2.2 true 1 (by omega)
 have g2:=hF.2.2 true 2 (by omega)
 have g3:=hF.2.2 true 3 (by omega)
 have g4:=hF.2.2 true 4 (by omega)
 have g5:=hF.2.2 true 5 (by omega)
 have g6:=hF.2.2 true 6 (by omega)
 simp only [offN,if_true,Nat.reduceAdd] at g0 g1 g2 g3 g4 g5 g6
 rw [kS_zero] at g0
 clear hF
 go_enter Tryz.func170,Tryz.ntmps170
 go_wp2_with fail
 refine (HS.out _).mono ?_
 rintro e w1 ⟨rfl,rfl⟩
 go_wp2_with fail
 go_loopw [7,8,9,16] (fun s _ _ i wr=>∃ (k:Nat) (m:Int),k<=7/\m=k/\i=.int .i64 m/\s=.int .u64 (accA F R l t true k:Nat)/\Below w.heap.size w wr) (fun _ _ _ i _=>7 - (intOf i).toNat)
 case atStart=>exact ⟨0,0,by omega,rfl,rfl,by rw [H0.out];rfl,Below.refl _ _⟩
 case round =>
  obtain ⟨k,m,hk,hm,rfl,rfl,hB⟩:=hrel
  clear H0 g0 g1 g2 g3 g4 g5 g6
  by_cases hlt:k<7
  ·rcases seven hlt with rfl | rfl | rfl | rfl | rfl | rfl | rfl
   ·obtain rfl:m=0:=hm
    have hx:=fun w'=>ix7_0 0 ((kS l true 1:Nat):Int) ((kS l true 2:Nat):Int) ((kS l true 3:Nat):Int) ((kS l true 4:Nat):Int) ((kS l true 5:Nat):Int) ((kS l true 6:Nat):Int) w'
    have HS2:=Lib.hid (acc_skip (F:=F) (R:=R) (t:=t) (kS_zero l true))
    go_wp2
    go_roundw
    case rel=>exact ⟨1,1,by omega,rfl,rfl,by rw [HS2.out],hB⟩
    case measure=>simp [intOf]
   ·obtain rfl:m=1:=hm
    have hx:=fun w'=>ix7_1 0 ((kS l true 1:Nat):Int) ((kS l true 2:Nat):Int) ((kS l true 3:Nat):Int) ((kS l true 4:Nat):Int) ((kS l true 5:Nat):Int) ((kS l true 6:Nat):Int) w'
    by_cases hz:kS l true 1=0
    ·have hz2:(((kS l true 1:Nat):Int) == 0)=true:=by simp [hz]
     have HS2:=Lib.hid (acc_skip (F:=F) (R:=R) (t:=t) hz)
     clear hz
     go_wp2
     go_roundw
     case rel=>exact ⟨2,2,by omega,rfl,rfl,by rw [HS2.out],hB⟩
     case measure=>simp [intOf]
    ·have hz2:(((kS l true 1:Nat):Int) == 0)=false:=beq_eq_false_iff_ne.2 (by omega)
     have hFr:=hF0.out.below hB
     clear hz
     go_wp2_with fail
     refine (HO.out _ (hFr.2.1 false) (hFr.2.1 true)).mono ?_
     rintro e w2 ⟨rfl,hb2⟩
     have hB2:=chain hB hb2
     have hFr2:=hF0.out.below hB2
     have hT2:=HT.out.below hB2
     clear hb2 hFr
     go_wp2_with fail
     refine (HA.out 1 (by omega) (by omega) _ hT2 hFr2.1.1 hFr2.1.2).mono ?_
     rintro e w3 ⟨rfl,hb3⟩
     have hB3:=chain hB2 hb3
     clear hb3 hFr2 hT2
     go_wp2
     go_roundw
     case rel=>exact ⟨2,2,by omega,rfl,rfl,by rw [<- HE1.out];rfl,hB3⟩
     case measure=>simp [intOf]
   ·obtain rfl:m=2:=hm
    have hx:=fun w'=>ix7_2 0 ((kS l true 1:Nat):Int) ((kS l true 2:Nat):Int) ((kS l true 3:Nat):Int) ((kS l true 4:Nat):Int) ((kS l true 5:Nat):Int) ((kS l true 6:Nat):Int) w'
    by_cases hz:kS l true 2=0
    ·have hz2:(((kS l true 2:Nat):Int) == 0)=true:=by simp [hz]
     have HS2:=Lib.hid (acc_skip (F:=F) (R:=R) (t:=t) hz)
     clear hz
     go_wp2
     go_roundw
     case rel=>exact ⟨3,3,by omega,rfl,rfl,by rw [HS2.out],hB⟩
     case measure=>simp [intOf]
    ·have hz2:(((kS l true 2:Nat):Int) == 0)=false:=beq_eq_false_iff_ne.2 (by omega)
     have hFr:=hF0.out.below hB
     clear hz
     go_wp2_with fail
     refine (HO.out _ (hFr.2.1 false) (hFr.2.1 true)).mono ?_
     rintro e w2 ⟨rfl,hb2⟩
     have hB2:=chain hB hb2
     have hFr2:=hF0.out.below hB2
     have hT2:=HT.out.below hB2
     clear hb2 hFr
     go_wp2_with fail
     refine (HA.out 2 (by omega) (by omega) _ hT2 hFr2.1.1 hFr2.1.2).mono ?_
     rintro e w3 ⟨rfl,hb3⟩
     have hB3:=chain hB2 hb3
     clear hb3 hFr2 hT2
     go_wp2
     go_roundw
     case rel=>exact ⟨3,3,by omega,rfl,rfl,by rw [<- HE2.out];rfl,hB3⟩
     case measure=>simp [intOf]
   ·obtain rfl:m=3:=hm
    have hx:=fun w'=>ix7_3 0 ((kS l true 1:Nat):Int) ((kS l true 2:Nat):Int) ((kS l true 3:Nat):Int) ((kS l true 4:Nat):Int) ((kS l true 5:Nat):Int) ((kS l true 6:Nat):Int) w'
    by_cases hz:kS l true 3=0
    ·have hz2:(((kS l true 3:Nat):Int) == 0)=true:=by simp [hz]
     have HS2:=Lib.hid (acc_skip (F:=F) (R:=R) (t:=t) hz)
     clear hz
     go_wp2
     go_roundw
     case rel=>exact ⟨4,4,by omega,rfl,rfl,by rw [HS2.out],hB⟩
     case measure=>simp [intOf]
    ·have hz2:(((kS l true 3:Nat):Int) == 0)=false:=beq_eq_false_iff_ne.2 (by omega)
     have hFr:=hF0.out.below hB
     clear hz
     go_wp2_with fail
     refine (HO.out _ (hFr.2.1 false) (hFr.2.1 true)).mono ?_
     rintro e w2 ⟨rfl,hb2⟩
     have hB2:=chain hB hb2
     have hFr2:=hF0.out.below hB2
     have hT2:=HT.out.below hB2
     clear hb2 hFr
     go_wp2_with fail
     refine (HA.out 3 (by omega) (by omega) _ hT2 hFr2.1.1 hFr2.1.2).mono ?_
     rintro e w3 ⟨rfl,hb3⟩
     have hB3:=chain hB2 hb3
     clear hb3 hFr2 hT2
     go_wp2
     go_roundw
     case rel=>exact ⟨4,4,by omega,rfl,rfl,by rw [<- HE3.out];rfl,hB3⟩
     case measure=>simp [intOf]
   ·obtain rfl:m=4:=hm
    have hx:=fun w'=>ix7_4 0 ((kS l true 1:Nat):Int) ((kS l true 2:Nat):Int) ((kS l true 3:Nat):Int) ((kS l true 4:Nat):Int) ((kS l true 5:Nat):Int) ((kS l true 6:Nat):Int) w'
    by_cases hz:kS l true 4=0
    ·have hz2:(((kS l true 4:Nat):Int) == 0)=true:=by simp [hz]
     have HS2:=Lib.hid (acc_skip (F:=F) (R:=R) (t:=t) hz)
     clear hz
     go_wp2
     go_roundw
     case rel=>exact ⟨5,5,by omega,rfl,rfl,by rw [HS2.out],hB⟩
     case measure=>simp [intOf]
    ·have hz2:(((kS l true 4:Nat):Int) == 0)=false:=beq_eq_false_iff_ne.2 (by omega)
     have hFr:=hF0.out.below hB
     clear hz
     go_wp2_with fail
     refine (HO.out _ (hFr.2.1 false) (hFr.2.1 true)).mono ?_
     rintro e w2 ⟨rfl,hb2⟩
     have hB2:=chain hB hb2
     have hFr2:=hF0.out.below hB2
     have hT2:=HT.out.below hB2
     clear hb2 hFr
     go_wp2_with fail
     refine (HA.out 4 (by omega) (by omega) _ hT2 hFr2.1.1 hFr2.1.2).mono ?_
     rintro e w3 ⟨rfl,hb3⟩
     have hB3:=chain hB2 hb3
     clear hb3 hFr2 hT2
     go_wp2
     go_roundw
     case rel=>exact ⟨5,5,by omega,rfl,rfl,by rw [<- HE4.out];rfl,hB3⟩
     case measure=>simp [intOf]
   ·obtain rfl:m=5:=hm
    have hx:=fun w'=>ix7_5 0 ((kS l true 1:Nat):Int) ((kS l true 2:Nat):Int) ((kS l true 3:Nat):Int) ((kS l true 4:Nat):Int) ((kS l true 5:Nat):Int) ((kS l true 6:Nat):Int) w'
    by_cases hz:kS l true 5=0
    ·have hz2:(((kS l true 5:Nat):Int) == 0)=true:=by simp [hz]
     have HS2:=Lib.hid (acc_skip (F:=F) (R:=R) (t:=t) hz)
     clear hz
     go_wp2
     go_roundw
     case rel=>exact ⟨6,6,by omega,rfl,rfl,by rw [HS2.out],hB⟩
     case measure=>simp [intOf]
    ·have hz2:(((kS l true 5:Nat):Int) == 0)=false:=beq_eq_false_iff_ne.2 (by omega)
     have hFr:=hF0.out.below hB
     clear hz
     go_wp2_with fail
     refine (HO.out _ (hFr.2.1 false) (hFr.2.1 true)).mono ?_
     rintro e w2 ⟨rfl,hb2⟩
     have hB2:=chain hB hb2
     have hFr2:=hF0.out.below hB2
     have hT2:=HT.out.below hB2
     clear hb2 hFr
     go_wp2_with fail
     refine (HA.out 5 (by omega) (by omega) _ hT2 hFr2.1.1 hFr2.1.2).mono ?_
     rintro e w3 ⟨rfl,hb3⟩
     have hB3:=chain hB2 hb3
     clear hb3 hFr2 hT2
     go_wp2
     go_roundw
     case rel=>exact ⟨6,6,by omega,rfl,rfl,by rw [<- HE5.out];rfl,hB3⟩
     case measure=>simp [intOf]
   ·obtain rfl:m=6:=hm
    have hx:=fun w'=>ix7_6 0 ((kS l true 1:Nat):Int) ((kS l true 2:Nat):Int) ((kS l true 3:Nat):Int) ((kS l true 4:Nat):Int) ((kS l true 5:Nat):Int) ((kS l true 6:Nat):Int) w'
    by_cases hz:kS l true 6=0
    ·have hz2:(((kS l true 6:Nat):Int) == 0)=true:=by simp [hz]
     have HS2:=Lib.hid (acc_skip (F:=F) (R:=R) (t:=t) hz)
     clear hz
     go_wp2
     go_roundw
     case rel=>exact ⟨7,7,by omega,rfl,rfl,by rw [HS2.out],hB⟩
     case measure=>simp [intOf]
    ·have hz2:(((kS l true 6:Nat):Int) == 0)=false:=beq_eq_false_iff_ne.2 (by omega)
     have hFr:=hF0.out.below hB
     clear hz
     go_wp2_with fail
     refine (HO.out _ (hFr.2.1 false) (hFr.2.1 true)).mono ?_
     rintro e w2 ⟨rfl,hb2⟩
     have hB2:=chain hB hb2
     have hFr2:=hF0.out.below hB2
     have hT2:=HT.out.below hB2
     clear hb2 hFr
     go_wp2_with fail
     refine (HA.out 6 (by omega) (by omega) _ hT2 hFr2.1.1 hFr2.1.2).mono ?_
     rintro e w3 ⟨rfl,hb3⟩
     have hB3:=chain hB2 hb3
     clear hb3 hFr2 hT2
     go_wp2
     go_roundw
     case rel=>exact ⟨7,7,by omega,rfl,rfl,by rw [<- HE6.out];rfl,hB3⟩
     case measure=>simp [intOf]
  ·obtain rfl:k=7:=by omega
   obtain rfl:m=7:=hm
   go_wp2
   go_ret
   exact ⟨rfl,hB⟩
theorem aAtk_any (F R t:Int) (l:List Int) (bl:Bool) (B:Nat) (hb:vbd F R l) (ho:orA l=true) (ht:vat F R t) (w:World) (hT:Tb w) (hF:Fld w B F R (sS l) (kS l)) :
  Calls Tryz.prog 170 #[.pointer (some ⟨B,0,none⟩),.int .i64 t,.bool bl] w fun e w'=>e=.returned (.int .u64 (ofL (atkL F R l t bl):Int))/\Below w.heap.size w w':=by
 cases bl
 ·exact aAtk_false F R t l B hb ho ht w hT hF
 ·exact aAtk_true F R t l B hb ho ht w hT hF
end Go.Proofs.YtbccbgonlmkpkaaGreatDoor
