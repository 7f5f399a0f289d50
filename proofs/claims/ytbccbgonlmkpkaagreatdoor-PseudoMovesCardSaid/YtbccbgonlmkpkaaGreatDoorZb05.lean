/- What the theorem needs, piece Zb05. -/
import Derived.Lib.QuietBelow
import Derived.Sort.AtCall
import Derived.Test.YtbccbgonlmkpkaaGreatDoorZb02
import Derived.Test.YtbccbgonlmkpkaaGreatDoorZb04
import Derived.Laws.BytesString
import Derived.Lib.Hide
import Derived.Test.YtbccbgonlmkpkaaGreatDoorZb00
import Derived.Lib.ItoaNum
import Derived.Lib.AtoiAll
import Derived.Test.YtbccbgonlmkpkaaGreatDoorZb01
set_option linter.unusedSimpArgs false
set_option linter.unusedVariables false
set_option maxRecDepth 100000
set_option maxHeartbeats 16000000
namespace Go.Proofs.YtbccbgonlmkpkaaGreatDoor
open Go.RowKit Go.Sort
def kdP (p:Int):Int:=if p<0 then -p else p
theorem rKind_or (p:Int) (h:orthB p=true) (w:World):Calls Tryz.prog 65 #[.int .i8 p] w fun e w'=>e=.returned (.int .i8 (kdP p))/\w=w':=by
 unfold orthB at h
 simp at h
 unfold kdP
 by_cases hn:p<0
 ·rw [if_pos hn]
  have:=rKind_neg (-p).toNat (by omega) (by omega) w
  rwa [show (-(((-p).toNat:Nat):Int))=p by omega,show (((-p).toNat:Nat):Int)=-p by omega] at this
 ·rw [if_neg hn]
  have:=rKind_pos p.toNat (by omega) w
  rwa [show ((p.toNat:Nat):Int)=p by omega] at this
theorem kdP_or {p:Int} (h:orthB p=true):kdP p=1\/kdP p=2\/kdP p=3\/kdP p=4\/kdP p=5\/kdP p=6:=by
 unfold orthB at h
 simp at h
 unfold kdP
 split <;> omega
theorem rhasN (z:List Nat) (n:Int) (A:Option Addr) (c:Nat) (w:World) (hlen:z.length<=100000) (hA:RdI w w.heap.size A (z.map fun i:Nat=>(i:Int))) :
  Calls Tryz.prog 209 #[.slice A z.length c,.int .i64 n] w fun e w'=>e=.returned (.bool (hasL (z.map fun i:Nat=>(i:Int)) n))/\w=w':=by
 have:=rhas_any (z.map fun i:Nat=>(i:Int)) n A c w (by simpa using hlen) hA
 rwa [List.length_map] at this
def attP (F R p:Int) (X:Nat) (n t:Int):Bool:=if kdP p=1 then hasL ((pawnL F R n (decide (p<0))).map fun i:Nat=>(i:Int)) t else !(n == t) && reachB F R (kdP p) n t X
theorem ratt_any (F R:Int) (l:List Int) (A:Option Addr) (c:Nat) (n:Nat) (t:Int) (X:Nat) (hX:X<18446744073709551616) (w:World) (hv:vsz F R) (hl:(l.length:Int)=F * R) (hn:n<l.length) (ho:orthB (l[n]?.getD 0)=true) (ht:vat F R t) (hA:RdP w w.heap.size A l c) :
  Calls Tryz.prog 177 #[.agg #[.int .i64 F,.int .i64 R,.slice A l.length c],.int .i64 n,.int .i64 t,.int .u64 X] w fun e w'=>e=.returned (.bool (attP F R (l[n]?.getD 0) X n t))/\Below w.heap.size w w':=by
 have hnv:vat F R (n:Int):=⟨hv,by omega,by omega⟩
 have hlen:l.length<=64:=by have:=(vsz_mul hv).2;omega
 obtain ⟨ad,rfl,hb,hc⟩:=hA.at_ hn
 have hAb:=hA
 clear hA
 obtain ⟨p,hp⟩:∃ p,l[n]?.getD 0=p:=⟨_,rfl⟩
 rw [hp] at ho hc ⊢
 have HK:=Lib.hid (rKind_or p ho)
 have hk:=kdP_or ho
 have hc2:=alive (.cells #[.int .i64 F,.int .i64 R,.slice (some ad) l.length c] 97) hc
 unfold attP
 clear hp hc ho hAb
 by_cases h1:kdP p=1
 ·rw [if_pos h1]
  rw [h1] at HK
  clear h1 hk
  have HP:=Lib.hid (rPawn_any F R n (decide (p<0)) hnv)
  have HLN:Hid ((pawnL F R n (decide (p<0))).length<=100000):=Lib.hid (by unfold pawnL;have:=pickTo_le (fun b=>pawnB F n (decide (p<0)) (b:Int)) (F * R).toNat;have:=(vsz_mul hv).2;omega)
  generalize pawnL F R n (decide (p<0))=z at *
  go_enter Tryz.func177,Tryz.ntmps177
  go_wp2_with fail
  refine (HK.out _).mono ?_
  rintro e wx ⟨rfl,rfl⟩
  go_wp2_with fail
  refine (HP.out _).mono ?_
  rintro e w1 ⟨v,rfl,hown,hb1⟩
  obtain ⟨A2,c2,rfl,_,hA2⟩:=RdI.own' hown
  go_wp2_with fail
  refine (rhasN z t A2 c2 _ HLN.out hA2).mono ?_
  rintro e wy ⟨rfl,rfl⟩
  go_wp2
  go_ret
  exact ⟨rfl,after1 hb1⟩
 ·rw [if_neg h1]
  have h1b:(kdP p == 1)=false:=beq_eq_false_iff_ne.2 h1
  have hk2:kdP p=2\/kdP p=3\/kdP p=4\/kdP p=5\/kdP p=6:=by omega
  have HR:=Lib.hid (reaches_any F R (kdP p) n t hk2 hnv ht X hX)
  clear h1 hk hk2
  generalize kdP p=k at *
  generalize reachB F R k n t X=r at *
  obtain ⟨V,hV⟩:∃ V,w.alloc (.cells #[.int .i64 F,.int .i64 R,.slice (some ad) l.length c] 97)=V:=⟨_,rfl⟩
  have c0:V.cell? ⟨w.heap.size,0,none⟩=some (.int .i64 F):=by rw [<- hV];simp [go_sem]
  have c1:V.cell? ⟨w.heap.size,1,none⟩=some (.int .i64 R):=by rw [<- hV];simp [go_sem]
  have hB:Below w.heap.size w V:=by rw [<- hV];exact box1 _ _
  have HV:=Lib.hid hV
  clear hV
  have q0:=cell_regrown c0
  have q1:=cell_regrown c1
  have cK:∀ d os,Calls Tryz.prog 65 #[.int .i8 p] (grow (redrawn V d) os) fun e w''=>e=.returned (.int .i8 k)/\∃ q:Regrown,w''=grow (redrawn V q.d) q.os:=fun d os=>Calls.regrown_of ((HK.out _).mono fun _ _ h=>⟨h.1,by rw [<- h.2];exact Below.refl _ _⟩)
  have cR:∀ d os,Calls Tryz.prog 122 #[.agg #[.int .i64 F,.int .i64 R],.int .i8 k,.int .i64 n,.int .i64 t,.int .u64 X] (grow (redrawn V d) os) fun e w''=>e=.returned (.bool r)/\∃ q:Regrown,w''=grow (redrawn V q.d) q.os:=fun d os=>Calls.regrown_of (HR.out _)
  by_cases hnt:(n:Int)=t
  ·have e1:((n:Int) == t)=true:=by simp [hnt]
   have e2:((n:Int) != t)=false:=by simp [hnt]
   rw [e1]
   clear hnt
   go_enter Tryz.func177,Tryz.ntmps177
   go_wp2_with fail
   refine (HK.out _).mono ?_
   rintro e wx ⟨rfl,rfl⟩
   rw [HV.out]
   go_wp2_with fail
   refine wp_region_quiet_below (by kernel_rfl) (by kernel_rfl) ?_
   repeat (go_big_quiet_step (fail))
   refine wpQuiet_nil ?_
   rintro _ ⟨⟨dq,osq⟩,rfl⟩
   go_wp2
   go_ret
   exact ⟨rfl,chain hB (below_regrown _ dq osq)⟩
  ·have e1:((n:Int) == t)=false:=by simp [hnt]
   have e2:((n:Int) != t)=true:=by simp [hnt]
   rw [e1]
   clear hnt
   go_enter Tryz.func177,Tryz.ntmps177
   go_wp2_with fail
   refine (HK.out _).mono ?_
   rintro e wx ⟨rfl,rfl⟩
   rw [HV.out]
   go_wp2_with fail
   refine wp_region_quiet_below (by kernel_rfl) (by kernel_rfl) ?_
   repeat (go_big_quiet_step (first | (go_at_call 65;exact cK _ _) | (go_at_call 122;exact cR _ _)))
   refine wpQuiet_nil ?_
   rintro _ ⟨⟨dq,osq⟩,rfl⟩
   go_wp2
   go_ret
   exact ⟨by simp,chain hB (below_regrown _ dq osq)⟩
end Go.Proofs.YtbccbgonlmkpkaaGreatDoor
namespace Go.Proofs.YtbccbgonlmkpkaaGreatDoor
open Go.RowKit Go.Sort
def atkP (F R:Int) (l:List Int) (X:Nat) (t:Int) (n:Nat):Bool:=attP F R (l[n]?.getD 0) X n t
def atkL (F R:Int) (l:List Int) (t:Int) (bl:Bool):List Nat:=(idx (sdP (sdN bl)) l).filter (atkP F R l (ofL (occL l)) t)
theorem idx_mem {P:Int->Bool} {l:List Int} {n:Nat}:n∈idx P l ↔ n<l.length/\P (l[n]?.getD 0)=true:=by
 unfold idx idxTo
 rw [List.mem_filter]
 simp
theorem side_or {l:List Int} {n:Nat} {bl:Bool} (ho:orA l=true) (h:n∈idx (sdP (sdN bl)) l):n<l.length/\orthB (l[n]?.getD 0)=true:=by
 obtain ⟨h1,h2⟩:=idx_mem.1 h
 refine ⟨h1,?_⟩
 unfold orA at ho
 have h3:=List.all_eq_true.1 ho (l[n]) (List.getElem_mem h1)
 rw [List.getElem?_eq_getElem h1] at h2 ⊢
 simp only [Option.getD_some] at h2 ⊢
 unfold orB at h3
 unfold sdP sgnP at h2
 by_cases h0:l[n]=0
 ·rw [h0] at h2
  cases bl <;> simp [sdN] at h2
 ·simpa [h0] using h3
theorem take_filter_yes {P:Nat->Bool} {z:List Nat} {k:Nat} (hk:k<z.length) (h:P z[k]=true):(z.take (k+1)).filter P=(z.take k).filter P ++ [z[k]]:=by
 rw [List.take_succ_eq_append_getElem hk,List.filter_append]
 simp [h]
theorem take_filter_no {P:Nat->Bool} {z:List Nat} {k:Nat} (hk:k<z.length) (h:P z[k]=false):(z.take (k+1)).filter P=(z.take k).filter P:=by
 rw [List.take_succ_eq_append_getElem hk,List.filter_append]
 simp [h]
theorem filter_len {P:Nat->Bool} {z:List Nat} (k:Nat):((z.take k).filter P).length<=k:=by
 have h1:=List.length_filter_le P (z.take k)
 rw [List.length_take] at h1
 omega
theorem SrcI.at_ {w:World} {A:Option Addr} {l:List Nat} {c:Nat} (h:SrcI w A l c) {k:Nat} (hk:k<l.length):∃ ad,A=some ad/\ad.block<w.heap.size/\w.cell? (ad.add k)=some (.int .i64 ((l[k]:Nat):Int)):=by
 cases A with
 | none=>have:=(h.1 rfl).1;omega
 | some ad =>
  obtain ⟨h1,h2⟩:=h.2 ad rfl
  refine ⟨ad,rfl,h1,h2 k _ ?_⟩
  unfold vnats
  rw [List.getElem?_map,List.getElem?_eq_getElem hk]
  rfl
theorem ratkL_any (F R:Int) (l:List Int) (A:Option Addr) (c:Nat) (t:Int) (bl:Bool) (w:World) (hb:vbd F R l) (ho:orA l=true) (ht:vat F R t) (hA:RdP w w.heap.size A l c) :
  Calls Tryz.prog 124 #[.agg #[.int .i64 F,.int .i64 R,.slice A l.length c],.int .i64 t,.bool bl] w fun e w'=>∃ v,e=.returned v/\w'.ownsRow w.heap.size 3 1 v (atkL F R l t bl).length (vnats (atkL F R l t bl))/\Below w.heap.size w w':=by
 obtain ⟨i0,hi,hz0,hz1,hz2⟩:=info_parts ints3
 obtain ⟨hv,hl,hp⟩:=hb
 have hlen:l.length<=64:=by have:=(vsz_mul hv).2;omega
 have H1:=Lib.hid (fun w hA=>rSideL_any F R l A c (sdN bl) w (by omega) hp hA)
 have H2:=Lib.hid (fun w hA=>rOcc_any F R l A c w hlen hp hA)
 have HX:Hid (ofL (occL l)<18446744073709551616):=Lib.hid (by
  have:=ofL_lt (l:=occL l) (n:=64) (fun i hi=>by
   unfold occL at hi
   rcases List.mem_append.1 hi with h | h <;> have:=idx_lt h <;> omega)
  simpa using this)
 have HATT:=Lib.hid (fun n X (hX:X<18446744073709551616) w (hn:n∈idx (sdP (sdN bl)) l) hA=>ratt_any F R l A c n t X hX w hv hl (side_or ho hn).1 (side_or ho hn).2 ht hA)
 have hzl:(idx (sdP (sdN bl)) l).length<=64:=Nat.le_trans (idx_len _ _) hlen
 unfold atkL
 have HRS:=Lib.hid (rside_any bl)
 generalize sdN bl=s at *
 clear hp hl ht ho
 generalize ofL (occL l)=X at *
 obtain ⟨P,hP⟩:∃ P,atkP F R l X t=P:=⟨_,rfl⟩
 have HPP:=Lib.hid hP
 rw [hP]
 clear hP
 go_enter Tryz.func124,Tryz.ntmps124
 go_wp2_with fail
 obtain ⟨V,hV⟩:∃ V,w.alloc (.cells #[.int .i64 F,.int .i64 R,.slice A l.length c] 97)=V:=⟨_,rfl⟩
 have h0:V.cell? ⟨w.heap.size,0,none⟩=some (.int .i64 F)/\V.cell? ⟨w.heap.size,1,none⟩=some (.int .i64 R)/\V.cell? ⟨w.heap.size,2,none⟩=some (.slice A l.length c)/\St w A l c V:=by
  rw [<- hV]
  exact ⟨by simp [go_sem],by simp [go_sem],by simp [go_sem],hA.below (box1 _ _),box1 _ _,by simp⟩
 rw [hV]
 clear hV hA
 go_region_held3 (fun w'=>w'.cell? ⟨w.heap.size,0,none⟩=some (.int .i64 F)/\w'.cell? ⟨w.heap.size,1,none⟩=some (.int .i64 R)/\w'.cell? ⟨w.heap.size,2,none⟩=some (.slice A l.length c)/\St w A l c w')
  (first | assumption | exact keepS2 (by assumption) (by assumption) | exact keepS (by assumption) (by assumption) | exact keepS (by assumption) ((Below.refl _ _).drew))
  (first
   | (go_at_call 132;refine (HRS.out _).mono ?_;rintro e wx ⟨rfl,rfl⟩)
   | (go_at_call 176;refine (H1.out _ (rdS (by assumption))).mono ?_;rintro e w1 ⟨v1,rfl,hown1,hb1⟩;obtain ⟨A1,d1,rfl,hs1⟩:=SrcI.own hown1)
   | (go_at_call 123;refine (H2.out _ (rdS (by assumption))).mono ?_;rintro e w2 ⟨rfl,hb2⟩;have hs2:=hs1.below hb2))
 have hH:=(by assumption:w2.cell? ⟨w.heap.size,0,none⟩=some (.int .i64 F)/\w2.cell? ⟨w.heap.size,1,none⟩=some (.int .i64 R)/\w2.cell? ⟨w.heap.size,2,none⟩=some (.slice A l.length c)/\St w A l c w2)
 obtain ⟨c0,c1,c2,hR,hB,hsz⟩:=hH
 obtain ⟨z,hz⟩:∃ z,idx (sdP s) l=z:=⟨_,rfl⟩
 rw [hz] at hs2 HATT hzl ⊢
 have HZ:=Lib.hid hz
 clear hz h0 hb1 hs1 hown1 hb2
 go_wp2
 go_loopw [7,10] (fun v i wr=>∃ k:Nat,k<=z.length/\i=.int .i64 k/\wr.ownsRow w2.heap.size 3 1 v ((z.take k).filter P).length (vnats ((z.take k).filter P))/\Below w2.heap.size w2 wr) (fun _ i _=>z.length - (intOf i).toNat)
 case atStart=>exact ⟨0,by omega,rfl,World.ownsRow_nil _ _ _ _,Below.refl _ _⟩
 case round =>
  obtain ⟨k,hk,rfl,hown,hBr⟩:=hrel
  have s2:=hBr.size
  by_cases hlt:k<z.length
  ·obtain ⟨ad,rfl,hbl,hc⟩:=hs2.at_ hlt
   have d0:=cBo hBr c0
   have d1:=cBo hBr c1
   have d2:=cBo hBr c2
   have dc:=cBo hBr hc
   have hmem:z[k]∈z:=List.getElem_mem hlt
   have hfy:=fun h=>take_filter_yes (P:=P) hlt h
   have hfn:=fun h=>take_filter_no (P:=P) hlt h
   have hfl:=filter_len (P:=P) (z:=z) k
   obtain ⟨y,hy⟩:∃ y,z[k]=y:=⟨_,rfl⟩
   rw [hy] at dc hmem hfy hfn
   have HFY:=Lib.hid hfy
   have HFN:=Lib.hid hfn
   have hPy:attP F R (l[y]?.getD 0) X y t=P y:=by rw [<- HPP.out];rfl
   have hq:=HATT.out y X HX.out
   rw [hPy] at hq
   have HQ:=Lib.hid hq
   have HRD:=Lib.hid hR
   clear hy hc hfy hfn hPy hq
   have q0:=cell_regrown d0
   have q1:=cell_regrown d1
   have q2:=cell_regrown d2
   have qc:=cell_regrown dc
   have cA:∀ d os,Calls Tryz.prog 177 #[.agg #[.int .i64 F,.int .i64 R,.slice A l.length c],.int .i64 y,.int .i64 t,.int .u64 X] (grow (redrawn wr d) os) fun e w''=>e=.returned (.bool (P y))/\∃ q:Regrown,w''=grow (redrawn wr q.d) q.os:=fun d os=>Calls.regrown_of (HQ.out _ hmem (((HRD.out.below (hBr.mono (by omega))).below ((below_regrown wr d os).mono (by omega))).grow (by have:=(below_regrown wr d os).size;omega)))
   clear d0 d1 d2 dc hmem
   cases hb:P y
   ·have HFK:=Lib.hid (HFN.out hb)
    rw [hb] at cA
    clear hb
    generalize (z.take k).filter P=g at *
    go_wp2
    refine wp_region_quiet_below (by kernel_rfl) (by kernel_rfl) ?_
    repeat (go_big_quiet_step ((go_at_call 177;exact cA _ _)))
    refine wpQuiet_nil ?_
    rintro _ ⟨⟨dq,osq⟩,rfl⟩
    have hRg:=below_regrown wr dq osq
    have hown2:=own_below hown hRg
    have hB2:=hBr.trans (hRg.mono s2)
    clear hown hBr hRg
    go_wp2
    go_roundw
    case rel=>exact ⟨k+1,by omega,by go_num,by rw [HFK.out];exact hown2,hB2⟩
    case measure=>simp [intOf];omega
   ·have HFK:=Lib.hid (HFY.out hb)
    have HFL:Hid (((z.take (k+1)).filter P).length=((z.take k).filter P).length+1):=Lib.hid (by rw [HFK.out];simp)
    rw [hb] at cA
    clear hb
    generalize (z.take k).filter P=g at *
    go_wp2
    refine wp_region_quiet_below (by kernel_rfl) (by kernel_rfl) ?_
    repeat (go_big_quiet_step ((go_at_call 177;exact cA _ _)))
    refine wpQuiet_nil ?_
    rintro _ ⟨⟨dq,osq⟩,rfl⟩
    have hRg:=below_regrown wr dq osq
    have hown2:=own_below hown hRg
    have hB2:=hBr.trans (hRg.mono s2)
    have hsz2:=hRg.size
    have ec:=qc dq osq
    clear hown hBr hRg q0 q1 q2 qc cA
    generalize grow (redrawn wr dq) osq=wc at *
    go_wp2_with (at_builtin;(refine wpList_append_own _ rfl _ _ 128 rfl w2.heap.size 3 i0 (.int .i64 0) 1 8 Tryz.underlying128 hi hz0 hz1 hz2 rfl (by decide) _ _ _ rfl (hown2.alloc _) ⟨wc.heap.size,0,none⟩ 1 1 [.int .i64 (y:Int)] rfl rfl ?c1 ?c2 ?c3 ?c4 ?c5 ?_))
    case c1 =>
     intro j u hj
     match j,hj with
     | 0,hj=>simp at hj;subst hj;simp [Addr.add]
    case c2=>intro u hu;simp at hu;subst hu;rfl
    case c3=>unfold maxLen;omega
    case c4=>omega
    case c5=>simp;omega
    intro v' w3 hown' hgrow _
    go_wp2
    go_roundw
    case rel =>
     refine ⟨k+1,by omega,by go_num,?_,?_⟩
     ·rw [HFL.out,HFK.out,vnats_snoc];exact hown'
     ·exact (hB2.alloc (by omega) _).grown hgrow (by simp;omega) (fun r e=>(World.ownsRow.lt hown2 r e).1)
    case measure=>simp [intOf];omega
  ·have hkl:k=z.length:=by omega
   have HE:Hid (z.filter P=(z.take k).filter P):=Lib.hid (by rw [hkl,List.take_length])
   subst hkl
   go_wp2
   go_ret
   exact ⟨_,rfl,by rw [HZ.out,HE.out];exact World.ownsRow.mono hown (by omega),chain hB hBr⟩
end Go.Proofs.YtbccbgonlmkpkaaGreatDoor
namespace Go.Proofs.YtbccbgonlmkpkaaGreatDoor
open Go.RowKit Go.Sort
def kgN (b:Bool):Int:=if b then -6 else 6
def kingL (l:List Int) (bl:Bool):List Nat:=idx (eqP (kgN bl)) l
def kingV (l:List Int) (bl:Bool):Int:=if (kingL l bl).length=1 then (((kingL l bl)[0]?.getD 0:Nat):Int) else -1
theorem rKing_any (F R:Int) (l:List Int) (A:Option Addr) (c:Nat) (bl:Bool) (w:World) (hlen:l.length<=64) (hA:RdP w w.heap.size A l c) :
  Calls Tryz.prog 63 #[.agg #[.int .i64 F,.int .i64 R,.slice A l.length c],.bool bl] w fun e w'=>e=.returned (.int .i64 (kingV l bl))/\Below w.heap.size w w':=by
 unfold kingV kingL
 have hzl:(idx (eqP (kgN bl)) l).length<=64:=Nat.le_trans (idx_len _ _) hlen
 cases bl
 ·have H1:=Lib.hid (fun w hA=>rList_any F R l A c (6) w (by omega) hA)
  have HRS:Hid (∀ w,Calls Tryz.prog 132 #[.bool false] w fun e w'=>e=.returned (.int .i64 (1))/\w=w'):=Lib.hid (rside_any false)
  have hm:IntKind.i64.wrap (6 * (1))=6:=rfl
  have hcv:∀ w,(convert 3 28 (.int .i64 (6))).run Tryz.prog w=.ok (.int .i8 (6)) w:=fun _=>by kernel_rfl
  rw [show kgN false=6 from rfl] at hzl ⊢
  obtain ⟨z,hz⟩:∃ z,idx (eqP (6)) l=z:=⟨_,rfl⟩
  rw [hz] at H1 hzl ⊢
  clear hz
  obtain ⟨kv,hkv⟩:∃ kv,(if z.length=1 then ((z[0]?.getD 0:Nat):Int) else -1)=kv:=⟨_,rfl⟩
  rw [hkv]
  have HKV:=Lib.hid hkv
  clear hkv
  go_enter Tryz.func63,Tryz.ntmps63
  go_wp2_with fail
  obtain ⟨V,hV⟩:∃ V,w.alloc (.cells #[.int .i64 F,.int .i64 R,.slice A l.length c] 97)=V:=⟨_,rfl⟩
  have h0:V.cell? ⟨w.heap.size,0,none⟩=some (.int .i64 F)/\V.cell? ⟨w.heap.size,1,none⟩=some (.int .i64 R)/\V.cell? ⟨w.heap.size,2,none⟩=some (.slice A l.length c)/\St w A l c V:=by
   rw [<- hV]
   exact ⟨by simp [go_sem],by simp [go_sem],by simp [go_sem],hA.below (box1 _ _),box1 _ _,by simp⟩
  rw [hV]
  clear hV hA
  go_region_held3 (fun w'=>w'.cell? ⟨w.heap.size,0,none⟩=some (.int .i64 F)/\w'.cell? ⟨w.heap.size,1,none⟩=some (.int .i64 R)/\w'.cell? ⟨w.heap.size,2,none⟩=some (.slice A l.length c)/\St w A l c w')
   (first | assumption | exact keepS2 (by assumption) (by assumption) | exact keepS (by assumption) (by assumption) | exact keepS (by assumption) ((Below.refl _ _).drew))
   (first
    | (go_at_call 132;refine (HRS.out _).mono ?_;rintro e wx ⟨rfl,rfl⟩)
    | (go_at_call 131;refine (H1.out _ (rdS (by assumption))).mono ?_;rintro e w1 ⟨v1,rfl,hown1,hb1⟩;obtain ⟨A1,d1,rfl,hs1⟩:=SrcI.own hown1))
  have hH:=(by assumption:w1.cell? ⟨w.heap.size,0,none⟩=some (.int .i64 F)/\w1.cell? ⟨w.heap.size,1,none⟩=some (.int .i64 R)/\w1.cell? ⟨w.heap.size,2,none⟩=some (.slice A l.length c)/\St w A l c w1)
  obtain ⟨c0,c1,c2,hR,hB,hsz⟩:=hH
  by_cases h1:z.length=1
  ·obtain ⟨y,rfl⟩:∃ y,z=[y]:=by
    match z,h1 with
    | [y],_=>exact ⟨y,rfl⟩
   obtain ⟨ad,rfl,hbl,hc⟩:=hs1.at_ (k:=0) (by simp)
   have had:ad.add 0=ad:=by simp [Addr.add]
   rw [had] at hc
   have hkv:(y:Int)=kv:=by rw [<- HKV.out];rfl
   clear h1
   simp only [List.getElem_cons_zero] at hc
   simp only [List.length_cons,List.length_nil,Nat.zero_add] at *
   have HKY:=Lib.hid hkv
   clear hkv
   go_wp2
   go_ret
   exact ⟨ret_int HKY.out,hB⟩
  ·have HN1:=Lib.hid h1
   have hne:((z.length:Int) != 1)=true:=by simp;omega
   clear h1
   go_wp2
   go_ret
   exact ⟨ret_int (by rw [<- HKV.out,if_neg HN1.out]),hB⟩
 ·have H1:=Lib.hid (fun w hA=>rList_any F R l A c (-6) w (by omega) hA)
  have HRS:Hid (∀ w,Calls Tryz.prog 132 #[.bool true] w fun e w'=>e=.returned (.int .i64 (-1))/\w=w'):=Lib.hid (rside_any true)
  have hm:IntKind.i64.wrap (6 * (-1))=-6:=rfl
  have hcv:∀ w,(convert 3 28 (.int .i64 (-6))).run Tryz.prog w=.ok (.int .i8 (-6)) w:=fun _=>by kernel_rfl
  rw [show kgN true=-6 from rfl] at hzl ⊢
  obtain ⟨z,hz⟩:∃ z,idx (eqP (-6)) l=z:=⟨_,rfl⟩
  rw [hz] at H1 hzl ⊢
  clear hz
  obtain ⟨kv,hkv⟩:∃ kv,(if z.length=1 then ((z[0]?.getD 0:Nat):Int) else -1)=kv:=⟨_,rfl⟩
  rw [hkv]
  have HKV:=Lib.hid hkv
  clear hkv
  go_enter Tryz.func63,Tryz.ntmps63
  go_wp2_with fail
  obtain ⟨V,hV⟩:∃ V,w.alloc (.cells #[.int .i64 F,.int .i64 R,.slice A l.length c] 97)=V:=⟨_,rfl⟩
  have h0:V.cell? ⟨w.heap.size,0,none⟩=some (.int .i64 F)/\V.cell? ⟨w.heap.size,1,none⟩=some (.int .i64 R)/\V.cell? ⟨w.heap.size,2,none⟩=some (.slice A l.length c)/\St w A l c V:=by
   rw [<- hV]
   exact ⟨by simp [go_sem],by simp [go_sem],by simp [go_sem],hA.below (box1 _ _),box1 _ _,by simp⟩
  rw [hV]
  clear hV hA
  go_region_held3 (fun w'=>w'.cell? ⟨w.heap.size,0,none⟩=some (.int .i64 F)/\w'.cell? ⟨w.heap.size,1,none⟩=some (.int .i64 R)/\w'.cell? ⟨w.heap.size,2,none⟩=some (.slice A l.length c)/\St w A l c w')
   (first | assumption | exact keepS2 (by assumption) (by assumption) | exact keepS (by assumption) (by assumption) | exact keepS (by assumption) ((Below.refl _ _).drew))
   (first
    | (go_at_call 132;refine (HRS.out _).mono ?_;rintro e wx ⟨rfl,rfl⟩)
    | (go_at_call 131;refine (H1.out _ (rdS (by assumption))).mono ?_;rintro e w1 ⟨v1,rfl,hown1,hb1⟩;obtain ⟨A1,d1,rfl,hs1⟩:=SrcI.own hown1))
  have hH:=(by assumption:w1.cell? ⟨w.heap.size,0,none⟩=some (.int .i64 F)/\w1.cell? ⟨w.heap.size,1,none⟩=some (.int .i64 R)/\w1.cell? ⟨w.heap.size,2,none⟩=some (.slice A l.length c)/\St w A l c w1)
  obtain ⟨c0,c1,c2,hR,hB,hsz⟩:=hH
  by_cases h1:z.length=1
  ·obtain ⟨y,rfl⟩:∃ y,z=[y]:=by
    match z,h1 with
    | [y],_=>exact ⟨y,rfl⟩
   obtain ⟨ad,rfl,hbl,hc⟩:=hs1.at_ (k:=0) (by simp)
   have had:ad.add 0=ad:=by simp [Addr.add]
   rw [had] at hc
   have hkv:(y:Int)=kv:=by rw [<- HKV.out];rfl
   clear h1
   simp only [List.getElem_cons_zero] at hc
   simp only [List.length_cons,List.length_nil,Nat.zero_add] at *
   have HKY:=Lib.hid hkv
   clear hkv
   go_wp2
   go_ret
   exact ⟨ret_int HKY.out,hB⟩
  ·have HN1:=Lib.hid h1
   have hne:((z.length:Int) != 1)=true:=by simp;omega
   clear h1
   go_wp2
   go_ret
   exact ⟨ret_int (by rw [<- HKV.out,if_neg HN1.out]),hB⟩
end Go.Proofs.YtbccbgonlmkpkaaGreatDoor
namespace Go.Proofs.YtbccbgonlmkpkaaGreatDoor
open Go.RowKit Go.Sort
theorem kingV_at {F R:Int} {l:List Int} {bl:Bool} (hb:vbd F R l) (h:0<=kingV l bl):vat F R (kingV l bl):=by
 unfold kingV at *
 split at h
 ·rename_i h1
  rw [if_pos h1]
  have h2:(kingL l bl)[0]?.getD 0∈kingL l bl:=by
   rw [List.getElem?_eq_getElem (show 0<(kingL l bl).length by omega)]
   exact List.getElem_mem _
  have h3:=idx_lt h2
  have h4:=hb.2.1
  exact ⟨hb.1,by omega,by omega⟩
 ·omega
theorem atkL_len {F R t:Int} {l:List Int} {bl:Bool} (h:l.length<=64):(atkL F R l t bl).length<=64:=by
 unfold atkL
 exact Nat.le_trans (List.length_filter_le _ _) (Nat.le_trans (idx_len _ _) h)
end Go.Proofs.YtbccbgonlmkpkaaGreatDoor
namespace Go.Proofs.YtbccbgonlmkpkaaGreatDoor
open Go.RowKit
def nm (x y:Int):ByteArray:=(ByteArray.empty.push (UInt8.ofNat x.toNat)).push (UInt8.ofNat y.toNat)
theorem nm_ref:∀ f,f<8->∀ r,r<8->(ByteArray.mk #[97,98,99,100,101,102,103,104]).extract f (f+1) ++ (ByteArray.mk #[49,50,51,52,53,54,55,56]).extract r (r+1)=nm (97+(f:Int)) (49+(r:Int)):=by decide +kernel
theorem ret_str {a b:ByteArray} (h:a=b):Ending.returned (.string a)=.returned (.string b):=by rw [h]
def nameB (F a:Int):ByteArray:=nm (97+a % F) (49+a / F)
theorem refName_any (F R a:Int) (h:vat F R a) (w:World) :
  Calls Tryz.prog 93 #[.agg #[.int .i64 F,.int .i64 R],.int .i64 a] w fun e w'=>e=.returned (.string (nameB F a))/\Below w.heap.size w w':=by
 obtain ⟨p0,p1,p2,p3⟩:=place_bd h.1 h.2.1 h.2.2
 have f2:=h.1.2.1
 have r2:=h.1.2.2.2
 have E:Hid ((ByteArray.mk #[97,98,99,100,101,102,103,104]).extract (a % F).toNat (a % F+1).toNat ++ (ByteArray.mk #[49,50,51,52,53,54,55,56]).extract (a / F).toNat (a / F+1).toNat=nameB F a):=Lib.hid (by
  have:=nm_ref (a % F).toNat (by omega) (a / F).toNat (by omega)
  rw [show (a % F+1).toNat=(a % F).toNat+1 from by omega,show (a / F+1).toNat=(a / F).toNat+1 from by omega,this]
  unfold nameB
  rw [Int.toNat_of_nonneg p0,Int.toNat_of_nonneg p2])
 go_enter Tryz.func93,Tryz.ntmps93
 go_wp2_with fail
 refine (refPlace_any _ _ _ h _).mono ?_
 rintro e w1 ⟨rfl,hb⟩
 go_wp2
 go_quiet (fail)
 go_wp2
 go_ret
 exact ⟨ret_str E.out,drawn (after1 (hb.alloc hb.size _)) _⟩
end Go.Proofs.YtbccbgonlmkpkaaGreatDoor
namespace Go.Proofs.YtbccbgonlmkpkaaGreatDoor
open Go.RowKit
theorem nm_data (x y:Int):(nm x y).data.toList=[UInt8.ofNat x.toNat,UInt8.ofNat y.toNat]:=rfl
theorem nm_size (x y:Int):(nm x y).size=2:=by
 show (nm x y).data.size=2
 rw [<- Array.length_toList,nm_data]
 rfl
theorem bytes_eq {a b:ByteArray} (h:a.data.toList=b.data.toList):a=b:=by
 cases a with | mk x=>cases b with | mk y=>cases x with | mk l=>cases y with | mk m=>simp at h;rw [h]
theorem toList_ne {a b:ByteArray} (h:a≠b):(a.toList == b.toList)=false:=by
 rw [beq_eq_false_iff_ne,ByteArray.toList_eq,ByteArray.toList_eq]
 exact fun e=>h (bytes_eq e)
theorem u8_of (x:Int) (h0:0<=x) (h1:x<256):((UInt8.ofNat x.toNat).toNat:Int)=x:=by
 have:(UInt8.ofNat x.toNat).toNat=x.toNat:=by simp;omega
 omega
theorem nm_inj {x y x' y':Int} (hx:0<=x/\x<256) (hy:0<=y/\y<256) (hx':0<=x'/\x'<256) (hy':0<=y'/\y'<256) (h:nm x y=nm x' y'):x=x'/\y=y':=by
 have h2:=congrArg (fun s:ByteArray=>s.data.toList) h
 simp only [nm_data,List.cons.injEq] at h2
 have e1:=congrArg (fun b:UInt8=>(b.toNat:Int)) h2.1
 have e2:=congrArg (fun b:UInt8=>(b.toNat:Int)) h2.2.1
 try dsimp only at e1 e2
 rw [u8_of x hx.1 hx.2,u8_of x' hx'.1 hx'.2] at e1
 rw [u8_of y hy.1 hy.2,u8_of y' hy'.1 hy'.2] at e2
 exact ⟨e1,e2⟩
theorem name_bd {F R a:Int} (h:vat F R a):(0<=97+a % F/\97+a % F<256)/\(0<=49+a / F/\49+a / F<256):=by
 obtain ⟨p0,p1,p2,p3⟩:=place_bd h.1 h.2.1 h.2.2
 have f2:=h.1.2.1
 have r2:=h.1.2.2.2
 omega
theorem nameB_inj {F R a b:Int} (ha:vat F R a) (hb:vat F R b) (h:nameB F a=nameB F b):a=b:=by
 obtain ⟨x,y⟩:=name_bd ha
 obtain ⟨x',y'⟩:=name_bd hb
 obtain ⟨e1,e2⟩:=nm_inj x y x' y' h
 have:=place_eq (a:=a) ha.1
 have:=place_eq (a:=b) hb.1
 rw [<- place_eq (a:=a) ha.1,<- place_eq (a:=b) hb.1,show a % F=b % F from by omega,show a / F=b / F from by omega]
theorem refParse_yes (F R a:Int) (s:ByteArray) (ha:vat F R a) (hs:nameB F a=s) (w:World) :
  Calls Tryz.prog 136 #[.agg #[.int .i64 F,.int .i64 R],.string s] w fun e w'=>e=.returned (.int .i64 a)/\Below w.heap.size w w':=by
 obtain ⟨m0,m1⟩:=vsz_mul ha.1
 have HS:=Lib.hid hs
 clear hs
 obtain ⟨hv,a0,a1⟩:=id ha
 go_enter Tryz.func136,Tryz.ntmps136
 go_wp2
 go_loopw [5] (fun i wr=>∃ k:Nat,(k:Int)<=a/\i=.int .i64 k/\Below (w.alloc (.cells #[.int .i64 F,.int .i64 R] 23)).heap.size (w.alloc (.cells #[.int .i64 F,.int .i64 R] 23)) wr) (fun i _=>64 - (intOf i).toNat)
 case atStart=>exact ⟨0,by omega,rfl,Below.refl _ _⟩
 case round =>
  obtain ⟨k,hk,rfl,hB⟩:=hrel
  have s1:=hB.size
  simp at s1
  have hc0:=hB.cell (p:=⟨w.heap.size,0,none⟩) (by simp)
  have hc1:=hB.cell (p:=⟨w.heap.size,1,none⟩) (by simp)
  simp [go_sem] at hc0 hc1
  have hkv:vat F R k:=⟨hv,by omega,by omega⟩
  have hlt:(k:Int)<F * R:=by omega
  by_cases e:(k:Int)=a
  ·have HE:Hid (nameB F k=s):=Lib.hid (by rw [e];exact HS.out)
   have HK:=Lib.hid e
   clear e
   go_wp2_with fail
   refine (refName_any _ _ _ hkv _).mono ?_
   rintro e w1 ⟨rfl,hb⟩
   rw [HE.out]
   go_wp2
   go_ret
   exact ⟨ret_int HK.out,after1 (chain hB hb)⟩
  ·have hne:((nameB F k).toList == s.toList)=false:=toList_ne fun h=>e (nameB_inj hkv ha (h.trans HS.out.symm))
   go_wp2_with fail
   refine (refName_any _ _ _ hkv _).mono ?_
   rintro e w1 ⟨rfl,hb⟩
   generalize hnm:nameB F k=t at *
   clear hnm
   go_wp2
   go_roundw
   case rel=>exact ⟨k+1,by omega,by go_num,chain hB hb⟩
   case measure=>simp [intOf];omega
theorem refParse_no (F R:Int) (s:ByteArray) (hv:vsz F R) (h:∀ a,vat F R a->nameB F a≠s) (w:World) :
  Calls Tryz.prog 136 #[.agg #[.int .i64 F,.int .i64 R],.string s] w fun e w'=>e=.returned (.int .i64 (-1))/\Below w.heap.size w w':=by
 obtain ⟨m0,m1⟩:=vsz_mul hv
 have H:=Lib.hid h
 clear h
 go_enter Tryz.func136,Tryz.ntmps136
 go_wp2
 go_loopw [5] (fun i wr=>∃ k:Nat,(k:Int)<=F * R/\i=.int .i64 k/\Below (w.alloc (.cells #[.int .i64 F,.int .i64 R] 23)).heap.size (w.alloc (.cells #[.int .i64 F,.int .i64 R] 23)) wr) (fun i _=>64 - (intOf i).toNat)
 case atStart=>exact ⟨0,by omega,rfl,Below.refl _ _⟩
 case round =>
  obtain ⟨k,hk,rfl,hB⟩:=hrel
  have s1:=hB.size
  simp at s1
  have hc0:=hB.cell (p:=⟨w.heap.size,0,none⟩) (by simp)
  have hc1:=hB.cell (p:=⟨w.heap.size,1,none⟩) (by simp)
  simp [go_sem] at hc0 hc1
  by_cases hlt:(k:Int)<F * R
  ·have hkv:vat F R k:=⟨hv,by omega,hlt⟩
   have hne:((nameB F k).toList == s.toList)=false:=toList_ne (H.out _ hkv)
   go_wp2_with fail
   refine (refName_any _ _ _ hkv _).mono ?_
   rintro e w1 ⟨rfl,hb⟩
   generalize hnm:nameB F k=t at *
   clear hnm
   go_wp2
   go_roundw
   case rel=>exact ⟨k+1,by omega,by go_num,chain hB hb⟩
   case measure=>simp [intOf];omega
  ·go_wp2
   go_ret
   exact ⟨rfl,after1 hB⟩
end Go.Proofs.YtbccbgonlmkpkaaGreatDoor
namespace Go.Proofs.YtbccbgonlmkpkaaGreatDoor
open Go.RowKit
structure Po where
 F:Int
 R:Int
 l:List Int
 bl:Bool
 ca:Nat
 ps:Int
 ha:Int
 fu:Int
 deriving DecidableEq
def vszB (F R:Int):Bool:=decide (3<=F) && decide (F<=8) && decide (3<=R) && decide (R<=8)
theorem vszB_iff {F R:Int}:vszB F R=true ↔ vsz F R:=by unfold vszB vsz;simp [and_assoc]
def vbdB (F R:Int) (l:List Int):Bool:=vszB F R && decide ((l.length:Int)=F * R) && l.all fun n=>decide (-15<=n) && decide (n<=15)
theorem all_at {l:List Int} {P:Int->Bool}:l.all P=true ↔ ∀ j,j<l.length->P (l[j]?.getD 0)=true:=by
 rw [List.all_eq_true]
 constructor
 ·intro h j hj
  rw [List.getElem?_eq_getElem hj]
  exact h _ (List.getElem_mem hj)
 ·intro h x hx
  obtain ⟨j,hj,rfl⟩:=List.mem_iff_getElem.1 hx
  have:=h j hj
  rw [List.getElem?_eq_getElem hj] at this
  exact this
theorem vbdB_iff {F R:Int} {l:List Int}:vbdB F R l=true ↔ vbd F R l:=by
 unfold vbdB vbd
 rw [Bool.and_eq_true,Bool.and_eq_true,vszB_iff,all_at,decide_eq_true_iff,and_assoc]
 refine and_congr_right fun _=>and_congr_right fun _=>?_
 refine forall_congr' fun j=>forall_congr' fun _=>?_
 unfold okP
 simp
def lastR (R:Int) (b:Bool):Int:=if b then 0 else R - 1
def rkA (R:Int) (b:Bool) (k:Int):Int:=if b then R - k else k - 1
def poBrd (F R:Int) (l:List Int) (bl:Bool):Bool :=
 vbdB F R l && orA l && decide (0<=kingV l false) && decide (0<=kingV l true) && decide ((atkL F R l (kingV l (!bl)) bl).length=0)
def poPw (F R:Int) (l:List Int) (i:Nat):Bool:=kdP (l[i]?.getD 0) == 1 && (i:Int) / F == lastR R (decide (l[i]?.getD 0<0))
def poPwn (F R:Int) (l:List Int):Bool:=(List.range l.length).all fun i=>!poPw F R l i
def two (l:List Int) (i:Nat) (a:Int) (j:Nat) (b:Int):Bool:=l[i]?.getD 0 == a && l[j]?.getD 0 == b
def poHom (l:List Int) (bit:Nat):Bool:=if bit=1 then two l 4 6 7 4 else if bit=2 then two l 4 6 0 4 else if bit=4 then two l 60 (-6) 63 (-4) else two l 60 (-6) 56 (-4)
def poHm (F R:Int) (l:List Int) (bit:Nat):Bool:=F == 8 && R == 8 && poHom l bit
def poBit (ca bit:Nat):Bool:=ca / bit % 2 == 1
def poCas (F R:Int) (l:List Int) (ca:Nat):Bool:=decide (ca<=15) && [1,2,4,8].all fun bit=>!poBit ca bit || poHm F R l bit
def pcS (b:Bool):Int:=if b then -1 else 1
def poPas (F R:Int) (l:List Int) (bl:Bool) (ps ha:Int):Bool :=
 ps == -1 || (decide (6<=R) && ha == 0 && (decide (0<=ps) && decide (ps<F * R)) && 2 * (ps / F) == rkA R (!bl) 2+rkA R (!bl) 4
  && l[ps.toNat]?.getD 0 == 0 && l[(rkA R (!bl) 2 * F+ps % F).toNat]?.getD 0 == 0 && l[(rkA R (!bl) 4 * F+ps % F).toNat]?.getD 0 == pcS (!bl))
def poCnt (ha fu:Int):Bool:=decide (0<=ha) && decide (ha<=10000) && decide (1<=fu) && decide (fu<=10000)
def okPo (p:Po):Bool:=poBrd p.F p.R p.l p.bl && poPwn p.F p.R p.l && poCas p.F p.R p.l p.ca && poPas p.F p.R p.l p.bl p.ps p.ha && poCnt p.ha p.fu
def dcF:Nat->Nat->List UInt8
 | 0,_=>[]
 | k+1,n=>if n<10 then [UInt8.ofNat (48+n)] else dcF k (n / 10) ++ [UInt8.ofNat (48+n % 10)]
def dec (n:Nat):List UInt8:=dcF 20 n
theorem dcF_eq:∀ (k n:Nat),n<10 ^ k->0<k->dcF k n=Lib.decDigits n
 | 0,_,_,h=>absurd h (by omega)
 | k+1,n,h,_=>by
  unfold dcF
  rw [Lib.decDigits]
  by_cases hn:n<10
  ·rw [if_pos hn,dif_pos hn]
  ·rw [if_neg hn,dif_neg hn]
   have hk:0<k:=by
    rcases Nat.eq_zero_or_pos k with h0 | h0
    ·subst h0;simp at h;omega
    ·exact h0
   rw [dcF_eq k (n / 10) (by rw [Nat.pow_succ] at h;omega) hk]
theorem dec_eq {n:Nat} (h:n<100000000000000000000):dec n=Lib.decDigits n:=dcF_eq 20 n (by simpa using h) (by decide)
def caL (ca:Nat):List UInt8:=if ca=0 then [45] else (List.range 4).flatMap fun i=>if ca / 2 ^ i % 2=1 then [[75,81,107,113].getD i 0] else []
def szL (F R:Int):List UInt8:=dec F.toNat ++ 120 :: dec R.toNat
def valF (w:List UInt8):Nat:=w.foldl (fun n c=>n * 10+(c.toNat - 48)) 0
def isDg (c:UInt8):Bool:=decide (48<=c.toNat) && decide (c.toNat<=57)
def nmbV (w:List UInt8):Int:=if decide (w.length<=5) && w.all isDg && !(w == []) && dec (valF w) == w then (valF w:Int) else -1
def casV (w:List UInt8):Option Nat:=(List.range 16).find? fun n=>caL n == w
def sqV (F R:Int) (w:List UInt8):Option Int:=((List.range (F * R).toNat).find? fun n:Nat=>(nameB F (n:Int)).data.toList == w).map fun n:Nat=>(n:Int)
def psV (F R:Int) (w:List UInt8):Option Int:=if w=[45] then some (-1) else sqV F R w
def rdPo (L:List UInt8):Option Po :=
 match wds L with
 | [w0,w1,w2,w3,w4,w5,w6] =>
  if w2≠[119]/\w2≠[98] then none else
  match parseB w1 with
  | none=>none
  | some (f,r,l) =>
   if w0≠szL (f:Int) (r:Int) then none else
   match casV w3 with
   | none=>none
   | some ca =>
    match psV (f:Int) (r:Int) w4 with
    | none=>none
    | some ps=>if okPo ⟨f,r,l,w2 == [98],ca,ps,nmbV w5,nmbV w6⟩ then some ⟨f,r,l,w2 == [98],ca,ps,nmbV w5,nmbV w6⟩ else none
 | _=>none
theorem poBrd_vbd {F R:Int} {l:List Int} {bl:Bool} (h:poBrd F R l bl=true):vbd F R l/\orA l=true:=by
 unfold poBrd at h
 simp only [Bool.and_eq_true] at h
 exact ⟨vbdB_iff.1 h.1.1.1.1,h.1.1.1.2⟩
theorem valF_snoc (w:List UInt8) (c:UInt8):valF (w ++ [c])=valF w * 10+(c.toNat - 48):=by simp [valF]
theorem dcF_len:∀ (j k n:Nat),n<10 ^ j->0<j->j<=k->(dcF k n).length<=j/\1<=(dcF k n).length
 | 0,_,_,_,h,_=>absurd h (by omega)
 | _+1,0,_,_,_,h=>absurd h (by omega)
 | j+1,k+1,n,h,_,hk=>by
  unfold dcF
  split
  ·simp
  ·have hj:0<j:=by
    rcases Nat.eq_zero_or_pos j with h0 | h0
    ·subst h0;simp at h;omega
    ·exact h0
   have:=dcF_len j k (n / 10) (by rw [Nat.pow_succ] at h;omega) hj (by omega)
   rw [List.length_append,List.length_singleton]
   omega
theorem dec_len {n:Nat} (h:n<=99999):(dec n).length<=5/\1<=(dec n).length:=dcF_len 5 20 n (by simp;omega) (by decide) (by decide)
theorem casV_yes {w:List UInt8} {ca:Nat} (h:casV w=some ca):ca<=15/\caL ca=w:=by
 unfold casV at h
 have h1:=List.find?_some h
 have h2:=List.mem_of_find?_eq_some h
 simp at h1 h2
 exact ⟨by omega,h1⟩
theorem find_first {P:Nat->Bool} {n a:Nat} (ha:a<n) (hp:P a=true) (hu:∀ b,b<n->P b=true->b=a):(List.range n).find? P=some a:=by
 cases h:(List.range n).find? P with
 | none =>
  have:=List.find?_eq_none.1 h a (List.mem_range.2 ha)
  exact absurd hp this
 | some b =>
  have h1:=List.find?_some h
  have h2:=List.mem_of_find?_eq_some h
  rw [hu b (List.mem_range.1 h2) h1]
theorem vat_nat {F R a:Int} (h:vat F R a):∃ n:Nat,a=(n:Int)/\n<(F * R).toNat:=by
 obtain ⟨_,h0,h1⟩:=h
 exact ⟨a.toNat,by omega,by omega⟩
theorem vat_of {F R:Int} {n:Nat} (hv:vsz F R) (h:n<(F * R).toNat):vat F R (n:Int):=⟨hv,by omega,by omega⟩
theorem sqV_name {F R a:Int} (h:vat F R a):sqV F R (nameB F a).data.toList=some a:=by
 obtain ⟨n,rfl,hn⟩:=vat_nat h
 unfold sqV
 rw [find_first hn (by simp) fun b hb he=>?_]
 ·rfl
 ·have:=nameB_inj (vat_of h.1 hb) h (bytes_eq (by simpa using he))
  omega
theorem sqV_yes {F R a:Int} {w:List UInt8} (hv:vsz F R) (h:sqV F R w=some a):vat F R a/\(nameB F a).data.toList=w:=by
 unfold sqV at h
 cases e:(List.range (F * R).toNat).find? (fun n:Nat=>(nameB F (n:Int)).data.toList == w) with
 | none=>rw [e] at h;simp at h
 | some n =>
  rw [e] at h
  have h1:=List.find?_some e
  have h2:=List.mem_range.1 (List.mem_of_find?_eq_some e)
  simp only [Option.map_some,Option.some.injEq] at h
  subst h
  exact ⟨vat_of hv h2,by simpa using h1⟩
theorem sqV_no {F R:Int} {w:List UInt8} (h:sqV F R w=none):∀ a,vat F R a->(nameB F a).data.toList≠w:=fun a ha e=>by
 subst e
 rw [sqV_name ha] at h
 simp at h
end Go.Proofs.YtbccbgonlmkpkaaGreatDoor
namespace Go.Proofs.YtbccbgonlmkpkaaGreatDoor
open Go.RowKit Go.Sort
def Bx8 (W:World) (b:Nat) (F R:Int) (v:Value) (bl:Bool) (ca:Nat) (ps ha fu:Int):Prop :=
 (W.cell? ⟨b,0,none⟩=some (.int .i64 F)/\W.cell? ⟨b,1,none⟩=some (.int .i64 R)/\W.cell? ⟨b,2,none⟩=some v/\W.cell? ⟨b,3,none⟩=some (.bool bl)/\W.cell? ⟨b,4,none⟩=some (.int .u8 (ca:Int))/\W.cell? ⟨b,5,none⟩=some (.int .i64 ps)/\W.cell? ⟨b,6,none⟩=some (.int .i64 ha)/\W.cell? ⟨b,7,none⟩=some (.int .i64 fu))/\∀ o,W.frozen? ⟨b,o,none⟩=false
theorem box8 (w:World) (F R:Int) (v:Value) (bl:Bool) (ca:Nat) (ps ha fu:Int):Bx8 (w.alloc (.cells #[.int .i64 F,.int .i64 R,v,.bool bl,.int .u8 (ca:Int),.int .i64 ps,.int .i64 ha,.int .i64 fu] 26)) w.heap.size F R v bl ca ps ha fu:=by
 refine ⟨⟨?_,?_,?_,?_,?_,?_,?_,?_⟩,fun o=>?_⟩ <;> simp [go_sem]
theorem Bx8.below {W W':World} {B b:Nat} {F R:Int} {v:Value} {bl:Bool} {ca:Nat} {ps ha fu:Int} (h:Bx8 W b F R v bl ca ps ha fu) (hb:Below B W W') (hB:b<B):Bx8 W' b F R v bl ca ps ha fu:=by
 have q:∀ o,W'.cell? ⟨b,o,none⟩=W.cell? ⟨b,o,none⟩:=fun o=>hb.cell (p:=⟨b,o,none⟩) hB
 have f:∀ o,W'.frozen? ⟨b,o,none⟩=W.frozen? ⟨b,o,none⟩:=fun o=>hb.frozen (p:=⟨b,o,none⟩) hB
 unfold Bx8
 simp only [q,f]
 exact h
theorem Bx8.lt {W:World} {b:Nat} {F R:Int} {v:Value} {bl:Bool} {ca:Nat} {ps ha fu:Int} (h:Bx8 W b F R v bl ca ps ha fu):b<W.heap.size:=World.block_lt_of_cell? W _ h.1.1
theorem rOf_any (F R:Int) (l:List Int) (A:Option Addr) (c:Nat) (bl:Bool) (ca:Nat) (ps ha fu:Int) (w:World) :
  Calls Tryz.prog 61 #[.agg #[.int .i64 F,.int .i64 R,.slice A l.length c,.bool bl,.int .u8 (ca:Int),.int .i64 ps,.int .i64 ha,.int .i64 fu]] w fun e w'=>e=.returned (.agg #[.int .i64 F,.int .i64 R,.slice A l.length c])/\Below w.heap.size w w':=by
 go_enter Tryz.func61,Tryz.ntmps61
 go_wp2
 refine bodyPost_ret (v:=.agg #[.int .i64 F,.int .i64 R,.slice A l.length c]) ?_ rfl ⟨rfl,?_⟩
 ·simp [results,Tryz.results61,go_sem]
 ·exact after1 (box1 _ _)
theorem rPiece1_any (b:Bool) (w:World) :
  Calls Tryz.prog 135 #[.int .i8 1,.bool b] w fun e w'=>e=.returned (.int .i8 (pcS b))/\Below w.heap.size w w':=by
 cases b
 all_goals
  go_enter Tryz.func135,Tryz.ntmps135
  go_wp2
  go_ret
  exact ⟨rfl,Below.refl _ _⟩
theorem rRank_any (F R:Int) (hv:vsz F R) (b:Bool) (k:Int) (h0:0<=k) (h1:k<=4) (w:World) :
  Calls Tryz.prog 134 #[.agg #[.int .i64 F,.int .i64 R],.bool b,.int .i64 k] w fun e w'=>e=.returned (.int .i64 (rkA R b k))/\Below w.heap.size w w':=by
 obtain ⟨f1,f2,r1,r2⟩:=hv
 cases b
 all_goals
  go_enter Tryz.func134,Tryz.ntmps134
  go_wp2
  go_ret
  exact ⟨rfl,box1 _ _⟩
theorem rLast_any (F R:Int) (hv:vsz F R) (b:Bool) (w:World) :
  Calls Tryz.prog 67 #[.agg #[.int .i64 F,.int .i64 R],.bool b] w fun e w'=>e=.returned (.int .i64 (lastR R b))/\Below w.heap.size w w':=by
 obtain ⟨f1,f2,r1,r2⟩:=hv
 cases b
 all_goals
  go_enter Tryz.func67,Tryz.ntmps67
  go_wp2
  go_ret
  exact ⟨rfl,box1 _ _⟩
theorem vatN88 {n:Nat} (h:n<64):vat 8 8 (n:Int):=⟨⟨by omega,by omega,by omega,by omega⟩,by omega,by omega⟩
theorem rAt_any (F R:Int) (l:List Int) (A:Option Addr) (c:Nat) (bl:Bool) (ca:Nat) (ps ha fu:Int) (s:ByteArray) (n:Nat) (hn:n<l.length) (hs:nameB 8 (n:Int)=s) (h8:n<64) (w:World) (hA:RdP w w.heap.size A l c) :
  Calls Tryz.prog 180 #[.agg #[.int .i64 F,.int .i64 R,.slice A l.length c,.bool bl,.int .u8 (ca:Int),.int .i64 ps,.int .i64 ha,.int .i64 fu],.string s] w fun e w'=>e=.returned (.int .i8 (l[n]?.getD 0))/\Below w.heap.size w w':=by
 have HP:=Lib.hid (refParse_yes 8 8 (n:Int) s (vatN88 h8) hs)
 obtain ⟨ad,rfl,hb,hc⟩:=hA.at_ hn
 clear hs hA
 generalize l[n]?.getD 0=p at *
 obtain ⟨V,hV⟩:∃ V,w.alloc (.cells #[.int .i64 F,.int .i64 R,.slice (some ad) l.length c,.bool bl,.int .u8 (ca:Int),.int .i64 ps,.int .i64 ha,.int .i64 fu] 26)=V:=⟨_,rfl⟩
 have hX:=box8 w F R (.slice (some ad) l.length c) bl ca ps ha fu
 have hc2:=alive (.cells #[.int .i64 F,.int .i64 R,.slice (some ad) l.length c,.bool bl,.int .u8 (ca:Int),.int .i64 ps,.int .i64 ha,.int .i64 fu] 26) hc
 have hB:=box1 w (.cells #[.int .i64 F,.int .i64 R,.slice (some ad) l.length c,.bool bl,.int .u8 (ca:Int),.int .i64 ps,.int .i64 ha,.int .i64 fu] 26)
 rw [hV] at hX hc2 hB
 have q2:=cell_regrown hX.1.2.2.1
 have qp:=cell_regrown hc2
 have HV:=Lib.hid hV
 clear hV hX hc hc2
 have cP:∀ d os,Calls Tryz.prog 136 #[.agg #[.int .i64 8,.int .i64 8],.string s] (grow (redrawn V d) os) fun e w''=>e=.returned (.int .i64 (n:Int))/\∃ q:Regrown,w''=grow (redrawn V q.d) q.os:=fun d os=>Calls.regrown_of (HP.out _)
 go_enter Tryz.func180,Tryz.ntmps180
 go_wp2_with fail
 rw [HV.out]
 refine wp_region_quiet_below (by kernel_rfl) (by kernel_rfl) ?_
 repeat (go_big_quiet_step (first | (go_at_call 136;exact cP _ _)))
 refine wpQuiet_nil ?_
 rintro _ ⟨⟨dq,osq⟩,rfl⟩
 go_wp2
 go_ret
 exact ⟨rfl,chain hB (below_regrown _ dq osq)⟩
end Go.Proofs.YtbccbgonlmkpkaaGreatDoor
