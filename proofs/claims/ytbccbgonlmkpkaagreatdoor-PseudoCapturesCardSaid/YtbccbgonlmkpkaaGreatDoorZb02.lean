/- What the theorem needs, piece Zb02. -/
import Derived.Test.YtbccbgonlmkpkaaGreatDoorZb01
import Derived.Lib.QuietBelow
import Derived.Deep.AppendLies
import Derived.Deep.RegionHeld3
import Derived.Deep.RegionLaw
import Derived.Deep.DrawnRows
import Derived.Sort.AtCall
set_option linter.unusedSimpArgs false
set_option linter.unusedVariables false
set_option maxRecDepth 100000
set_option maxHeartbeats 16000000
namespace Go.Proofs.YtbccbgonlmkpkaaGreatDoor
open Go.RowKit
theorem vat_64 {F R a:Int} (h:vat F R a):0<=a/\a<64:=by
 have:=vsz_mul h.1
 exact ⟨h.2.1,by have:=h.2.2;omega⟩
theorem of_yes (F R:Int) (l:List Int) (A:Option Addr) (c:Nat) (w:World) (hv:vsz F R) (hlen:l.length<=1000000) (hA:RdI w w.heap.size A l) (h:∀ j,j<l.length->vat F R (l[j]?.getD 0)) :
  Calls Tryz.prog 211 #[.agg #[.int .i64 F,.int .i64 R],.slice A l.length c] w fun e w'=>e=.returned (.tuple #[.int .u64 (ofL (sqs l):Int),.int .i64 0])/\Below w.heap.size w w':=by
 have H:=Lib.hid h
 have H64:Hid (∀ j,j<l.length->0<=l[j]?.getD 0/\l[j]?.getD 0<64):=Lib.hid fun j hj=>vat_64 (h j hj)
 clear h
 go_enter Tryz.func211,Tryz.ntmps211
 go_wp2_with fail
 refine (validSize_yes _ _ hv _).mono ?_
 rintro e w1 ⟨rfl,hb⟩
 have s1:=hb.size
 simp at s1
 have hc0:=hb.cell (p:=⟨w.heap.size,0,none⟩) (by simp)
 have hc1:=hb.cell (p:=⟨w.heap.size,1,none⟩) (by simp)
 simp [go_sem] at hc0 hc1
 have hB1:=after1 hb
 have A1:=hA.below hB1
 clear hA hb
 go_wp2_with fail
 go_loopw [6,8,14] (fun v _ i wr=>∃ k:Nat,k<=l.length/\i=.int .i64 k/\v=.int .u64 (ofTo l k:Int)/\Below w1.heap.size w1 wr) (fun _ _ i _=>l.length - (intOf i).toNat)
 case atStart=>exact ⟨0,by omega,rfl,rfl,Below.refl _ _⟩
 case round =>
  obtain ⟨k,hk,rfl,rfl,hB⟩:=hrel
  have s2:=hB.size
  by_cases hlt:k<l.length
  ·obtain ⟨ad,rfl,hb,hc⟩:=(A1.below (hB.mono (by omega))).at_ hlt
   have d0:=(hB.cell (p:=⟨w.heap.size,0,none⟩) (by simp;omega)).trans hc0
   have d1:=(hB.cell (p:=⟨w.heap.size,1,none⟩) (by simp;omega)).trans hc1
   have hX:=ofTo_lt l k H64.out
   obtain ⟨b0,b1⟩:=H64.out k hlt
   have hV:=H.out k hlt
   have hs:=ofTo_succ l k hlt
   have HS:=Lib.hid hs
   clear hs A1
   generalize hn:l[k]?.getD 0=n at *
   clear hn
   generalize hX':ofTo l k=X at *
   clear hX'
   go_wp2_with fail
   refine (valid_yes _ _ _ hV _).mono ?_
   rintro e w2 ⟨rfl,hb2⟩
   go_wp2_with fail
   refine (single_any n b0 b1 _).mono ?_
   rintro e w3 ⟨rfl,rfl⟩
   have P:=Lib.hid (or_bitN X n.toNat hX (by omega))
   go_wp2
   go_roundw
   case rel=>exact ⟨k+1,by omega,by go_num,by rw [HS.out];exact vint P.out,chain hB hb2⟩
   case measure=>simp [intOf];omega
  ·have hkl:k=l.length:=by omega
   subst hkl
   go_wp2
   go_ret2
   exact ⟨ret2 (vint (by rw [ofTo_all])) rfl,chain hB1 hB⟩
theorem of_bad (F R:Int) (l:List Int) (A:Option Addr) (c:Nat) (w:World) (hv:vsz F R) (hlen:l.length<=1000000) (hA:RdI w w.heap.size A l) (h:¬ ∀ j,j<l.length->vat F R (l[j]?.getD 0)) :
  Calls Tryz.prog 211 #[.agg #[.int .i64 F,.int .i64 R],.slice A l.length c] w fun e w'=>e=.returned (.tuple #[.int .u64 0,.int .i64 2])/\Below w.heap.size w w':=by
 have H:=Lib.hid h
 clear h
 go_enter Tryz.func211,Tryz.ntmps211
 go_wp2_with fail
 refine (validSize_yes _ _ hv _).mono ?_
 rintro e w1 ⟨rfl,hb⟩
 have s1:=hb.size
 simp at s1
 have hc0:=hb.cell (p:=⟨w.heap.size,0,none⟩) (by simp)
 have hc1:=hb.cell (p:=⟨w.heap.size,1,none⟩) (by simp)
 simp [go_sem] at hc0 hc1
 have hB1:=after1 hb
 have A1:=hA.below hB1
 clear hA hb
 go_wp2_with fail
 go_loopw [6,8,14] (fun v _ i wr=>∃ k:Nat,k<=l.length/\i=.int .i64 k/\v=.int .u64 (ofTo l k:Int)/\(∀ j,j<k->vat F R (l[j]?.getD 0))/\Below w1.heap.size w1 wr) (fun _ _ i _=>l.length - (intOf i).toNat)
 case atStart=>exact ⟨0,by omega,rfl,rfl,fun j hj=>absurd hj (by omega),Below.refl _ _⟩
 case round =>
  obtain ⟨k,hk,rfl,rfl,hall,hB⟩:=hrel
  have HA:=Lib.hid hall
  clear hall
  have s2:=hB.size
  by_cases hlt:k<l.length
  ·obtain ⟨ad,rfl,hb,hc⟩:=(A1.below (hB.mono (by omega))).at_ hlt
   have d0:=(hB.cell (p:=⟨w.heap.size,0,none⟩) (by simp;omega)).trans hc0
   have d1:=(hB.cell (p:=⟨w.heap.size,1,none⟩) (by simp;omega)).trans hc1
   by_cases hV:vat F R (l[k]?.getD 0)
   ·have HA':Hid (∀ j,j<k+1->vat F R (l[j]?.getD 0)):=Lib.hid fun j hj=>if e:j=k then by rw [e];exact hV else HA.out j (by omega)
    have hX:ofTo l k<18446744073709551616:=by
     have:=ofTo_lt (l.take k) k (fun j hj=>by
      simp at hj
      rw [List.getElem?_take_of_lt (by omega)]
      exact vat_64 (HA.out j (by omega)))
     unfold ofTo at this ⊢
     simpa [sqs,List.map_take,List.take_take] using this
    obtain ⟨b0,b1⟩:=vat_64 hV
    have hs:=ofTo_succ l k hlt
    have HS:=Lib.hid hs
    clear hs A1
    generalize hn:l[k]?.getD 0=n at *
    clear hn
    generalize hX':ofTo l k=X at *
    clear hX'
    go_wp2_with fail
    refine (valid_yes _ _ _ hV _).mono ?_
    rintro e w2 ⟨rfl,hb2⟩
    go_wp2_with fail
    refine (single_any n b0 b1 _).mono ?_
    rintro e w3 ⟨rfl,rfl⟩
    have P:=Lib.hid (or_bitN X n.toNat hX (by omega))
    go_wp2
    go_roundw
    case rel=>exact ⟨k+1,by omega,by go_num,by rw [HS.out];exact vint P.out,HA'.out,chain hB hb2⟩
    case measure=>simp [intOf];omega
   ·generalize hn:l[k]?.getD 0=n at *
    clear hn A1
    go_wp2_with fail
    refine (valid_no _ _ _ hV _).mono ?_
    rintro e w2 ⟨rfl,hb2⟩
    go_wp2
    go_ret2
    exact ⟨rfl,chain hB1 (chain hB hb2)⟩
  ·have hkl:k=l.length:=by omega
   subst hkl
   exact absurd HA.out H.out
end Go.Proofs.YtbccbgonlmkpkaaGreatDoor
namespace Go.Proofs.YtbccbgonlmkpkaaGreatDoor
open Go.RowKit
theorem sqs_nat (l:List Nat):sqs (l.map fun i:Nat=>(i:Int))=l:=by
 unfold sqs
 rw [List.map_map]
 conv=>rhs;rw [<- List.map_id l]
 apply List.map_congr_left
 intro a _
 simp
end Go.Proofs.YtbccbgonlmkpkaaGreatDoor
namespace Go.Proofs.YtbccbgonlmkpkaaGreatDoor
open Go.RowKit
theorem andNot_full (X m:Nat) (hX:X<18446744073709551616) (hm:m<=64):(bits .andNot .u64 (X:Int) (fullN m:Int) != 0)=!decide (X<2 ^ m):=by
 have hf:fullN m<18446744073709551616:=by
  unfold fullN
  have:2 ^ m<=2 ^ 64:=Nat.pow_le_pow_right (by decide) hm
  simp at this
  omega
 rw [u64_andNot_nat X (fullN m) hX hf]
 have e:18446744073709551615 - fullN m=2 ^ 64 - (fullN m+1):=by omega
 have hb:∀ j,(X &&& (18446744073709551615 - fullN m)).testBit j=(X.testBit j && (decide (j<64) && decide (m<=j))):=by
  intro j
  rw [e,Nat.testBit_and,Nat.testBit_two_pow_sub_succ (by simpa using hf)]
  unfold fullN
  rw [Nat.testBit_two_pow_sub_one]
  by_cases h:j<m
  ·have h':¬ m<=j:=by omega
   simp [h,h']
  ·have h':m<=j:=by omega
   simp [h,h']
 by_cases h:X<2 ^ m
 ·have:X &&& (18446744073709551615 - fullN m)=0:=by
   apply Nat.eq_of_testBit_eq
   intro j
   rw [hb]
   by_cases hj:m<=j
   ·rw [bit_high h hj];simp
   ·simp [hj]
  simp [this,h]
 ·have:X &&& (18446744073709551615 - fullN m)≠0:=by
   intro h0
   apply h
   apply lt_of_bits
   intro j hj
   have:=hb j
   rw [h0] at this
   simp at this
   by_cases h64:j<64
   ·cases hx:X.testBit j
    ·rfl
    ·exact absurd (this hx h64) (by omega)
   ·exact bit_high (n:=64) (by simpa using hX) (by omega)
  simp [h]
  omega
end Go.Proofs.YtbccbgonlmkpkaaGreatDoor
namespace Go.Proofs.YtbccbgonlmkpkaaGreatDoor
open Go.RowKit Go.Sort Go.BigFrame
theorem RdI.own' {w:World} {B e:Nat} {v:Value} {l:List Nat} (h:w.ownsRow B e 1 v l.length (vnats l)):∃ A c,v=.slice A l.length c/\l.length<=c/\RdI w w.heap.size A (l.map fun i:Nat=>(i:Int)):=by
 obtain ⟨A,c,hv,hA⟩:=RdI.own h
 refine ⟨A,c,hv,?_,hA⟩
 obtain ⟨hl,⟨rfl,h0⟩ | ⟨g,cap,cur,rfl,hg,hh,hn,hc,hs,ht⟩⟩:=h
 ·omega
 ·have:cap=c:=by injection hv
  omega
end Go.Proofs.YtbccbgonlmkpkaaGreatDoor
namespace Go.Proofs.YtbccbgonlmkpkaaGreatDoor
open Go.RowKit
def idxTo (P:Int->Bool) (l:List Int) (k:Nat):List Nat:=(List.range k).filter (fun i=>P (l[i]?.getD 0))
def idx (P:Int->Bool) (l:List Int):List Nat:=idxTo P l l.length
theorem idxTo_yes (P:Int->Bool) (l:List Int) (k:Nat) (h:P (l[k]?.getD 0)=true):idxTo P l (k+1)=idxTo P l k ++ [k]:=by
 unfold idxTo;rw [List.range_succ,List.filter_append];simp [h]
theorem idxTo_no (P:Int->Bool) (l:List Int) (k:Nat) (h:P (l[k]?.getD 0)=false):idxTo P l (k+1)=idxTo P l k:=by
 unfold idxTo;rw [List.range_succ,List.filter_append];simp [h]
theorem idxTo_le (P:Int->Bool) (l:List Int) (k:Nat):(idxTo P l k).length<=k:=by
 unfold idxTo
 have:=List.length_filter_le (fun i=>P (l[i]?.getD 0)) (List.range k)
 simpa using this
theorem idx_lt {P:Int->Bool} {l:List Int} {i:Nat} (h:i∈idx P l):i<l.length/\P (l[i]?.getD 0)=true:=by
 unfold idx idxTo at h
 rw [List.mem_filter,List.mem_range] at h
 exact h
def eqP (p x:Int):Bool:=x == p
def sgnP (p:Int):Int:=if p<0 then -1 else if 0<p then 1 else 0
def sdP (s x:Int):Bool:=sgnP x == s
theorem rSide_any (p:Int) (h:okP p) (w:World):Calls Tryz.prog 125 #[.int .i8 p] w fun e w'=>e=.returned (.int .i64 (sgnP p))/\w=w':=by
 obtain ⟨h0,h1⟩:=h
 by_cases hn:p<0
 ·obtain ⟨i,rfl⟩:∃ i:Nat,p=-(i:Int):=⟨(-p).toNat,by omega⟩
  have e:sgnP (-(i:Int))=-1:=by unfold sgnP;rw [if_pos hn]
  rw [e]
  exact rSide_neg i (by omega) (by omega) w
 ·by_cases hp:0<p
  ·obtain ⟨i,rfl⟩:∃ i:Nat,p=(i:Int):=⟨p.toNat,by omega⟩
   have e:sgnP (i:Int)=1:=by unfold sgnP;rw [if_neg hn,if_pos hp]
   rw [e]
   exact rSide_pos i (by omega) (by omega) w
  ·obtain rfl:p=0:=by omega
   exact rSide_zero w
theorem rList_any (F R:Int) (l:List Int) (A:Option Addr) (c:Nat) (p:Int) (w:World) (hlen:l.length<=100000) (hA:RdP w w.heap.size A l c) :
  Calls Tryz.prog 131 #[.agg #[.int .i64 F,.int .i64 R,.slice A l.length c],.int .i8 p] w fun e w'=>∃ v,e=.returned v/\w'.ownsRow w.heap.size 3 1 v (idx (eqP p) l).length (vnats (idx (eqP p) l))/\Below w.heap.size w w':=by
 obtain ⟨i0,hi,hz0,hz1,hz2⟩:=info_parts ints3
 have W0:Below w.heap.size w (w.alloc (.cells #[.int .i64 F,.int .i64 R,.slice A l.length c] 97)):=box1 _ _
 have A1:=(hA.below W0)
 clear hA
 go_enter Tryz.func131,Tryz.ntmps131
 go_wp2
 go_loopw [5,6] (fun v i wr=>∃ k:Nat,k<=l.length/\i=.int .i64 k/\wr.ownsRow (w.heap.size+1) 3 1 v (idxTo (eqP p) l k).length (vnats (idxTo (eqP p) l k))/\Below (w.heap.size+1) (w.alloc (.cells #[.int .i64 F,.int .i64 R,.slice A l.length c] 97)) wr) (fun _ i _=>l.length - (intOf i).toNat)
 case atStart=>exact ⟨0,by omega,rfl,World.ownsRow_nil _ _ _ _,Below.refl _ _⟩
 case round =>
  obtain ⟨k,hk,rfl,hown,hB⟩:=hrel
  have s1:=hB.size
  simp at s1
  have hc2:=hB.cell (p:=⟨w.heap.size,2,none⟩) (by simp)
  simp [go_sem] at hc2
  by_cases hlt:k<l.length
  ·obtain ⟨ad,rfl,hb,hc⟩:=(A1.below (hB.mono (by omega))).at_ hlt
   have hle:=idxTo_le (eqP p) l k
   clear A1
   cases hbq:eqP p (l[k]?.getD 0)
   ·have HS:=Lib.hid (idxTo_no (eqP p) l k hbq)
    have hq:(l[k]?.getD 0 == p)=false:=hbq
    generalize hn:l[k]?.getD 0=n at *
    clear hn hbq
    go_wp2
    go_roundw
    case rel=>exact ⟨k+1,by omega,by go_num,by rw [HS.out];exact hown,hB⟩
    case measure=>simp [intOf];omega
   ·have HS:=Lib.hid (idxTo_yes (eqP p) l k hbq)
    have hq:(l[k]?.getD 0 == p)=true:=hbq
    have HL:Hid ((idxTo (eqP p) l (k+1)).length=(idxTo (eqP p) l k).length+1):=Lib.hid (by rw [HS.out];simp)
    generalize hn:l[k]?.getD 0=n at *
    clear hn hbq
    generalize idxTo (eqP p) l k=q at *
    go_wp2_with (at_builtin;(refine wpList_append_own _ rfl _ _ 128 rfl (w.heap.size+1) 3 i0 (.int .i64 0) 1 8 Tryz.underlying128 hi hz0 hz1 hz2 rfl (by decide) _ _ _ rfl (hown.alloc _) ⟨wr.heap.size,0,none⟩ 1 1 [.int .i64 (k:Int)] rfl rfl ?c1 ?c2 ?c3 ?c4 ?c5 ?_))
    case c1 =>
     intro j u hj
     match j,hj with
     | 0,hj=>simp at hj;subst hj;simp [Addr.add]
    case c2=>intro u hu;simp at hu;subst hu;rfl
    case c3=>unfold maxLen;omega
    case c4=>omega
    case c5=>simp;omega
    intro v' w2 hown' hgrow _
    go_wp2
    go_roundw
    case rel =>
     refine ⟨k+1,by omega,by go_num,?_,?_⟩
     ·rw [HL.out,HS.out,vnats_snoc];exact hown'
     ·exact (hB.alloc (by omega) _).grown hgrow (by simp;omega) (fun r e=>(World.ownsRow.lt hown r e).1)
    case measure=>simp [intOf];omega
  ·have hkl:k=l.length:=by omega
   subst hkl
   go_wp2
   go_ret
   exact ⟨_,rfl,World.ownsRow.mono hown (by omega),W0.trans (hB.mono (by omega))⟩
theorem rSideL_any (F R:Int) (l:List Int) (A:Option Addr) (c:Nat) (s:Int) (w:World) (hlen:l.length<=100000) (hp:∀ j,j<l.length->okP (l[j]?.getD 0)) (hA:RdP w w.heap.size A l c) :
  Calls Tryz.prog 176 #[.agg #[.int .i64 F,.int .i64 R,.slice A l.length c],.int .i64 s] w fun e w'=>∃ v,e=.returned v/\w'.ownsRow w.heap.size 3 1 v (idx (sdP s) l).length (vnats (idx (sdP s) l))/\Below w.heap.size w w':=by
 have HP:=Lib.hid hp
 clear hp
 obtain ⟨i0,hi,hz0,hz1,hz2⟩:=info_parts ints3
 have W0:Below w.heap.size w (w.alloc (.cells #[.int .i64 F,.int .i64 R,.slice A l.length c] 97)):=box1 _ _
 have A1:=(hA.below W0)
 clear hA
 go_enter Tryz.func176,Tryz.ntmps176
 go_wp2
 go_loopw [5,6] (fun v i wr=>∃ k:Nat,k<=l.length/\i=.int .i64 k/\wr.ownsRow (w.heap.size+1) 3 1 v (idxTo (sdP s) l k).length (vnats (idxTo (sdP s) l k))/\Below (w.heap.size+1) (w.alloc (.cells #[.int .i64 F,.int .i64 R,.slice A l.length c] 97)) wr) (fun _ i _=>l.length - (intOf i).toNat)
 case atStart=>exact ⟨0,by omega,rfl,World.ownsRow_nil _ _ _ _,Below.refl _ _⟩
 case round =>
  obtain ⟨k,hk,rfl,hown,hB⟩:=hrel
  have s1:=hB.size
  simp at s1
  have hc2:=hB.cell (p:=⟨w.heap.size,2,none⟩) (by simp)
  simp [go_sem] at hc2
  by_cases hlt:k<l.length
  ·obtain ⟨ad,rfl,hb,hc⟩:=(A1.below (hB.mono (by omega))).at_ hlt
   have hle:=idxTo_le (sdP s) l k
   clear A1
   have hV:=HP.out k hlt
   cases hbq:sdP s (l[k]?.getD 0)
   ·have HS:=Lib.hid (idxTo_no (sdP s) l k hbq)
    have hq:(sgnP (l[k]?.getD 0) == s)=false:=hbq
    generalize hn:l[k]?.getD 0=n at *
    clear hn hbq
    go_wp2_with fail
    refine (rSide_any n hV _).mono ?_
    rintro e w2 ⟨rfl,rfl⟩
    go_wp2
    go_roundw
    case rel=>exact ⟨k+1,by omega,by go_num,by rw [HS.out];exact hown,hB⟩
    case measure=>simp [intOf];omega
   ·have HS:=Lib.hid (idxTo_yes (sdP s) l k hbq)
    have hq:(sgnP (l[k]?.getD 0) == s)=true:=hbq
    have HL:Hid ((idxTo (sdP s) l (k+1)).length=(idxTo (sdP s) l k).length+1):=Lib.hid (by rw [HS.out];simp)
    generalize hn:l[k]?.getD 0=n at *
    clear hn hbq
    generalize idxTo (sdP s) l k=q at *
    go_wp2_with fail
    refine (rSide_any n hV _).mono ?_
    rintro e w1 ⟨rfl,rfl⟩
    go_wp2_with (at_builtin;(refine wpList_append_own _ rfl _ _ 128 rfl (w.heap.size+1) 3 i0 (.int .i64 0) 1 8 Tryz.underlying128 hi hz0 hz1 hz2 rfl (by decide) _ _ _ rfl (hown.alloc _) ⟨wr.heap.size,0,none⟩ 1 1 [.int .i64 (k:Int)] rfl rfl ?c1 ?c2 ?c3 ?c4 ?c5 ?_))
    case c1 =>
     intro j u hj
     match j,hj with
     | 0,hj=>simp at hj;subst hj;simp [Addr.add]
    case c2=>intro u hu;simp at hu;subst hu;rfl
    case c3=>unfold maxLen;omega
    case c4=>omega
    case c5=>simp;omega
    intro v' w2 hown' hgrow _
    go_wp2
    go_roundw
    case rel =>
     refine ⟨k+1,by omega,by go_num,?_,?_⟩
     ·rw [HL.out,HS.out,vnats_snoc];exact hown'
     ·exact (hB.alloc (by omega) _).grown hgrow (by simp;omega) (fun r e=>(World.ownsRow.lt hown r e).1)
    case measure=>simp [intOf];omega
  ·have hkl:k=l.length:=by omega
   subst hkl
   go_wp2
   go_ret
   exact ⟨_,rfl,World.ownsRow.mono hown (by omega),W0.trans (hB.mono (by omega))⟩
end Go.Proofs.YtbccbgonlmkpkaaGreatDoor
namespace Go.Proofs.YtbccbgonlmkpkaaGreatDoor
open Go.RowKit
def orB (p:Int):Bool:=(p == 0) || orthB p
def orA (l:List Int):Bool:=l.all orB
theorem orA_yes {l:List Int} (h:∀ j,j<l.length->orB (l[j]?.getD 0)=true):orA l=true:=by
 unfold orA
 rw [List.all_eq_true]
 intro x hx
 obtain ⟨j,hj,rfl⟩:=List.getElem_of_mem hx
 have:=h j hj
 rwa [List.getElem?_eq_getElem hj] at this
theorem orA_no {l:List Int} {k:Nat} (hk:k<l.length) (h:orB (l[k]?.getD 0)=false):orA l=false:=by
 unfold orA
 rw [List.all_eq_false]
 refine ⟨l[k],List.getElem_mem hk,?_⟩
 rw [List.getElem?_eq_getElem hk] at h
 simpa using h
theorem rOrth_is (F R:Int) (l:List Int) (A:Option Addr) (c:Nat) (h:vbd F R l) (w:World) (hA:RdP w w.heap.size A l c) :
  Calls Tryz.prog 62 #[.agg #[.int .i64 F,.int .i64 R,.slice A l.length c]] w fun e w'=>e=.returned (.bool (orA l))/\Below w.heap.size w w':=by
 have HV:=Lib.hid (rbValid_yes F R l A c h)
 have hp:=h.2.2
 have HP:=Lib.hid hp
 have hlen:l.length<=64:=by have:=(vsz_mul h.1).2;have:=h.2.1;omega
 clear h hp
 go_enter Tryz.func62,Tryz.ntmps62
 go_wp2_with fail
 refine (HV.out _ ((hA.below (box1 _ _)).grow (by simp))).mono ?_
 rintro e w1 ⟨rfl,hb⟩
 have s1:=hb.size
 simp at s1
 have hc2:=hb.cell (p:=⟨w.heap.size,2,none⟩) (by simp)
 simp [go_sem] at hc2
 have hB1:=after1 hb
 have A1:=hA.below hB1
 clear hA hb
 go_wp2
 go_loopw [3] (fun i wr=>∃ k:Nat,k<=l.length/\i=.int .i64 k/\Hid (∀ j,j<k->orB (l[j]?.getD 0)=true)/\Below w1.heap.size w1 wr) (fun i _=>l.length - (intOf i).toNat)
 case atStart=>exact ⟨0,by omega,rfl,Lib.hid (fun j hj=>by omega),Below.refl _ _⟩
 case round =>
  obtain ⟨k,hk,rfl,HO,hB⟩:=hrel
  have s2:=hB.size
  have d2:=(hB.cell (p:=⟨w.heap.size,2,none⟩) (by simp;omega)).trans hc2
  by_cases hlt:k<l.length
  ·obtain ⟨ad,rfl,hb,hc⟩:=(A1.below (hB.mono (by omega))).at_ hlt
   have hV:=HP.out k hlt
   have hno:orB (l[k]?.getD 0)=false->Hid (orA l=false):=fun h=>Lib.hid (orA_no hlt h)
   have hyes:orB (l[k]?.getD 0)=true->Hid (∀ j,j<k+1->orB (l[j]?.getD 0)=true):=fun h=>Lib.hid (fun j hj=>by
    by_cases e:j=k
    ·rw [e];exact h
    ·exact HO.out j (by omega))
   have HNO:=Lib.hid hno
   have HYES:=Lib.hid hyes
   clear A1 hno hyes
   generalize hn:l[k]?.getD 0=n at *
   clear hn
   unfold okP at hV
   by_cases h0:n=0
   ·have hz:(n != 0)=false:=by simp [h0]
    have HK:=HYES.out (by rw [h0];rfl)
    clear h0
    go_wp2
    go_roundw
    case rel=>exact ⟨k+1,by omega,by go_num,HK,hB⟩
    case measure=>simp [intOf];omega
   ·have hz:(n != 0)=true:=bne_iff_ne.2 h0
    have ho:orB n=orthB n:=by unfold orB;simp [h0]
    rw [ho] at HNO HYES
    have HR:=Lib.hid (rorth_any n (by omega))
    cases hb:orthB n
    ·rw [hb] at HR
     have HK:=HNO.out hb
     clear h0 hb ho
     go_wp2_with fail
     refine (HR.out _).mono ?_
     rintro e w2 ⟨rfl,rfl⟩
     go_wp2
     go_ret
     exact ⟨by rw [HK.out];rfl,chain hB1 hB⟩
    ·rw [hb] at HR
     have HK:=HYES.out hb
     clear h0 hb ho
     go_wp2_with fail
     refine (HR.out _).mono ?_
     rintro e w2 ⟨rfl,rfl⟩
     go_wp2
     go_roundw
     case rel=>exact ⟨k+1,by omega,by go_num,HK,hB⟩
     case measure=>simp [intOf];omega
  ·have hkl:k=l.length:=by omega
   subst hkl
   have HK:=Lib.hid (orA_yes HO.out)
   go_wp2
   go_ret
   exact ⟨by rw [HK.out];rfl,chain hB1 hB⟩
theorem rOrth_no (F R:Int) (l:List Int) (A:Option Addr) (c:Nat) (h:¬ vbd F R l) (w:World) (hlen:l.length<=100000) (hA:RdP w w.heap.size A l c) :
  Calls Tryz.prog 62 #[.agg #[.int .i64 F,.int .i64 R,.slice A l.length c]] w fun e w'=>e=.returned (.bool false)/\Below w.heap.size w w':=by
 have HV:=Lib.hid (fun w hA=>rbValid_no F R l A c h w hlen hA)
 clear h
 go_enter Tryz.func62,Tryz.ntmps62
 go_wp2_with fail
 refine (HV.out _ ((hA.below (box1 _ _)).grow (by simp))).mono ?_
 rintro e w1 ⟨rfl,hb⟩
 go_wp2
 go_ret
 exact ⟨rfl,after1 hb⟩
def hasL (l:List Int) (n:Int):Bool:=l.contains n
def sdN (b:Bool):Int:=if b then -1 else 1
theorem rside_any (b:Bool) (w:World):Calls Tryz.prog 132 #[.bool b] w fun e w'=>e=.returned (.int .i64 (sdN b))/\w=w':=by
 cases b
 all_goals
  go_enter Tryz.func132,Tryz.ntmps132
  go_wp2
  go_ret
  exact ⟨rfl,rfl⟩
theorem rhas_any (l:List Int) (n:Int) (A:Option Addr) (c:Nat) (w:World) (hlen:l.length<=100000) (hA:RdI w w.heap.size A l) :
  Calls Tryz.prog 209 #[.slice A l.length c,.int .i64 n] w fun e w'=>e=.returned (.bool (hasL l n))/\w=w':=by
 go_enter Tryz.func209,Tryz.ntmps209
 go_wp2
 go_loop [5] (fun i=>∃ k:Nat,k<=l.length/\i=.int .i64 k/\Hid (∀ j,j<k->l[j]?.getD 0≠n)) (fun i=>l.length - (intOf i).toNat)
 case atStart=>exact ⟨0,by omega,rfl,Lib.hid (fun j hj=>by omega)⟩
 case round =>
  obtain ⟨k,hk,rfl,HO⟩:=hrel
  by_cases hlt:k<l.length
  ·obtain ⟨ad,rfl,hb,hc⟩:=hA.at_ hlt
   have hm:l[k]?.getD 0∈l:=by rw [List.getElem?_eq_getElem hlt];exact List.getElem_mem hlt
   have HM:=Lib.hid hm
   clear hA hm
   by_cases he:l[k]?.getD 0=n
   ·have h1:(l[k]?.getD 0 == n)=true:=by simp [he]
    have HC:Hid (hasL l n=true):=Lib.hid (by unfold hasL;rw [List.contains_iff_mem,<- he];exact HM.out)
    clear he
    generalize l[k]?.getD 0=x at *
    go_wp2
    go_ret
    exact ⟨by rw [HC.out];rfl,rfl⟩
   ·have h1:(l[k]?.getD 0 == n)=false:=by simp [he]
    have HK:Hid (∀ j,j<k+1->l[j]?.getD 0≠n):=Lib.hid (fun j hj=>by
     by_cases e:j=k
     ·rw [e];exact he
     ·exact HO.out j (by omega))
    clear he
    generalize l[k]?.getD 0=x at *
    go_wp2
    go_round
    case rel=>exact ⟨k+1,by omega,by go_num,HK⟩
    case measure=>simp [intOf];omega
  ·have hkl:k=l.length:=by omega
   subst hkl
   have HC:Hid (hasL l n=false):=Lib.hid (by
    unfold hasL
    rw [<- Bool.not_eq_true,List.contains_iff_mem]
    intro hm
    obtain ⟨j,hj,rfl⟩:=List.getElem_of_mem hm
    exact HO.out j hj (by rw [List.getElem?_eq_getElem hj];rfl))
   go_wp2
   go_ret
   exact ⟨by rw [HC.out];rfl,rfl⟩
end Go.Proofs.YtbccbgonlmkpkaaGreatDoor
namespace Go.Proofs.YtbccbgonlmkpkaaGreatDoor
open Go.RowKit
theorem step_join {P:Program} {ops:Array Oper} {o:Oper} {a:Act} {w:World} {K:Act->World->Prop} {Q:Exit->Act->World->Prop} {E:Prop}
  (hg:o.guard=none) (s x:Operand) (t:TypeId) (hop:o.op=Op.call { callee:=Callee.builtin Builtin.append,args:=#[s,x],argTypes:=#[t,t] })
  (e:TypeId) (i:TypeInfo) (z:Value) (size bytes:Nat) (h1:P.underlying t=some (.slice e)) (h2:P.info? e=some i) (h3:i.zero=some z) (h4:i.size=size) (h5:i.bytes=bytes) (h6:z.cells.size=size) (h7:0<size)
  (base:Nat) (v:Value) (n:Nat) (olds:List Value) (hs:a.eval s=v) (hown:w.ownsRow base e size v n olds) (hbase:base<=w.heap.size)
  (A:Option Addr) (m c:Nat) (news:List Value) (hx:a.eval x=.slice A m c) (hA:A=none->m=0/\c=0) (hn:news.length=m * size) (hc:∀ ad,A=some ad->∀ j u,news[j]?=some u->w.cell? (ad.add j)=some u) (h1c:∀ u∈news,u.oneCell'=true)
  (b1:n+m<=maxLen) (b2:(n+m) * bytes<=140737488355328)
  (hK:∀ A' c' w',w'.ownsRow base e size (.slice A' (n+m) c') (n+m) (olds ++ news)->w.grownBy w' v.ownBlock->K (a.put o.dst (.slice A' (n+m) c')) w') :
  if Region.wanted o (yielded ops a.tmps)=true then Oper.wp P o a w K Q else E:=by
 have hw:Region.wanted o (yielded ops a.tmps)=true:=by simp [Region.wanted,hg]
 rw [if_pos hw]
 cases A with
 | none =>
  obtain ⟨rfl,rfl⟩:=hA rfl
  obtain rfl:news=[]:=List.eq_nil_of_length_eq_zero (by simpa using hn)
  have hrun:=run_append_owned_none (P:=P) (w:=w) base t o.type e i size h1 h2 v n olds hown
  unfold Oper.wp
  simp [execOp,hop,resolve,invoke,builtin,hs,hx,hrun,Result.andThen]
  have hh:=hown
  rcases hh with ⟨q1,⟨rfl,rfl⟩ | ⟨g,cap,cur,rfl,q2⟩⟩
  ·exact hK _ _ _ (by simpa using hown) ⟨rfl,rfl,rfl,Nat.le_refl _,fun _ _ _=>rfl⟩
  ·exact hK _ _ _ (by simpa using hown) ⟨rfl,rfl,rfl,Nat.le_refl _,fun _ _ _=>rfl⟩
 | some ad =>
  obtain ⟨v',w',hrun,r1,r2,_⟩:=run_append_own (P:=P) w base t o.type e i z size bytes h1 h2 h3 h4 h5 h6 h7 v n olds hown ad m c news hn (hc ad rfl) h1c b1 b2 hbase
  unfold Oper.wp
  simp [execOp,hop,resolve,invoke,builtin,hs,hx,hrun,Result.andThen]
  have hh:=r1
  rcases hh with ⟨q1,⟨rfl,h0⟩ | ⟨g,cap,cur,rfl,q2⟩⟩
  ·rw [<- h0]
   have:=hK none 0 w' (by rw [h0];rw [h0] at r1;exact r1) r2
   rw [h0] at this ⊢
   exact this
  ·exact hK _ _ _ r1 r2
def SrcI (w:World) (A:Option Addr) (l:List Nat) (c:Nat):Prop:=(A=none->l.length=0/\c=0)/\∀ ad,A=some ad->ad.block<w.heap.size/\∀ j u,(vnats l)[j]?=some u->w.cell? (ad.add j)=some u
theorem SrcI.below {w w':World} {A:Option Addr} {l:List Nat} {c:Nat} (h:SrcI w A l c) (hb:Below w.heap.size w w'):SrcI w' A l c :=
 ⟨h.1,fun ad e=>⟨Nat.lt_of_lt_of_le (h.2 ad e).1 hb.size,fun j u hu=>(hb.cell (by rw [blk_add];exact (h.2 ad e).1)).trans ((h.2 ad e).2 j u hu)⟩⟩
theorem SrcI.own {w:World} {B e:Nat} {v:Value} {l:List Nat} (h:w.ownsRow B e 1 v l.length (vnats l)):∃ A c,v=.slice A l.length c/\SrcI w A l c:=by
 have h':=h
 obtain ⟨hl,⟨rfl,h0⟩ | ⟨g,cap,cur,rfl,hg,hh,hn,hc,hs,ht⟩⟩:=h
 ·exact ⟨none,0,by rw [h0],fun _=>⟨h0,rfl⟩,fun ad e=>by cases e⟩
 ·refine ⟨some ⟨g,0,none⟩,cap,rfl,(fun h=>by cases h),fun ad e=>?_⟩
  cases e
  exact ⟨(Array.getElem?_eq_some_iff.1 hh).1,fun j u hu=>World.ownsRow.cells h' rfl j u hu⟩
theorem grown_below {w w':World} (h:w.grownBy w' none):Below w.heap.size w w':=⟨h.os,h.tape,h.output,h.size,fun k hk=>h.block k hk (by simp)⟩
theorem vnats_one {l:List Nat}:∀ u∈vnats l,u.oneCell'=true:=by
 intro u hu
 unfold vnats vnat at hu
 obtain ⟨p,_,rfl⟩:=List.mem_map.1 hu
 rfl
theorem cBo {w w':World} {a:Addr} {v:Value} (hb:Below w.heap.size w w') (h:w.cell? a=some v):w'.cell? a=some v:=(hb.cell (World.block_lt_of_cell? w _ h)).trans h
theorem rdBo {w w':World} {A:Option Addr} {l:List Int} {c:Nat} (hb:Below w.heap.size w w') (h:RdP w w.heap.size A l c):RdP w' w'.heap.size A l c:=(h.below hb).grow hb.size
def St (w:World) (A:Option Addr) (l:List Int) (c:Nat) (W:World):Prop:=RdP W w.heap.size A l c/\Below w.heap.size w W/\w.heap.size+1<=W.heap.size
theorem keepS2 {w W W':World} {A:Option Addr} {l:List Int} {c:Nat} {v0 v1 v2:Value} (h:W.cell? ⟨w.heap.size,0,none⟩=some v0/\W.cell? ⟨w.heap.size,1,none⟩=some v1/\W.cell? ⟨w.heap.size,2,none⟩=some v2/\St w A l c W) (hb:Below (w.heap.size+1) W W') :
  W'.cell? ⟨w.heap.size,0,none⟩=some v0/\W'.cell? ⟨w.heap.size,1,none⟩=some v1/\W'.cell? ⟨w.heap.size,2,none⟩=some v2/\St w A l c W':=by
 obtain ⟨h0,h1,h2,hR,hB,hs⟩:=h
 exact ⟨(hb.cell (p:=⟨w.heap.size,0,none⟩) (by simp)).trans h0,(hb.cell (p:=⟨w.heap.size,1,none⟩) (by simp)).trans h1,(hb.cell (p:=⟨w.heap.size,2,none⟩) (by simp)).trans h2,hR.below (hb.mono (by omega)),hB.trans (hb.mono (by omega)),Nat.le_trans hs hb.size⟩
theorem keepS {w W W':World} {A:Option Addr} {l:List Int} {c:Nat} {v0 v1 v2:Value} (h:W.cell? ⟨w.heap.size,0,none⟩=some v0/\W.cell? ⟨w.heap.size,1,none⟩=some v1/\W.cell? ⟨w.heap.size,2,none⟩=some v2/\St w A l c W) (hb:Below W.heap.size W W') :
  W'.cell? ⟨w.heap.size,0,none⟩=some v0/\W'.cell? ⟨w.heap.size,1,none⟩=some v1/\W'.cell? ⟨w.heap.size,2,none⟩=some v2/\St w A l c W':=keepS2 h (hb.mono h.2.2.2.2.2)
theorem rdS {w W:World} {A:Option Addr} {l:List Int} {c:Nat} {a b d:Prop} (h:a/\b/\d/\St w A l c W):RdP W W.heap.size A l c:=h.2.2.2.1.grow (by have:=h.2.2.2.2.2;omega)
theorem szS {w W:World} {A:Option Addr} {l:List Int} {c:Nat} {a b d:Prop} (h:a/\b/\d/\St w A l c W):w.heap.size+1<=W.heap.size:=h.2.2.2.2.2
theorem joinB {W W':World} {b e n:Nat} {v:Value} {xs:List Value} (ho:W.ownsRow b e 1 v n xs) (hg:W.grownBy W' v.ownBlock) (hb:b<=W.heap.size):Below b W W':=(Below.refl _ _).grown hg hb (fun r e=>(World.ownsRow.lt ho r e).1)
theorem idx_len (P:Int->Bool) (l:List Int):(idx P l).length<=l.length:=by
 unfold idx idxTo
 have:=List.length_filter_le (fun i=>P (l[i]?.getD 0)) (List.range l.length)
 simpa using this
theorem refOfO (l:List Nat) (B n:Nat) (A:Option Addr) (c:Nat) (w:World) (h:w.ownsRow B 3 1 (.slice A n c) n (vnats l)) (hn:n=l.length) (hlen:l.length<=1000000) (h64:∀ i∈l,i<64) :
  Calls Tryz.prog 175 #[.slice A n c] w fun e w'=>e=.returned (.int .u64 (ofL l:Int))/\w'=w:=by
 subst hn
 obtain ⟨A',c',e,hA⟩:=RdI.own h
 cases e
 have:=refOf_any (l.map fun i:Nat=>(i:Int)) A c w (by simpa using hlen) hA (fun j hj=>by
  simp at hj
  have h1:(l.map fun i:Nat=>(i:Int))[j]?.getD 0=((l[j]'hj:Nat):Int):=by rw [List.getElem?_map,List.getElem?_eq_getElem hj];rfl
  have h2:=h64 _ (List.getElem_mem hj)
  rw [h1]
  omega)
 rw [sqs_nat] at this
 simpa using this
theorem vnats_app (l m:List Nat):vnats (l ++ m)=vnats l ++ vnats m:=by simp [vnats]
def occL (l:List Int):List Nat:=idx (sdP 1) l ++ idx (sdP (-1)) l
theorem rOcc_any (F R:Int) (l:List Int) (A:Option Addr) (c:Nat) (w:World) (hlen:l.length<=64) (hp:∀ j,j<l.length->okP (l[j]?.getD 0)) (hA:RdP w w.heap.size A l c) :
  Calls Tryz.prog 123 #[.agg #[.int .i64 F,.int .i64 R,.slice A l.length c]] w fun e w'=>e=.returned (.int .u64 (ofL (occL l):Int))/\Below w.heap.size w w':=by
 obtain ⟨i0,hi,hz0,hz1,hz2⟩:=info_parts ints3
 have H1:=Lib.hid (fun w hA=>rSideL_any F R l A c 1 w (by omega) hp hA)
 have H2:=Lib.hid (fun w hA=>rSideL_any F R l A c (-1) w (by omega) hp hA)
 have l1:(idx (sdP 1) l).length<=64:=Nat.le_trans (idx_len _ _) hlen
 have l2:(idx (sdP (-1)) l).length<=64:=Nat.le_trans (idx_len _ _) hlen
 have hN1:(idx (sdP 1) l).length<=maxLen:=by unfold maxLen;omega
 have hN1b:(idx (sdP 1) l).length * 8<=140737488355328:=by omega
 have hN2:(idx (sdP 1) l).length+(idx (sdP (-1)) l).length<=maxLen:=by unfold maxLen;omega
 have hN2b:((idx (sdP 1) l).length+(idx (sdP (-1)) l).length) * 8<=140737488355328:=by omega
 have hNL:(idx (sdP 1) l).length+(idx (sdP (-1)) l).length=(idx (sdP 1) l ++ idx (sdP (-1)) l).length:=by simp
 have hNL2:(idx (sdP 1) l ++ idx (sdP (-1)) l).length<=1000000:=by rw [<- hNL];omega
 have hN64:∀ i∈idx (sdP 1) l ++ idx (sdP (-1)) l,i<64:=fun i hi=>by
  rcases List.mem_append.1 hi with h | h <;> have:=idx_lt h <;> omega
 have HNL:=Lib.hid hNL
 have HNL2:=Lib.hid hNL2
 have HN64:=Lib.hid hN64
 clear hp hNL hNL2 hN64
 go_enter Tryz.func123,Tryz.ntmps123
 go_wp2_with fail
 obtain ⟨V,hV⟩:∃ V,w.alloc (.cells #[.int .i64 F,.int .i64 R,.slice A l.length c] 97)=V:=⟨_,rfl⟩
 have h0:V.cell? ⟨w.heap.size,0,none⟩=some (.int .i64 F)/\V.cell? ⟨w.heap.size,1,none⟩=some (.int .i64 R)/\V.cell? ⟨w.heap.size,2,none⟩=some (.slice A l.length c)/\St w A l c V:=by
  rw [<- hV]
  exact ⟨by simp [go_sem],by simp [go_sem],by simp [go_sem],hA.below (box1 _ _),box1 _ _,by simp⟩
 rw [hV]
 clear hV hA
 go_region_held3 (fun w'=>w'.cell? ⟨w.heap.size,0,none⟩=some (.int .i64 F)/\w'.cell? ⟨w.heap.size,1,none⟩=some (.int .i64 R)/\w'.cell? ⟨w.heap.size,2,none⟩=some (.slice A l.length c)/\St w A l c w')
  (first | assumption | exact keepS2 (by assumption) (by assumption) | exact keepS (by assumption) (by assumption) | exact keepS (by assumption) ((Below.refl _ _).drew))
  (first
   | (go_at_call_has 176 (Value.int .i64 1);refine (H1.out _ (rdS (by assumption))).mono ?_;rintro e w1 ⟨v1,rfl,hown1,hb1⟩;obtain ⟨A1,d1,rfl,hs1⟩:=SrcI.own hown1;clear hown1)
   | (go_at_call_has 176 (Value.int .i64 (-1));refine (H2.out _ (rdS (by assumption))).mono ?_;rintro e w2 ⟨v2,rfl,hown2,hb2⟩;obtain ⟨A2,d2,rfl,hs2⟩:=SrcI.own hown2;clear hown2;have ho5:=own_below ho3 hb2)
   | (refine step_copy (by rfl) _ _ _ (by rfl) 3 i0 (.int .i64 0) 1 8 Tryz.underlying128 hi hz0 hz1 hz2 rfl (by decide) (by rfl) (w.heap.size+1) (szS (A:=A) (l:=l) (c:=c) (by assumption)) A1 _ d1 (vnats (idx (sdP 1) l)) (by rfl) hs1.1 (by simp [vnats]) (fun ad e=>(hs1.2 ad e).2) vnats_one hN1 hN1b ?_;intro A3 d3 w3 ho3 hg3;have hb3:=grown_below hg3)
   | (refine step_join (by rfl) _ _ _ (by rfl) 3 i0 (.int .i64 0) 1 8 Tryz.underlying128 hi hz0 hz1 hz2 rfl (by decide) (w.heap.size+1) (.slice A3 (idx (sdP 1) l).length d3) (idx (sdP 1) l).length (vnats (idx (sdP 1) l)) (by rfl) ho5 (szS (A:=A) (l:=l) (c:=c) (by assumption)) A2 (idx (sdP (-1)) l).length d2 (vnats (idx (sdP (-1)) l)) (by rfl) hs2.1 ((vnats_len _).trans (Nat.mul_one _).symm) (fun ad e=>(hs2.2 ad e).2) vnats_one hN2 hN2b ?_;intro A4 d4 w4 ho4 hg4;have hb4:=joinB ho5 hg4 (szS (A:=A) (l:=l) (c:=c) (by assumption));rw [<- vnats_app] at ho4)
   | (go_at_call 175;refine (refOfO (idx (sdP 1) l ++ idx (sdP (-1)) l) _ _ _ _ _ ho4 HNL.out HNL2.out HN64.out).mono ?_;rintro e w5 ⟨rfl,rfl⟩))
 go_wp2
 go_ret
 exact ⟨rfl,(by assumption:_/\_/\_/\St w A l c _).2.2.2.2.1⟩
end Go.Proofs.YtbccbgonlmkpkaaGreatDoor
