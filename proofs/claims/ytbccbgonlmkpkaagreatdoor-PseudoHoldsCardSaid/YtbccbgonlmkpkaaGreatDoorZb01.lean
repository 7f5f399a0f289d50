/- What the theorem needs, piece Zb01. -/
import Derived.Test.YtbccbgonlmkpkaaGreatDoorZb00
import Derived.Shelf.Strings.Split
import Derived.Deep.RegionLawGrows
import Derived.Laws.OwnMore
import Derived.Deep.Onto
import Derived.Deep.OwnRows
import Derived.IntWalk
import Derived.Lib.SmallJoins
set_option linter.unusedSimpArgs false
set_option linter.unusedVariables false
set_option maxRecDepth 100000
set_option maxHeartbeats 16000000
namespace Go.Proofs.YtbccbgonlmkpkaaGreatDoor
open Go.RowKit
theorem ints3:(Tryz.prog.info? 3).map (fun i=>(i.zero,i.size,i.bytes))=some (some (.int .i64 0),1,8):=by kernel_rfl
def vnat (i:Nat):Value:=.int .i64 (i:Int)
def vnats (l:List Nat):List Value:=l.map vnat
theorem vnats_snoc (l:List Nat) (i:Nat):vnats (l ++ [i])=vnats l ++ [.int .i64 (i:Int)]:=by simp [vnats,vnat]
theorem vnats_len (l:List Nat):(vnats l).length=l.length:=by simp [vnats]
end Go.Proofs.YtbccbgonlmkpkaaGreatDoor
namespace Go.Proofs.YtbccbgonlmkpkaaGreatDoor
open Go.RowKit
def RdI (w:World) (B:Nat) (A:Option Addr) (l:List Int):Prop :=
 0<l.length->∃ ad,A=some ad/\ad.block<B/\∀ j u,l[j]?=some u->w.cell? (ad.add j)=some (.int .i64 u)
theorem RdI.at_ {w:World} {B:Nat} {A:Option Addr} {l:List Int} (h:RdI w B A l) {k:Nat} (hk:k<l.length):∃ ad,A=some ad/\ad.block<B/\w.cell? (ad.add k)=some (.int .i64 (l[k]?.getD 0)):=by
 obtain ⟨ad,e,hb,hc⟩:=h (by omega)
 exact ⟨ad,e,hb,hc k _ (by rw [List.getElem?_eq_getElem hk];rfl)⟩
theorem blk_add (a:Addr) (n:Nat):(a.add n).block=a.block:=by unfold Addr.add;split <;> rfl
theorem RdI.below {w w':World} {B:Nat} {A:Option Addr} {l:List Int} (h:RdI w B A l) (hb:Below B w w'):RdI w' B A l:=fun hl=>by
 obtain ⟨ad,e,h1,hc⟩:=h hl
 exact ⟨ad,e,h1,fun j u hu=>(hb.cell (by rw [blk_add];exact h1)).trans (hc j u hu)⟩
theorem RdI.own {w:World} {B e:Nat} {v:Value} {l:List Nat} (h:w.ownsRow B e 1 v l.length (vnats l)):∃ A c,v=.slice A l.length c/\RdI w w.heap.size A (l.map fun i:Nat=>(i:Int)):=by
 obtain ⟨hl,⟨rfl,h0⟩ | ⟨g,cap,cur,rfl,hg,hh,hn,hc,hs,ht⟩⟩:=h
 ·exact ⟨none,0,by rw [h0],fun hh=>by simp at hh;omega⟩
 ·refine ⟨some ⟨g,0,none⟩,cap,rfl,fun _=>⟨_,rfl,(Array.getElem?_eq_some_iff.1 hh).1,fun j u hu=>?_⟩⟩
  have hcell:=World.ownsRow.cells (w:=w) (base:=B) (e:=e) (size:=1) (v:=.slice (some ⟨g,0,none⟩) l.length cap) (n:=l.length) (xs:=vnats l) ⟨hl,.inr ⟨g,cap,cur,rfl,hg,hh,hn,hc,hs,ht⟩⟩ (g:=g) rfl j (.int .i64 u)
  apply hcell
  rw [List.getElem?_map] at hu
  simp only [vnats,List.getElem?_map]
  cases hj:l[j]? with
  | none=>rw [hj] at hu;simp at hu
  | some x=>rw [hj] at hu;simp at hu;subst hu;rfl
theorem own_below {w w':World} {base:Nat} {e:TypeId} {size:Nat} {v:Value} {n:Nat} {xs:List Value} (h:w.ownsRow base e size v n xs) (hb:Below w.heap.size w w'):w'.ownsRow base e size v n xs:=by
 obtain ⟨hl,h0 | ⟨g,cap,cur,rfl,hg,hh,hr⟩⟩:=h
 ·exact ⟨hl,.inl h0⟩
 ·exact ⟨hl,.inr ⟨g,cap,cur,rfl,hg,(hb.block g (Array.getElem?_eq_some_iff.1 hh).1).trans hh,hr⟩⟩
theorem add_wrap (X:Nat) (n:Int) (hX:X<18446744073709551616) (h1:n<64) (hb:X.testBit n.toNat=false) :
  IntKind.u64.wrap ((X:Int)+IntKind.u64.wrap ((2:Int) ^ n.toNat))=((X ||| bitN n.toNat:Nat):Int):=by
 have e:=add_bit hb
 have l:=or_lt X n.toNat hX (by omega)
 rw [pow_wrap n h1,IntKind.wrap_u64]
 unfold bitN at *
 omega
def sqs (l:List Int):List Nat:=l.map Int.toNat
def ofTo (l:List Int) (k:Nat):Nat:=ofL ((sqs l).take k)
theorem ofTo_succ (l:List Int) (k:Nat) (h:k<l.length):ofTo l (k+1)=ofTo l k ||| bitN (l[k]?.getD 0).toNat:=by
 unfold ofTo
 have h':k<(sqs l).length:=by simpa [sqs] using h
 rw [List.take_succ_eq_append_getElem h',ofL_snoc]
 congr 2
 simp [sqs,List.getElem?_eq_getElem h]
theorem ofTo_all (l:List Int):ofTo l l.length=ofL (sqs l):=by
 unfold ofTo;rw [List.take_of_length_le (by simp [sqs])]
theorem ofTo_lt (l:List Int) (k:Nat) (h:∀ j,j<l.length->0<=l[j]?.getD 0/\l[j]?.getD 0<64):ofTo l k<18446744073709551616:=by
 have:=ofL_lt (l:=(sqs l).take k) (n:=64) (by
  intro i hi
  have hi:=List.mem_of_mem_take hi
  simp only [sqs,List.mem_map] at hi
  obtain ⟨x,hx,rfl⟩:=hi
  obtain ⟨j,hj,rfl⟩:=List.mem_iff_getElem.1 hx
  have:=h j hj
  rw [List.getElem?_eq_getElem hj] at this
  simp at this
  omega)
 unfold ofTo
 simpa using this
theorem refOf_any (l:List Int) (A:Option Addr) (c:Nat) (w:World) (hlen:l.length<=1000000) (hA:RdI w w.heap.size A l) (h:∀ j,j<l.length->0<=l[j]?.getD 0/\l[j]?.getD 0<64) :
  Calls Tryz.prog 175 #[.slice A l.length c] w fun e w'=>e=.returned (.int .u64 (ofL (sqs l):Int))/\w'=w:=by
 have H:=Lib.hid h
 clear h
 go_enter Tryz.func175,Tryz.ntmps175
 go_wp2
 go_loop [3,4] (fun v i=>∃ k:Nat,k<=l.length/\i=.int .i64 k/\v=.int .u64 (ofTo l k:Int)) (fun _ i=>l.length - (intOf i).toNat)
 case atStart=>exact ⟨0,by omega,rfl,rfl⟩
 case round =>
  obtain ⟨k,hk,rfl,rfl⟩:=hrel
  by_cases hlt:k<l.length
  ·obtain ⟨ad,rfl,hb,hc⟩:=hA.at_ hlt
   have hX:=ofTo_lt l k H.out
   obtain ⟨b0,b1⟩:=H.out k hlt
   have hs:=ofTo_succ l k hlt
   have HS:=Lib.hid hs
   clear hs hA
   generalize hn:l[k]?.getD 0=n at *
   clear hn
   generalize hX':ofTo l k=X at *
   clear hX'
   go_wp2_with fail
   refine (refHas_in X n hX b0 b1 _).mono ?_
   rintro e w1 ⟨rfl,rfl⟩
   cases hb:X.testBit n.toNat
   ·have E:=Lib.hid (add_wrap X n hX b1 hb)
    go_wp2
    go_round
    case rel=>exact ⟨k+1,by omega,by go_num,by rw [HS.out];exact vint E.out⟩
    case measure=>simp [intOf];omega
   ·have E:=Lib.hid (or_bit hb)
    go_wp2
    go_round
    case rel=>exact ⟨k+1,by omega,by go_num,by rw [HS.out];unfold bitN;rw [E.out]⟩
    case measure=>simp [intOf];omega
  ·have hkl:k=l.length:=by omega
   subst hkl
   go_wp2
   go_ret
   exact ⟨ret_int (by rw [ofTo_all]),rfl⟩
end Go.Proofs.YtbccbgonlmkpkaaGreatDoor
namespace Go.Proofs.YtbccbgonlmkpkaaGreatDoor
open Go.RowKit
def RdP (w:World) (B:Nat) (A:Option Addr) (l:List Int) (c:Nat):Prop :=
 (A=none->l.length=0/\c=0)/\(0<l.length->∃ ad,A=some ad/\ad.block<B/\∀ j u,l[j]?=some u->w.cell? (ad.add j)=some (.int .i8 u))
theorem RdP.at_ {w:World} {B:Nat} {A:Option Addr} {l:List Int} {c:Nat} (h:RdP w B A l c) {k:Nat} (hk:k<l.length):∃ ad,A=some ad/\ad.block<B/\w.cell? (ad.add k)=some (.int .i8 (l[k]?.getD 0)):=by
 obtain ⟨ad,e,hb,hc⟩:=h.2 (by omega)
 exact ⟨ad,e,hb,hc k _ (by rw [List.getElem?_eq_getElem hk];rfl)⟩
theorem RdP.below {w w':World} {B:Nat} {A:Option Addr} {l:List Int} {c:Nat} (h:RdP w B A l c) (hb:Below B w w'):RdP w' B A l c:=⟨h.1,fun hl=>by
 obtain ⟨ad,e,h1,hc⟩:=h.2 hl
 exact ⟨ad,e,h1,fun j u hu=>(hb.cell (by rw [blk_add];exact h1)).trans (hc j u hu)⟩⟩
theorem RdP.grow {w:World} {B B':Nat} {A:Option Addr} {l:List Int} {c:Nat} (h:RdP w B A l c) (hB:B<=B'):RdP w B' A l c:=⟨h.1,fun hl=>by
 obtain ⟨ad,e,h1,hc⟩:=h.2 hl
 exact ⟨ad,e,by omega,hc⟩⟩
def vbd (F R:Int) (l:List Int):Prop:=vsz F R/\(l.length:Int)=F * R/\∀ j,j<l.length->okP (l[j]?.getD 0)
theorem rbValid_yes (F R:Int) (l:List Int) (A:Option Addr) (c:Nat) (h:vbd F R l) (w:World) (hA:RdP w w.heap.size A l c) :
  Calls Tryz.prog 129 #[.agg #[.int .i64 F,.int .i64 R,.slice A l.length c]] w fun e w'=>e=.returned (.bool true)/\Below w.heap.size w w':=by
 obtain ⟨hv,hl,hp⟩:=h
 obtain ⟨m0,m1⟩:=vsz_mul hv
 have hne:((l.length:Int) != F * R)=false:=by simp [hl]
 have HL:=Lib.hid hl
 have HP:=Lib.hid hp
 have hlen:l.length<=64:=by omega
 clear hl hp
 go_enter Tryz.func129,Tryz.ntmps129
 go_wp2_with fail
 refine (refSize_yes _ _ hv _).mono ?_
 rintro e w1 ⟨rfl,hb⟩
 have s1:=hb.size
 simp at s1
 have hc0:=hb.cell (p:=⟨w.heap.size,0,none⟩) (by simp)
 have hc1:=hb.cell (p:=⟨w.heap.size,1,none⟩) (by simp)
 have hc2:=hb.cell (p:=⟨w.heap.size,2,none⟩) (by simp)
 simp [go_sem] at hc0 hc1 hc2
 have hB1:=after1 hb
 have A1:=hA.below hB1
 clear hA hb
 go_wp2
 go_loopw [3] (fun i wr=>∃ k:Nat,k<=l.length/\i=.int .i64 k/\Below w1.heap.size w1 wr) (fun i _=>l.length - (intOf i).toNat)
 case atStart=>exact ⟨0,by omega,rfl,Below.refl _ _⟩
 case round =>
  obtain ⟨k,hk,rfl,hB⟩:=hrel
  have s2:=hB.size
  have d2:=(hB.cell (p:=⟨w.heap.size,2,none⟩) (by simp;omega)).trans hc2
  by_cases hlt:k<l.length
  ·obtain ⟨ad,rfl,hb,hc⟩:=(A1.below (hB.mono (by omega))).at_ hlt
   have hV:=HP.out k hlt
   clear A1
   generalize hn:l[k]?.getD 0=n at *
   clear hn
   go_wp2_with fail
   refine (rpValid_yes n hV _).mono ?_
   rintro e w2 ⟨rfl,rfl⟩
   go_wp2
   go_roundw
   case rel=>exact ⟨k+1,by omega,by go_num,hB⟩
   case measure=>simp [intOf];omega
  ·have hkl:k=l.length:=by omega
   subst hkl
   go_wp2
   go_ret
   exact ⟨rfl,chain hB1 hB⟩
theorem least {P:Nat->Prop} (n:Nat):P n->∃ m,m<=n/\P m/\∀ j,j<m->¬ P j:=by
 induction n using Nat.strongRecOn with
 | ind n ih =>
  intro h
  by_cases hx:∃ j,j<n/\P j
  ·obtain ⟨j,hj,hp⟩:=hx
   obtain ⟨m,hm,h1,h2⟩:=ih j hj hp
   exact ⟨m,by omega,h1,h2⟩
  ·exact ⟨n,Nat.le_refl _,h,fun j hj hp=>hx ⟨j,hj,hp⟩⟩
theorem first_bad {l:List Int} (h:¬ ∀ j,j<l.length->okP (l[j]?.getD 0)):∃ m,m<l.length/\¬ okP (l[m]?.getD 0)/\∀ j,j<m->okP (l[j]?.getD 0):=by
 have h':∃ m,m<l.length/\¬ okP (l[m]?.getD 0):=by
  apply Classical.byContradiction
  intro hc
  exact h fun j hj=>Classical.byContradiction fun hb=>hc ⟨j,hj,hb⟩
 obtain ⟨n,hn⟩:=h'
 obtain ⟨m,hm,hp,hl⟩:=least (P:=fun m=>m<l.length/\¬ okP (l[m]?.getD 0)) n hn
 exact ⟨m,hp.1,hp.2,fun j hj=>Classical.byContradiction fun hb=>hl j hj ⟨by omega,hb⟩⟩
theorem rbValid_no (F R:Int) (l:List Int) (A:Option Addr) (c:Nat) (h:¬ vbd F R l) (w:World) (hlen:l.length<=100000) (hA:RdP w w.heap.size A l c) :
  Calls Tryz.prog 129 #[.agg #[.int .i64 F,.int .i64 R,.slice A l.length c]] w fun e w'=>e=.returned (.bool false)/\Below w.heap.size w w':=by
 by_cases hv:vsz F R
 ·obtain ⟨m0,m1⟩:=vsz_mul hv
  by_cases hl:(l.length:Int)=F * R
  ·obtain ⟨m,hm,hbad,hgood⟩:=first_bad (fun hp=>h ⟨hv,hl,hp⟩)
   have hne:((l.length:Int) != F * R)=false:=by simp [hl]
   have HL:=Lib.hid hl
   have HP:=Lib.hid hgood
   have HB:=Lib.hid hbad
   clear hl hgood hbad h
   go_enter Tryz.func129,Tryz.ntmps129
   go_wp2_with fail
   refine (refSize_yes _ _ hv _).mono ?_
   rintro e w1 ⟨rfl,hb⟩
   have s1:=hb.size
   simp at s1
   have hc0:=hb.cell (p:=⟨w.heap.size,0,none⟩) (by simp)
   have hc1:=hb.cell (p:=⟨w.heap.size,1,none⟩) (by simp)
   have hc2:=hb.cell (p:=⟨w.heap.size,2,none⟩) (by simp)
   simp [go_sem] at hc0 hc1 hc2
   have hB1:=after1 hb
   have A1:=hA.below hB1
   clear hA hb
   go_wp2
   go_loopw [3] (fun i wr=>∃ k:Nat,k<=m/\i=.int .i64 k/\Below w1.heap.size w1 wr) (fun i _=>l.length - (intOf i).toNat)
   case atStart=>exact ⟨0,by omega,rfl,Below.refl _ _⟩
   case round =>
    obtain ⟨k,hk,rfl,hB⟩:=hrel
    have s2:=hB.size
    have d2:=(hB.cell (p:=⟨w.heap.size,2,none⟩) (by simp;omega)).trans hc2
    obtain ⟨ad,rfl,hb,hc⟩:=(A1.below (hB.mono (by omega))).at_ (show k<l.length by omega)
    by_cases hlt:k<m
    ·have hV:=HP.out k hlt
     clear A1
     generalize hn:l[k]?.getD 0=n at *
     clear hn
     have hlt':k<l.length:=by omega
     go_wp2_with fail
     refine (rpValid_yes n hV _).mono ?_
     rintro e w2 ⟨rfl,rfl⟩
     go_wp2
     go_roundw
     case rel=>exact ⟨k+1,by omega,by go_num,hB⟩
     case measure=>simp [intOf];omega
    ·have hkl:k=m:=by omega
     subst hkl
     have hV:=HB.out
     clear A1
     generalize hn:l[k]?.getD 0=n at *
     clear hn
     go_wp2_with fail
     refine (rpValid_no n hV _).mono ?_
     rintro e w2 ⟨rfl,rfl⟩
     go_wp2
     go_ret
     exact ⟨rfl,chain hB1 hB⟩
  ·have hne:((l.length:Int) != F * R)=true:=by simp [hl]
   clear h hl
   go_enter Tryz.func129,Tryz.ntmps129
   go_wp2_with fail
   refine (refSize_yes _ _ hv _).mono ?_
   rintro e w1 ⟨rfl,hb⟩
   have hc0:=hb.cell (p:=⟨w.heap.size,0,none⟩) (by simp)
   have hc1:=hb.cell (p:=⟨w.heap.size,1,none⟩) (by simp)
   have hc2:=hb.cell (p:=⟨w.heap.size,2,none⟩) (by simp)
   simp [go_sem] at hc0 hc1 hc2
   go_wp2
   go_ret
   exact ⟨rfl,after1 hb⟩
 ·clear h
  go_enter Tryz.func129,Tryz.ntmps129
  go_wp2_with fail
  refine (refSize_no _ _ hv _).mono ?_
  rintro e w1 ⟨rfl,hb⟩
  go_wp2
  go_ret
  exact ⟨rfl,after1 hb⟩
end Go.Proofs.YtbccbgonlmkpkaaGreatDoor
namespace Go.Proofs.YtbccbgonlmkpkaaGreatDoor
open Go.RowKit
def okRow (row:List Int):Prop:=∀ x∈row,okP x
theorem lt_rng {p:Int} (h:okP p) (hz:p≠0):65<=lt p/\lt p<=122:=by
 obtain ⟨h0,h1⟩:=h
 have hu:=ltr_bd
 by_cases hn:p<0
 ·obtain ⟨i,rfl⟩:∃ i:Nat,p=-(i:Int):=⟨(-p).toNat,by omega⟩
  rw [lt_neg (by omega)]
  have:=hu (i - 1) (by omega)
  omega
 ·obtain ⟨i,rfl⟩:∃ i:Nat,p=(i:Int):=⟨p.toNat,by omega⟩
  rw [lt_pos (by omega)]
  have:=hu (i - 1) (by omega)
  omega
theorem piP_ok {c:Nat} (h:piP c≠0):okP (piP c)/\lt (piP c)=c:=by
 unfold piP at *
 cases hf:((List.range 31).map fun i:Nat=>(i:Int) - 15).find? fun p=>decide (p≠0) && decide (lt p=c) with
 | none=>rw [hf] at h;simp at h
 | some p =>
  rw [hf] at h
  have h1:=List.find?_some hf
  have h2:=List.mem_of_find?_eq_some hf
  simp only [Bool.and_eq_true,decide_eq_true_iff] at h1
  simp only [List.mem_map,List.mem_range] at h2
  obtain ⟨i,hi,rfl⟩:=h2
  exact ⟨⟨by simp;omega,by simp;omega⟩,h1.2⟩
theorem u8_lt (n:Nat) (h:n<256):(UInt8.ofNat n).toNat=n:=by simp;omega
theorem rowS_full (row:List Int):rowS row row.length=row.foldl stp ([],0):=by unfold rowS;rw [List.take_length]
theorem fold_zeros (n:Nat) (a:List UInt8) (e:Nat):(List.replicate n (0:Int)).foldl stp (a,e)=(a,e+n):=by
 induction n generalizing e with
 | zero=>rfl
 | succ n ih =>
  rw [List.replicate_succ,List.foldl_cons]
  have:stp (a,e) 0=(a,e+1):=by unfold stp;rw [if_pos rfl]
  rw [this,ih]
  simp;omega
theorem rd_inv (t:List UInt8) (k:Nat) (hk:k<=t.length):∀ (row:List Int) (d:Bool),prT t k=some (row,d) ->
  okRow row/\(d=false->(row.foldl stp ([],0)).2=0/\(row.foldl stp ([],0)).1=t.take k)/\(d=true->0<(row.foldl stp ([],0)).2/\(row.foldl stp ([],0)).1 ++ flu (row.foldl stp ([],0)).2=t.take k):=by
 induction k with
 | zero =>
  intro row d h
  simp [prT] at h
  obtain ⟨rfl,rfl⟩:=h
  exact ⟨fun x hx=>by simp at hx,fun _=>⟨rfl,rfl⟩,fun h=>by cases h⟩
 | succ k ih =>
  intro row d h
  rw [prT_succ t k (by omega)] at h
  have ht:t.take (k+1)=t.take k ++ [t[k]]:=List.take_succ_eq_append_getElem (by omega)
  cases hp:prT t k with
  | none=>rw [hp] at h;simp [prS] at h
  | some st =>
   obtain ⟨r0,d0⟩:=st
   obtain ⟨i1,i2,i3⟩:=ih (by omega) r0 d0 hp
   rw [hp] at h
   simp only [prS] at h
   split at h
   ·rename_i hd
    cases d0 with
    | true=>simp at h
    | false =>
     simp at h
     obtain ⟨rfl,rfl⟩:=h
     obtain ⟨j1,j2⟩:=i2 rfl
     have hf:(r0 ++ List.replicate (t[k].toNat - 48) 0).foldl stp ([],0)=(t.take k,t[k].toNat - 48):=by
      rw [List.foldl_append]
      have:r0.foldl stp ([],0)=(t.take k,0):=Prod.ext j2 j1
      rw [this,fold_zeros];simp
     refine ⟨?_,(fun h=>by cases h),fun _=>?_⟩
     ·intro x hx
      rcases List.mem_append.1 hx with hx | hx
      ·exact i1 x hx
      ·rw [List.eq_of_mem_replicate hx];exact ⟨by omega,by omega⟩
     ·rw [hf]
      refine ⟨by simp only;omega,?_⟩
      simp only
      rw [flu_pos (by omega),ht,show 48+(t[k].toNat - 48)=t[k].toNat by omega]
      simp
   ·split at h
    ·simp at h
    ·rename_i hz
     simp at h
     obtain ⟨rfl,rfl⟩:=h
     obtain ⟨k1,k2⟩:=piP_ok hz
     have hl:UInt8.ofNat (lt (piP t[k].toNat))=t[k]:=by rw [k2];simp
     have hf:(r0 ++ [piP t[k].toNat]).foldl stp ([],0)=(t.take (k+1),0):=by
      rw [List.foldl_append,List.foldl_cons,List.foldl_nil]
      unfold stp
      rw [if_neg hz,hl,ht]
      cases d0 with
      | true =>
       have:=(i3 rfl).2
       unfold stp at this
       rw [this]
      | false =>
       obtain ⟨j1,j2⟩:=i2 rfl
       unfold stp at j1 j2
       rw [j1,j2,flu_zero,List.append_nil]
     refine ⟨?_,fun _=>?_,fun h=>by cases h⟩
     ·intro x hx
      rcases List.mem_append.1 hx with hx | hx
      ·exact i1 x hx
      ·rw [List.mem_singleton.1 hx];exact k1
     ·rw [hf];exact ⟨rfl,rfl⟩
theorem text_prow {t:List UInt8} {row:List Int} (h:prow t=some row):okRow row/\rowT row=t:=by
 unfold prow at h
 cases hp:prT t t.length with
 | none=>rw [hp] at h;simp at h
 | some st =>
  obtain ⟨r,d⟩:=st
  rw [hp] at h
  simp at h
  subst h
  obtain ⟨i1,i2,i3⟩:=rd_inv t t.length (Nat.le_refl _) r d hp
  refine ⟨i1,?_⟩
  unfold rowT
  rw [rowS_full]
  rw [List.take_length] at i2 i3
  cases d with
  | true=>exact (i3 rfl).2
  | false=>obtain ⟨j1,j2⟩:=i2 rfl;rw [j1,j2,flu_zero,List.append_nil]
def jn:List (List UInt8)->List UInt8
 | []=>[]
 | t :: ts=>t ++ ts.flatMap (fun u=>47 :: u)
theorem jn_snoc {ts:List (List UInt8)} (h:ts≠[]) (u:List UInt8):jn (ts ++ [u])=jn ts ++ [47] ++ u:=by
 cases ts with
 | nil=>exact absurd rfl h
 | cons t ts=>simp [jn]
theorem spS_snoc (us:List (List UInt8)) (u:List UInt8) (c:UInt8):spS (us ++ [u]) c=if c=47 then us ++ [u] ++ [[]] else us ++ [u ++ [c]]:=by
 unfold spS
 split
 ·rfl
 ·have h:(us ++ [u]).length - 1=us.length:=by simp
  rw [h,List.getElem?_append_right (by omega)]
  simp
theorem jn_last (us:List (List UInt8)) (u:List UInt8) (c:UInt8):jn (us ++ [u ++ [c]])=jn (us ++ [u]) ++ [c]:=by
 cases us with
 | nil=>simp [jn]
 | cons t ts=>simp [jn]
theorem spT_jn (L:List UInt8) (k:Nat) (hk:k<=L.length):(∃ us u,spT L k=us ++ [u])/\jn (spT L k)=L.take k:=by
 induction k with
 | zero=>exact ⟨⟨[],[],rfl⟩,by simp [spT,jn]⟩
 | succ k ih =>
  obtain ⟨⟨us,u,e⟩,hj⟩:=ih (by omega)
  rw [spT_succ L k (by omega),e,spS_snoc,List.take_succ_eq_append_getElem (by omega),<- hj,e]
  split
  ·rename_i hc
   exact ⟨⟨_,_,rfl⟩,by rw [jn_snoc (by simp),hc];simp⟩
  ·exact ⟨⟨_,_,rfl⟩,jn_last us u _⟩
theorem spl_jn (L:List UInt8):jn (spl L)=L:=by
 have:=(spT_jn L L.length (Nat.le_refl _)).2
 rw [List.take_length] at this
 exact this
def rks (F R:Nat) (l:List Int):List (List UInt8):=(List.range R).map fun i=>rowT (rk F l (R - 1 - i))
theorem rks_len (F R:Nat) (l:List Int):(rks F R l).length=R:=by simp [rks]
theorem rks_at {F R:Nat} {l:List Int} {i:Nat} (h:i<R):(rks F R l)[i]?.getD []=rowT (rk F l (R - 1 - i)):=by
 unfold rks;rw [List.getElem?_map,List.getElem?_range h];rfl
theorem accT_jn (F R:Nat) (l:List Int) (k:Nat) (hk:k<=R):accT F R l k=jn ((rks F R l).take k):=by
 induction k with
 | zero=>simp [accT,jn]
 | succ k ih =>
  have h':k<(rks F R l).length:=by rw [rks_len];omega
  have hg:(rks F R l)[k]=rowT (rk F l (R - 1 - k)):=by
   have:=rks_at (F:=F) (l:=l) (show k<R by omega)
   rw [List.getElem?_eq_getElem h'] at this
   exact this
  rw [List.take_succ_eq_append_getElem h',hg,accT,ih (by omega)]
  by_cases h0:k=0
  ·subst h0;simp [jn]
  ·rw [if_neg h0,jn_snoc (by intro e;have:=congrArg List.length e;simp [rks_len] at this;omega)]
theorem text_jn (F R:Nat) (l:List Int):accT F R l R=jn (rks F R l):=by
 rw [accT_jn F R l R (Nat.le_refl _),List.take_of_length_le (by rw [rks_len];omega)]
theorem text_parse {L:List UInt8} {f r:Nat} {ps:List Int} (h:parseB L=some (f,r,ps)):3<=f/\f<=8/\3<=r/\r<=8/\ps.length=r * f/\okRow ps/\accT f r ps r=L:=by
 unfold parseB at h
 split at h
 ·simp at h
 ·rename_i hn
  obtain ⟨ts,hts⟩:∃ ts,spl L=ts:=⟨_,rfl⟩
  have hj:=spl_jn L
  rw [hts] at h hn hj
  cases hb:brT ts ts.length with
  | none=>rw [hb] at h;simp at h
  | some st =>
   obtain ⟨f',ps'⟩:=st
   rw [hb] at h
   simp only [Option.map_some,Option.some.injEq,Prod.mk.injEq] at h
   obtain ⟨rfl,rfl,rfl⟩:=h
   have inv:∀ m,m<=ts.length->∀ f ps,brT ts m=some (f,ps)->(m=0->ps=[])/\(0<m->3<=f/\f<=8)/\ps.length=m * f/\okRow ps/\∀ i,i<m->rowT (rk f ps i)=ts[ts.length - 1 - i]?.getD []:=by
    intro m
    induction m with
    | zero =>
     intro _ f ps h
     simp [brT] at h
     obtain ⟨rfl,rfl⟩:=h
     exact ⟨fun _=>rfl,fun h=>by omega,by simp,fun x hx=>by simp at hx,fun i hi=>by omega⟩
    | succ m ih =>
     intro hm f ps h
     rw [brT_succ _ m (by omega)] at h
     cases hp:brT ts m with
     | none=>rw [hp] at h;simp [brS] at h
     | some st =>
      obtain ⟨f0,ps0⟩:=st
      obtain ⟨i0,i1,i2,i3,i4⟩:=ih (by omega) f0 ps0 hp
      rw [hp] at h
      simp only [brS] at h
      cases hw:prow (ts[ts.length - 1 - m]?.getD []) with
      | none=>rw [hw] at h;simp at h
      | some row =>
       rw [hw] at h
       simp only at h
       split at h
       ·simp at h
       ·rename_i hc
        simp only [Option.some.injEq,Prod.mk.injEq] at h
        obtain ⟨rfl,rfl⟩:=h
        obtain ⟨hrok,hrt⟩:=text_prow hw
        have hrow:3<=row.length/\row.length<=8:=by omega
        have hf:0<m->row.length=f0:=by
         intro h0
         have h3:=(i1 h0).1
         have:0<ps0.length:=by rw [i2];exact Nat.mul_pos h0 (by omega)
         apply Classical.byContradiction
         intro hne
         exact hc (Or.inr (Or.inr ⟨this,hne⟩))
        have hlen0:ps0.length=m * row.length:=by
         by_cases h0:m=0
         ·rw [i0 h0,h0];simp
         ·rw [i2,hf (by omega)]
        refine ⟨fun h=>by omega,fun _=>hrow,by rw [List.length_append,hlen0,Nat.add_mul];omega,?_,?_⟩
        ·intro x hx
         rcases List.mem_append.1 hx with hx | hx
         ·exact i3 x hx
         ·exact hrok x hx
        ·intro i hi
         by_cases him:i<m
         ·rw [<- i4 i him,<- hf (by omega)]
          unfold rk
          have hmul:(i+1) * row.length<=m * row.length:=Nat.mul_le_mul_right _ (by omega)
          rw [Nat.add_mul] at hmul
          rw [List.drop_append_of_le_length (by omega),List.take_append_of_le_length (by rw [List.length_drop];omega)]
         ·obtain rfl:i=m:=by omega
          have e:rk row.length (ps0 ++ row) i=row:=by
           unfold rk
           rw [<- hlen0,List.drop_left,List.take_of_length_le (Nat.le_refl _)]
          rw [e,hrt]
   obtain ⟨_,i1,i2,i3,i4⟩:=inv ts.length (Nat.le_refl _) f' ps' hb
   have h38:=i1 (by omega)
   refine ⟨h38.1,h38.2,by omega,by omega,i2,i3,?_⟩
   rw [text_jn,<- hj]
   congr 1
   apply List.ext_getElem
   ·rw [rks_len]
   ·intro k h1 h2
    have h3:=rks_at (F:=f') (l:=ps') h2
    rw [List.getElem?_eq_getElem h1] at h3
    have h4:=i4 (ts.length - 1 - k) (by omega)
    rw [show ts.length - 1 - (ts.length - 1 - k)=k by omega,List.getElem?_eq_getElem h2] at h4
    exact h3.trans h4
end Go.Proofs.YtbccbgonlmkpkaaGreatDoor
namespace Go.Proofs.YtbccbgonlmkpkaaGreatDoor
open Go.RowKit
def wdS (st:List (List UInt8)) (c:UInt8):List (List UInt8):=if c=32 then st ++ [[]] else st.set (st.length - 1) (st[st.length - 1]?.getD [] ++ [c])
def wdT (L:List UInt8) (k:Nat):List (List UInt8):=(L.take k).foldl wdS [[]]
def wds (L:List UInt8):List (List UInt8):=wdT L L.length
theorem wdT_succ (L:List UInt8) (k:Nat) (h:k<L.length):wdT L (k+1)=wdS (wdT L k) (L[k]):=by
 unfold wdT
 rw [List.take_succ_eq_append_getElem h,List.foldl_append]
 rfl
theorem wdS_len (st:List (List UInt8)) (c:UInt8):st.length<=(wdS st c).length/\(wdS st c).length<=st.length+1:=by
 unfold wdS;split <;> simp
theorem wdT_len (L:List UInt8) (k:Nat) (h:k<=L.length):1<=(wdT L k).length/\(wdT L k).length<=k+1:=by
 induction k with
 | zero=>simp [wdT]
 | succ k ih =>
  have:=ih (by omega)
  rw [wdT_succ L k (by omega)]
  have:=wdS_len (wdT L k) L[k]
  omega
theorem wdT_each (L:List UInt8) (k:Nat) (h:k<=L.length):∀ t∈wdT L k,t.length<=k:=by
 induction k with
 | zero=>intro t ht;simp [wdT] at ht;subst ht;simp
 | succ k ih =>
  have:=ih (by omega)
  rw [wdT_succ L k (by omega)]
  unfold wdS
  split
  ·intro t ht
   rw [List.mem_append,List.mem_singleton] at ht
   rcases ht with ht | rfl
   ·have:=this t ht;omega
   ·simp
  ·intro t ht
   rcases List.mem_or_eq_of_mem_set ht with ht | rfl
   ·have:=this t ht;omega
   ·rw [List.length_append]
    have h1:=(wdT_len L k (by omega)).1
    rw [List.getElem?_eq_getElem (show (wdT L k).length - 1<(wdT L k).length by omega)]
    have:=this _ (List.getElem_mem (show (wdT L k).length - 1<(wdT L k).length by omega))
    simp;omega
def jw:List (List UInt8)->List UInt8
 | []=>[]
 | t :: ts=>t ++ ts.flatMap (fun u=>32 :: u)
theorem jw_snoc {ts:List (List UInt8)} (h:ts≠[]) (u:List UInt8):jw (ts ++ [u])=jw ts ++ [32] ++ u:=by
 cases ts with
 | nil=>exact absurd rfl h
 | cons t ts=>simp [jw]
theorem jw_one (u:List UInt8):jw [u]=u:=by simp [jw]
end Go.Proofs.YtbccbgonlmkpkaaGreatDoor
namespace Go.Proofs.YtbccbgonlmkpkaaGreatDoor
open Go.RowKit
theorem same_yes (F R:Int) (l:List Int) (A A':Option Addr) (c c':Nat) (w:World) (hlen:l.length<=100000) (hA:RdP w w.heap.size A l c) (hA':RdP w w.heap.size A' l c') :
  Calls Tryz.prog 127 #[.agg #[.int .i64 F,.int .i64 R,.slice A l.length c],.agg #[.int .i64 F,.int .i64 R,.slice A' l.length c']] w fun e w'=>e=.returned (.bool true)/\Below w.heap.size w w':=by
 go_enter Tryz.func127,Tryz.ntmps127
 go_wp2_with fail
 have hB0:Below w.heap.size w ((w.alloc (.cells #[.int .i64 F,.int .i64 R,.slice A l.length c] 97)).alloc (.cells #[.int .i64 F,.int .i64 R,.slice A' l.length c'] 97)):=after1 (box1 _ _)
 have hc2:((w.alloc (.cells #[.int .i64 F,.int .i64 R,.slice A l.length c] 97)).alloc (.cells #[.int .i64 F,.int .i64 R,.slice A' l.length c'] 97)).cell? ⟨w.heap.size,2,none⟩=some (.slice A l.length c):=by simp [go_sem]
 have hd2:((w.alloc (.cells #[.int .i64 F,.int .i64 R,.slice A l.length c] 97)).alloc (.cells #[.int .i64 F,.int .i64 R,.slice A' l.length c'] 97)).cell? ⟨w.heap.size+1,2,none⟩=some (.slice A' l.length c'):=by simp [go_sem]
 generalize hW:((w.alloc (.cells #[.int .i64 F,.int .i64 R,.slice A l.length c] 97)).alloc (.cells #[.int .i64 F,.int .i64 R,.slice A' l.length c'] 97))=W at *
 have A1:=(hA.below hB0)
 have A2:=(hA'.below hB0)
 have s0:=hB0.size
 have sz:W.heap.size=w.heap.size+2:=by rw [<- hW];simp
 have sz':w.heap.size+2<=W.heap.size:=by omega
 clear hA hA' hW sz
 go_loopw [5] (fun i wr=>∃ k:Nat,k<=l.length/\i=.int .i64 k/\Below W.heap.size W wr) (fun i _=>l.length - (intOf i).toNat)
 case atStart=>exact ⟨0,by omega,rfl,Below.refl _ _⟩
 case round =>
  obtain ⟨k,hk,rfl,hB⟩:=hrel
  have d2:=(hB.cell (p:=⟨w.heap.size,2,none⟩) (by simp;omega)).trans hc2
  have e2:=(hB.cell (p:=⟨w.heap.size+1,2,none⟩) (by simp;omega)).trans hd2
  by_cases hlt:k<l.length
  ·obtain ⟨ad,rfl,hb,hc⟩:=(A1.below (hB.mono s0)).at_ hlt
   obtain ⟨ad',rfl,hb',hc'⟩:=(A2.below (hB.mono s0)).at_ hlt
   clear A1 A2
   generalize hn:l[k]?.getD 0=n at *
   clear hn
   go_wp2
   go_quiet (fail)
   go_wp2
   go_roundw
   case rel=>exact ⟨k+1,by omega,by go_num,drawn hB _⟩
   case measure=>simp [intOf];omega
  ·have hkl:k=l.length:=by omega
   subst hkl
   go_wp2
   go_ret
   exact ⟨rfl,chain hB0 hB⟩
theorem first_diff {l l':List Int} (hl:l.length=l'.length) (h:l≠l'):∃ m,m<l.length/\l[m]?.getD 0≠l'[m]?.getD 0/\∀ j,j<m->l[j]?.getD 0=l'[j]?.getD 0:=by
 have h':∃ m,m<l.length/\l[m]?.getD 0≠l'[m]?.getD 0:=by
  apply Classical.byContradiction
  intro hc
  apply h
  apply List.ext_getElem hl
  intro j h1 h2
  have:l[j]?.getD 0=l'[j]?.getD 0:=Classical.byContradiction fun hb=>hc ⟨j,h1,hb⟩
  rw [List.getElem?_eq_getElem h1,List.getElem?_eq_getElem h2] at this
  exact this
 obtain ⟨n,hn⟩:=h'
 obtain ⟨m,hm,hp,hq⟩:=least (P:=fun m=>m<l.length/\l[m]?.getD 0≠l'[m]?.getD 0) n hn
 exact ⟨m,hp.1,hp.2,fun j hj=>Classical.byContradiction fun hb=>hq j hj ⟨by omega,hb⟩⟩
theorem same_diff (F R:Int) (l l':List Int) (A A':Option Addr) (c c':Nat) (w:World) (hlen:l.length<=100000) (hA:RdP w w.heap.size A l c) (hA':RdP w w.heap.size A' l' c') (hll:l.length=l'.length)
  (m:Nat) (hm:m<l.length) (hd:l[m]?.getD 0≠l'[m]?.getD 0) (he:∀ j,j<m->l[j]?.getD 0=l'[j]?.getD 0) :
  Calls Tryz.prog 127 #[.agg #[.int .i64 F,.int .i64 R,.slice A l.length c],.agg #[.int .i64 F,.int .i64 R,.slice A' l'.length c']] w fun e w'=>e=.returned (.bool false)/\Below w.heap.size w w':=by
 have HD:=Lib.hid hd
 have HE:=Lib.hid he
 rw [<- hll]
 have HL:=Lib.hid hll
 clear hd he hll
 go_enter Tryz.func127,Tryz.ntmps127
 go_wp2_with fail
 have hB0:Below w.heap.size w ((w.alloc (.cells #[.int .i64 F,.int .i64 R,.slice A l.length c] 97)).alloc (.cells #[.int .i64 F,.int .i64 R,.slice A' l.length c'] 97)):=after1 (box1 _ _)
 have hc2:((w.alloc (.cells #[.int .i64 F,.int .i64 R,.slice A l.length c] 97)).alloc (.cells #[.int .i64 F,.int .i64 R,.slice A' l.length c'] 97)).cell? ⟨w.heap.size,2,none⟩=some (.slice A l.length c):=by simp [go_sem]
 have hd2:((w.alloc (.cells #[.int .i64 F,.int .i64 R,.slice A l.length c] 97)).alloc (.cells #[.int .i64 F,.int .i64 R,.slice A' l.length c'] 97)).cell? ⟨w.heap.size+1,2,none⟩=some (.slice A' l.length c'):=by simp [go_sem]
 generalize hW:((w.alloc (.cells #[.int .i64 F,.int .i64 R,.slice A l.length c] 97)).alloc (.cells #[.int .i64 F,.int .i64 R,.slice A' l.length c'] 97))=W at *
 have A1:=(hA.below hB0)
 have A2:=(hA'.below hB0)
 have s0:=hB0.size
 have sz:W.heap.size=w.heap.size+2:=by rw [<- hW];simp
 have sz':w.heap.size+2<=W.heap.size:=by omega
 clear hA hA' hW sz
 go_loopw [5] (fun i wr=>∃ k:Nat,k<=m/\i=.int .i64 k/\Below W.heap.size W wr) (fun i _=>l.length - (intOf i).toNat)
 case atStart=>exact ⟨0,by omega,rfl,Below.refl _ _⟩
 case round =>
  obtain ⟨k,hk,rfl,hB⟩:=hrel
  have d2:=(hB.cell (p:=⟨w.heap.size,2,none⟩) (by simp;omega)).trans hc2
  have e2:=(hB.cell (p:=⟨w.heap.size+1,2,none⟩) (by simp;omega)).trans hd2
  obtain ⟨ad,rfl,hb,hc⟩:=(A1.below (hB.mono s0)).at_ (show k<l.length by omega)
  obtain ⟨ad',rfl,hb',hc'⟩:=(A2.below (hB.mono s0)).at_ (show k<l'.length by have:=HL.out;omega)
  clear A1 A2
  by_cases hlt:k<m
  ·have hlt':k<l.length:=by omega
   have hq:=HE.out k hlt
   rw [<- hq] at hc'
   clear hq
   generalize hn:l[k]?.getD 0=n at *
   clear hn
   go_wp2
   go_quiet (fail)
   go_wp2
   go_roundw
   case rel=>exact ⟨k+1,by omega,by go_num,drawn hB _⟩
   case measure=>simp [intOf];omega
  ·have hkl:k=m:=by omega
   subst hkl
   have hq:=HD.out
   generalize hn:l[k]?.getD 0=n at *
   generalize hn':l'[k]?.getD 0=n' at *
   clear hn hn'
   have hbq:(n != n')=true:=bne_iff_ne.2 hq
   clear hq
   go_wp2
   go_quiet (fail)
   go_wp2
   go_ret
   exact ⟨rfl,chain hB0 (drawn hB _)⟩
theorem same_no (F R F' R':Int) (l l':List Int) (A A':Option Addr) (c c':Nat) (w:World) (hlen:l.length<=100000) (hA:RdP w w.heap.size A l c) (hA':RdP w w.heap.size A' l' c') (h:¬ (F=F'/\R=R'/\l=l')) :
  Calls Tryz.prog 127 #[.agg #[.int .i64 F,.int .i64 R,.slice A l.length c],.agg #[.int .i64 F',.int .i64 R',.slice A' l'.length c']] w fun e w'=>e=.returned (.bool false)/\Below w.heap.size w w':=by
 by_cases hF:F=F'
 ·subst hF
  by_cases hR:R=R'
  ·subst hR
   by_cases hl:l.length=l'.length
   ·obtain ⟨m,h1,h2,h3⟩:=first_diff hl (fun e=>h ⟨rfl,rfl,e⟩)
    exact same_diff F R l l' A A' c c' w hlen hA hA' hl m h1 h2 h3
   ·have hne:((l.length:Int) != (l'.length:Int))=true:=bne_iff_ne.2 (by omega)
    clear h hl hA hA'
    go_enter Tryz.func127,Tryz.ntmps127
    go_wp2
    go_ret
    exact ⟨rfl,after1 (box1 _ _)⟩
  ·clear h hA hA'
   go_enter Tryz.func127,Tryz.ntmps127
   go_wp2
   go_ret
   exact ⟨rfl,after1 (box1 _ _)⟩
 ·clear h hA hA'
  go_enter Tryz.func127,Tryz.ntmps127
  go_wp2
  go_ret
  exact ⟨rfl,after1 (box1 _ _)⟩
end Go.Proofs.YtbccbgonlmkpkaaGreatDoor
namespace Go.Proofs.YtbccbgonlmkpkaaGreatDoor
open Go.RowKit
theorem infoPc:(Tryz.prog.info? 28).map (fun i=>(i.zero,i.size,i.bytes))=some (some (.int .i8 0),1,1):=by kernel_rfl
def vpc (p:Int):Value:=.int .i8 p
def vpcs (l:List Int):List Value:=l.map vpc
theorem vpcs_len (l:List Int):(vpcs l).length=l.length:=by simp [vpcs]
theorem vpcs_at {l:List Int} {j:Nat} {u:Value} (h:(vpcs l)[j]?=some u):∃ p,l[j]?=some p/\u=.int .i8 p:=by
 unfold vpcs at h
 rw [List.getElem?_map] at h
 cases hj:l[j]? with
 | none=>rw [hj] at h;simp at h
 | some x=>rw [hj] at h;simp at h;exact ⟨x,rfl,h.symm⟩
theorem RdP.own {w:World} {B e:Nat} {v:Value} {l:List Int} (h:w.ownsRow B e 1 v l.length (vpcs l)):∃ A c,v=.slice A l.length c/\l.length<=c/\RdP w w.heap.size A l c:=by
 obtain ⟨hl,⟨rfl,h0⟩ | ⟨g,cap,cur,rfl,hg,hh,hn,hc,hs,ht⟩⟩:=h
 ·exact ⟨none,0,by rw [h0],by omega,⟨fun _=>⟨h0,rfl⟩,fun hh=>by omega⟩⟩
 ·refine ⟨some ⟨g,0,none⟩,cap,rfl,hn,⟨(fun h=>by cases h),fun _=>⟨_,rfl,(Array.getElem?_eq_some_iff.1 hh).1,fun j u hu=>?_⟩⟩⟩
  have hcell:=World.ownsRow.cells (w:=w) (base:=B) (e:=e) (size:=1) (v:=.slice (some ⟨g,0,none⟩) l.length cap) (n:=l.length) (xs:=vpcs l) ⟨hl,.inr ⟨g,cap,cur,rfl,hg,hh,hn,hc,hs,ht⟩⟩ (g:=g) rfl j (.int .i8 u)
  apply hcell
  unfold vpcs
  rw [List.getElem?_map,hu]
  rfl
theorem RdP.cells {w:World} {B:Nat} {A:Option Addr} {l:List Int} {c:Nat} (h:RdP w B A l c):∀ ad,A=some ad->∀ j u,(vpcs l)[j]?=some u->w.cell? (ad.add j)=some u:=by
 intro ad e j u hu
 obtain ⟨p,hp,rfl⟩:=vpcs_at hu
 obtain ⟨ad',e',_,hc⟩:=h.2 (by have:=(List.getElem?_eq_some_iff.1 hp).1;omega)
 rw [e] at e'
 cases e'
 exact hc j p hp
theorem step_copy {P:Program} {ops:Array Oper} {o:Oper} {a:Act} {w:World} {K:Act->World->Prop} {Q:Exit->Act->World->Prop} {E:Prop}
  (hg:o.guard=none) (s x:Operand) (t:TypeId) (hop:o.op=Op.call { callee:=Callee.builtin Builtin.append,args:=#[s,x],argTypes:=#[t,t] })
  (e:TypeId) (i:TypeInfo) (z:Value) (size bytes:Nat) (h1:P.underlying t=some (.slice e)) (h2:P.info? e=some i) (h3:i.zero=some z) (h4:i.size=size) (h5:i.bytes=bytes) (h6:z.cells.size=size) (h7:0<size)
  (hs:a.eval s=.slice none 0 0) (base:Nat) (hbase:base<=w.heap.size)
  (A:Option Addr) (m c:Nat) (news:List Value) (hx:a.eval x=.slice A m c) (hA:A=none->m=0/\c=0) (hn:news.length=m * size) (hc:∀ ad,A=some ad->∀ j u,news[j]?=some u->w.cell? (ad.add j)=some u) (h1c:∀ u∈news,u.oneCell'=true)
  (b1:m<=maxLen) (b2:m * bytes<=140737488355328)
  (hK:∀ A' c' w',w'.ownsRow base e size (.slice A' m c') m news->w.grownBy w' none->K (a.put o.dst (.slice A' m c')) w') :
  if Region.wanted o (yielded ops a.tmps)=true then Oper.wp P o a w K Q else E:=by
 have hw:Region.wanted o (yielded ops a.tmps)=true:=by simp [Region.wanted,hg]
 rw [if_pos hw]
 cases A with
 | none =>
  obtain ⟨rfl,rfl⟩:=hA rfl
  obtain rfl:news=[]:=List.eq_nil_of_length_eq_zero (by simpa using hn)
  have hrun:=run_append_owned_none (P:=P) (w:=w) base t o.type e i size h1 h2 (.slice none 0 0) 0 [] (World.ownsRow_nil w base e size)
  unfold Oper.wp
  simp [execOp,hop,resolve,invoke,builtin,hs,hx,hrun,Result.andThen]
  exact hK _ _ _ (World.ownsRow_nil w base e size) ⟨rfl,rfl,rfl,Nat.le_refl _,fun _ _ _=>rfl⟩
 | some ad =>
  obtain ⟨v',w',hrun,r1,r2,_⟩:=run_append_own (P:=P) w base t o.type e i z size bytes h1 h2 h3 h4 h5 h6 h7 (.slice none 0 0) 0 [] (World.ownsRow_nil w _ e size) ad m c news hn (hc ad rfl) h1c (by omega) (by rw [Nat.zero_add];exact b2) hbase
  rw [Nat.zero_add,List.nil_append] at r1
  unfold Oper.wp
  simp [execOp,hop,resolve,invoke,builtin,hs,hx,hrun,Result.andThen]
  rcases r1 with ⟨q1,⟨rfl,rfl⟩ | ⟨g,cap,cur,rfl,q2⟩⟩
  ·exact hK _ _ _ ⟨q1,.inl ⟨rfl,rfl⟩⟩ r2
  ·exact hK _ _ _ ⟨q1,.inr ⟨g,cap,cur,rfl,q2⟩⟩ r2
theorem bgrown {w w':World} {row:Option Nat} (h:w.grownBy w' row) (hr:row=none):(∀ b o,b<w.heap.size->w'.cell? ⟨b,o,none⟩=w.cell? ⟨b,o,none⟩)/\(∀ b o,b<w.heap.size->w'.frozen? ⟨b,o,none⟩=w.frozen? ⟨b,o,none⟩) :=
 ⟨fun b o hb=>World.cell?_of_block (h.block b hb (by rw [hr];simp)),fun b o hb=>World.frozen?_of_block (h.block b hb (by rw [hr];simp))⟩
theorem vpcs_one {l:List Int}:∀ u∈vpcs l,u.oneCell'=true:=by
 intro u hu
 unfold vpcs at hu
 obtain ⟨p,_,rfl⟩:=List.mem_map.1 hu
 rfl
theorem set_vpcs (l:List Int) (j:Nat) (p:Int):(vpcs l).set j (.int .i8 p)=vpcs (l.set j p):=by
 unfold vpcs;rw [List.map_set];rfl
end Go.Proofs.YtbccbgonlmkpkaaGreatDoor
