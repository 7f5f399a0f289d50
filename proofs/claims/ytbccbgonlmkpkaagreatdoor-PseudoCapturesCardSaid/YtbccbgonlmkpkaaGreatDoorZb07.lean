/- What the theorem needs, piece Zb07. -/
import Derived.Test.YtbccbgonlmkpkaaGreatDoorZb01
import Derived.Lib.SliceRun
import Derived.Deep.Upon
import Derived.Shelf.Lay
import Derived.Shelf.LaySoft
import Derived.Shelf.Strings.OnBuilder
import Derived.Shelf.Strings.Search3
import Derived.Shelf.Strings.Count
import Derived.Shelf.Strings.Split
import Derived.Shelf.Slices.Cells
import Derived.Test.YtbccbgonlmkpkaaGreatDoorProg
import Derived.Shelf.RegionOpen
import Derived.Sort.BigQuietIn
import Derived.Lib.QuietBelow
import Derived.Laws.BytesString
import Derived.Test.YtbccbgonlmkpkaaGreatDoorZb00
import Derived.Test.YtbccbgonlmkpkaaGreatDoorZb02
import Derived.RangeFuncNested
import Derived.RangeFuncBound
import Derived.RangeFuncCalls
import Derived.RangeFuncLeaves
import Derived.RangeFuncFrom
import Derived.RangeFuncBox
import Derived.Shelf.Abstract
import Derived.WalkKit
import Derived.OwnWalkIn
import Derived.TacticsInMore
import Derived.LoopNIn
import Derived.LoopIn
import Derived.Sort.QuietTacIn
import Derived.Lib.UnsafeStr
import Derived.Laws.IdiomStrings
import Derived.Maps.AppendAt
import Derived.Deep.RegionLaw
import Derived.Laws.OwnMore
import Derived.Lib.AppendZerosOnto
import Derived.Laws.AppendOwnNone
set_option linter.unusedSimpArgs false
set_option linter.unusedVariables false
set_option maxRecDepth 100000
set_option maxHeartbeats 16000000
namespace Go.Proofs.YtbccbgonlmkpkaaGreatDoor
open Go.RowKit
theorem bValid_yes (F R:Int) (l:List Int) (A:Option Addr) (c:Nat) (h: vbd F R l) (w:World) (hA:RdP w w.heap.size A l c) :
  Calls Tryz.prog 157 #[.agg #[.int .i64 F,.int .i64 R,.slice A l.length c]] w fun e w'=>e=.returned (.bool true)/\Below w.heap.size w w':=by
 obtain ⟨hv,hl,hp⟩:=h
 obtain ⟨m0,m1⟩:=vsz_mul hv
 have hne:((l.length:Int) != F * R)=false:=by simp [hl]
 have HP:=Lib.hid hp
 have hlen:l.length<=64:=by omega
 clear hl hp
 go_enter Tryz.func157,Tryz.ntmps157
 go_wp2_with fail
 refine (count_yes _ _ hv _).mono ?_
 rintro e w1 ⟨rfl,hb⟩
 have s1:=hb.size
 simp at s1
 have hc0:=hb.cell (p:=⟨w.heap.size,0,none⟩) (by simp)
 have hc1:=hb.cell (p:=⟨w.heap.size,1,none⟩) (by simp)
 have hc2:=hb.cell (p:=⟨w.heap.size,2,none⟩) (by simp)
 simp [go_sem] at hc0 hc1 hc2
 have hB1:=after1 hb
 have A1:=hA.below hB1
 clear hA hb
 go_wp2
 go_loopw [6,25] (fun _ i wr=>∃ k:Nat,k<=l.length/\i=.int .i64 k/\Below w1.heap.size w1 wr) (fun _ i _=>l.length - (intOf i).toNat)
 case atStart=>exact ⟨0,by omega,rfl,Below.refl _ _⟩
 case round =>
  obtain ⟨k,hk,rfl,hB⟩:=hrel
  have s2:=hB.size
  by_cases hlt:k<l.length
  ·obtain ⟨ad,rfl,hb,hc⟩:=(A1.below (hB.mono (by omega))).at_ hlt
   have hV:=HP.out k hlt
   clear A1
   generalize hn:l[k]?.getD 0=n at *
   clear hn
   go_wp2_with fail
   refine (pValid_yes n hV _).mono ?_
   rintro e w2 ⟨rfl,rfl⟩
   go_wp2
   go_roundw
   case rel=>exact ⟨k+1,by omega,by go_num,hB⟩
   case measure=>simp [intOf];omega
  ·have hkl:k=l.length:=by omega
   subst hkl
   go_wp2
   go_ret
   exact ⟨rfl,chain hB1 hB⟩
theorem bValid_no (F R:Int) (l:List Int) (A:Option Addr) (c:Nat) (h:¬ vbd F R l) (w:World) (hlen:l.length<=100000) (hA:RdP w w.heap.size A l c) :
  Calls Tryz.prog 157 #[.agg #[.int .i64 F,.int .i64 R,.slice A l.length c]] w fun e w'=>e=.returned (.bool false)/\Below w.heap.size w w':=by
 by_cases hv:vsz F R
 ·obtain ⟨m0,m1⟩:=vsz_mul hv
  by_cases hl:(l.length:Int)=F * R
  ·obtain ⟨m,hm,hbad,hgood⟩:=first_bad (fun hp=>h ⟨hv,hl,hp⟩)
   have hne:((l.length:Int) != F * R)=false:=by simp [hl]
   have HP:=Lib.hid hgood
   have HB:=Lib.hid hbad
   clear hl hgood hbad h
   go_enter Tryz.func157,Tryz.ntmps157
   go_wp2_with fail
   refine (count_yes _ _ hv _).mono ?_
   rintro e w1 ⟨rfl,hb⟩
   have s1:=hb.size
   simp at s1
   have hc0:=hb.cell (p:=⟨w.heap.size,0,none⟩) (by simp)
   have hc1:=hb.cell (p:=⟨w.heap.size,1,none⟩) (by simp)
   have hc2:=hb.cell (p:=⟨w.heap.size,2,none⟩) (by simp)
   simp [go_sem] at hc0 hc1 hc2
   have hB1:=after1 hb
   have A1:=hA.below hB1
   clear hA hb
   go_wp2
   go_loopw [6,25] (fun _ i wr=>∃ k:Nat,k<=m/\i=.int .i64 k/\Below w1.heap.size w1 wr) (fun _ i _=>l.length - (intOf i).toNat)
   case atStart=>exact ⟨0,by omega,rfl,Below.refl _ _⟩
   case round =>
    obtain ⟨k,hk,rfl,hB⟩:=hrel
    have s2:=hB.size
    obtain ⟨ad,rfl,hb,hc⟩:=(A1.below (hB.mono (by omega))).at_ (show k<l.length by omega)
    by_cases hlt:k<m
    ·have hV:=HP.out k hlt
     clear A1
     generalize hn:l[k]?.getD 0=n at *
     clear hn
     have hlt':k<l.length:=by omega
     go_wp2_with fail
     refine (pValid_yes n hV _).mono ?_
     rintro e w2 ⟨rfl,rfl⟩
     go_wp2
     go_roundw
     case rel=>exact ⟨k+1,by omega,by go_num,hB⟩
     case measure=>simp [intOf];omega
    ·have hkl:k=m:=by omega
     subst hkl
     have hV:=HB.out
     clear A1
     generalize hn:l[k]?.getD 0=n at *
     clear hn
     go_wp2_with fail
     refine (pValid_no n hV _).mono ?_
     rintro e w2 ⟨rfl,rfl⟩
     go_wp2
     go_ret
     exact ⟨rfl,chain hB1 hB⟩
  ·have hne:((l.length:Int) != F * R)=true:=by simp [hl]
   clear h hl
   go_enter Tryz.func157,Tryz.ntmps157
   go_wp2_with fail
   refine (count_yes _ _ hv _).mono ?_
   rintro e w1 ⟨rfl,hb⟩
   have s1:=hb.size
   simp at s1
   have hc0:=hb.cell (p:=⟨w.heap.size,0,none⟩) (by simp)
   have hc1:=hb.cell (p:=⟨w.heap.size,1,none⟩) (by simp)
   have hc2:=hb.cell (p:=⟨w.heap.size,2,none⟩) (by simp)
   simp [go_sem] at hc0 hc1 hc2
   have hB1:=after1 hb
   have A1:=hA.below hB1
   clear hA hb
   go_wp2
   go_ret
   exact ⟨rfl,hB1⟩
 ·clear h
  go_enter Tryz.func157,Tryz.ntmps157
  go_wp2_with fail
  refine (count_no _ _ hv _).mono ?_
  rintro e w1 ⟨rfl,hb⟩
  go_wp2
  go_ret
  exact ⟨rfl,after1 hb⟩
end Go.Proofs.YtbccbgonlmkpkaaGreatDoor
namespace Go.Proofs.YtbccbgonlmkpkaaGreatDoor
open Go.RowKit
theorem clone_any (l:List Int) (A:Option Addr) (c:Nat) (w:World) (hlen:l.length<=100000) (hA:RdP w w.heap.size A l c) :
  Calls Tryz.prog 137 #[.slice A l.length c] w fun e w'=>∃ v,e=.returned v/\w'.ownsRow w.heap.size 28 1 v l.length (vpcs l)/\Below w.heap.size w w':=by
 obtain ⟨i0,hi,hz0,hz1,hz2⟩:=info_parts infoPc
 have q22:∀ (w:World) (a:Option Addr) (n c n' c':Nat),(binOp .eql 24 (.slice a n c) (.slice none n' c')).run Tryz.prog w=.ok (.bool a.isNone) w:=fun w a n c n' c'=>Lib.run_eql_slice_nil w _ _ a n c n' c' Tryz.underlying24
 go_enter Tryz.func137,Tryz.ntmps137
 cases A with
 | none =>
  obtain ⟨h0,rfl⟩:=hA.1 rfl
  go_wp2
  go_ret
  exact ⟨_,rfl,by rw [h0,List.eq_nil_of_length_eq_zero h0];exact World.ownsRow_nil _ _ _ _,Below.refl _ _⟩
 | some ad =>
  have hW:Below w.heap.size w (w.alloc (.cells #[] 28)):=box1 _ _
  have hcells:=(hA.below hW).cells ad rfl
  have hown0:(w.alloc (.cells #[] 28)).ownsRow w.heap.size 28 1 (.slice (some ⟨w.heap.size,0,none⟩) 0 0) 0 []:=World.ownsRow_lit w #[] 0 (by simp) (by unfold maxLen;omega) (by simp)
  clear hA
  go_wp2_with (at_builtin;(refine wpList_append_own _ rfl _ _ 24 rfl w.heap.size 28 i0 (.int .i8 0) 1 1 Tryz.underlying24 hi hz0 hz1 hz2 rfl (by decide) _ _ _ rfl hown0 ad l.length c (vpcs l) rfl (by simp [vpcs_len]) ?c1 ?c2 ?c3 ?c4 ?c5 ?_))
  case c1=>exact hcells
  case c2=>exact vpcs_one
  case c3=>unfold maxLen;omega
  case c4=>omega
  case c5=>simp
  intro v' w2 hown' hgrow _
  go_wp2
  go_ret
  try simp only [Nat.zero_add,List.nil_append] at hown'
  exact ⟨_,rfl,hown',hW.grown hgrow (by simp) (fun r e=>(World.ownsRow.lt hown0 r e).1)⟩
end Go.Proofs.YtbccbgonlmkpkaaGreatDoor
namespace Go.Proofs.YtbccbgonlmkpkaaGreatDoor
open Go.RowKit
def RdSt (w:World) (b:Nat) (xs:List ByteArray):Prop:=∀ j x,xs[j]?=some x->w.cell? ⟨b,j,none⟩=some (.string x)
theorem RdSt.below {w w':World} {B b:Nat} {xs:List ByteArray} (h:RdSt w b xs) (hb:Below B w w') (hB:b<B):RdSt w' b xs:=fun j x hx=>(hb.cell (p:=⟨b,j,none⟩) hB).trans (h j x hx)
theorem RdSt.at_ {w:World} {b:Nat} {xs:List ByteArray} (h:RdSt w b xs) {k:Nat} (hk:k<xs.length):w.cell? ⟨b,k,none⟩=some (.string (xs[k]?.getD ByteArray.empty)):=by
 rw [List.getElem?_eq_getElem hk]
 exact h k _ (List.getElem?_eq_getElem hk)
end Go.Proofs.YtbccbgonlmkpkaaGreatDoor
namespace Go.Proofs.YtbccbgonlmkpkaaGreatDoor
open Go.RowKit
def b1 (x:Int):ByteArray:=ByteArray.empty.push (UInt8.ofNat x.toNat)
end Go.Proofs.YtbccbgonlmkpkaaGreatDoor
namespace Go.Proofs.YtbccbgonlmkpkaaGreatDoor
open Go.RowKit
theorem vbd_nat {F R:Int} {l:List Int} (h:vbd F R l):∃ f r:Nat,F=(f:Int)/\R=(r:Int)/\3<=f/\f<=8/\3<=r/\r<=8/\l.length=r * f:=by
 obtain ⟨⟨a,b,c,d⟩,hl,_⟩:=h
 obtain ⟨f,rfl⟩:=Int.eq_ofNat_of_zero_le (show 0<=F by omega)
 obtain ⟨r,rfl⟩:=Int.eq_ofNat_of_zero_le (show 0<=R by omega)
 refine ⟨f,r,rfl,rfl,by omega,by omega,by omega,by omega,?_⟩
 have:((l.length:Nat):Int)=((r * f:Nat):Int):=by rw [hl,Int.natCast_mul,Int.mul_comm]
 omega
theorem bsL_ne (L:List UInt8):(bsL L).toList=L:=by
 rw [ByteArray.toList_eq,bsL_toList]
end Go.Proofs.YtbccbgonlmkpkaaGreatDoor
namespace Go.Proofs.YtbccbgonlmkpkaaGreatDoor
open Go.RowKit Go.Shelf
attribute [local go_sem] Oper.semAt_some
def KpC (n₀ Bs Bn:Nat) (W W':World):Prop:=Below n₀ W W'/\W'.heap[Bs]?=W.heap[Bs]?/\W'.heap[Bn]?=W.heap[Bn]?
theorem KpC.trans {n₀ Bs Bn:Nat} {A B C:World} (h:KpC n₀ Bs Bn A B) (k:KpC n₀ Bs Bn B C):KpC n₀ Bs Bn A C:=⟨h.1.trans k.1,k.2.1.trans h.2.1,k.2.2.trans h.2.2⟩
theorem KpC.refl (n₀ Bs Bn:Nat) (A:World):KpC n₀ Bs Bn A A:=⟨Below.refl _ _,rfl,rfl⟩
theorem KpC.s {n₀ Bs Bn:Nat} {A B:World} (h:KpC n₀ Bs Bn A B):B.cell? ⟨Bs,0,none⟩=A.cell? ⟨Bs,0,none⟩:=World.cell?_of_block h.2.1
theorem KpC.n {n₀ Bs Bn:Nat} {A B:World} (h:KpC n₀ Bs Bn A B):B.cell? ⟨Bn,0,none⟩=A.cell? ⟨Bn,0,none⟩:=World.cell?_of_block h.2.2
end Go.Proofs.YtbccbgonlmkpkaaGreatDoor
namespace Go.Proofs.YtbccbgonlmkpkaaGreatDoor
open Go.RowKit
def RankR (w:World) (o:Option (List Int)) (e:Ending) (w':World):Prop :=
 match o with
 | some row=>∃ v,e=.returned (.tuple #[v,.bool true])/\w'.ownsRow w.heap.size 28 1 v row.length (vpcs row)/\Below w.heap.size w w'
 | none=>e=.returned (.tuple #[.slice none 0 0,.bool false])/\Below w.heap.size w w'
theorem RankR.no {w w':World} {o:Option (List Int)} (h:o=none) (hb:Below w.heap.size w w'):RankR w o (.returned (.tuple #[.slice none 0 0,.bool false])) w':=by
 subst h
 exact ⟨rfl,hb⟩
theorem RankR.yes {w w':World} {o:Option (List Int)} {row:List Int} {v:Value} (h:o=some row) (ho:w'.ownsRow w.heap.size 28 1 v row.length (vpcs row)) (hb:Below w.heap.size w w'):RankR w o (.returned (.tuple #[v,.bool true])) w':=by
 subst h
 exact ⟨_,rfl,ho,hb⟩
end Go.Proofs.YtbccbgonlmkpkaaGreatDoor
namespace Go.Proofs.YtbccbgonlmkpkaaGreatDoor
open Go.RowKit
def ParsedP (w:World) (o:Option (Nat × Nat × List Int)) (e:Ending) (w':World):Prop :=
 match o with
 | none=>e=.returned (.tuple #[.agg #[.int .i64 0,.int .i64 0,.slice none 0 0],.int .i64 6])/\Below w.heap.size w w'
 | some (f,r,ps)=>∃ v,e=.returned (.tuple #[.agg #[.int .i64 (f:Int),.int .i64 (r:Int),v],.int .i64 0])/\w'.ownsRow w.heap.size 28 1 v ps.length (vpcs ps)/\Below w.heap.size w w'
theorem ParsedP.no {w w':World} {o:Option (Nat × Nat × List Int)} (h:o=none) (hb:Below w.heap.size w w'):ParsedP w o (.returned (.tuple #[.agg #[.int .i64 0,.int .i64 0,.slice none 0 0],.int .i64 6])) w':=by
 subst h
 exact ⟨rfl,hb⟩
theorem ParsedP.yes {w w':World} {o:Option (Nat × Nat × List Int)} {f r:Nat} {ps:List Int} {v:Value} (h:o=some (f,r,ps)) (ho:w'.ownsRow w.heap.size 28 1 v ps.length (vpcs ps)) (hb:Below w.heap.size w w'):ParsedP w o (.returned (.tuple #[.agg #[.int .i64 (f:Int),.int .i64 (r:Int),v],.int .i64 0])) w':=by
 subst h
 exact ⟨_,rfl,ho,hb⟩
end Go.Proofs.YtbccbgonlmkpkaaGreatDoor
namespace Go.Proofs.YtbccbgonlmkpkaaGreatDoor
open Go.RowKit
theorem isWhite_any (p:Int) (w:World):Calls Tryz.prog 159 #[.int .i8 p] w fun e w'=>e=.returned (.bool (decide (0<p)))/\w=w':=by
 go_enter Tryz.func159,Tryz.ntmps159
 go_wp2
 go_ret
 exact ⟨rfl,rfl⟩
theorem isBlack_any (p:Int) (w:World):Calls Tryz.prog 160 #[.int .i8 p] w fun e w'=>e=.returned (.bool (decide (p<0)))/\w=w':=by
 go_enter Tryz.func160,Tryz.ntmps160
 go_wp2
 go_ret
 exact ⟨rfl,rfl⟩
theorem squares_any (P:Int->Bool) (g:Nat) (lb:Array Value) (F R:Int) (l:List Int) (A:Option Addr) (c:Nat) (w:World) (hlen:l.length<=64) (hA:RdP w w.heap.size A l c)
  (eg:∀ args w,(callFunc g args).run Tryz.prog w=.ok (.enter g args) w) (hp:∀ q W,Below w.heap.size w W->Calls Tryz.prog g (#[.int .i8 q] ++ lb) W fun e W'=>e=.returned (.bool (P q))/\W=W') :
  Calls Tryz.prog 158 #[.agg #[.int .i64 F,.int .i64 R,.slice A l.length c],.func (.func g) #[] lb] w fun e w'=>e=.returned (.int .u64 (ofL (idx P l):Int))/\Below w.heap.size w w':=by
 have W0:Below w.heap.size w (w.alloc (.cells #[.int .i64 F,.int .i64 R,.slice A l.length c] 97)):=box1 _ _
 have HP:=Lib.hid hp
 clear hp
 go_enter Tryz.func158,Tryz.ntmps158
 go_wp2_with fail
 go_loopw [5,6,7,11] (fun v _ _ i wr=>∃ k:Nat,k<=l.length/\i=.int .i64 k/\v=.int .u64 (ofL (idxTo P l k):Int)/\Below w.heap.size w wr) (fun _ _ _ i _=>l.length - (intOf i).toNat)
 case atStart=>exact ⟨0,by omega,rfl,rfl,W0⟩
 case round =>
  obtain ⟨k,hk,rfl,rfl,hB⟩:=hrel
  by_cases hlt:k<l.length
  ·obtain ⟨ad,rfl,hb,hc⟩:=(hA.below hB).at_ hlt
   clear hA
   cases hbq:P (l[k]?.getD 0)
   ·have HS:=Lib.hid (idxTo_no P l k hbq)
    generalize hn:l[k]?.getD 0=n at *
    clear hn
    go_wp2_with fail
    refine (HP.out n _ hB).mono ?_
    rintro e w2 ⟨rfl,rfl⟩
    rw [hbq]
    go_wp2
    go_roundw
    case rel=>exact ⟨k+1,by omega,by go_num,by rw [HS.out],hB⟩
    case measure=>simp [intOf];omega
   ·have HS:=Lib.hid (idxTo_yes P l k hbq)
    generalize hn:l[k]?.getD 0=n at *
    clear hn
    go_wp2_with fail
    refine (HP.out n _ hB).mono ?_
    rintro e w2 ⟨rfl,rfl⟩
    rw [hbq]
    have hX:ofL (idxTo P l k)<18446744073709551616:=by
     have:=ofL_lt (l:=idxTo P l k) (n:=64) (fun i hi=>by
      unfold idxTo at hi
      have:=List.mem_range.1 (List.mem_filter.1 hi).1
      omega)
     simpa using this
    have HE:Hid (bits .or .u64 (ofL (idxTo P l k):Int) (IntKind.u64.wrap ((2:Int) ^ k))=((ofL (idxTo P l k) ||| bitN k:Nat):Int)):=Lib.hid (by
     have e:=pow_wrap (k:Int) (by omega)
     rw [Int.toNat_natCast] at e
     rw [e]
     exact or_bitN _ _ hX (by omega))
    generalize idxTo P l k=Q at *
    generalize hXX:ofL Q=X at *
    have HXX:=Lib.hid hXX
    clear hXX
    have hwk:IntKind.u64.wrap (k:Int)=k:=by rw [IntKind.wrap_u64];omega
    go_wp2
    go_roundw
    case rel =>
     refine ⟨k+1,by omega,by go_num,?_,hB⟩
     rw [HS.out,ofL_snoc,HXX.out]
     exact vint HE.out
    case measure=>simp [intOf];omega
  ·have hkl:k=l.length:=by omega
   subst hkl
   go_wp2
   go_ret
   exact ⟨rfl,hB⟩
theorem gW:∀ args w,(callFunc 159 args).run Tryz.prog w=.ok (.enter 159 args) w:=enters_of Tryz.func159 (by kernel_rfl) rfl
theorem gB:∀ args w,(callFunc 160 args).run Tryz.prog w=.ok (.enter 160 args) w:=enters_of Tryz.func160 (by kernel_rfl) rfl
theorem idx_white (l:List Int):idx (fun p=>decide (0<p)) l=idx (sdP 1) l:=by
 congr 1
 funext p
 unfold sdP sgnP
 by_cases h:p<0
 ·rw [if_pos h];simp;omega
 ·by_cases h2:0<p
  ·rw [if_neg h,if_pos h2];simp [h2]
  ·rw [if_neg h,if_neg h2];simp;omega
theorem idx_black (l:List Int):idx (fun p=>decide (p<0)) l=idx (sdP (-1)) l:=by
 congr 1
 funext p
 unfold sdP sgnP
 by_cases h:p<0
 ·rw [if_pos h];simp [h]
 ·by_cases h2:0<p
  ·rw [if_neg h,if_pos h2];simp;omega
  ·rw [if_neg h,if_neg h2];simp;omega
def setP (P:Int->Bool) (l:List Int):Nat:=ofL (idx P l)
theorem vbd_len {F R:Int} {l:List Int} (h:vbd F R l):l.length<=64:=by have:=vsz_mul h.1;have:=h.2.1;omega
theorem squaresW (F R:Int) (l:List Int) (A:Option Addr) (c:Nat) (w:World) (hlen:l.length<=64) (hA:RdP w w.heap.size A l c) :
  Calls Tryz.prog 158 #[.agg #[.int .i64 F,.int .i64 R,.slice A l.length c],.func (.func 159) #[] #[]] w fun e w'=>e=.returned (.int .u64 (setP (sdP 1) l:Int))/\Below w.heap.size w w':=by
 unfold setP
 rw [<- idx_white]
 exact squares_any (fun p=>decide (0<p)) 159 #[] F R l A c w hlen hA gW (fun q W _=>isWhite_any q W)
theorem squaresB (F R:Int) (l:List Int) (A:Option Addr) (c:Nat) (w:World) (hlen:l.length<=64) (hA:RdP w w.heap.size A l c) :
  Calls Tryz.prog 158 #[.agg #[.int .i64 F,.int .i64 R,.slice A l.length c],.func (.func 160) #[] #[]] w fun e w'=>e=.returned (.int .u64 (setP (sdP (-1)) l:Int))/\Below w.heap.size w w':=by
 unfold setP
 rw [<- idx_black]
 exact squares_any (fun p=>decide (p<0)) 160 #[] F R l A c w hlen hA gB (fun q W _=>isBlack_any q W)
def sgF (g:Nat):Int:=if g=159 then 1 else -1
theorem squaresG (g:Nat) (hg:g=159\/g=160) (F R:Int) (l:List Int) (A:Option Addr) (c:Nat) (w:World) (hlen:l.length<=64) (hA:RdP w w.heap.size A l c) :
  Calls Tryz.prog 158 #[.agg #[.int .i64 F,.int .i64 R,.slice A l.length c],.func (.func g) #[] #[]] w fun e w'=>e=.returned (.int .u64 (setP (sdP (sgF g)) l:Int))/\Below w.heap.size w w':=by
 rcases hg with rfl | rfl
 ·exact squaresW F R l A c w hlen hA
 ·exact squaresB F R l A c w hlen hA
theorem sides_yes (F R:Int) (l:List Int) (A:Option Addr) (c:Nat) (w:World) (hv:vbd F R l) (hA:RdP w w.heap.size A l c) :
  Calls Tryz.prog 106 #[.agg #[.int .i64 F,.int .i64 R,.slice A l.length c]] w fun e w'=>e=.returned (.tuple #[.int .u64 (setP (sdP 1) l:Int),.int .u64 (setP (sdP (-1)) l:Int),.int .i64 0])/\Below w.heap.size w w':=by
 have W0:Below w.heap.size w (w.alloc (.cells #[.int .i64 F,.int .i64 R,.slice A l.length c] 97)):=box1 _ _
 have A1:=(hA.below W0).grow W0.size
 clear hA
 go_enter Tryz.func106,Tryz.ntmps106
 go_wp2_with fail
 refine (bValid_yes F R l A c hv _ A1).mono ?_
 rintro e w1 ⟨rfl,hb1⟩
 have s1:=hb1.size
 simp at s1
 have c0:=hb1.cell (p:=⟨w.heap.size,0,none⟩) (by simp)
 have c1:=hb1.cell (p:=⟨w.heap.size,1,none⟩) (by simp)
 have c2:=hb1.cell (p:=⟨w.heap.size,2,none⟩) (by simp)
 simp [go_sem] at c0 c1 c2
 have HA:=Lib.hid (fun W (h:Below w1.heap.size w1 W)=>(((A1.below hb1).grow hb1.size).below h).grow h.size)
 have hlen:=vbd_len hv
 have hB1:=Lib.hid (chain W0 hb1)
 have q0:=cell_regrown c0
 have q1:=cell_regrown c1
 have q2:=cell_regrown c2
 have HQ:Hid (∀ n os g,g=159\/g=160->Calls Tryz.prog 158 #[.agg #[.int .i64 F,.int .i64 R,.slice A l.length c],.func (.func g) #[] #[]] (Go.Sort.grow (redrawn w1 n) os) fun e w'=>e=.returned (.int .u64 (setP (sdP (sgF g)) l:Int))/\Below (Go.Sort.grow (redrawn w1 n) os).heap.size (Go.Sort.grow (redrawn w1 n) os) w') :=
  Lib.hid fun n os g hg=>squaresG g hg F R l A c _ hlen (HA.out _ (below_regrown w1 n os))
 clear hb1 W0 A1
 go_wp2_with fail
 refine wp_region_quiet_below (by kernel_rfl) (by kernel_rfl) ?_
 repeat (go_big_quiet_step ((go_at_call 158;exact Calls.regrown_of (HQ.out _ _ _ (by decide)))))
 refine wpQuiet_nil ?_
 rintro _ ⟨⟨dq,osq⟩,rfl⟩
 have hR:=below_regrown w1 dq osq
 go_wp2
 refine bodyPost_ret (v:=.tuple #[.int .u64 (setP (sdP 1) l:Int),.int .u64 (setP (sdP (-1)) l:Int),.int .i64 0]) ?_ rfl ⟨rfl,chain hB1.out hR⟩
 simp [results,Tryz.results106,go_sem,sgF]
end Go.Proofs.YtbccbgonlmkpkaaGreatDoor
namespace Go.Proofs.YtbccbgonlmkpkaaGreatDoor
open Go.RowKit
def pB:List Int:=[0,0,0,0,-6,0,0,0,0,0,0,0]
def cB:List Int:=[0,0,6,0,0,0,-6,0,0]
end Go.Proofs.YtbccbgonlmkpkaaGreatDoor
