/- What the theorem needs, piece Zb42. -/
import Derived.Test.YtbccbgonlmkpkaaGreatDoorRows
import Derived.Test.YtbccbgonlmkpkaaGreatDoorCards
import Derived.Test.YtbccbgonlmkpkaaGreatDoorTie
import Derived.ProofKit
import Derived.LaidMore
import Derived.OpenShut
import Derived.Stop.Joined
import Derived.Lib.LaidTab
import Derived.Lib.SmallJoins
import Derived.SevenTiedAt
import Derived.Test.YtbccbgonlmkpkaaGreatDoorZb11
import Derived.Carry
import Derived.ChangeSlices
import Derived.Test.YtbccbgonlmkpkaaGreatDoorZb01
import Derived.Test.YtbccbgonlmkpkaaGreatDoorZb05
import Derived.Deep.Strs
import Derived.Lay
import Derived.Test.YtbccbgonlmkpkaaGreatDoorZb20
import Derived.Test.YtbccbgonlmkpkaaGreatDoorZb00
import Derived.Test.YtbccbgonlmkpkaaGreatDoorZb21
import Derived.Test.YtbccbgonlmkpkaaGreatDoorZb32
import Derived.Test.YtbccbgonlmkpkaaGreatDoorZb14
import Derived.Stop.LaidErr
import Derived.Lib.AppendIntMem
import Derived.Maps.AppendAt
import Derived.Deep.RegionLaw
import Derived.Laws.OwnMore
import Derived.Sort.QuietTacIn
import Derived.Sort.BigQuietIn
import Derived.RangeFuncCalls
import Derived.Test.YtbccbgonlmkpkaaGreatDoorZb16
import Derived.Test.YtbccbgonlmkpkaaGreatDoorZb07
import Derived.Test.YtbccbgonlmkpkaaGreatDoorZb24
import Derived.Test.YtbccbgonlmkpkaaGreatDoorZb18
set_option linter.unusedSimpArgs false
set_option linter.unusedVariables false
set_option maxRecDepth 100000
set_option maxHeartbeats 16000000
namespace Go.Proofs.YtbccbgonlmkpkaaGreatDoor
open Go.ChangeShapes Go.WideShapes Go.ChangeAt Go.RowKit
theorem own:ownKnob Tryz.prog.godebug=none:=by kernel_rfl
theorem gTab:Tryz.prog.globalNamed "math/bits.deBruijn64tab"=some 4:=by kernel_rfl
theorem tTab:(Tryz.prog.globals[4]?).map (·.type)=some 238:=by kernel_rfl
def tabZ:List Int:=Lib.deBruijn64tab.map fun n:Nat=>(n:Int)
theorem laid_tab:(Rows.laid_math_bits_deBruijn64tab:DataW Unit)=Lib.tabData .u8 tabZ:=rfl
section
variable {H:Type} {enc:TypeId × Value->H} {P:Program}
theorem post_under {f:Func} {s:ChangeSpec} {W W':World} {args:Array Value} {v:Value} {ds gs:List (DataW H)} {before:List MemPlace} {b1 b2 b3 b4:Bool}
  (hW:DataW.Whole enc P f.params.toList s.vars b1 W args.toList ds gs before)
  (hres:∀ (b:Nat) (sp:Nat->Bool) (hd:Bool),DataW.TrodAll enc P W' b sp hd f.resultTypes.toList (v.resultList f.resultTypes.size) (s.fn H (ds ++ gs)).results [])
  (hargs:∀ sp:Nat->Bool,(∀ p∈before,sp p.block=true)->DataW.TrodAll enc P W' 0 sp true f.params.toList args.toList (s.fn H (ds ++ gs)).args before)
  (hvars:∀ sp:Nat->Bool,DataW.TrodVars enc P W' sp s.vars (s.fn H (ds ++ gs)).vars [])
  (hb:Below W.heap.size W W')
  (hok:∀ (j:Nat) (t:TypeId) (r:Value),f.resultTypes[j]?=some t->(v.resultList f.resultTypes.size)[j]?=some r->Value.okWide P W' .any 0 t r) :
  s.post enc P f b1 b2 b3 b4 W args v W':=by
 have below:∀ p∈before,p.block<W.heap.size:=fun p hp=>hW.lt p hp
 refine ⟨ds,gs,before,[],before,[],hW,hres _ _ _,hargs _ (fun p hp=>by simpa using below p hp),hvars _,World.keptBut_mono (fun p hp=>⟨hp,Or.inr (by simpa using hp)⟩) (hb.frame (·∈before)),fun _=>?_⟩
 obtain ⟨_,_,_,_,_,hz,hn⟩:=hW
 refine ⟨hok,_,_,([] ++ before) ++ [],⟨[] ++ before,[],trodAll_append (hargs _ (fun _ _=>rfl)) (hres _ _ _),hvars _,rfl,?_,?_⟩,?_⟩
 ·intro b off hp
  have hin:MemPlace.cell b off∈before:=by simpa using hp
  rw [hb.frozen (below _ hin)]
  exact hz b off hin
 ·intro ha
  simpa using hn ha
 ·intro p hp _
  simpa using hp
end
end Go.Proofs.YtbccbgonlmkpkaaGreatDoor
namespace Go.Proofs.YtbccbgonlmkpkaaGreatDoor
open Go.ChangeShapes Go.WideShapes Go.ChangeAt Go.RowKit
section
variable {H:Type} {enc:TypeId × Value->H} {P:Program}
theorem trodAll_stays (hl:laidOutB P=true) {W W':World} {sp':Nat->Bool} (hb:Below W.heap.size W W') :
  ∀ {ts:List TypeId} {vs:List Value} {ds:List (DataW H)} {ps:List MemPlace},(ts.all fun t=>P.readableRec t && decide (t<P.types.size))=true->DataW.TrodAll enc P W 0 (fun _=>true) true ts vs ds ps ->
   (∀ x∈ps,x.block<W.heap.size)->(∀ x∈ps,sp' x.block=true)->DataW.TrodAll enc P W' 0 sp' true ts vs ds ps
 | [],[],[],_,_,h,_,_=>h
 | [],[],_ :: _,_,_,h,_,_=>h.elim
 | [],_ :: _,[],_,_,h,_,_=>h.elim
 | [],_ :: _,_ :: _,_,_,h,_,_=>h.elim
 | _ :: _,[],[],_,_,h,_,_=>h.elim
 | _ :: _,[],_ :: _,_,_,h,_,_=>h.elim
 | _ :: _,_ :: _,[],_,_,h,_,_=>h.elim
 | _ :: _,_ :: _,_ :: _,_,ht,⟨p,q,h1,h2,e⟩,hlt,hs=>by
  simp only [List.all_cons,Bool.and_eq_true,decide_eq_true_iff] at ht
  exact ⟨p,q,WideElems.Trod_stays hl ht.1.1 ht.1.2 h1 (fun x hx=>hb.same (hlt x (by rw [e];exact List.mem_append_left _ hx))) (fun x hx=>hs x (by rw [e];exact List.mem_append_left _ hx)),
   trodAll_stays hl hb ht.2 h2 (fun x hx=>hlt x (by rw [e];exact List.mem_append_right _ hx)) (fun x hx=>hs x (by rw [e];exact List.mem_append_right _ hx)),e⟩
theorem post_stays {f:Func} {s:ChangeSpec} {W W':World} {args:Array Value} {v:Value} {ds gs:List (DataW H)} {before:List MemPlace} {b1 b2 b3 b4:Bool} (hl:laidOutB P=true) (ht:(f.params.toList.all fun t=>P.readableRec t && decide (t<P.types.size))=true)
  (hA:DataW.TrodAll enc P W 0 (fun _=>true) true f.params.toList args.toList ds before) (ha:(s.fn H (ds ++ gs)).args=ds)
  (hW:DataW.Whole enc P f.params.toList s.vars b1 W args.toList ds gs before)
  (hres:∀ (b:Nat) (sp:Nat->Bool) (hd:Bool),DataW.TrodAll enc P W' b sp hd f.resultTypes.toList (v.resultList f.resultTypes.size) (s.fn H (ds ++ gs)).results [])
  (hvars:∀ sp:Nat->Bool,DataW.TrodVars enc P W' sp s.vars (s.fn H (ds ++ gs)).vars [])
  (hb:Below W.heap.size W W')
  (hok:∀ (j:Nat) (t:TypeId) (r:Value),f.resultTypes[j]?=some t->(v.resultList f.resultTypes.size)[j]?=some r->Value.okWide P W' .any 0 t r) :
  s.post enc P f b1 b2 b3 b4 W args v W' :=
 post_under hW hres (fun sp hs=>by rw [ha];exact trodAll_stays hl hb ht hA (fun p hp=>hW.lt p hp) hs) hvars hb hok
end
end Go.Proofs.YtbccbgonlmkpkaaGreatDoor
namespace Go.Proofs.YtbccbgonlmkpkaaGreatDoor
open Go.ChangeShapes Go.WideShapes Go.ChangeAt Go.RowKit
section
variable {H:Type} {enc:TypeId × Value->H} {P:Program}
theorem open_pieces_at {t e:TypeId} {w:World} {fuel:Nat} {cs:List Value} {x:DataW H × List MemPlace} (ht:P.underlying t=some (.slice e)) (he:P.underlying e=some (.int .i8)) (hc:P.cellsOf e=1)
  (h:DataW.trod enc P w 0 (fun _=>true) true fuel t cs=some x) :
  ∃ (A:Option Addr) (l:List Int) (c:Nat),cs=[.slice A l.length c]/\RdP w w.heap.size A l c/\l.length<=c/\∀ n∈l,-128<=n/\n<=127:=by
 rcases open_ints ht he hc h with ⟨hcs,hx⟩ | ⟨a',len',cap',zs,hcs,_,hle,_,hz,hx,hcell,hwf⟩
 ·exact ⟨none,[],0,hcs,⟨fun _=>⟨rfl,rfl⟩,fun h=>absurd h (by simp)⟩,by simp,fun n hn=>by simp at hn⟩
 ·simp at hz
  have hl:(zs.take len').length=len':=by rw [List.length_take];omega
  refine ⟨some a',zs.take len',cap',by rw [hl];exact hcs,⟨(fun h=>by cases h),fun h0=>⟨a',rfl,?_,?_⟩⟩,?_,?_⟩
  ·have:=World.block_lt_of_cell? _ _ (hcell 0 (by omega))
   rwa [blk_add] at this
  ·intro j u hu
   have hj:j<len':=by
    have:=(List.getElem?_eq_some_iff.1 hu).1
    omega
   rw [List.getElem?_take,if_pos hj] at hu
   rw [hcell j (by omega)]
   simp [List.getD,hu]
  ·rw [hl];omega
  ·intro n hn
   exact bounds_i8 (hwf n (List.mem_of_mem_take hn))
end
end Go.Proofs.YtbccbgonlmkpkaaGreatDoor
namespace Go.Proofs.YtbccbgonlmkpkaaGreatDoor
open Go.ChangeShapes Go.WideShapes Go.ChangeAt Go.RowKit
section
variable {H:Type} {enc:TypeId × Value->H} {P:Program} {base:Nat} {spare:Nat->Bool} {held:Bool} {w:World}
theorem array8 {cs:Array Value} (h:cs.size=8):∃ a0 a1 a2 a3 a4 a5 a6 a7,cs=#[a0,a1,a2,a3,a4,a5,a6,a7]:=by
 obtain ⟨l⟩:=cs
 match l,h with
 | [a0,a1,a2,a3,a4,a5,a6,a7],_=>exact ⟨a0,a1,a2,a3,a4,a5,a6,a7,rfl⟩
theorem trod_struct6 {t:TypeId} {f0 f1 f2 f3 f4 f5:Field} {fuel:Nat} {cs:List Value} {x:DataW H × List MemPlace} (ht:P.underlying t=some (.struct #[f0,f1,f2,f3,f4,f5])) (h:DataW.trod enc P w base spare held fuel t cs=some x) :
  ∃ y0 y1 y2 y3 y4 y5 n,x.1=.agg [y0.1,y1.1,y2.1,y3.1,y4.1,y5.1]/\DataW.trod enc P w base spare held n f0.type ((cs.drop f0.offset).take (P.cellsOf f0.type))=some y0 /\
   DataW.trod enc P w base spare held n f1.type ((cs.drop f1.offset).take (P.cellsOf f1.type))=some y1/\DataW.trod enc P w base spare held n f2.type ((cs.drop f2.offset).take (P.cellsOf f2.type))=some y2 /\
   DataW.trod enc P w base spare held n f3.type ((cs.drop f3.offset).take (P.cellsOf f3.type))=some y3/\DataW.trod enc P w base spare held n f4.type ((cs.drop f4.offset).take (P.cellsOf f4.type))=some y4 /\
   DataW.trod enc P w base spare held n f5.type ((cs.drop f5.offset).take (P.cellsOf f5.type))=some y5:=by
 obtain ⟨xs,n,_,rfl,hl,hlen,hf⟩:=DataW.trod_struct ht h
 match xs,hlen with
 | [y0,y1,y2,y3,y4,y5],_=>exact ⟨y0,y1,y2,y3,y4,y5,n,by simp,by simpa using hf 0 f0 rfl,by simpa using hf 1 f1 rfl,by simpa using hf 2 f2 rfl,by simpa using hf 3 f3 rfl,by simpa using hf 4 f4 rfl,by simpa using hf 5 f5 rfl⟩
theorem trod_struct7 {t:TypeId} {f0 f1 f2 f3 f4 f5 f6:Field} {fuel:Nat} {cs:List Value} {x:DataW H × List MemPlace} (ht:P.underlying t=some (.struct #[f0,f1,f2,f3,f4,f5,f6])) (h:DataW.trod enc P w base (fun _=>true) true fuel t cs=some x) :
  ∃ y0 y1 y2 y3 y4 y5 y6 n,DataW.trod enc P w base (fun _=>true) true n f0.type ((cs.drop f0.offset).take (P.cellsOf f0.type))=some y0 /\
   DataW.trod enc P w base (fun _=>true) true n f1.type ((cs.drop f1.offset).take (P.cellsOf f1.type))=some y1/\DataW.trod enc P w base (fun _=>true) true n f2.type ((cs.drop f2.offset).take (P.cellsOf f2.type))=some y2 /\
   DataW.trod enc P w base (fun _=>true) true n f3.type ((cs.drop f3.offset).take (P.cellsOf f3.type))=some y3/\DataW.trod enc P w base (fun _=>true) true n f4.type ((cs.drop f4.offset).take (P.cellsOf f4.type))=some y4 /\
   DataW.trod enc P w base (fun _=>true) true n f5.type ((cs.drop f5.offset).take (P.cellsOf f5.type))=some y5/\DataW.trod enc P w base (fun _=>true) true n f6.type ((cs.drop f6.offset).take (P.cellsOf f6.type))=some y6:=by
 obtain ⟨xs,n,_,rfl,hl,hlen,hf⟩:=DataW.trod_struct ht h
 match xs,hlen with
 | [y0,y1,y2,y3,y4,y5,y6],_=>exact ⟨y0,y1,y2,y3,y4,y5,y6,n,by simpa using hf 0 f0 rfl,by simpa using hf 1 f1 rfl,by simpa using hf 2 f2 rfl,by simpa using hf 3 f3 rfl,by simpa using hf 4 f4 rfl,by simpa using hf 5 f5 rfl,by simpa using hf 6 f6 rfl⟩
theorem open_pos {r:Reach} {b0:Nat} {t e:TypeId} {f0 f1 f2 f3 f4 f5 f6 g0 g1:Field} {v:Value} {d:DataW H} {ps:List MemPlace} (hs:P.underlying t=some (.struct #[f0,f1,f2,f3,f4,f5,f6])) (hC:P.cellsOf t=8)
  (ho0:f0.offset=0) (hc0:P.cellsOf f0.type=2) (ho1:f1.offset=2) (hc1:P.cellsOf f1.type=1) (ho2:f2.offset=3) (hc2:P.cellsOf f2.type=1) (ho3:f3.offset=4) (hc3:P.cellsOf f3.type=1) (ho4:f4.offset=5) (hc4:P.cellsOf f4.type=1) (ho5:f5.offset=6) (hc5:P.cellsOf f5.type=1) (ho6:f6.offset=7) (hc6:P.cellsOf f6.type=1)
  (hz:P.underlying f0.type=some (.struct #[g0,g1])) (hzo:g0.offset=0) (hzc:P.cellsOf g0.type=1) (hzo1:g1.offset=1) (hzc1:P.cellsOf g1.type=1) (hi0:P.underlying g0.type=some (.int .i64)) (hi1:P.underlying g1.type=some (.int .i64))
  (hsl:P.underlying f1.type=some (.slice e)) (he:P.underlying e=some (.int .i8)) (hce:P.cellsOf e=1) (h2:P.underlying f2.type=some .bool) (h3:P.underlying f3.type=some (.int .u8)) (h4:P.underlying f4.type=some (.int .i64)) (h5:P.underlying f5.type=some (.int .i64)) (h6:P.underlying f6.type=some (.int .i64))
  (hv:Value.okWide P w r b0 t v) (h:DataW.Trod enc P w 0 (fun _=>true) true t v d ps) :
  ∃ (F R:Int) (A:Option Addr) (l:List Int) (c:Nat) (bl:Bool) (ca:Nat) (pp ha fu:Int),v=.agg #[.int .i64 F,.int .i64 R,.slice A l.length c,.bool bl,.int .u8 (ca:Int),.int .i64 pp,.int .i64 ha,.int .i64 fu]/\ca<256/\RdP w w.heap.size A l c/\l.length<=c:=by
 obtain ⟨cs,rfl,hsz⟩:=okWide_struct hs hv
 obtain ⟨c0,c1,c2,c3,c4,c5,c6,c7,rfl⟩:=array8 (hsz.trans hC)
 obtain ⟨fuel,hf⟩:=h
 obtain ⟨y0,y1,y2,y3,y4,y5,y6,n,k0,k1,k2,k3,k4,k5,k6⟩:=trod_struct7 hs hf
 simp only [Value.cells,ho0,hc0,ho1,hc1,ho2,hc2,ho3,hc3,ho4,hc4,ho5,hc5,ho6,hc6,List.drop_zero,List.drop_succ_cons,List.take_succ_cons,List.take_zero] at k0 k1 k2 k3 k4 k5 k6
 obtain ⟨z0,z1,n2,hx2,_,m0,m1⟩:=trod_struct2 hz k0
 simp only [hzo,hzc,hzo1,hzc1,List.drop_zero,List.drop_succ_cons,List.take_succ_cons,List.take_zero] at m0 m1
 obtain ⟨F,e0,_,_⟩:=DataW.trod_int hi0 m0
 obtain ⟨R,e1,_,_⟩:=DataW.trod_int hi1 m1
 obtain ⟨A,l,c,e2,hA,hcc,_⟩:=open_pieces_at hsl he hce k1
 obtain ⟨bl,e3,_⟩:=DataW.trod_bool h2 k2
 obtain ⟨cz,e4,_,w4⟩:=DataW.trod_int h3 k3
 obtain ⟨pp,e5,_,_⟩:=DataW.trod_int h4 k4
 obtain ⟨ha,e6,_,_⟩:=DataW.trod_int h5 k5
 obtain ⟨fu,e7,_,_⟩:=DataW.trod_int h6 k6
 simp at e0 e1 e2 e3 e4 e5 e6 e7
 subst e0 e1 e2 e3 e4 e5 e6 e7
 have hcb:0<=cz/\cz<=255:=bounds_u8 w4
 refine ⟨F,R,A,l,c,bl,cz.toNat,pp,ha,fu,?_,by omega,hA,hcc⟩
 rw [Int.toNat_of_nonneg hcb.1]
end
end Go.Proofs.YtbccbgonlmkpkaaGreatDoor
namespace Go.Proofs.YtbccbgonlmkpkaaGreatDoor
open Go.ChangeShapes Go.WideShapes Go.ChangeAt Go.RowKit
section
variable {H:Type} {enc:TypeId × Value->H} {P:Program}
theorem open_mv_cells {t:TypeId} {f0 f1 f2:Field} {w:World} {fuel:Nat} {cs:List Value} {x:DataW H × List MemPlace} (hs:P.underlying t=some (.struct #[f0,f1,f2])) (hC:P.cellsOf t=3) (o0:f0.offset=0) (c0:P.cellsOf f0.type=1) (o1:f1.offset=1) (c1:P.cellsOf f1.type=1) (o2:f2.offset=2) (c2:P.cellsOf f2.type=1)
  (i0:P.underlying f0.type=some (.int .i64)) (i1:P.underlying f1.type=some (.int .i64)) (i2:P.underlying f2.type=some (.int .i8)) (h:DataW.trod enc P w 0 (fun _=>true) true fuel t cs=some x) :
  ∃ m:Mv,cs=m.cells/\-128<=m.p/\m.p<=127:=by
 obtain ⟨y0,y1,y2,n,_,hl,k0,k1,k2⟩:=Go.Deep.trod_struct3 hs h
 match cs,hl.trans hC with
 | [a,b,c],_ =>
  simp only [o0,c0,o1,c1,o2,c2,List.drop_zero,List.drop_succ_cons,List.take_succ_cons,List.take_zero] at k0 k1 k2
  obtain ⟨x,e0,_,_⟩:=DataW.trod_int i0 k0
  obtain ⟨y,e1,_,_⟩:=DataW.trod_int i1 k1
  obtain ⟨p,e2,_,wp⟩:=DataW.trod_int i2 k2
  simp at e0 e1 e2
  subst e0 e1 e2
  obtain ⟨q0,q1⟩:=bounds_i8 wp
  exact ⟨⟨x,y,p⟩,rfl,q0,q1⟩
theorem open_mv {r:Reach} {b0:Nat} {t:TypeId} {f0 f1 f2:Field} {w:World} {v:Value} {d:DataW H} {ps:List MemPlace} (hs:P.underlying t=some (.struct #[f0,f1,f2])) (hC:P.cellsOf t=3) (o0:f0.offset=0) (c0:P.cellsOf f0.type=1) (o1:f1.offset=1) (c1:P.cellsOf f1.type=1) (o2:f2.offset=2) (c2:P.cellsOf f2.type=1)
  (i0:P.underlying f0.type=some (.int .i64)) (i1:P.underlying f1.type=some (.int .i64)) (i2:P.underlying f2.type=some (.int .i8)) (hv:Value.okWide P w r b0 t v) (h:DataW.Trod enc P w 0 (fun _=>true) true t v d ps) :
  ∃ x y p:Int,v=.agg #[.int .i64 x,.int .i64 y,.int .i8 p]/\-128<=p/\p<=127:=by
 obtain ⟨cs,rfl,hsz⟩:=okWide_struct hs hv
 obtain ⟨fuel,hf⟩:=h
 obtain ⟨m,hm,h0,h1⟩:=open_mv_cells hs hC o0 c0 o1 c1 o2 c2 i0 i1 i2 hf
 refine ⟨m.a,m.b,m.p,?_,h0,h1⟩
 obtain ⟨l⟩:=cs
 simp only [Value.cells] at hm
 rw [hm]
 rfl
end
end Go.Proofs.YtbccbgonlmkpkaaGreatDoor
namespace Go.Proofs.YtbccbgonlmkpkaaGreatDoor
open Go.ChangeShapes Go.WideShapes Go.ChangeAt Go.RowKit
section
variable {H:Type} {enc:TypeId × Value->H} {P:Program} {base:Nat} {spare:Nat->Bool} {held:Bool} {w:World}
theorem trod_struct5 {t:TypeId} {f0 f1 f2 f3 f4:Field} {fuel:Nat} {cs:List Value} {x:DataW H × List MemPlace} (ht:P.underlying t=some (.struct #[f0,f1,f2,f3,f4])) (h:DataW.trod enc P w base spare held fuel t cs=some x) :
  ∃ y0 y1 y2 y3 y4 n,x.1=.agg [y0.1,y1.1,y2.1,y3.1,y4.1]/\DataW.trod enc P w base spare held n f0.type ((cs.drop f0.offset).take (P.cellsOf f0.type))=some y0 /\
   DataW.trod enc P w base spare held n f1.type ((cs.drop f1.offset).take (P.cellsOf f1.type))=some y1/\DataW.trod enc P w base spare held n f2.type ((cs.drop f2.offset).take (P.cellsOf f2.type))=some y2 /\
   DataW.trod enc P w base spare held n f3.type ((cs.drop f3.offset).take (P.cellsOf f3.type))=some y3/\DataW.trod enc P w base spare held n f4.type ((cs.drop f4.offset).take (P.cellsOf f4.type))=some y4:=by
 obtain ⟨xs,n,_,rfl,hl,hlen,hf⟩:=DataW.trod_struct ht h
 match xs,hlen with
 | [y0,y1,y2,y3,y4],_=>exact ⟨y0,y1,y2,y3,y4,n,by simp,by simpa using hf 0 f0 rfl,by simpa using hf 1 f1 rfl,by simpa using hf 2 f2 rfl,by simpa using hf 3 f3 rfl,by simpa using hf 4 f4 rfl⟩
end
end Go.Proofs.YtbccbgonlmkpkaaGreatDoor
namespace Go.Proofs.YtbccbgonlmkpkaaGreatDoor
open Go.ChangeShapes Go.WideShapes Go.ChangeAt Go.RowKit
theorem gLin:Tryz.prog.globalNamed "caissa/ray.lines"=some 1:=by kernel_rfl
theorem gJum:Tryz.prog.globalNamed "caissa/ray.jumps"=some 2:=by kernel_rfl
theorem tLin:(Tryz.prog.globals[1]?).map (·.type)=some 198:=by kernel_rfl
theorem tJum:(Tryz.prog.globals[2]?).map (·.type)=some 198:=by kernel_rfl
theorem tStp:∃ e,Tryz.prog.underlying 198=some (.array 8 e)/\Tryz.prog.cellsOf e=2 /\
  ∃ f0 f1:Field,Tryz.prog.underlying e=some (.struct #[f0,f1])/\(f0.offset=0/\f1.offset=1)/\(Tryz.prog.underlying f0.type=some (.int .i64)/\Tryz.prog.underlying f1.type=some (.int .i64))/\(Tryz.prog.cellsOf f0.type=1/\Tryz.prog.cellsOf f1.type=1) :=
 ⟨197,Tryz.underlying198,by kernel_rfl,_,_,Tryz.underlying197,⟨rfl,rfl⟩,⟨Tryz.underlying3,Tryz.underlying3⟩,⟨by kernel_rfl,by kernel_rfl⟩⟩
def stepsD (l:List Int):DataW Unit:=.agg ((List.range 8).map fun i=>.agg [.lit (.int .i64 (l[i * 2]?.getD 0)),.lit (.int .i64 (l[i * 2+1]?.getD 0))])
theorem laid_lines:(Rows.laid_caissa_ray_lines:DataW Unit)=stepsD linesL:=by kernel_rfl
theorem laid_jumps:(Rows.laid_caissa_ray_jumps:DataW Unit)=stepsD jumpsL:=by kernel_rfl
theorem one_of2 {l:List Value} {a j:Nat} {v:Value} (hj:j<2) (h:(((l.drop a).take 2).drop j).take 1=[v]):l[a+j]?=some v:=by
 have:=congrArg (fun q:List Value=>q[0]?) h
 simpa [List.getElem?_take,List.getElem?_drop,hj] using this
theorem tb_one {W:World} {nm:String} {G:Nat} {l:List Int} {rest:List (String × DataW Unit)} {ps:List MemPlace} (hg:Tryz.prog.globalNamed nm=some G) (hty:(Tryz.prog.globals[G]?).map (·.type)=some 198)
  (h:DataW.LaidVars Tryz.prog W ((nm,stepsD l) :: rest) ps):(∀ j,j<16->W.cell? ⟨G,j,none⟩=some (.int .i64 (l[j]?.getD 0)))/\∃ ps',DataW.LaidVars Tryz.prog W rest ps':=by
 obtain ⟨g',t',cs,fuel,p,q,hg',ht',hvar,hd,hr,_⟩:=h
 refine ⟨?_,_,hr⟩
 obtain ⟨e,he,hce,f0,f1,hs,⟨o0,o1⟩,⟨y0,y1⟩,⟨c0,c1⟩⟩:=tStp
 obtain rfl:=Option.some.inj (hg.symm.trans hg')
 obtain rfl:=Option.some.inj (hty.symm.trans ht')
 obtain ⟨xs,m,_,hx,hl,hxl,hel⟩:=DataW.trod_array he hd
 have hxs:xs.map (·.1)=(List.range 8).map fun i=>(.agg [.lit (.int .i64 (l[i * 2]?.getD 0)),.lit (.int .i64 (l[i * 2+1]?.getD 0))]:DataW Unit):=by
  have:=congrArg Prod.fst hx
  simp only [stepsD,DataW.agg.injEq] at this
  exact this.symm
 have hc:∀ i,i<8->cs.toList[i * 2+0]?=some (.int .i64 (l[i * 2]?.getD 0))/\cs.toList[i * 2+1]?=some (.int .i64 (l[i * 2+1]?.getD 0)):=by
  intro i hi
  have h1:=hel i hi
  rw [hce] at h1
  obtain ⟨x,hxi⟩:∃ x,xs[i]?=some x:=⟨xs[i]'(by omega),List.getElem?_eq_getElem (by omega)⟩
  rw [hxi] at h1
  obtain ⟨z0,z1,n,rfl,_,k0,k1⟩:=trod_struct2 hs h1
  rw [c0,o0] at k0
  rw [c1,o1] at k1
  obtain ⟨m0,hc0,rfl,_⟩:=DataW.trod_int y0 k0
  obtain ⟨m1,hc1,rfl,_⟩:=DataW.trod_int y1 k1
  have h2:=congrArg (·[i]?) hxs
  simp [hxi,hi] at h2
  obtain ⟨e0,e1⟩:=h2
  exact ⟨by rw [one_of2 (by omega) hc0,e0],by rw [one_of2 (by omega) hc1,e1]⟩
 intro j hj
 have:=World.var?_cell hg hvar j
 rw [this]
 have h3:=hc (j / 2) (by omega)
 rcases Nat.mod_two_eq_zero_or_one j with hm | hm
 ·have:j / 2 * 2=j:=by omega
  have h4:=h3.1
  rw [Nat.add_zero,this] at h4
  simpa using h4
 ·have:j / 2 * 2+1=j:=by omega
  have h4:=h3.2
  rw [this] at h4
  simpa using h4
end Go.Proofs.YtbccbgonlmkpkaaGreatDoor
namespace Go.Proofs.YtbccbgonlmkpkaaGreatDoor
open Go.ChangeShapes Go.WideShapes Go.ChangeAt Go.RowKit
theorem gRts:Tryz.prog.globalNamed "caissa/position.rights"=some 0:=by kernel_rfl
theorem tRts:(Tryz.prog.globals[0]?).map (·.type)=some 191:=by kernel_rfl
def rtD:DataW Unit:=.agg ((List.range 4).map fun i=>.agg [.lit (.int .u8 ([1,2,4,8][i]?.getD 0)),.lit (.int .u8 ([75,81,107,113][i]?.getD 0)),.lit (.int .i8 ([6,6,-6,-6][i]?.getD 0)),.lit (.int .i8 ([4,4,-4,-4][i]?.getD 0)),.lit (.int .i64 ([4,4,60,60][i]?.getD 0)),.lit (.int .i64 ([7,0,63,56][i]?.getD 0))])
theorem laid_rts:(Rows.laid_caissa_position_rights:DataW Unit)=rtD:=by kernel_rfl
theorem tRtE:∃ e,Tryz.prog.underlying 191=some (.array 4 e)/\Tryz.prog.cellsOf e=6 /\
  ∃ f0 f1 f2 f3 f4 f5:Field,Tryz.prog.underlying e=some (.struct #[f0,f1,f2,f3,f4,f5])/\(f0.offset=0/\f1.offset=1/\f2.offset=2/\f3.offset=3/\f4.offset=4/\f5.offset=5) /\
  (Tryz.prog.underlying f0.type=some (.int .u8)/\Tryz.prog.underlying f1.type=some (.int .u8)/\Tryz.prog.underlying f2.type=some (.int .i8)/\Tryz.prog.underlying f3.type=some (.int .i8)/\Tryz.prog.underlying f4.type=some (.int .i64)/\Tryz.prog.underlying f5.type=some (.int .i64)) /\
  (Tryz.prog.cellsOf f0.type=1/\Tryz.prog.cellsOf f1.type=1/\Tryz.prog.cellsOf f2.type=1/\Tryz.prog.cellsOf f3.type=1/\Tryz.prog.cellsOf f4.type=1/\Tryz.prog.cellsOf f5.type=1) :=
 ⟨_,Tryz.underlying191,by kernel_rfl,_,_,_,_,_,_,Tryz.underlying190,⟨rfl,rfl,rfl,rfl,rfl,rfl⟩,⟨Tryz.underlying5,Tryz.underlying5,Tryz.underlying28,Tryz.underlying28,Tryz.underlying3,Tryz.underlying3⟩,⟨by kernel_rfl,by kernel_rfl,by kernel_rfl,by kernel_rfl,by kernel_rfl,by kernel_rfl⟩⟩
theorem one_of6 {l:List Value} {a j:Nat} {v:Value} (hj:j<6) (h:(((l.drop a).take 6).drop j).take 1=[v]):l[a+j]?=some v:=by
 have:=congrArg (fun q:List Value=>q[0]?) h
 simpa [List.getElem?_take,List.getElem?_drop,hj] using this
theorem rts_of_head {W:World} {rest:List (String × DataW Unit)} (h:laidMet Tryz.prog (("caissa/position.rights",rtD) :: rest) W):Rts W:=by
 obtain ⟨ps,⟨g',t',cs,fuel,p,q,hg',ht',hvar,hd,hr,_⟩,_⟩:=h
 obtain ⟨e,he,hce,f0,f1,f2,f3,f4,f5,hs,⟨o0,o1,o2,o3,o4,o5⟩,⟨y0,y1,y2,y3,y4,y5⟩,⟨c0,c1,c2,c3,c4,c5⟩⟩:=tRtE
 obtain rfl:=Option.some.inj (gRts.symm.trans hg')
 obtain rfl:=Option.some.inj (tRts.symm.trans ht')
 obtain ⟨xs,m,_,hx,hl,hxl,hel⟩:=DataW.trod_array he hd
 have hxs:xs.map (·.1)=(List.range 4).map fun i=>(.agg [.lit (.int .u8 ([1,2,4,8][i]?.getD 0)),.lit (.int .u8 ([75,81,107,113][i]?.getD 0)),.lit (.int .i8 ([6,6,-6,-6][i]?.getD 0)),.lit (.int .i8 ([4,4,-4,-4][i]?.getD 0)),.lit (.int .i64 ([4,4,60,60][i]?.getD 0)),.lit (.int .i64 ([7,0,63,56][i]?.getD 0))]:DataW Unit):=by
  have:=congrArg Prod.fst hx
  simp only [rtD,DataW.agg.injEq] at this
  exact this.symm
 have hc:∀ i,i<4->cs.toList[i * 6+0]?=some (.int .u8 ([1,2,4,8][i]?.getD 0))/\cs.toList[i * 6+1]?=some (.int .u8 ([75,81,107,113][i]?.getD 0))/\cs.toList[i * 6+2]?=some (.int .i8 ([6,6,-6,-6][i]?.getD 0)) /\
   cs.toList[i * 6+3]?=some (.int .i8 ([4,4,-4,-4][i]?.getD 0))/\cs.toList[i * 6+4]?=some (.int .i64 ([4,4,60,60][i]?.getD 0))/\cs.toList[i * 6+5]?=some (.int .i64 ([7,0,63,56][i]?.getD 0)):=by
  intro i hi
  have h1:=hel i hi
  rw [hce] at h1
  obtain ⟨x,hxi⟩:∃ x,xs[i]?=some x:=⟨xs[i]'(by omega),List.getElem?_eq_getElem (by omega)⟩
  rw [hxi] at h1
  obtain ⟨z0,z1,z2,z3,z4,z5,n,hz,k0,k1,k2,k3,k4,k5⟩:=trod_struct6 hs h1
  rw [c0,o0] at k0
  rw [c1,o1] at k1
  rw [c2,o2] at k2
  rw [c3,o3] at k3
  rw [c4,o4] at k4
  rw [c5,o5] at k5
  obtain ⟨m0,hc0,rfl,_⟩:=DataW.trod_int y0 k0
  obtain ⟨m1,hc1,rfl,_⟩:=DataW.trod_int y1 k1
  obtain ⟨m2,hc2,rfl,_⟩:=DataW.trod_int y2 k2
  obtain ⟨m3,hc3,rfl,_⟩:=DataW.trod_int y3 k3
  obtain ⟨m4,hc4,rfl,_⟩:=DataW.trod_int y4 k4
  obtain ⟨m5,hc5,rfl,_⟩:=DataW.trod_int y5 k5
  have h2:=congrArg (·[i]?) hxs
  simp only [List.getElem?_map,hxi,Option.map_some,hz,List.getElem?_range hi] at h2
  simp only [Option.some.injEq,DataW.agg.injEq,List.cons.injEq,DataW.lit.injEq,Lit.int.injEq,true_and,and_true] at h2
  obtain ⟨e0,e1,e2,e3,e4,e5⟩:=h2
  exact ⟨by rw [one_of6 (by omega) hc0,e0],by rw [one_of6 (by omega) hc1,e1],by rw [one_of6 (by omega) hc2,e2],by rw [one_of6 (by omega) hc3,e3],by rw [one_of6 (by omega) hc4,e4],by rw [one_of6 (by omega) hc5,e5]⟩
 intro j hj
 have:=World.var?_cell gRts hvar j
 rw [this]
 obtain ⟨i,k,hi,hk,rfl⟩:∃ i k,i<4/\k<6/\j=i * 6+k:=⟨j / 6,j % 6,by omega,by omega,by omega⟩
 obtain ⟨p0,p1,p2,p3,p4,p5⟩:=hc i hi
 rw [<- Array.getElem?_toList]
 match k,hk with
 | 0,_=>rw [p0];match i,hi with | 0,_=>rfl | 1,_=>rfl | 2,_=>rfl | 3,_=>rfl
 | 1,_=>rw [p1];match i,hi with | 0,_=>rfl | 1,_=>rfl | 2,_=>rfl | 3,_=>rfl
 | 2,_=>rw [p2];match i,hi with | 0,_=>rfl | 1,_=>rfl | 2,_=>rfl | 3,_=>rfl
 | 3,_=>rw [p3];match i,hi with | 0,_=>rfl | 1,_=>rfl | 2,_=>rfl | 3,_=>rfl
 | 4,_=>rw [p4];match i,hi with | 0,_=>rfl | 1,_=>rfl | 2,_=>rfl | 3,_=>rfl
 | 5,_=>rw [p5];match i,hi with | 0,_=>rfl | 1,_=>rfl | 2,_=>rfl | 3,_=>rfl
theorem gCst:Tryz.prog.globalNamed "caissa/making.castlings"=some 3:=by kernel_rfl
theorem tCst:(Tryz.prog.globals[3]?).map (·.type)=some 203:=by kernel_rfl
def ctD:DataW Unit:=.agg ((List.range 4).map fun i=>.agg [.lit (.int .u8 ([1,2,4,8][i]?.getD 0)),.lit (.int .i64 ([4,4,60,60][i]?.getD 0)),.lit (.int .i64 ([6,2,62,58][i]?.getD 0)),.lit (.int .i64 ([7,0,63,56][i]?.getD 0)),.lit (.int .i64 ([5,3,61,59][i]?.getD 0))])
theorem laid_cst:(Rows.laid_caissa_making_castlings:DataW Unit)=ctD:=by kernel_rfl
theorem tCtE:∃ e,Tryz.prog.underlying 203=some (.array 4 e)/\Tryz.prog.cellsOf e=5 /\
  ∃ f0 f1 f2 f3 f4:Field,Tryz.prog.underlying e=some (.struct #[f0,f1,f2,f3,f4])/\(f0.offset=0/\f1.offset=1/\f2.offset=2/\f3.offset=3/\f4.offset=4) /\
  (Tryz.prog.underlying f0.type=some (.int .u8)/\Tryz.prog.underlying f1.type=some (.int .i64)/\Tryz.prog.underlying f2.type=some (.int .i64)/\Tryz.prog.underlying f3.type=some (.int .i64)/\Tryz.prog.underlying f4.type=some (.int .i64)) /\
  (Tryz.prog.cellsOf f0.type=1/\Tryz.prog.cellsOf f1.type=1/\Tryz.prog.cellsOf f2.type=1/\Tryz.prog.cellsOf f3.type=1/\Tryz.prog.cellsOf f4.type=1) :=
 ⟨_,Tryz.underlying203,by kernel_rfl,_,_,_,_,_,Tryz.underlying146,⟨rfl,rfl,rfl,rfl,rfl⟩,⟨Tryz.underlying5,Tryz.underlying3,Tryz.underlying3,Tryz.underlying3,Tryz.underlying3⟩,by kernel_rfl,by kernel_rfl,by kernel_rfl,by kernel_rfl,by kernel_rfl⟩
theorem one_of5 {l:List Value} {a j:Nat} {v:Value} (hj:j<5) (h:(((l.drop a).take 5).drop j).take 1=[v]):l[a+j]?=some v:=by
 have:=congrArg (fun q:List Value=>q[0]?) h
 simpa [List.getElem?_take,List.getElem?_drop,hj] using this
theorem cst_of_head {W:World} {rest:List (String × DataW Unit)} (h:laidMet Tryz.prog (("caissa/making.castlings",ctD) :: rest) W):Cst W:=by
 obtain ⟨ps,⟨g',t',cs,fuel,p,q,hg',ht',hvar,hd,hr,_⟩,_⟩:=h
 obtain ⟨e,he,hce,f0,f1,f2,f3,f4,hs,⟨o0,o1,o2,o3,o4⟩,⟨y0,y1,y2,y3,y4⟩,⟨c0,c1,c2,c3,c4⟩⟩:=tCtE
 obtain rfl:=Option.some.inj (gCst.symm.trans hg')
 obtain rfl:=Option.some.inj (tCst.symm.trans ht')
 obtain ⟨xs,m,_,hx,hl,hxl,hel⟩:=DataW.trod_array he hd
 have hxs:xs.map (·.1)=(List.range 4).map fun i=>(.agg [.lit (.int .u8 ([1,2,4,8][i]?.getD 0)),.lit (.int .i64 ([4,4,60,60][i]?.getD 0)),.lit (.int .i64 ([6,2,62,58][i]?.getD 0)),.lit (.int .i64 ([7,0,63,56][i]?.getD 0)),.lit (.int .i64 ([5,3,61,59][i]?.getD 0))]:DataW Unit):=by
  have:=congrArg Prod.fst hx
  simp only [ctD,DataW.agg.injEq] at this
  exact this.symm
 have hc:∀ i,i<4->cs.toList[i * 5+0]?=some (.int .u8 ([1,2,4,8][i]?.getD 0))/\cs.toList[i * 5+1]?=some (.int .i64 ([4,4,60,60][i]?.getD 0))/\cs.toList[i * 5+2]?=some (.int .i64 ([6,2,62,58][i]?.getD 0))/\cs.toList[i * 5+3]?=some (.int .i64 ([7,0,63,56][i]?.getD 0))/\cs.toList[i * 5+4]?=some (.int .i64 ([5,3,61,59][i]?.getD 0)):=by
  intro i hi
  have h1:=hel i hi
  rw [hce] at h1
  obtain ⟨x,hxi⟩:∃ x,xs[i]?=some x:=⟨xs[i]'(by omega),List.getElem?_eq_getElem (by omega)⟩
  rw [hxi] at h1
  obtain ⟨z0,z1,z2,z3,z4,n,hz,k0,k1,k2,k3,k4⟩:=trod_struct5 hs h1
  rw [c0,o0] at k0
  rw [c1,o1] at k1
  rw [c2,o2] at k2
  rw [c3,o3] at k3
  rw [c4,o4] at k4
  obtain ⟨m0,hc0,rfl,_⟩:=DataW.trod_int y0 k0
  obtain ⟨m1,hc1,rfl,_⟩:=DataW.trod_int y1 k1
  obtain ⟨m2,hc2,rfl,_⟩:=DataW.trod_int y2 k2
  obtain ⟨m3,hc3,rfl,_⟩:=DataW.trod_int y3 k3
  obtain ⟨m4,hc4,rfl,_⟩:=DataW.trod_int y4 k4
  have h2:=congrArg (·[i]?) hxs
  simp only [List.getElem?_map,hxi,Option.map_some,hz,List.getElem?_range hi] at h2
  simp only [Option.some.injEq,DataW.agg.injEq,List.cons.injEq,DataW.lit.injEq,Lit.int.injEq,true_and,and_true] at h2
  obtain ⟨e0,e1,e2,e3,e4⟩:=h2
  exact ⟨by rw [one_of5 (by omega) hc0,e0],by rw [one_of5 (by omega) hc1,e1],by rw [one_of5 (by omega) hc2,e2],by rw [one_of5 (by omega) hc3,e3],by rw [one_of5 (by omega) hc4,e4]⟩
 intro j hj
 have:=World.var?_cell gCst hvar j
 rw [this]
 obtain ⟨i,k,hi,hk,rfl⟩:∃ i k,i<4/\k<5/\j=i * 5+k:=⟨j / 5,j % 5,by omega,by omega,by omega⟩
 obtain ⟨p0,p1,p2,p3,p4⟩:=hc i hi
 rw [<- Array.getElem?_toList]
 match k,hk with
 | 0,_=>rw [p0];match i,hi with | 0,_=>rfl | 1,_=>rfl | 2,_=>rfl | 3,_=>rfl
 | 1,_=>rw [p1];match i,hi with | 0,_=>rfl | 1,_=>rfl | 2,_=>rfl | 3,_=>rfl
 | 2,_=>rw [p2];match i,hi with | 0,_=>rfl | 1,_=>rfl | 2,_=>rfl | 3,_=>rfl
 | 3,_=>rw [p3];match i,hi with | 0,_=>rfl | 1,_=>rfl | 2,_=>rfl | 3,_=>rfl
 | 4,_=>rw [p4];match i,hi with | 0,_=>rfl | 1,_=>rfl | 2,_=>rfl | 3,_=>rfl
theorem tab_of_head {W:World} {rest:List (String × DataW Unit)} (h:laidMet Tryz.prog (("math/bits.deBruijn64tab",Lib.tabData .u8 tabZ) :: rest) W):Tab W:=by
 have h2:=Lib.tabIs_of_head gTab tTab Tryz.underlying238 Tryz.underlying5 (by kernel_rfl) (by kernel_rfl) h
 have hc:∀ j,j<Lib.deBruijn64tab.length->W.cell? ⟨4,j,none⟩=some (.int .u8 (Lib.deBruijn64tab.getD j 0)):=by
  intro j hj
  have:=h2.cell gTab j (by simpa [tabZ] using hj)
  rw [this]
  congr 2
  simp [tabZ,List.getD,hj]
 exact ⟨World.block_lt_of_cell? W _ (hc 0 (by decide)),hc⟩
def laid8:List (String × DataW Unit):=[("math/bits.deBruijn64tab",Rows.laid_math_bits_deBruijn64tab),("caissa/ray.lines",Rows.laid_caissa_ray_lines),("caissa/ray.jumps",Rows.laid_caissa_ray_jumps),("caissa/position.rights",Rows.laid_caissa_position_rights),("caissa/making.castlings",Rows.laid_caissa_making_castlings)]
theorem t8_met (os:Os) (args:Array Value):laidMetH Tryz.prog laid8 ((World.laidAll Tryz.prog os laid8).forCall (fun _ _=>0) ⟨#[],args,[]⟩).memory :=
 laidMetH_of_parts3 (fuel:=8) (laidMet_laidAll args (by kernel_rfl) (by kernel_rfl)) (by kernel_rfl) (by kernel_rfl)
theorem shaped8 (os:Os):(World.laidAll Tryz.prog os laid8).Shaped Tryz.prog:=World.shaped_of_ZipB (by kernel_rfl) (by kernel_rfl)
theorem t8_of_laid {W:World} (h:laidMetH Tryz.prog laid8 W):T8 W:=by
 unfold laid8 at h
 rw [MakeChecks.laidMetH_plain _ _ _ (by kernel_rfl)] at h
 rw [laid_tab,laid_lines,laid_jumps,laid_rts,laid_cst] at h
 have ht:=tab_of_head h
 replace h:=h.tail
 have hl:(∀ j,j<16->W.cell? ⟨1,j,none⟩=some (.int .i64 (linesL[j]?.getD 0))):=by
  obtain ⟨ps,h,_⟩:=h
  exact (tb_one gLin tLin h).1
 replace h:=h.tail
 have hj:(∀ j,j<16->W.cell? ⟨2,j,none⟩=some (.int .i64 (jumpsL[j]?.getD 0))):=by
  obtain ⟨ps,h,_⟩:=h
  exact (tb_one gJum tJum h).1
 replace h:=h.tail
 have hr:=rts_of_head h
 replace h:=h.tail
 exact ⟨⟨ht,hl,hj⟩,hr,cst_of_head h⟩
end Go.Proofs.YtbccbgonlmkpkaaGreatDoor
