/- What the theorem needs, piece Zb08. -/
import Derived.RegionTactic
import Derived.BigRegion
import Derived.Lib.SmallJoins
import Derived.Test.YtbccbgonlmkpkaaGreatDoorZb02
import Derived.Test.YtbccbgonlmkpkaaGreatDoorZb00
set_option linter.unusedSimpArgs false
set_option linter.unusedVariables false
set_option maxRecDepth 100000
set_option maxHeartbeats 16000000
namespace Go.Proofs.YtbccbgonlmkpkaaGreatDoor
open Go.RowKit
theorem infoStr:(Tryz.prog.info? 9).map (fun i=>(i.zero,i.size,i.bytes))=some (some (.string ByteArray.empty),1,16):=by kernel_rfl
def vstr (L:List UInt8):Value:=.string (bsL L)
def vstrs (l:List (List UInt8)):List Value:=l.map vstr
theorem ext_one (s:ByteArray) (k:Nat) (h:k<s.size):s.extract k (k+1)=bsL [s[k]]:=by
 apply ByteArray.ext
 rw [ByteArray.data_extract]
 apply Array.ext
 ·simp [bsL];have:s.data.size=s.size:=rfl;omega
 ·intro i h1 h2
  simp [bsL] at h2
  subst h2
  simp [bsL]
  rfl
def ParsedR (w:World) (o:Option (Nat × Nat × List Int)) (e:Ending) (w':World):Prop :=
 match o with
 | none=>e=.returned (.tuple #[.agg #[.int .i64 0,.int .i64 0,.slice none 0 0],.bool false])/\Below w.heap.size w w'
 | some (f,r,ps)=>∃ v,e=.returned (.tuple #[.agg #[.int .i64 (f:Int),.int .i64 (r:Int),v],.bool true])/\w'.ownsRow w.heap.size 28 1 v ps.length (vpcs ps)/\Below w.heap.size w w'
theorem rParse_bd (s:ByteArray) (hs:s.size<=200) (w:World) :
  Calls Tryz.prog 151 #[.string s] w (ParsedR w (parseB s.data.toList)):=by
 obtain ⟨i0,hi,hz0,hz1,hz2⟩:=info_parts infoStr
 obtain ⟨j0,hj,hy0,hy1,hy2⟩:=info_parts infoPc
 have hLs:s.data.toList.length=s.size:=by rw [Array.length_toList];rfl
 have HL:=Lib.hid hLs
 clear hLs
 go_enter Tryz.func151,Tryz.ntmps151
 go_wp2
 have W0:Below w.heap.size w ((w.alloc (.cells #[.int .i64 0,.int .i64 0,.slice none 0 0] 97)).alloc (.cells #[.string ⟨#[]⟩] 9)):=after1 (box1 _ _)
 go_loopw [4,5] (fun v i wr=>∃ k:Nat,k<=s.size/\i=.int .i64 k/\wr.ownsRow (w.heap.size+1) 9 1 v (spT s.data.toList k).length (vstrs (spT s.data.toList k))/\Below (w.heap.size+1) ((w.alloc (.cells #[.int .i64 0,.int .i64 0,.slice none 0 0] 97)).alloc (.cells #[.string ⟨#[]⟩] 9)) wr) (fun _ i _=>s.size - (intOf i).toNat)
 case atStart=>exact ⟨0,by omega,rfl,by simpa [spT,vstrs,vstr,bsL] using World.ownsRow_lit (base:=w.heap.size+1) (e:=9) (size:=1) (w.alloc (.cells #[.int .i64 0,.int .i64 0,.slice none 0 0] 97)) #[.string ⟨#[]⟩] 1 (by simp) (by decide) rfl,Below.refl _ _⟩
 case round =>
  obtain ⟨k,hk,rfl,hown,hB⟩:=hrel
  have s1:=hB.size
  simp at s1
  have hlen:=spT_len s.data.toList k (by rw [HL.out];exact hk)
  have heach:=Lib.hid (spT_each s.data.toList k (by rw [HL.out];exact hk))
  obtain ⟨g,cap,rfl⟩:=Joins.ownsRow_form hown (by omega)
  obtain ⟨hg0,hg1⟩:=World.ownsRow.lt hown g rfl
  by_cases hlt:k<s.size
  ·have HS:=Lib.hid (spT_succ s.data.toList k (by rw [HL.out];exact hlt))
   have hget:s.data.toList[k]'(by rw [HL.out];exact hlt)=s[k]:=rfl
   rw [hget] at HS
   clear hget
   generalize hst1:spT s.data.toList (k+1)=st1 at *
   have H1:=Lib.hid hst1
   clear hst1
   generalize hst:spT s.data.toList k=st at *
   clear hst
   by_cases hsl:s[k]=47
   ·have hc:((s[k].toNat:Int) == 47)=true:=by rw [hsl];rfl
    have E:Hid (st1=st ++ [[]]):=Lib.hid (by rw [HS.out];unfold spS;rw [if_pos hsl])
    have EL:Hid (st1.length=st.length+1):=Lib.hid (by rw [E.out];simp)
    clear hsl HS
    go_wp2_with (at_builtin;(refine wpList_append_own _ rfl _ _ 108 rfl (w.heap.size+1) 9 i0 (.string ByteArray.empty) 1 16 Tryz.underlying108 hi hz0 hz1 hz2 rfl (by decide) _ _ _ rfl (hown.alloc _) ⟨wr.heap.size,0,none⟩ 1 1 [.string ⟨#[]⟩] rfl rfl ?c1 ?c2 ?c3 ?c4 ?c5 ?_))
    case c1 =>
     intro j u hj
     match j,hj with
     | 0,hj=>simp at hj;subst hj;simp [Addr.add]
    case c2=>intro u hu;simp at hu;subst hu;rfl
    case c3=>unfold maxLen;omega
    case c4=>omega
    case c5=>simp;omega
    intro v' w2 hown' hgrow _
    go_wp2
    go_roundw
    case rel =>
     refine ⟨k+1,by omega,by go_num,?_,?_⟩
     ·rw [H1.out,EL.out,E.out];unfold vstrs at hown' ⊢;rw [List.map_append];exact hown'
     ·exact (hB.alloc (by omega) _).grown hgrow (by simp;omega) (fun r e=>(World.ownsRow.lt hown r e).1)
    case measure=>simp [intOf];omega
   ·have hc:((s[k].toNat:Int) == 47)=false:=beq_eq_false_iff_ne.2 (fun h=>hsl (UInt8.toNat_inj.1 (by rw [show (47:UInt8).toNat=47 from rfl];omega)))
    have E:Hid (st1=st.set (st.length - 1) (st[st.length - 1]?.getD [] ++ [s[k]])):=Lib.hid (by rw [HS.out];unfold spS;rw [if_neg hsl])
    have EL:Hid (st1.length=st.length):=Lib.hid (by rw [E.out];simp)
    obtain ⟨m,hm⟩:∃ m:Nat,st.length - 1=m:=⟨_,rfl⟩
    have hml:m<st.length:=by omega
    have hq:(st[m]?.getD []).length<=200:=by
     rw [List.getElem?_eq_getElem hml]
     have:=heach.out _ (List.getElem_mem hml)
     simp;omega
    have hcell:wr.cell? ⟨g,m,none⟩=some (.string (bsL (st[m]?.getD []))):=by
     rw [hown.cellAt m (by omega)]
     simp [vstrs,vstr,List.getElem?_eq_getElem hml]
    have hqs:(bsL (st[m]?.getD [])).size<=200:=by rw [bsL_size];exact hq
    have hfz:=hown.frozenAt m
    have hst:=hown.stored m (.string (bsL (st[m]?.getD []) ++ s.extract k (k+1)))
    have HS2:Hid (vstrs st1=(vstrs st).set m (.string (bsL (st[m]?.getD []) ++ s.extract k (k+1)))):=Lib.hid (by
     rw [E.out,hm]
     unfold vstrs
     rw [List.map_set]
     unfold vstr
     rw [ext_one s k hlt,bsL_append])
    have HT:=Lib.hid hst
    have hwr:IntKind.i64.wrap ((st.length:Int) - 1)=(m:Int):=by rw [IntWalk.i64_in _ (by omega)];omega
    have hwk:IntKind.i64.wrap ((k:Int)+1)=(k:Int)+1:=IntWalk.i64_in _ (by omega)
    clear hst hsl HS
    generalize bsL (st[m]?.getD [])=Q at *
    have hWb:Below (w.heap.size+1) ((w.alloc (.cells #[.int .i64 0,.int .i64 0,.slice none 0 0] 97)).alloc (.cells #[.string ⟨#[]⟩] 9)) (wr.setCell ⟨g,m,none⟩ (.string (Q ++ s.extract k (k+1)))):=hB.setCell (p:=⟨g,m,none⟩) (by simp;omega) _
    have HWb:=Lib.hid hWb
    clear hWb
    go_wp2
    go_region
    clear hwr hwk
    go_wp2
    go_roundw
    case rel=>exact ⟨k+1,by omega,by go_num,by rw [H1.out,EL.out,HS2.out];exact World.ownsRow.drew HT.out.1,HWb.out.drew⟩
    case measure=>simp [intOf];omega
  ·have hks:k=s.size:=by omega
   subst hks
   obtain ⟨wa,rfl⟩:∃ wa:World,wa=wr:=⟨_,rfl⟩
   have e:spT s.data.toList s.size=spl s.data.toList:=by unfold spl;rw [HL.out]
   rw [e] at hown hlen heach ⊢
   clear e HL
   have HE:=Lib.hid (spT_each s.data.toList s.data.toList.length (Nat.le_refl _))
   obtain ⟨ts,hts⟩:∃ ts,spl s.data.toList=ts:=⟨_,rfl⟩
   have HTS:=Lib.hid hts
   rw [hts] at hown hlen heach ⊢
   clear hts
   have W1:Below w.heap.size w wa:=W0.trans (hB.mono (by omega))
   have z0:wa.cell? ⟨w.heap.size,0,none⟩=some (.int .i64 0):=(hB.cell (by simp)).trans (by simp [go_sem])
   have z1:wa.cell? ⟨w.heap.size,1,none⟩=some (.int .i64 0):=(hB.cell (by simp)).trans (by simp [go_sem])
   have z2:wa.cell? ⟨w.heap.size,2,none⟩=some (.slice none 0 0):=(hB.cell (by simp)).trans (by simp [go_sem])
   have zf:∀ o,wa.frozen? ⟨w.heap.size,o,none⟩=false:=fun o=>(hB.frozen (p:=⟨w.heap.size,o,none⟩) (by simp)).trans (by simp [go_sem])
   by_cases hn3:ts.length<3
   ·have hE:Hid (parseB s.data.toList=none):=Lib.hid (by unfold parseB;rw [HTS.out,if_pos (Or.inl hn3)])
    go_wp2
    refine bodyPost_ret (v:=.tuple #[.agg #[.int .i64 0,.int .i64 0,.slice none 0 0],.bool false]) ?_ rfl ?_
    ·simp [results,Tryz.results151,go_sem,z0,z1,z2]
    ·rw [hE.out];exact ⟨rfl,(((W1).setCell (p:=⟨w.heap.size,0,none⟩) (by simp) _).setCell (p:=⟨w.heap.size,1,none⟩) (by simp) _).setCell (p:=⟨w.heap.size,2,none⟩) (by simp) _⟩
   have hn3':¬ ((ts.length:Int)<3):=by omega
   by_cases hn8:8<ts.length
   ·have hE:Hid (parseB s.data.toList=none):=Lib.hid (by unfold parseB;rw [HTS.out,if_pos (Or.inr hn8)])
    go_wp2
    refine bodyPost_ret (v:=.tuple #[.agg #[.int .i64 0,.int .i64 0,.slice none 0 0],.bool false]) ?_ rfl ?_
    ·simp [results,Tryz.results151,go_sem,z0,z1,z2]
    ·rw [hE.out];exact ⟨rfl,(((W1).setCell (p:=⟨w.heap.size,0,none⟩) (by simp) _).setCell (p:=⟨w.heap.size,1,none⟩) (by simp) _).setCell (p:=⟨w.heap.size,2,none⟩) (by simp) _⟩
   have hn8':¬ (8<(ts.length:Int)):=by omega
   have HPB:Hid (parseB s.data.toList=(brT ts ts.length).map fun st=>(st.1,ts.length,st.2)):=Lib.hid (by unfold parseB;rw [HTS.out,if_neg (by omega)])
   have HEA:Hid (∀ t∈ts,t.length<=200):=Lib.hid (fun t ht=>by have:=heach.out t ht;omega)
   clear heach HE
   have B6:Below wa.heap.size wa (wa.alloc (.cells #[.int .i64 0,.int .i64 0,.slice none 0 0] 97)):=box1 _ _
   go_wp2
   go_loopw [7,8,9,10,11,12] (fun i _ _ _ _ _ wq=>∃ (m f:Nat) (ps:List Int) (A:Option Addr) (c:Nat),m<=ts.length/\i=.int .i64 ((ts.length:Int) - 1 - m)/\brT ts m=some (f,ps)/\wq.cell? ⟨wa.heap.size,0,none⟩=some (.int .i64 (f:Int))/\wq.cell? ⟨wa.heap.size,1,none⟩=some (.int .i64 (if m=0 then 0 else (ts.length:Int)))/\wq.cell? ⟨wa.heap.size,2,none⟩=some (.slice A ps.length c)/\wq.ownsRow (wa.heap.size+1) 28 1 (.slice A ps.length c) ps.length (vpcs ps)/\(∀ o,wq.frozen? ⟨wa.heap.size,o,none⟩=false)/\wa.heap.size<wq.heap.size/\Below wa.heap.size wa wq) (fun i _ _ _ _ _ _=>(intOf i+1).toNat)
   case atStart=>exact ⟨0,0,[],none,0,by omega,by simp,rfl,by simp [go_sem],by simp [go_sem],by simp [go_sem],World.ownsRow_nil _ _ _ _,by simp [go_sem],by simp,B6⟩
   case round =>
    clear B6
    obtain ⟨wq,rfl⟩:∃ wq:World,wq=wr:=⟨_,rfl⟩
    obtain ⟨m,f,ps,A,c,hm,rfl,hbr,c0,c1,c2,hpo,cf,hH,hBq⟩:=hrel
    have HBR:=Lib.hid hbr
    have hbd:=brT_bd ts m hm hbr
    clear hbr
    have y0:=(hBq.cell (p:=⟨w.heap.size,0,none⟩) (by simp;omega)).trans z0
    have y1:=(hBq.cell (p:=⟨w.heap.size,1,none⟩) (by simp;omega)).trans z1
    have y2:=(hBq.cell (p:=⟨w.heap.size,2,none⟩) (by simp;omega)).trans z2
    have yf:∀ o,wq.frozen? ⟨w.heap.size,o,none⟩=false:=fun o=>(hBq.frozen (p:=⟨w.heap.size,o,none⟩) (by simp;omega)).trans (zf o)
    by_cases hmn:m<ts.length
    ·obtain ⟨x,hx⟩:∃ x:Nat,ts.length - 1 - m=x:=⟨_,rfl⟩
     have hxl:x<ts.length:=by omega
     have hxi:(ts.length:Int) - 1 - m=(x:Int):=by omega
     rw [hxi]
     have HX:=Lib.hid hx
     clear hxi hx
     obtain ⟨tb,htb⟩:∃ tb:ByteArray,ts[x]?.getD []=tb.data.toList:=⟨bsL (ts[x]?.getD []),(bsL_toList _).symm⟩
     have hgc:wq.cell? ⟨g,x,none⟩=some (.string tb):=by
      rw [hBq.cell (show (⟨g,x,none⟩:Addr).block<wa.heap.size from hg1),hown.cellAt x (by omega)]
      have e:bsL (ts[x]?.getD [])=tb:=by rw [htb,bsL_of]
      rw [<- e];simp [vstrs,vstr,List.getElem?_eq_getElem hxl]
     have htl:tb.size<=200:=by
      have h:=HEA.out _ (List.getElem_mem hxl)
      rw [List.getElem?_eq_getElem hxl] at htb
      simp at htb
      rw [htb] at h
      have h2:tb.data.toList.length=tb.size:=by rw [Array.length_toList];rfl
      omega
     have HTL:Hid (tb.data.toList.length=tb.size):=Lib.hid (by rw [Array.length_toList];rfl)
     have HBS:Hid (brT ts (m+1)=brS (some (f,ps)) tb.data.toList):=Lib.hid (by rw [brT_succ ts m hmn,HBR.out,HX.out,htb])
     have HDEAD:Hid (prow tb.data.toList=none->parseB s.data.toList=none):=Lib.hid (fun h=>by
      rw [HPB.out,brT_dead ts (m+1) (by rw [HBS.out];simp [brS,h])];rfl)
     clear htb
     go_wp2
     go_loopw [8,9,10,11,12] (fun v d j _ _ wt=>∃ (q:Nat) (row:List Int) (db:Bool),q<=tb.size/\j=.int .i64 q/\d=.bool db/\prT tb.data.toList q=some (row,db)/\wt.ownsRow wq.heap.size 28 1 v row.length (vpcs row)/\Below wq.heap.size wq wt) (fun _ _ j _ _ _=>tb.size - (intOf j).toNat)
     case atStart=>exact ⟨0,[],false,by omega,rfl,rfl,rfl,World.ownsRow_nil _ _ _ _,Below.refl _ _⟩
     case round =>
      obtain ⟨wt,rfl⟩:∃ wt:World,wt=wr:=⟨_,rfl⟩
      obtain ⟨q,row,db,hq,rfl,rfl,hpr,hro,hBt⟩:=hrel
      have hrb:=prT_bd tb.data.toList q (by rw [HTL.out];exact hq) hpr
      have HPR:=Lib.hid hpr
      have s3:=hBt.size
      have x0:=(hBt.cell (p:=⟨w.heap.size,0,none⟩) (by simp;omega)).trans y0
      have x1:=(hBt.cell (p:=⟨w.heap.size,1,none⟩) (by simp;omega)).trans y1
      have x2:=(hBt.cell (p:=⟨w.heap.size,2,none⟩) (by simp;omega)).trans y2
      have xf:∀ o,wt.frozen? ⟨w.heap.size,o,none⟩=false:=fun o=>(hBt.frozen (p:=⟨w.heap.size,o,none⟩) (by simp;omega)).trans (yf o)
      have e0:=(hBt.cell (p:=⟨wa.heap.size,0,none⟩) (by simp;omega)).trans c0
      have e1:=(hBt.cell (p:=⟨wa.heap.size,1,none⟩) (by simp;omega)).trans c1
      have e2:=(hBt.cell (p:=⟨wa.heap.size,2,none⟩) (by simp;omega)).trans c2
      have ef:∀ o,wt.frozen? ⟨wa.heap.size,o,none⟩=false:=fun o=>(hBt.frozen (p:=⟨wa.heap.size,o,none⟩) (by simp;omega)).trans (cf o)
      have gc:=(hBt.cell (p:=⟨g,x,none⟩) (by simp;omega)).trans hgc
      have WT:Below w.heap.size w wt:=(W1.trans (hBq.mono (by omega))).trans (hBt.mono (by omega))
      clear hpr z0 z1 z2 zf y0 y1 y2 yf hgc c0 c1 c2 cf
      by_cases hql:q<tb.size
      ·have HS:=Lib.hid (prT_succ tb.data.toList q (by rw [HTL.out];exact hql))
       rw [show tb.data.toList[q]'(by rw [HTL.out];exact hql)=tb[q]'hql from rfl,HPR.out] at HS
       obtain ⟨C,hC⟩:∃ C:UInt8,tb[q]'hql=C:=⟨_,rfl⟩
       rw [hC] at HS
       by_cases hdg:49<=C.toNat/\C.toNat<=56
       ·obtain ⟨d0,d1⟩:=hdg
        have i0':(49:Int)<=(C.toNat:Int):=by omega
        have i1':(C.toNat:Int)<=56:=by omega
        cases db
        ·have HS2:Hid (prT tb.data.toList (q+1)=some (row ++ List.replicate (C.toNat - 48) 0,true)):=Lib.hid (by rw [HS.out];simp [prS,d0,d1])
         clear HS e0 e1 e2 ef x0 x1 x2 xf
         go_wp2
         go_loopw [8,12] (fun v nn wu=>∃ j:Nat,j+48<=C.toNat/\nn=.int .u8 ((48+j:Nat):Int)/\wu.ownsRow wq.heap.size 28 1 v (row ++ List.replicate j 0).length (vpcs (row ++ List.replicate j 0))/\Below wq.heap.size wq wu) (fun _ nn _=>C.toNat - (intOf nn).toNat)
         case atStart=>exact ⟨0,by omega,rfl,by simpa using hro,hBt⟩
         case round =>
          obtain ⟨j,hjb,rfl,hro4,hBu⟩:=hrel
          have s4:=hBu.size
          by_cases hjl:48+j<C.toNat
          ·have hjl':48+(j:Int)<(C.toNat:Int):=by omega
           have hlr:(row ++ List.replicate j (0:Int)).length<=2000:=by simp;omega
           have HRR:Hid (vpcs (row ++ List.replicate (j+1) 0)=vpcs (row ++ List.replicate j 0) ++ [.int .i8 0]):=Lib.hid (by rw [List.replicate_succ',<- List.append_assoc];unfold vpcs;rw [List.map_append];rfl)
           have HRL:Hid ((row ++ List.replicate (j+1) (0:Int)).length=(row ++ List.replicate j (0:Int)).length+1):=Lib.hid (by simp;omega)
           generalize row ++ List.replicate j (0:Int)=rj at *
           go_wp2_with (at_builtin;(refine wpList_append_own _ rfl _ _ 24 rfl wq.heap.size 28 j0 (.int .i8 0) 1 1 Tryz.underlying24 hj hy0 hy1 hy2 rfl (by decide) _ _ _ rfl (hro4.alloc _) ⟨wr.heap.size,0,none⟩ 1 1 [.int .i8 0] rfl rfl ?c1 ?c2 ?c3 ?c4 ?c5 ?_))
           case c1 =>
            intro j u hj
            match j,hj with
            | 0,hj=>simp at hj;subst hj;simp [Addr.add]
           case c2=>intro u hu;simp at hu;subst hu;rfl
           case c3=>unfold maxLen;omega
           case c4=>omega
           case c5=>simp;omega
           intro v' w2 hown' hgrow _
           go_wp2
           go_roundw
           case rel =>
            refine ⟨j+1,by omega,by go_num,?_,?_⟩
            ·rw [HRL.out,HRR.out];exact hown'
            ·exact (hBu.alloc (by omega) _).grown hgrow (by simp;omega) (fun r e=>(World.ownsRow.lt hro4 r e).1)
           case measure=>simp [intOf];omega
          ·have hje:j=C.toNat - 48:=by omega
           have hjl':¬ (48+(j:Int)<(C.toNat:Int)):=by omega
           have HJ:=Lib.hid hje
           clear hje
           go_wp2
           go_roundw
           case rel=>exact ⟨q+1,row ++ List.replicate j 0,true,by omega,by go_num,rfl,by rw [HS2.out,HJ.out],hro4,hBu⟩
           case measure=>simp [intOf];omega
        ·have hE:Hid (parseB s.data.toList=none):=Lib.hid (HDEAD.out (prT_dead _ (q+1) (by rw [HS.out];simp [prS,d0,d1])))
         go_wp2
         refine bodyPost_ret (v:=.tuple #[.agg #[.int .i64 0,.int .i64 0,.slice none 0 0],.bool false]) ?_ rfl ?_
         ·simp [results,Tryz.results151,go_sem,x0,x1,x2]
         ·rw [hE.out];exact ⟨rfl,(((WT).setCell (p:=⟨w.heap.size,0,none⟩) (by simp) _).setCell (p:=⟨w.heap.size,1,none⟩) (by simp) _).setCell (p:=⟨w.heap.size,2,none⟩) (by simp) _⟩
       ·have hor:C.toNat<49\/(49<=C.toNat/\56<C.toNat):=by omega
        have HSP:Hid (prT tb.data.toList (q+1)=if piP C.toNat=0 then none else some (row ++ [piP C.toNat],false)):=Lib.hid (by rw [HS.out];simp only [prS];rw [if_neg hdg])
        clear HS hdg
        by_cases hz:piP C.toNat=0
        ·have hE:Hid (parseB s.data.toList=none):=Lib.hid (HDEAD.out (prT_dead _ (q+1) (by rw [HSP.out,if_pos hz])))
         have HZ:=Lib.hid hz
         clear hz
         rcases hor with h1 | ⟨h1,h2⟩
         ·have h1':¬ ((49:Int)<=(C.toNat:Int)):=by omega
          go_wp2_with fail
          refine (rParse_any C.toNat _).mono ?_
          rintro e w2 ⟨rfl,rfl⟩
          rw [HZ.out]
          go_wp2
          refine bodyPost_ret (v:=.tuple #[.agg #[.int .i64 0,.int .i64 0,.slice none 0 0],.bool false]) ?_ rfl ?_
          ·simp [results,Tryz.results151,go_sem,x0,x1,x2]
          ·rw [hE.out];exact ⟨rfl,(((WT).setCell (p:=⟨w.heap.size,0,none⟩) (by simp) _).setCell (p:=⟨w.heap.size,1,none⟩) (by simp) _).setCell (p:=⟨w.heap.size,2,none⟩) (by simp) _⟩
         ·have h1':(49:Int)<=(C.toNat:Int):=by omega
          have h2':¬ ((C.toNat:Int)<=56):=by omega
          go_wp2_with fail
          refine (rParse_any C.toNat _).mono ?_
          rintro e w2 ⟨rfl,rfl⟩
          rw [HZ.out]
          go_wp2
          refine bodyPost_ret (v:=.tuple #[.agg #[.int .i64 0,.int .i64 0,.slice none 0 0],.bool false]) ?_ rfl ?_
          ·simp [results,Tryz.results151,go_sem,x0,x1,x2]
          ·rw [hE.out];exact ⟨rfl,(((WT).setCell (p:=⟨w.heap.size,0,none⟩) (by simp) _).setCell (p:=⟨w.heap.size,1,none⟩) (by simp) _).setCell (p:=⟨w.heap.size,2,none⟩) (by simp) _⟩
        ·have hz':(piP C.toNat == 0)=false:=beq_eq_false_iff_ne.2 hz
         have HS2:Hid (prT tb.data.toList (q+1)=some (row ++ [piP C.toNat],false)):=Lib.hid (by rw [HSP.out,if_neg hz])
         have HRR:Hid (vpcs (row ++ [piP C.toNat])=vpcs row ++ [.int .i8 (piP C.toNat)]):=Lib.hid (by unfold vpcs;rw [List.map_append];rfl)
         have hcp:=rParse_any C.toNat
         have HCP:=Lib.hid hcp
         clear hz hcp HSP
         generalize piP C.toNat=pc at *
         rcases hor with h1 | ⟨h1,h2⟩
         ·have h1':¬ ((49:Int)<=(C.toNat:Int)):=by omega
          go_wp2_with fail
          refine (HCP.out _).mono ?_
          rintro e w2 ⟨rfl,rfl⟩
          go_wp2_with fail
          refine (HCP.out _).mono ?_
          rintro e w2 ⟨rfl,rfl⟩
          go_wp2_with (at_builtin;(refine wpList_append_own _ rfl _ _ 24 rfl wq.heap.size 28 j0 (.int .i8 0) 1 1 Tryz.underlying24 hj hy0 hy1 hy2 rfl (by decide) _ _ _ rfl (hro.alloc _) ⟨wt.heap.size,0,none⟩ 1 1 [.int .i8 pc] rfl rfl ?c1 ?c2 ?c3 ?c4 ?c5 ?_))
          case c1 =>
           intro j u hj
           match j,hj with
           | 0,hj=>simp at hj;subst hj;simp [Addr.add]
          case c2=>intro u hu;simp at hu;subst hu;rfl
          case c3=>unfold maxLen;omega
          case c4=>omega
          case c5=>simp;omega
          intro v' w2 hown' hgrow _
          go_wp2
          go_roundw
          case rel =>
           refine ⟨q+1,row ++ [pc],false,by omega,by go_num,rfl,HS2.out,?_,?_⟩
           ·rw [HRR.out,List.length_append];exact hown'
           ·exact (hBt.alloc (by omega) _).grown hgrow (by simp;omega) (fun r e=>(World.ownsRow.lt hro r e).1)
          case measure=>simp [intOf];omega
         ·have h1':(49:Int)<=(C.toNat:Int):=by omega
          have h2':¬ ((C.toNat:Int)<=56):=by omega
          go_wp2_with fail
          refine (HCP.out _).mono ?_
          rintro e w2 ⟨rfl,rfl⟩
          go_wp2_with fail
          refine (HCP.out _).mono ?_
          rintro e w2 ⟨rfl,rfl⟩
          go_wp2_with (at_builtin;(refine wpList_append_own _ rfl _ _ 24 rfl wq.heap.size 28 j0 (.int .i8 0) 1 1 Tryz.underlying24 hj hy0 hy1 hy2 rfl (by decide) _ _ _ rfl (hro.alloc _) ⟨wt.heap.size,0,none⟩ 1 1 [.int .i8 pc] rfl rfl ?c1 ?c2 ?c3 ?c4 ?c5 ?_))
          case c1 =>
           intro j u hj
           match j,hj with
           | 0,hj=>simp at hj;subst hj;simp [Addr.add]
          case c2=>intro u hu;simp at hu;subst hu;rfl
          case c3=>unfold maxLen;omega
          case c4=>omega
          case c5=>simp;omega
          intro v' w2 hown' hgrow _
          go_wp2
          go_roundw
          case rel =>
           refine ⟨q+1,row ++ [pc],false,by omega,by go_num,rfl,HS2.out,?_,?_⟩
           ·rw [HRR.out,List.length_append];exact hown'
           ·exact (hBt.alloc (by omega) _).grown hgrow (by simp;omega) (fun r e=>(World.ownsRow.lt hro r e).1)
          case measure=>simp [intOf];omega
      ·obtain rfl:q=tb.size:=by omega
       have HPW:Hid (prow tb.data.toList=some row):=Lib.hid (by
        unfold prow
        rw [show tb.data.toList.length=tb.size from HTL.out,HPR.out];rfl)
       have HBS2:Hid (brT ts (m+1)=if row.length<3\/8<row.length\/(0<ps.length/\row.length≠f) then none else some (row.length,ps ++ row)):=Lib.hid (by rw [HBS.out];simp only [brS,HPW.out])
       have HDE:Hid (brT ts (m+1)=none->parseB s.data.toList=none):=Lib.hid (fun h=>by
        rw [HPB.out,brT_dead ts (m+1) h];rfl)
       obtain ⟨Ar,cr0,rfl,_,_⟩:=RdP.own hro
       by_cases a1:row.length<3
       ·have hE:Hid (parseB s.data.toList=none):=Lib.hid (HDE.out (by rw [HBS2.out,if_pos (Or.inl a1)]))
        have a1':(row.length:Int)<3:=by omega
        go_wp2
        refine bodyPost_ret (v:=.tuple #[.agg #[.int .i64 0,.int .i64 0,.slice none 0 0],.bool false]) ?_ rfl ?_
        ·simp [results,Tryz.results151,go_sem,x0,x1,x2]
        ·rw [hE.out];exact ⟨rfl,(((WT).setCell (p:=⟨w.heap.size,0,none⟩) (by simp) _).setCell (p:=⟨w.heap.size,1,none⟩) (by simp) _).setCell (p:=⟨w.heap.size,2,none⟩) (by simp) _⟩
       have a1':¬ ((row.length:Int)<3):=by omega
       by_cases a2:8<row.length
       ·have hE:Hid (parseB s.data.toList=none):=Lib.hid (HDE.out (by rw [HBS2.out,if_pos (Or.inr (Or.inl a2))]))
        have a2':8<(row.length:Int):=by omega
        go_wp2
        refine bodyPost_ret (v:=.tuple #[.agg #[.int .i64 0,.int .i64 0,.slice none 0 0],.bool false]) ?_ rfl ?_
        ·simp [results,Tryz.results151,go_sem,x0,x1,x2]
        ·rw [hE.out];exact ⟨rfl,(((WT).setCell (p:=⟨w.heap.size,0,none⟩) (by simp) _).setCell (p:=⟨w.heap.size,1,none⟩) (by simp) _).setCell (p:=⟨w.heap.size,2,none⟩) (by simp) _⟩
       have a2':¬ (8<(row.length:Int)):=by omega
       have a2'':(row.length:Int)<=8:=by omega
       by_cases a3:0<ps.length
       ·by_cases a4:row.length=f
        ·have a4':((row.length:Int) != (f:Int))=false:=by rw [a4];simp
         have A4:=Lib.hid a4
         clear a4
         have HB2:Hid (brT ts (m+1)=some (row.length,ps ++ row)):=Lib.hid (by rw [HBS2.out,if_neg (by have:=A4.out;omega)])
         obtain ⟨gr,cr,hgrv⟩:=Joins.ownsRow_form hro (by omega)
         simp only [Value.slice.injEq] at hgrv
         obtain ⟨rfl,_,rfl⟩:=hgrv
         obtain ⟨hgr0,hgr1⟩:=World.ownsRow.lt hro gr rfl
         have hpo1:=own_below hpo hBt
         have hA0:∀ r,(Value.slice A ps.length c).ownBlock=some r->wa.heap.size+1<=r:=fun r e=>(World.ownsRow.lt hpo r e).1
         have hpo2:=ownsRow_setCell_below (ownsRow_setCell_below hpo1 (a:=⟨wa.heap.size,0,none⟩) (by simp) (.int .i64 (row.length:Int))) (a:=⟨wa.heap.size,1,none⟩) (by simp) (.int .i64 (ts.length:Int))
         have hrc:Hid (∀ j u,(vpcs row)[j]?=some u->wt.cell? ⟨gr,j,none⟩=some u):=Lib.hid (fun j u h=>by have:=hro.cells rfl j u h;simpa [Addr.add_lit] using this)
         have p0:((wt.setCell ⟨wa.heap.size,0,none⟩ (.int .i64 (row.length:Int))).setCell ⟨wa.heap.size,1,none⟩ (.int .i64 (ts.length:Int))).cell? ⟨wa.heap.size,0,none⟩=some (.int .i64 (row.length:Int)):=by
          rw [World.cell?_setCell_other _ _ _ _ (by simp)]
          exact World.cell?_setCell_same _ _ _ e0
         have p1:((wt.setCell ⟨wa.heap.size,0,none⟩ (.int .i64 (row.length:Int))).setCell ⟨wa.heap.size,1,none⟩ (.int .i64 (ts.length:Int))).cell? ⟨wa.heap.size,1,none⟩=some (.int .i64 (ts.length:Int)):=by
          exact World.cell?_setCell_same _ _ _ ((World.cell?_setCell_other _ _ _ _ (by simp)).trans e1)
         have p2:((wt.setCell ⟨wa.heap.size,0,none⟩ (.int .i64 (row.length:Int))).setCell ⟨wa.heap.size,1,none⟩ (.int .i64 (ts.length:Int))).cell? ⟨wa.heap.size,2,none⟩=some (.slice A ps.length c):=by
          rw [World.cell?_setCell_other _ _ _ _ (by simp),World.cell?_setCell_other _ _ _ _ (by simp)]
          exact e2
         have pf:∀ o,((wt.setCell ⟨wa.heap.size,0,none⟩ (.int .i64 (row.length:Int))).setCell ⟨wa.heap.size,1,none⟩ (.int .i64 (ts.length:Int))).frozen? ⟨wa.heap.size,o,none⟩=false:=fun o=>by
          rw [World.frozen?_setCell,World.frozen?_setCell]
          exact ef o
         have hBp:Below wa.heap.size wa ((wt.setCell ⟨wa.heap.size,0,none⟩ (.int .i64 (row.length:Int))).setCell ⟨wa.heap.size,1,none⟩ (.int .i64 (ts.length:Int))):=((hBq.trans (hBt.mono (by omega))).setCell (p:=⟨wa.heap.size,0,none⟩) (by simp) _).setCell (p:=⟨wa.heap.size,1,none⟩) (by simp) _
         have szp:((wt.setCell ⟨wa.heap.size,0,none⟩ (.int .i64 (row.length:Int))).setCell ⟨wa.heap.size,1,none⟩ (.int .i64 (ts.length:Int))).heap.size=wt.heap.size:=by simp
         have HBp:=Lib.hid hBp
         have HP0:=Lib.hid p0
         have HP1:=Lib.hid p1
         have HPF:=Lib.hid pf
         have HA0:=Lib.hid hA0
         have hlp:ps.length<=64:=by omega
         clear hBp p0 p1 p2 hA0 hpo hpo1 hro x0 x1 x2 xf
         go_wp2_with (at_builtin;(refine wpList_append_own _ rfl _ _ 24 rfl (wa.heap.size+1) 28 j0 (.int .i8 0) 1 1 Tryz.underlying24 hj hy0 hy1 hy2 rfl (by decide) _ _ _ rfl hpo2 ⟨gr,0,none⟩ row.length cr0 (vpcs row) rfl (by simp [vpcs_len]) ?c1 vpcs_one ?c3 ?c4 ?c5 ?_))
         case c1=>exact hrc.out
         case c3=>unfold maxLen;omega
         case c4=>omega
         case c5=>omega
         intro v' w2 hown' hgrow _
         obtain ⟨g2,cap2,rfl⟩:=Joins.ownsRow_form hown' (by omega)
         obtain ⟨hg20,hg21⟩:=World.ownsRow.lt hown' g2 rfl
         have s5:=hgrow.size
         rw [szp] at s5
         have hbl:∀ o,w2.cell? ⟨wa.heap.size,o,none⟩=((wt.setCell ⟨wa.heap.size,0,none⟩ (.int .i64 (row.length:Int))).setCell ⟨wa.heap.size,1,none⟩ (.int .i64 (ts.length:Int))).cell? ⟨wa.heap.size,o,none⟩:=fun o=>World.cell?_of_block (hgrow.block _ (by rw [szp];show wa.heap.size<wt.heap.size;omega) (fun e=>absurd (HA0.out _ e.symm) (by show ¬ (wa.heap.size+1<=wa.heap.size);omega)))
         have hfl:∀ o,w2.frozen? ⟨wa.heap.size,o,none⟩=false:=fun o=>(World.frozen?_of_block (hgrow.block _ (by rw [szp];show wa.heap.size<wt.heap.size;omega) (fun e=>absurd (HA0.out _ e.symm) (by show ¬ (wa.heap.size+1<=wa.heap.size);omega)))).trans (HPF.out o)
         have r0:=(hbl 0).trans HP0.out
         have r1:=(hbl 1).trans HP1.out
         have r2:w2.cell? ⟨wa.heap.size,2,none⟩=some (.slice A ps.length c):=by
          rw [hbl 2,World.cell?_setCell_other _ _ _ _ (by simp),World.cell?_setCell_other _ _ _ _ (by simp)]
          exact e2
         have HOWN:=Lib.hid hown'
         have HGR:=Lib.hid hgrow
         clear hown' hgrow hbl e0 e1 e2 ef pf
         go_wp2
         go_roundw
         case rel =>
          refine ⟨m+1,row.length,ps ++ row,some ⟨g2,0,none⟩,cap2,by omega,vint (by have:=HX.out;omega),HB2.out,?_,?_,?_,?_,?_,?_,?_⟩
          ·rw [World.cell?_setCell_other _ _ _ _ (by simp)];exact r0
          ·rw [World.cell?_setCell_other _ _ _ _ (by simp),if_neg (by omega)];exact r1
          ·rw [List.length_append];exact World.cell?_setCell_same _ _ _ r2
          ·rw [List.length_append]
           have e:vpcs (ps ++ row)=vpcs ps ++ vpcs row:=by unfold vpcs;rw [List.map_append]
           rw [e]
           exact ownsRow_setCell_below HOWN.out (a:=⟨wa.heap.size,2,none⟩) (by simp) _
          ·intro o;rw [World.frozen?_setCell];exact hfl o
          ·simp;omega
          ·exact (HBp.out.grown HGR.out (by rw [szp];omega) (fun r e=>by have:=HA0.out r e;omega)).setCell (p:=⟨wa.heap.size,2,none⟩) (by simp) _
         case measure=>simp [intOf] <;> omega
        ·have hE:Hid (parseB s.data.toList=none):=Lib.hid (HDE.out (by rw [HBS2.out,if_pos (Or.inr (Or.inr ⟨a3,a4⟩))]))
         have a4':((row.length:Int) != (f:Int))=true:=bne_iff_ne.2 (by omega)
         go_wp2
         refine bodyPost_ret (v:=.tuple #[.agg #[.int .i64 0,.int .i64 0,.slice none 0 0],.bool false]) ?_ rfl ?_
         ·simp [results,Tryz.results151,go_sem,x0,x1,x2]
         ·rw [hE.out];exact ⟨rfl,(((WT).setCell (p:=⟨w.heap.size,0,none⟩) (by simp) _).setCell (p:=⟨w.heap.size,1,none⟩) (by simp) _).setCell (p:=⟨w.heap.size,2,none⟩) (by simp) _⟩
       ·have a3'':¬ (0<(ps.length:Int)):=by omega
        have HB2:Hid (brT ts (m+1)=some (row.length,ps ++ row)):=Lib.hid (by rw [HBS2.out,if_neg (by omega)])
        obtain ⟨gr,cr,hgrv⟩:=Joins.ownsRow_form hro (by omega)
        simp only [Value.slice.injEq] at hgrv
        obtain ⟨rfl,_,rfl⟩:=hgrv
        obtain ⟨hgr0,hgr1⟩:=World.ownsRow.lt hro gr rfl
        have hpo1:=own_below hpo hBt
        have hA0:∀ r,(Value.slice A ps.length c).ownBlock=some r->wa.heap.size+1<=r:=fun r e=>(World.ownsRow.lt hpo r e).1
        have hpo2:=ownsRow_setCell_below (ownsRow_setCell_below hpo1 (a:=⟨wa.heap.size,0,none⟩) (by simp) (.int .i64 (row.length:Int))) (a:=⟨wa.heap.size,1,none⟩) (by simp) (.int .i64 (ts.length:Int))
        have hrc:Hid (∀ j u,(vpcs row)[j]?=some u->wt.cell? ⟨gr,j,none⟩=some u):=Lib.hid (fun j u h=>by have:=hro.cells rfl j u h;simpa [Addr.add_lit] using this)
        have p0:((wt.setCell ⟨wa.heap.size,0,none⟩ (.int .i64 (row.length:Int))).setCell ⟨wa.heap.size,1,none⟩ (.int .i64 (ts.length:Int))).cell? ⟨wa.heap.size,0,none⟩=some (.int .i64 (row.length:Int)):=by
         rw [World.cell?_setCell_other _ _ _ _ (by simp)]
         exact World.cell?_setCell_same _ _ _ e0
        have p1:((wt.setCell ⟨wa.heap.size,0,none⟩ (.int .i64 (row.length:Int))).setCell ⟨wa.heap.size,1,none⟩ (.int .i64 (ts.length:Int))).cell? ⟨wa.heap.size,1,none⟩=some (.int .i64 (ts.length:Int)):=by
         exact World.cell?_setCell_same _ _ _ ((World.cell?_setCell_other _ _ _ _ (by simp)).trans e1)
        have p2:((wt.setCell ⟨wa.heap.size,0,none⟩ (.int .i64 (row.length:Int))).setCell ⟨wa.heap.size,1,none⟩ (.int .i64 (ts.length:Int))).cell? ⟨wa.heap.size,2,none⟩=some (.slice A ps.length c):=by
         rw [World.cell?_setCell_other _ _ _ _ (by simp),World.cell?_setCell_other _ _ _ _ (by simp)]
         exact e2
        have pf:∀ o,((wt.setCell ⟨wa.heap.size,0,none⟩ (.int .i64 (row.length:Int))).setCell ⟨wa.heap.size,1,none⟩ (.int .i64 (ts.length:Int))).frozen? ⟨wa.heap.size,o,none⟩=false:=fun o=>by
         rw [World.frozen?_setCell,World.frozen?_setCell]
         exact ef o
        have hBp:Below wa.heap.size wa ((wt.setCell ⟨wa.heap.size,0,none⟩ (.int .i64 (row.length:Int))).setCell ⟨wa.heap.size,1,none⟩ (.int .i64 (ts.length:Int))):=((hBq.trans (hBt.mono (by omega))).setCell (p:=⟨wa.heap.size,0,none⟩) (by simp) _).setCell (p:=⟨wa.heap.size,1,none⟩) (by simp) _
        have szp:((wt.setCell ⟨wa.heap.size,0,none⟩ (.int .i64 (row.length:Int))).setCell ⟨wa.heap.size,1,none⟩ (.int .i64 (ts.length:Int))).heap.size=wt.heap.size:=by simp
        have HBp:=Lib.hid hBp
        have HP0:=Lib.hid p0
        have HP1:=Lib.hid p1
        have HPF:=Lib.hid pf
        have HA0:=Lib.hid hA0
        have hlp:ps.length<=64:=by omega
        clear hBp p0 p1 p2 hA0 hpo hpo1 hro x0 x1 x2 xf
        go_wp2_with (at_builtin;(refine wpList_append_own _ rfl _ _ 24 rfl (wa.heap.size+1) 28 j0 (.int .i8 0) 1 1 Tryz.underlying24 hj hy0 hy1 hy2 rfl (by decide) _ _ _ rfl hpo2 ⟨gr,0,none⟩ row.length cr0 (vpcs row) rfl (by simp [vpcs_len]) ?c1 vpcs_one ?c3 ?c4 ?c5 ?_))
        case c1=>exact hrc.out
        case c3=>unfold maxLen;omega
        case c4=>omega
        case c5=>omega
        intro v' w2 hown' hgrow _
        obtain ⟨g2,cap2,rfl⟩:=Joins.ownsRow_form hown' (by omega)
        obtain ⟨hg20,hg21⟩:=World.ownsRow.lt hown' g2 rfl
        have s5:=hgrow.size
        rw [szp] at s5
        have hbl:∀ o,w2.cell? ⟨wa.heap.size,o,none⟩=((wt.setCell ⟨wa.heap.size,0,none⟩ (.int .i64 (row.length:Int))).setCell ⟨wa.heap.size,1,none⟩ (.int .i64 (ts.length:Int))).cell? ⟨wa.heap.size,o,none⟩:=fun o=>World.cell?_of_block (hgrow.block _ (by rw [szp];show wa.heap.size<wt.heap.size;omega) (fun e=>absurd (HA0.out _ e.symm) (by show ¬ (wa.heap.size+1<=wa.heap.size);omega)))
        have hfl:∀ o,w2.frozen? ⟨wa.heap.size,o,none⟩=false:=fun o=>(World.frozen?_of_block (hgrow.block _ (by rw [szp];show wa.heap.size<wt.heap.size;omega) (fun e=>absurd (HA0.out _ e.symm) (by show ¬ (wa.heap.size+1<=wa.heap.size);omega)))).trans (HPF.out o)
        have r0:=(hbl 0).trans HP0.out
        have r1:=(hbl 1).trans HP1.out
        have r2:w2.cell? ⟨wa.heap.size,2,none⟩=some (.slice A ps.length c):=by
         rw [hbl 2,World.cell?_setCell_other _ _ _ _ (by simp),World.cell?_setCell_other _ _ _ _ (by simp)]
         exact e2
        have HOWN:=Lib.hid hown'
        have HGR:=Lib.hid hgrow
        clear hown' hgrow hbl e0 e1 e2 ef pf
        go_wp2
        go_roundw
        case rel =>
         refine ⟨m+1,row.length,ps ++ row,some ⟨g2,0,none⟩,cap2,by omega,vint (by have:=HX.out;omega),HB2.out,?_,?_,?_,?_,?_,?_,?_⟩
         ·rw [World.cell?_setCell_other _ _ _ _ (by simp)];exact r0
         ·rw [World.cell?_setCell_other _ _ _ _ (by simp),if_neg (by omega)];exact r1
         ·rw [List.length_append];exact World.cell?_setCell_same _ _ _ r2
         ·rw [List.length_append]
          have e:vpcs (ps ++ row)=vpcs ps ++ vpcs row:=by unfold vpcs;rw [List.map_append]
          rw [e]
          exact ownsRow_setCell_below HOWN.out (a:=⟨wa.heap.size,2,none⟩) (by simp) _
         ·intro o;rw [World.frozen?_setCell];exact hfl o
         ·simp;omega
         ·exact (HBp.out.grown HGR.out (by rw [szp];omega) (fun r e=>by have:=HA0.out r e;omega)).setCell (p:=⟨wa.heap.size,2,none⟩) (by simp) _
        case measure=>simp [intOf] <;> omega
    ·obtain rfl:m=ts.length:=by omega
     have hE:Hid (parseB s.data.toList=some (f,ts.length,ps)):=Lib.hid (by rw [HPB.out,HBR.out];rfl)
     rw [if_neg (by omega)] at c1
     have hlt':¬ ((0:Int)<=(ts.length:Int) - 1 - (ts.length:Int)):=by omega
     have hne:¬ w.heap.size=wa.heap.size:=by omega
     have HN:ParsedR w (parseB s.data.toList) (.returned (.tuple #[.agg #[.int .i64 (f:Int),.int .i64 (ts.length:Int),.slice A ps.length c],.bool true])) (((wq.setCell ⟨w.heap.size,0,none⟩ (.int .i64 (f:Int))).setCell ⟨w.heap.size,1,none⟩ (.int .i64 (ts.length:Int))).setCell ⟨w.heap.size,2,none⟩ (.slice A ps.length c)):=by
      rw [hE.out]
      exact ⟨_,rfl,World.ownsRow.mono (ownsRow_setCell_below (ownsRow_setCell_below (ownsRow_setCell_below hpo (a:=⟨w.heap.size,0,none⟩) (by simp;omega) _) (a:=⟨w.heap.size,1,none⟩) (by simp;omega) _) (a:=⟨w.heap.size,2,none⟩) (by simp;omega) _) (by omega),
       (((W1.trans (hBq.mono (by omega))).setCell (p:=⟨w.heap.size,0,none⟩) (by simp) _).setCell (p:=⟨w.heap.size,1,none⟩) (by simp) _).setCell (p:=⟨w.heap.size,2,none⟩) (by simp) _⟩
     have HN:=Lib.hid HN
     go_wp2
     refine bodyPost_ret (v:=.tuple #[.agg #[.int .i64 (f:Int),.int .i64 (ts.length:Int),.slice A ps.length c],.bool true]) ?_ rfl HN.out
     simp [results,Tryz.results151,go_sem,y0,y1,y2]
end Go.Proofs.YtbccbgonlmkpkaaGreatDoor
