/- What the theorem needs, piece Zb33. -/
import Derived.Test.YtbccbgonlmkpkaaGreatDoorZb05
import Derived.Test.YtbccbgonlmkpkaaGreatDoorZb07
import Derived.Test.YtbccbgonlmkpkaaGreatDoorZb08
set_option linter.unusedSimpArgs false
set_option linter.unusedVariables false
set_option maxRecDepth 100000
set_option maxHeartbeats 16000000
namespace Go.Proofs.YtbccbgonlmkpkaaGreatDoor
open Go.RowKit Go.Sort
theorem dig10 (n:Nat) (h:n<10):(ByteArray.mk #[48,49,50,51,52,53,54,55,56,57]).extract n (n+1)=bsL [UInt8.ofNat (48+n)]:=by
 have:∀ n,n<10->(ByteArray.mk #[48,49,50,51,52,53,54,55,56,57]).extract n (n+1)=bsL [UInt8.ofNat (48+n)]:=by decide +kernel
 exact this n h
theorem rDec1 (n:Nat) (h:n<10) (w:World) :
  Calls Tryz.prog 91 #[.int .i64 (n:Int)] w fun e w'=>e=.returned (.string (bsL [UInt8.ofNat (48+n)]))/\Below w.heap.size w w':=by
 have E:=Lib.hid (dig10 n h)
 go_enter Tryz.func91,Tryz.ntmps91
 go_wp2_with fail
 go_ret
 exact ⟨ret_str E.out,Below.refl _ _⟩
theorem rDecF:∀ (k n:Nat),n<10 ^ k->0<k->k<=18->∀ w:World,
  Calls Tryz.prog 91 #[.int .i64 (n:Int)] w fun e w'=>e=.returned (.string (bsL (dcF k n)))/\Below w.heap.size w w'
 | 0,_,_,h,_,_=>absurd h (by omega)
 | k+1,n,h,_,hk,w=>by
  unfold dcF
  by_cases hn:n<10
  ·rw [if_pos hn]
   exact rDec1 n hn w
  ·rw [if_neg hn]
   have hk0:0<k:=by
    rcases Nat.eq_zero_or_pos k with h0 | h0
    ·subst h0;simp at h;omega
    ·exact h0
   have hlt:n / 10<10 ^ k:=by rw [Nat.pow_succ] at h;omega
   have hb:n<1000000000000000000:=Nat.lt_of_lt_of_le h (Nat.pow_le_pow_right (by decide) hk)
   have H1:=Lib.hid (rDecF k (n / 10) hlt hk0 (by omega))
   have H2:=Lib.hid (rDec1 (n % 10) (by omega))
   rw [<- bsL_append]
   have hz1:(bsL (dcF k (n / 10))).size<=20:=by rw [bsL_size];have:=dcF_len k k (n / 10) hlt hk0 (Nat.le_refl _);omega
   have hz2:(bsL [UInt8.ofNat (48+n % 10)]).size<=1:=by rw [bsL_size];simp
   generalize bsL (dcF k (n / 10))=s1 at *
   generalize bsL [UInt8.ofNat (48+n % 10)]=s2 at *
   have e1:((n / 10:Nat):Int)=(n:Int) / 10:=by omega
   have e2:((n % 10:Nat):Int)=(n:Int) % 10:=by omega
   rw [e1] at H1
   rw [e2] at H2
   clear h hlt hk hk0 e1 e2
   go_enter Tryz.func91,Tryz.ntmps91
   go_wp2_with fail
   refine (H1.out _).mono ?_
   rintro e w1 ⟨rfl,hb1⟩
   go_wp2_with fail
   refine (H2.out _).mono ?_
   rintro e w2 ⟨rfl,hb2⟩
   go_wp2_with fail
   go_ret
   exact ⟨rfl,chain hb1 hb2⟩
theorem rDec (n:Nat) (h:n<1000000000000000000) (w:World) :
  Calls Tryz.prog 91 #[.int .i64 (n:Int)] w fun e w'=>e=.returned (.string (bsL (dec n)))/\Below w.heap.size w w':=by
 rw [dec_eq (by omega),<- dcF_eq 18 n h (by decide)]
 exact rDecF 18 n h (by decide) (by decide) w
end Go.Proofs.YtbccbgonlmkpkaaGreatDoor
namespace Go.Proofs.YtbccbgonlmkpkaaGreatDoor
open Go.RowKit Go.Sort
def WordsR (w:World) (ts:List (List UInt8)) (e:Ending) (w':World):Prop :=
 ∃ v,e=.returned v/\w'.ownsRow w.heap.size 9 1 v ts.length (vstrs ts)/\Below w.heap.size w w'
theorem rSplit_any (s:ByteArray) (hs:s.size<=200) (w:World) :
  Calls Tryz.prog 150 #[.string s] w (WordsR w (wds s.data.toList)):=by
 obtain ⟨i0,hi,hz0,hz1,hz2⟩:=info_parts infoStr
 have hLs:s.data.toList.length=s.size:=by rw [Array.length_toList];rfl
 have HL:=Lib.hid hLs
 clear hLs
 go_enter Tryz.func150,Tryz.ntmps150
 go_wp2
 go_loopw [3,4] (fun v i wr=>∃ k:Nat,k<=s.size/\i=.int .i64 k/\wr.ownsRow w.heap.size 9 1 v (wdT s.data.toList k).length (vstrs (wdT s.data.toList k))/\Below w.heap.size w wr) (fun _ i _=>s.size - (intOf i).toNat)
 case atStart=>exact ⟨0,by omega,rfl,by simpa [wdT,vstrs,vstr,bsL] using World.ownsRow_lit (base:=w.heap.size) (e:=9) (size:=1) w #[.string ⟨#[]⟩] 1 (by simp) (by decide) rfl,box1 _ _⟩
 case round =>
  obtain ⟨k,hk,rfl,hown,hB⟩:=hrel
  have s1:=hB.size
  have hlen:=wdT_len s.data.toList k (by rw [HL.out];exact hk)
  have heach:=Lib.hid (wdT_each s.data.toList k (by rw [HL.out];exact hk))
  obtain ⟨g,cap,rfl⟩:=Joins.ownsRow_form hown (by omega)
  obtain ⟨hg0,hg1⟩:=World.ownsRow.lt hown g rfl
  by_cases hlt:k<s.size
  ·have HS:=Lib.hid (wdT_succ s.data.toList k (by rw [HL.out];exact hlt))
   have hget:s.data.toList[k]'(by rw [HL.out];exact hlt)=s[k]:=rfl
   rw [hget] at HS
   clear hget
   generalize hst1:wdT s.data.toList (k+1)=st1 at *
   have H1:=Lib.hid hst1
   clear hst1
   generalize hst:wdT s.data.toList k=st at *
   clear hst
   by_cases hsl:s[k]=32
   ·have hc:((s[k].toNat:Int) == 32)=true:=by rw [hsl];rfl
    have E:Hid (st1=st ++ [[]]):=Lib.hid (by rw [HS.out];unfold wdS;rw [if_pos hsl])
    have EL:Hid (st1.length=st.length+1):=Lib.hid (by rw [E.out];simp)
    clear hsl HS
    go_wp2_with (at_builtin;(refine wpList_append_own _ rfl _ _ 108 rfl w.heap.size 9 i0 (.string ByteArray.empty) 1 16 Tryz.underlying108 hi hz0 hz1 hz2 rfl (by decide) _ _ _ rfl (hown.alloc _) ⟨wr.heap.size,0,none⟩ 1 1 [.string ⟨#[]⟩] rfl rfl ?c1 ?c2 ?c3 ?c4 ?c5 ?_))
    case c1 =>
     intro j u hj
     match j,hj with
     | 0,hj=>simp at hj;subst hj;simp [Addr.add]
    case c2=>intro u hu;simp at hu;subst hu;rfl
    case c3=>unfold maxLen;omega
    case c4=>omega
    case c5=>simp;omega
    intro v' w2 hown' hgrow _
    go_wp2
    go_roundw
    case rel =>
     refine ⟨k+1,by omega,by go_num,?_,?_⟩
     ·rw [H1.out,EL.out,E.out];unfold vstrs at hown' ⊢;rw [List.map_append];exact hown'
     ·exact (hB.alloc (by omega) _).grown hgrow (by simp;omega) (fun r e=>(World.ownsRow.lt hown r e).1)
    case measure=>simp [intOf];omega
   ·have hc:((s[k].toNat:Int) == 32)=false:=beq_eq_false_iff_ne.2 (fun h=>hsl (UInt8.toNat_inj.1 (by rw [show (32:UInt8).toNat=32 from rfl];omega)))
    have E:Hid (st1=st.set (st.length - 1) (st[st.length - 1]?.getD [] ++ [s[k]])):=Lib.hid (by rw [HS.out];unfold wdS;rw [if_neg hsl])
    have EL:Hid (st1.length=st.length):=Lib.hid (by rw [E.out];simp)
    obtain ⟨m,hm⟩:∃ m:Nat,st.length - 1=m:=⟨_,rfl⟩
    have hml:m<st.length:=by omega
    have hq:(st[m]?.getD []).length<=200:=by
     rw [List.getElem?_eq_getElem hml]
     have:=heach.out _ (List.getElem_mem hml)
     simp;omega
    have hcell:wr.cell? ⟨g,m,none⟩=some (.string (bsL (st[m]?.getD []))):=by
     rw [hown.cellAt m (by omega)]
     simp [vstrs,vstr,List.getElem?_eq_getElem hml]
    have hqs:(bsL (st[m]?.getD [])).size<=200:=by rw [bsL_size];exact hq
    have hfz:=hown.frozenAt m
    have hst:=hown.stored m (.string (bsL (st[m]?.getD []) ++ s.extract k (k+1)))
    have HS2:Hid (vstrs st1=(vstrs st).set m (.string (bsL (st[m]?.getD []) ++ s.extract k (k+1)))):=Lib.hid (by
     rw [E.out,hm]
     unfold vstrs
     rw [List.map_set]
     unfold vstr
     rw [ext_one s k hlt,bsL_append])
    have HT:=Lib.hid hst
    have hwr:IntKind.i64.wrap ((st.length:Int) - 1)=(m:Int):=by rw [IntWalk.i64_in _ (by omega)];omega
    have hwk:IntKind.i64.wrap ((k:Int)+1)=(k:Int)+1:=IntWalk.i64_in _ (by omega)
    clear hst hsl HS
    generalize bsL (st[m]?.getD [])=Q at *
    have hWb:Below w.heap.size w (wr.setCell ⟨g,m,none⟩ (.string (Q ++ s.extract k (k+1)))):=hB.setCell (p:=⟨g,m,none⟩) hg0 _
    have HWb:=Lib.hid hWb
    clear hWb
    go_wp2
    go_region
    clear hwr hwk
    go_wp2
    go_roundw
    case rel=>exact ⟨k+1,by omega,by go_num,by rw [H1.out,EL.out,HS2.out];exact World.ownsRow.drew HT.out.1,HWb.out.drew⟩
    case measure=>simp [intOf];omega
  ·have hks:k=s.size:=by omega
   subst hks
   have e:wdT s.data.toList s.size=wds s.data.toList:=by unfold wds;rw [HL.out]
   rw [e] at hown hlen heach
   have HO:Hid (WordsR w (wds s.data.toList) (.returned (.slice (some ⟨g,0,none⟩) (wds s.data.toList).length cap)) wr):=Lib.hid ⟨_,rfl,hown,hB⟩
   clear hown hB heach HL e
   go_wp2
   go_ret
   exact HO.out
theorem str_inj {t s:ByteArray} (h:t.toList=s.toList):t=s:=by
 rw [ByteArray.toList_eq,ByteArray.toList_eq] at h
 rw [<- bsL_of t,h,bsL_of]
theorem foldV_lt:∀ (w:List UInt8) (a k:Nat),(∀ c∈w,isDg c=true)->a<10 ^ k->w.foldl (fun n c=>n * 10+(c.toNat - 48)) a<10 ^ (k+w.length)
 | [],a,k,_,h=>by simpa using h
 | c :: w,a,k,hd,h=>by
  have h2:=hd c (by simp)
  unfold isDg at h2
  simp at h2
  have:=foldV_lt w (a * 10+(c.toNat - 48)) (k+1) (fun x hx=>hd x (by simp [hx])) (by rw [Nat.pow_succ];omega)
  rw [List.foldl_cons,List.length_cons,show k+(w.length+1)=k+1+w.length by omega]
  exact this
theorem valF_lt (w:List UInt8) (h:∀ c∈w,isDg c=true):valF w<10 ^ w.length:=by
 have:=foldV_lt w 0 0 h (by simp)
 rwa [Nat.zero_add] at this
theorem nmbV_no {w:List UInt8} (h:¬ (w.length<=5/\∀ c∈w,isDg c=true)\/w=[]\/dec (valF w)≠w):nmbV w=-1:=by
 unfold nmbV
 rw [if_neg]
 simp only [Bool.and_eq_true,decide_eq_true_eq,Bool.not_eq_true',beq_eq_false_iff_ne,ne_eq,beq_iff_eq,List.all_eq_true]
 rintro ⟨⟨⟨h1,h2⟩,h3⟩,h4⟩
 rcases h with h | h | h
 ·exact h ⟨h1,h2⟩
 ·exact h3 h
 ·exact h h4
theorem nmbV_is {w:List UInt8} (h1:w.length<=5) (h2:∀ c∈w,isDg c=true) (h3:w≠[]) (h4:dec (valF w)=w):nmbV w=valF w:=by
 unfold nmbV
 rw [if_pos]
 simp only [Bool.and_eq_true,decide_eq_true_eq,Bool.not_eq_true',beq_eq_false_iff_ne,ne_eq,beq_iff_eq,List.all_eq_true]
 exact ⟨⟨⟨h1,h2⟩,h3⟩,h4⟩
def ckT (ca k:Nat):List UInt8:=(List.range k).flatMap fun i=>if ca / 2 ^ i % 2=1 then [[75,81,107,113].getD i 0] else []
theorem ckT_succ (ca k:Nat):ckT ca (k+1)=ckT ca k ++ (if ca / 2 ^ k % 2=1 then [[75,81,107,113].getD k 0] else []):=by
 unfold ckT
 rw [List.range_succ,List.flatMap_append]
 simp
theorem ckT_len (ca:Nat):∀ k,(ckT ca k).length<=k
 | 0=>by simp [ckT]
 | k+1=>by
  rw [ckT_succ,List.length_append]
  have:=ckT_len ca k
  split <;> simp <;> omega
theorem ckT_end {ca:Nat} (h:ca<16):caL ca=if ckT ca 4=[] then [45] else ckT ca 4:=by
 have:∀ c,c<16->caL c=if ckT c 4=[] then [45] else ckT c 4:=by decide +kernel
 exact this ca h
theorem kq_at {i:Nat} (h:i<4):(ByteArray.mk #[75,81,107,113]).extract i (i+1)=bsL [[75,81,107,113].getD i 0]:=by
 have:∀ i,i<4->(ByteArray.mk #[75,81,107,113]).extract i (i+1)=bsL [[75,81,107,113].getD i 0]:=by decide +kernel
 exact this i h
end Go.Proofs.YtbccbgonlmkpkaaGreatDoor
namespace Go.Proofs.YtbccbgonlmkpkaaGreatDoor
open Go.RowKit Go.Sort
theorem rNumber_any (s:ByteArray) (hs:s.size<=200) (w:World) :
  Calls Tryz.prog 152 #[.string s] w fun e w'=>e=.returned (.int .i64 (nmbV s.data.toList))/\Below w.heap.size w w':=by
 have hLs:s.data.toList.length=s.size:=by rw [Array.length_toList];rfl
 have HL:=Lib.hid hLs
 clear hLs
 go_enter Tryz.func152,Tryz.ntmps152
 go_wp2
 go_loopw [3,4] (fun v i wr=>∃ k:Nat,k<=s.size/\i=.int .i64 k/\∃ n:Nat,v=.int .i64 n/\wr=w/\(0<k->s.size<=5)/\n<100000/\Hid (valF (s.data.toList.take k)=n/\∀ c∈s.data.toList.take k,isDg c=true)) (fun _ i _=>s.size - (intOf i).toNat)
 case atStart=>exact ⟨0,by omega,rfl,0,rfl,by first | rfl | trivial,by omega,by omega,Lib.hid ⟨by simp [valF],by simp⟩⟩
 case round =>
  obtain ⟨k,hk,rfl,n,rfl,rfl,h5,hn5,HV⟩:=hrel
  by_cases hlt:k<s.size
  ·have hT:Hid (s.data.toList.take (k+1)=s.data.toList.take k ++ [s[k]]):=Lib.hid (by rw [List.take_succ_eq_append_getElem (by rw [HL.out];exact hlt)];rfl)
   by_cases hd:isDg s[k]=true/\s.size<=5
   ·obtain ⟨hd,hz⟩:=hd
    have HV2:Hid (valF (s.data.toList.take (k+1))=n * 10+(s[k].toNat - 48)/\∀ c∈s.data.toList.take (k+1),isDg c=true):=Lib.hid (by
     rw [hT.out,valF_snoc,HV.out.1]
     refine ⟨rfl,fun c hc=>?_⟩
     rw [List.mem_append,List.mem_singleton] at hc
     rcases hc with hc | rfl
     ·exact HV.out.2 c hc
     ·exact hd)
    have hb:n * 10+(s[k].toNat - 48)<100000:=by
     have h1:=valF_lt _ HV2.out.2
     rw [HV2.out.1,List.length_take,HL.out] at h1
     have h2:min (k+1) s.size<=5:=by omega
     have h3:10 ^ (min (k+1) s.size)<=10 ^ 5:=Nat.pow_le_pow_right (by decide) h2
     have h4:(10:Nat) ^ 5=100000:=by decide
     omega
    have hdg:48<=s[k].toNat/\s[k].toNat<=57:=by unfold isDg at hd;simpa using hd
    obtain ⟨hd1,hd2⟩:=hdg
    have hc:(((10 * (n:Int)+((s[k].toNat:Int) - 48)))=((n * 10+(s[k].toNat - 48):Nat):Int)):=by omega
    clear hd hT HV
    go_wp2
    go_roundw
    case rel=>exact ⟨k+1,by omega,by go_num,n * 10+(s[k].toNat - 48),by go_num,by first | rfl | trivial,by omega,hb,HV2⟩
    case measure=>simp [intOf];omega
   ·have HE:Hid (nmbV s.data.toList=-1):=Lib.hid (nmbV_no (Or.inl (fun hh=>hd ⟨hh.2 s[k] (by
     have:=List.getElem_mem (l:=s.data.toList) (n:=k) (by rw [HL.out];exact hlt)
     exact this),by rw [<- HL.out];exact hh.1⟩)))
    have hd1:s[k].toNat<48\/(48<=s[k].toNat/\57<s[k].toNat)\/(48<=s[k].toNat/\s[k].toNat<=57/\5<s.size):=by
     unfold isDg at hd
     simp only [Bool.and_eq_true,decide_eq_true_eq] at hd
     omega
    clear hd hT HV
    rcases hd1 with h1 | ⟨h1,h2⟩ | ⟨h1,h2,h3⟩
    all_goals
     go_wp2
     go_ret
     rw [HE.out]
     exact ⟨rfl,Below.refl _ _⟩
  ·have hks:k=s.size:=by omega
   subst hks
   have e:s.data.toList.take s.size=s.data.toList:=List.take_of_length_le (by rw [HL.out];exact Nat.le_refl _)
   rw [e] at HV
   clear e
   rcases Nat.eq_zero_or_pos s.size with h0 | h0
   ·have HE:Hid (nmbV s.data.toList=-1):=Lib.hid (nmbV_no (Or.inr (Or.inl (List.length_eq_zero_iff.1 (HL.out.trans h0)))))
    go_wp2
    go_ret
    rw [HE.out]
    exact ⟨rfl,Below.refl _ _⟩
   ·have HD:=Lib.hid (fun w=>rDec n (by omega) w)
    have hz:=h5 h0
    have hc0:((s.size:Int) == 0)=false:=beq_eq_false_iff_ne.2 (by omega)
    by_cases hq:bsL (dec n)=s
    ·have HE:Hid (nmbV s.data.toList=n):=Lib.hid (by
      rw [nmbV_is (by rw [HL.out];exact hz) HV.out.2 (fun e=>by have:=congrArg List.length e;rw [HL.out,List.length_nil] at this;omega) (by rw [HV.out.1,<- hq,bsL_toList]),HV.out.1])
     rw [hq] at HD
     clear hq HV
     go_wp2_with fail
     refine (HD.out _).mono ?_
     rintro e w1 ⟨rfl,hb1⟩
     go_wp2
     go_ret
     rw [HE.out]
     exact ⟨rfl,hb1⟩
    ·have HE:Hid (nmbV s.data.toList=-1):=Lib.hid (nmbV_no (Or.inr (Or.inr (fun e=>hq (by rw [<- HV.out.1,e];exact bsL_of s)))))
     generalize bsL (dec n)=q at *
     have hnl:¬ q.toList=s.toList:=fun h=>hq (str_inj h)
     have hne1:(q.toList == s.toList)=false:=by simpa using hnl
     have hne2:(q.toList != s.toList)=true:=by simpa using hnl
     clear hq HV
     go_wp2_with fail
     refine (HD.out _).mono ?_
     rintro e w1 ⟨rfl,hb1⟩
     go_wp2
     go_ret
     rw [HE.out]
     exact ⟨rfl,hb1⟩
def casN (w:List UInt8):Int:=match casV w with | none=>-1 | some n=>(n:Int)
theorem casV_at {w:List UInt8} {k:Nat} (hk:k<16) (h:caL k=w) (hu:∀ j,j<k->caL j≠w):casN w=k:=by
 unfold casN casV
 have:(List.range 16).find? (fun n=>caL n == w)=some k:=by
  refine List.find?_range_eq_some.2 ⟨?_,by simpa using hk,fun j hj=>?_⟩
  ·simpa using h
  ·simpa using hu j hj
 rw [this]
theorem casV_out {w:List UInt8} (hu:∀ j,j<16->caL j≠w):casN w=-1:=by
 unfold casN casV
 have:(List.range 16).find? (fun n=>caL n == w)=none:=by
  rw [List.find?_eq_none]
  intro j hj
  simpa using hu j (List.mem_range.1 hj)
 rw [this]
theorem rCastle_any (s:ByteArray) (w:World) :
  Calls Tryz.prog 153 #[.string s] w fun e w'=>e=.returned (.int .i64 (casN s.data.toList))/\Below w.heap.size w w':=by
 go_enter Tryz.func153,Tryz.ntmps153
 go_wp2
 go_loopw [3] (fun i wr=>∃ k:Nat,k<=16/\i=.int .i64 k/\wr=w/\Hid (∀ j,j<k->caL j≠s.data.toList)) (fun i _=>16 - (intOf i).toNat)
 case atStart=>exact ⟨0,by omega,rfl,by first | rfl | trivial,Lib.hid (by omega)⟩
 case round =>
  obtain ⟨k,hk,rfl,rfl,HU⟩:=hrel
  by_cases hlt:k<16
  ·go_wp2
   go_loopw [4,5] (fun v i wx=>∃ j:Nat,j<=4/\i=.int .i64 j/\v=.string (bsL (ckT k j))/\wx=wr) (fun _ i _=>4 - (intOf i).toNat)
   case atStart=>exact ⟨0,by omega,rfl,rfl,by first | rfl | trivial⟩
   case round =>
    obtain ⟨j,hj,rfl,rfl,rfl⟩:=hrel
    have hz:(bsL (ckT k j)).size<=4:=by rw [bsL_size];have:=ckT_len k j;omega
    by_cases hjt:j<4
    ·have hE:=Lib.hid (kq_at hjt)
     have hp:((k:Int) / 2 ^ j).tmod 2=((k / 2 ^ j % 2:Nat):Int):=by
      rw [Int.ofNat_tmod]
      simp
     by_cases hb:k / 2 ^ j % 2=1
     ·have hc:(((k:Int) / 2 ^ j).tmod 2 == 1)=true:=by rw [hp,hb];rfl
      have HS:Hid (bsL (ckT k (j+1))=bsL (ckT k j) ++ (ByteArray.mk #[75,81,107,113]).extract j (j+1)):=Lib.hid (by rw [ckT_succ,if_pos hb,<- bsL_append,hE.out])
      clear hp hb
      go_wp2
      go_roundw
      case rel=>exact ⟨j+1,by omega,by go_num,by rw [HS.out],by first | rfl | trivial⟩
      case measure=>simp [intOf];omega
     ·have hc:(((k:Int) / 2 ^ j).tmod 2 == 1)=false:=by rw [hp];exact beq_eq_false_iff_ne.2 (by omega)
      have HS:Hid (bsL (ckT k (j+1))=bsL (ckT k j)):=Lib.hid (by rw [ckT_succ,if_neg hb,List.append_nil])
      clear hp hb
      go_wp2
      go_roundw
      case rel=>exact ⟨j+1,by omega,by go_num,by rw [HS.out],by first | rfl | trivial⟩
      case measure=>simp [intOf];omega
    ·have hj4:j=4:=by omega
     subst hj4
     have HC:=Lib.hid (ckT_end hlt)
     have HN:∀ o:List UInt8,caL k=o->(o=s.data.toList->casN s.data.toList=k)/\(o≠s.data.toList->∀ j,j<k+1->caL j≠s.data.toList):=by
      rintro _ rfl
      refine ⟨fun h=>casV_at hlt h HU.out,fun h j hj=>?_⟩
      rcases Nat.lt_or_ge j k with hj' | hj'
      ·exact HU.out j hj'
      ·have:j=k:=by omega
       subst this
       exact h
     have HN:=Lib.hid HN
     generalize ckT k 4=cc at *
     by_cases hn:cc=[]
     ·subst hn
      rw [if_pos rfl] at HC
      rw [show bsL []=(⟨#[]⟩:ByteArray) from rfl]
      have hN:=HN.out _ HC.out
      by_cases hq:[45]=s.data.toList
      ·have HE:=Lib.hid (hN.1 hq)
       have hqs:s=⟨#[45]⟩:=by rw [<- bsL_of s,<- hq];rfl
       subst hqs
       clear hN hq HN
       go_wp2
       go_ret
       rw [HE.out]
       exact ⟨rfl,Below.refl _ _⟩
      ·have HU2:=Lib.hid (hN.2 hq)
       have hne1:(([45]:List UInt8) == s.toList)=false:=by rw [ByteArray.toList_eq];exact beq_eq_false_iff_ne.2 hq
       clear hN hq HN
       go_wp2
       go_roundw
       case rel=>exact ⟨k+1,by omega,by go_num,by first | rfl | trivial,HU2⟩
       case measure=>simp [intOf];omega
     ·rw [if_neg hn] at HC
      have hN:=HN.out _ HC.out
      have hn0:(bsL cc).toList.isEmpty=false:=by rw [bsL_ne];simpa using hn
      by_cases hq:cc=s.data.toList
      ·have HE:=Lib.hid (hN.1 hq)
       have hqs:bsL cc=s:=by rw [hq,bsL_of]
       rw [hqs] at hn0 hz ⊢
       clear hN hq HN hqs
       go_wp2
       go_ret
       rw [HE.out]
       exact ⟨rfl,Below.refl _ _⟩
      ·have HU2:=Lib.hid (hN.2 hq)
       have hnl:¬ (bsL cc).toList=s.toList:=fun h=>hq (by rw [<- bsL_toList cc,str_inj h])
       have hne1:((bsL cc).toList == s.toList)=false:=by simpa using hnl
       clear hN hq HN
       generalize bsL cc=q at *
       go_wp2
       go_roundw
       case rel=>exact ⟨k+1,by omega,by go_num,by first | rfl | trivial,HU2⟩
       case measure=>simp [intOf];omega
  ·have HE:Hid (casN s.data.toList=-1):=by
    have h16:k=16:=by omega
    subst h16
    exact Lib.hid (casV_out HU.out)
   go_wp2
   go_ret
   rw [HE.out]
   exact ⟨rfl,Below.refl _ _⟩
end Go.Proofs.YtbccbgonlmkpkaaGreatDoor
