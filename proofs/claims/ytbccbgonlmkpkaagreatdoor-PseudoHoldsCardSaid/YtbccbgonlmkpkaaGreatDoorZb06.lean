/- What the theorem needs, piece Zb06. -/
import Derived.Test.YtbccbgonlmkpkaaGreatDoorZb05
import Derived.Lib.QuietBelow
import Derived.Sort.AtCall
set_option linter.unusedSimpArgs false
set_option linter.unusedVariables false
set_option maxRecDepth 100000
set_option maxHeartbeats 16000000
namespace Go.Proofs.YtbccbgonlmkpkaaGreatDoor
open Go.RowKit Go.Sort
theorem rHm_in (l:List Int) (A:Option Addr) (c:Nat) (bl:Bool) (ca:Nat) (ps ha fu:Int) (bit:Nat) (hb:bit=1\/bit=2\/bit=4\/bit=8) (hl:l.length=64) (w:World) (hA:RdP w w.heap.size A l c) :
  Calls Tryz.prog 133 #[.agg #[.int .i64 8,.int .i64 8,.slice A l.length c,.bool bl,.int .u8 (ca:Int),.int .i64 ps,.int .i64 ha,.int .i64 fu],.int .u8 (bit:Int)] w fun e w'=>e=.returned (.bool (poHm 8 8 l bit))/\Below w.heap.size w w':=by
 have HA:=Lib.hid (rdBo (box1 w (.cells #[.int .i64 8,.int .i64 8,.slice A l.length c,.bool bl,.int .u8 (ca:Int),.int .i64 ps,.int .i64 ha,.int .i64 fu] 26)) hA)
 have HX:=Lib.hid (box8 w 8 8 (.slice A l.length c) bl ca ps ha fu)
 clear hA
 rcases hb with rfl | rfl | rfl | rfl
 ·have E1:=Lib.hid (fun w hA=>rAt_any 8 8 l A c bl ca ps ha fu ⟨#[101,49]⟩ 4 (by omega) (by decide +kernel) (by omega) w hA)
  have E2:=Lib.hid (fun w hA=>rAt_any 8 8 l A c bl ca ps ha fu ⟨#[104,49]⟩ 7 (by omega) (by decide +kernel) (by omega) w hA)
  rw [show poHm 8 8 l 1=(l[4]?.getD 0 == 6 && l[7]?.getD 0 == 4) from rfl]
  clear hl
  generalize l[4]?.getD 0=x at *
  generalize l[7]?.getD 0=y at *
  by_cases h:x=6
  ·have e1:(x == 6)=true:=beq_iff_eq.2 h
   rw [e1,Bool.true_and]
   clear h
   go_enter Tryz.func133,Tryz.ntmps133
   go_wp2_with fail
   refine (E1.out _ HA.out).mono ?_
   rintro e w1 ⟨rfl,hb1⟩
   obtain ⟨⟨z0,z1,z2,z3,z4,z5,z6,z7⟩,zf⟩:=HX.out.below hb1 (by simp)
   have HA1:=Lib.hid (rdBo hb1 HA.out)
   go_wp2_with fail
   refine (E2.out _ HA1.out).mono ?_
   rintro e w2 ⟨rfl,hb2⟩
   go_wp2
   go_ret
   exact ⟨rfl,after1 (chain hb1 hb2)⟩
  ·have e1:(x == 6)=false:=beq_eq_false_iff_ne.2 h
   rw [e1,Bool.false_and]
   clear h
   go_enter Tryz.func133,Tryz.ntmps133
   go_wp2_with fail
   refine (E1.out _ HA.out).mono ?_
   rintro e w1 ⟨rfl,hb1⟩
   go_wp2
   go_ret
   exact ⟨rfl,after1 hb1⟩
 ·have E1:=Lib.hid (fun w hA=>rAt_any 8 8 l A c bl ca ps ha fu ⟨#[101,49]⟩ 4 (by omega) (by decide +kernel) (by omega) w hA)
  have E2:=Lib.hid (fun w hA=>rAt_any 8 8 l A c bl ca ps ha fu ⟨#[97,49]⟩ 0 (by omega) (by decide +kernel) (by omega) w hA)
  rw [show poHm 8 8 l 2=(l[4]?.getD 0 == 6 && l[0]?.getD 0 == 4) from rfl]
  clear hl
  generalize l[4]?.getD 0=x at *
  generalize l[0]?.getD 0=y at *
  by_cases h:x=6
  ·have e1:(x == 6)=true:=beq_iff_eq.2 h
   rw [e1,Bool.true_and]
   clear h
   go_enter Tryz.func133,Tryz.ntmps133
   go_wp2_with fail
   refine (E1.out _ HA.out).mono ?_
   rintro e w1 ⟨rfl,hb1⟩
   obtain ⟨⟨z0,z1,z2,z3,z4,z5,z6,z7⟩,zf⟩:=HX.out.below hb1 (by simp)
   have HA1:=Lib.hid (rdBo hb1 HA.out)
   go_wp2_with fail
   refine (E2.out _ HA1.out).mono ?_
   rintro e w2 ⟨rfl,hb2⟩
   go_wp2
   go_ret
   exact ⟨rfl,after1 (chain hb1 hb2)⟩
  ·have e1:(x == 6)=false:=beq_eq_false_iff_ne.2 h
   rw [e1,Bool.false_and]
   clear h
   go_enter Tryz.func133,Tryz.ntmps133
   go_wp2_with fail
   refine (E1.out _ HA.out).mono ?_
   rintro e w1 ⟨rfl,hb1⟩
   go_wp2
   go_ret
   exact ⟨rfl,after1 hb1⟩
 ·have E1:=Lib.hid (fun w hA=>rAt_any 8 8 l A c bl ca ps ha fu ⟨#[101,56]⟩ 60 (by omega) (by decide +kernel) (by omega) w hA)
  have E2:=Lib.hid (fun w hA=>rAt_any 8 8 l A c bl ca ps ha fu ⟨#[104,56]⟩ 63 (by omega) (by decide +kernel) (by omega) w hA)
  rw [show poHm 8 8 l 4=(l[60]?.getD 0 == (-6) && l[63]?.getD 0 == (-4)) from rfl]
  clear hl
  generalize l[60]?.getD 0=x at *
  generalize l[63]?.getD 0=y at *
  by_cases h:x=(-6)
  ·have e1:(x == (-6))=true:=beq_iff_eq.2 h
   rw [e1,Bool.true_and]
   clear h
   go_enter Tryz.func133,Tryz.ntmps133
   go_wp2_with fail
   refine (E1.out _ HA.out).mono ?_
   rintro e w1 ⟨rfl,hb1⟩
   obtain ⟨⟨z0,z1,z2,z3,z4,z5,z6,z7⟩,zf⟩:=HX.out.below hb1 (by simp)
   have HA1:=Lib.hid (rdBo hb1 HA.out)
   go_wp2_with fail
   refine (E2.out _ HA1.out).mono ?_
   rintro e w2 ⟨rfl,hb2⟩
   go_wp2
   go_ret
   exact ⟨rfl,after1 (chain hb1 hb2)⟩
  ·have e1:(x == (-6))=false:=beq_eq_false_iff_ne.2 h
   rw [e1,Bool.false_and]
   clear h
   go_enter Tryz.func133,Tryz.ntmps133
   go_wp2_with fail
   refine (E1.out _ HA.out).mono ?_
   rintro e w1 ⟨rfl,hb1⟩
   go_wp2
   go_ret
   exact ⟨rfl,after1 hb1⟩
 ·have E1:=Lib.hid (fun w hA=>rAt_any 8 8 l A c bl ca ps ha fu ⟨#[101,56]⟩ 60 (by omega) (by decide +kernel) (by omega) w hA)
  have E2:=Lib.hid (fun w hA=>rAt_any 8 8 l A c bl ca ps ha fu ⟨#[97,56]⟩ 56 (by omega) (by decide +kernel) (by omega) w hA)
  rw [show poHm 8 8 l 8=(l[60]?.getD 0 == (-6) && l[56]?.getD 0 == (-4)) from rfl]
  clear hl
  generalize l[60]?.getD 0=x at *
  generalize l[56]?.getD 0=y at *
  by_cases h:x=(-6)
  ·have e1:(x == (-6))=true:=beq_iff_eq.2 h
   rw [e1,Bool.true_and]
   clear h
   go_enter Tryz.func133,Tryz.ntmps133
   go_wp2_with fail
   refine (E1.out _ HA.out).mono ?_
   rintro e w1 ⟨rfl,hb1⟩
   obtain ⟨⟨z0,z1,z2,z3,z4,z5,z6,z7⟩,zf⟩:=HX.out.below hb1 (by simp)
   have HA1:=Lib.hid (rdBo hb1 HA.out)
   go_wp2_with fail
   refine (E2.out _ HA1.out).mono ?_
   rintro e w2 ⟨rfl,hb2⟩
   go_wp2
   go_ret
   exact ⟨rfl,after1 (chain hb1 hb2)⟩
  ·have e1:(x == (-6))=false:=beq_eq_false_iff_ne.2 h
   rw [e1,Bool.false_and]
   clear h
   go_enter Tryz.func133,Tryz.ntmps133
   go_wp2_with fail
   refine (E1.out _ HA.out).mono ?_
   rintro e w1 ⟨rfl,hb1⟩
   go_wp2
   go_ret
   exact ⟨rfl,after1 hb1⟩
theorem rHm_any (F R:Int) (l:List Int) (A:Option Addr) (c:Nat) (bl:Bool) (ca:Nat) (ps ha fu:Int) (bit:Nat) (hb:bit=1\/bit=2\/bit=4\/bit=8) (hl:F=8->R=8->l.length=64) (w:World) (hA:RdP w w.heap.size A l c) :
  Calls Tryz.prog 133 #[.agg #[.int .i64 F,.int .i64 R,.slice A l.length c,.bool bl,.int .u8 (ca:Int),.int .i64 ps,.int .i64 ha,.int .i64 fu],.int .u8 (bit:Int)] w fun e w'=>e=.returned (.bool (poHm F R l bit))/\Below w.heap.size w w':=by
 by_cases hF:F=8
 ·by_cases hR:R=8
  ·subst hF hR
   exact rHm_in l A c bl ca ps ha fu bit hb (hl rfl rfl) w hA
  ·subst hF
   have e1:(R != 8)=true:=bne_iff_ne.2 hR
   have e2:poHm 8 R l bit=false:=by unfold poHm;rw [beq_eq_false_iff_ne.2 hR];rfl
   rw [e2]
   clear hR hl hb e2
   go_enter Tryz.func133,Tryz.ntmps133
   go_wp2
   go_ret
   exact ⟨rfl,box1 _ _⟩
 ·have e1:(F != 8)=true:=bne_iff_ne.2 hF
  have e2:poHm F R l bit=false:=by unfold poHm;rw [beq_eq_false_iff_ne.2 hF];rfl
  rw [e2]
  clear hF hl hb e2
  go_enter Tryz.func133,Tryz.ntmps133
  go_wp2
  go_ret
  exact ⟨rfl,box1 _ _⟩
def bitK (k:Nat):Nat:=[1,2,4,8].getD k 0
theorem bitK_or {k:Nat} (h:k<4):bitK k=1\/bitK k=2\/bitK k=4\/bitK k=8:=by
 have:∀ k,k<4->bitK k=1\/bitK k=2\/bitK k=4\/bitK k=8:=by decide
 exact this k h
def casK (F R:Int) (l:List Int) (ca k:Nat):Bool:=!poBit ca (bitK k) || poHm F R l (bitK k)
theorem poCas_k (F R:Int) (l:List Int) (ca:Nat):poCas F R l ca=(decide (ca<=15) && (casK F R l ca 0 && casK F R l ca 1 && casK F R l ca 2 && casK F R l ca 3)):=by
 unfold poCas casK
 simp [bitK,Bool.and_assoc]
theorem poCas_false {F R:Int} {l:List Int} {ca k:Nat} (hk:k<4) (h:casK F R l ca k=false):poCas F R l ca=false:=by
 rw [poCas_k]
 match k,hk with
 | 0,_=>rw [h];simp
 | 1,_=>rw [h];simp
 | 2,_=>rw [h];simp
 | 3,_=>rw [h];simp
theorem poCas_true {F R:Int} {l:List Int} {ca:Nat} (h15:ca<=15) (h:∀ k,k<4->casK F R l ca k=true):poCas F R l ca=true:=by
 rw [poCas_k,h 0 (by omega),h 1 (by omega),h 2 (by omega),h 3 (by omega)]
 simpa using h15
theorem rCas_any (F R:Int) (l:List Int) (A:Option Addr) (c:Nat) (bl:Bool) (ca:Nat) (ps ha fu:Int) (hca:ca<256) (hl:F=8->R=8->l.length=64) (w:World) (hA:RdP w w.heap.size A l c) :
  Calls Tryz.prog 68 #[.agg #[.int .i64 F,.int .i64 R,.slice A l.length c,.bool bl,.int .u8 (ca:Int),.int .i64 ps,.int .i64 ha,.int .i64 fu]] w fun e w'=>e=.returned (.bool (poCas F R l ca))/\Below w.heap.size w w':=by
 by_cases h15:ca<=15
 ·have HA:=Lib.hid (rdBo (box1 w (.cells #[.int .i64 F,.int .i64 R,.slice A l.length c,.bool bl,.int .u8 (ca:Int),.int .i64 ps,.int .i64 ha,.int .i64 fu] 26)) hA)
  have HX:=Lib.hid (box8 w F R (.slice A l.length c) bl ca ps ha fu)
  have HH:=Lib.hid (fun bit hb w hA=>rHm_any F R l A c bl ca ps ha fu bit hb hl w hA)
  have HT:=Lib.hid (fun h=>poCas_true (F:=F) (R:=R) (l:=l) h15 h)
  have HF:=Lib.hid (fun k hk h=>poCas_false (F:=F) (R:=R) (l:=l) (ca:=ca) (k:=k) hk h)
  have h15':((ca:Int) > 15)=False:=by simp;omega
  clear hA hl
  go_enter Tryz.func68,Tryz.ntmps68
  go_wp2
  have hk4:∀ k,k<4->((w.alloc (.cells #[.int .i64 F,.int .i64 R,.slice A l.length c,.bool bl,.int .u8 (ca:Int),.int .i64 ps,.int .i64 ha,.int .i64 fu] 26)).alloc (.cells #[.int .u8 1,.int .u8 2,.int .u8 4,.int .u8 8] 5)).cell? ⟨w.heap.size+1,k,none⟩=some (.int .u8 (bitK k:Int)):=by
   intro k hk
   match k,hk with
   | 0,_=>simp [go_sem,bitK]
   | 1,_=>simp [go_sem,bitK]
   | 2,_=>simp [go_sem,bitK]
   | 3,_=>simp [go_sem,bitK]
  have hW:Below (w.alloc (.cells #[.int .i64 F,.int .i64 R,.slice A l.length c,.bool bl,.int .u8 (ca:Int),.int .i64 ps,.int .i64 ha,.int .i64 fu] 26)).heap.size (w.alloc (.cells #[.int .i64 F,.int .i64 R,.slice A l.length c,.bool bl,.int .u8 (ca:Int),.int .i64 ps,.int .i64 ha,.int .i64 fu] 26)) ((w.alloc (.cells #[.int .i64 F,.int .i64 R,.slice A l.length c,.bool bl,.int .u8 (ca:Int),.int .i64 ps,.int .i64 ha,.int .i64 fu] 26)).alloc (.cells #[.int .u8 1,.int .u8 2,.int .u8 4,.int .u8 8] 5)):=box1 _ _
  have hs:w.heap.size+2<=((w.alloc (.cells #[.int .i64 F,.int .i64 R,.slice A l.length c,.bool bl,.int .u8 (ca:Int),.int .i64 ps,.int .i64 ha,.int .i64 fu] 26)).alloc (.cells #[.int .u8 1,.int .u8 2,.int .u8 4,.int .u8 8] 5)).heap.size:=by simp
  have hX2:=HX.out.below hW (by simp)
  have HA2:=Lib.hid (rdBo hW HA.out)
  have hB0:=after1 hW
  generalize ((w.alloc (.cells #[.int .i64 F,.int .i64 R,.slice A l.length c,.bool bl,.int .u8 (ca:Int),.int .i64 ps,.int .i64 ha,.int .i64 fu] 26)).alloc (.cells #[.int .u8 1,.int .u8 2,.int .u8 4,.int .u8 8] 5))=W at *
  clear HA HX hW
  go_loopw [4,10] (fun _ i wr=>∃ k:Nat,k<=4/\i=.int .i64 k/\(∀ j,j<k->casK F R l ca j=true)/\Below W.heap.size W wr) (fun _ i _=>4 - (intOf i).toNat)
  case atStart=>exact ⟨0,by omega,rfl,fun j hj=>absurd hj (by omega),Below.refl _ _⟩
  case round =>
   obtain ⟨k,hk,rfl,hgood,hB⟩:=hrel
   have s2:=hB.size
   obtain ⟨⟨z0,z1,z2,z3,z4,z5,z6,z7⟩,zf⟩:=hX2.below hB (by omega)
   by_cases hlt:k<4
   ·have hc:=(hB.cell (p:=⟨w.heap.size+1,k,none⟩) (show w.heap.size+1<W.heap.size by omega)).trans (hk4 k hlt)
    have hbo:=bitK_or hlt
    have hnext:Hid (casK F R l ca k=true->∀ j,j<k+1->casK F R l ca j=true):=Lib.hid fun h j hj=>by
     rcases Nat.lt_or_ge j k with hj2 | hj2
     ·exact hgood j hj2
     ·have:j=k:=by omega
      subst this;exact h
    have HK:Hid (casK F R l ca k=(!poBit ca (bitK k) || poHm F R l (bitK k))):=Lib.hid rfl
    clear hgood hk4 hX2
    have hFk:=Lib.hid (fun h=>HF.out k hlt h)
    generalize casK F R l ca k=ck at *
    generalize bitK k=b at *
    have hb0:¬ (b:Int)=0:=by omega
    have hb1:(0:Int)<(b:Int):=by omega
    have hb2:(b:Int)<=8:=by omega
    have HB:=Lib.hid hbo
    clear hbo
    have hq:((ca:Int) / (b:Int) % 2 == 1)=poBit ca b:=by
     unfold poBit
     rw [show (ca:Int) / (b:Int) % 2=((ca / b % 2:Nat):Int) by simp]
     by_cases h:ca / b % 2=1
     ·simp [h]
     ·rw [beq_eq_false_iff_ne.2 h,beq_eq_false_iff_ne.2 (by omega)]
    generalize poBit ca b=pb at *
    cases pb with
    | false =>
     go_wp2
     go_roundw
     case rel=>exact ⟨k+1,by omega,by go_num,hnext.out (by rw [HK.out];rfl),hB⟩
     case measure=>simp [intOf];omega
    | true =>
     go_wp2_with fail
     refine (HH.out b HB.out _ (rdBo (hB.mono (Nat.le_refl _)) HA2.out)).mono ?_
     rintro e w2 ⟨rfl,hb2'⟩
     have HK2:Hid (ck=poHm F R l b):=Lib.hid (by rw [HK.out];rfl)
     generalize poHm F R l b=hm at *
     cases hm with
     | true =>
      go_wp2
      go_roundw
      case rel=>exact ⟨k+1,by omega,by go_num,hnext.out HK2.out,chain hB hb2'⟩
      case measure=>simp [intOf];omega
     | false =>
      go_wp2
      go_ret
      exact ⟨ret_bool (hFk.out HK2.out).symm,chain hB0 (chain hB hb2')⟩
   ·have hkl:k=4:=by omega
    subst hkl
    have he:=Lib.hid (HT.out hgood)
    clear hgood hk4
    go_wp2
    go_ret
    exact ⟨ret_bool he.out.symm,chain hB0 hB⟩
 ·have e2:poCas F R l ca=false:=by unfold poCas;rw [decide_eq_false h15];rfl
  have h15':15<(ca:Int):=by omega
  rw [e2]
  clear hl e2 h15
  go_enter Tryz.func68,Tryz.ntmps68
  go_wp2
  go_ret
  exact ⟨rfl,box1 _ _⟩
end Go.Proofs.YtbccbgonlmkpkaaGreatDoor
namespace Go.Proofs.YtbccbgonlmkpkaaGreatDoor
open Go.RowKit Go.Sort
theorem rkA_bd {F R:Int} {b:Bool} {k:Int} (h6:6<=R) (hv:vsz F R) (hk:k=2\/k=4):0<=rkA R b k/\rkA R b k<R:=by
 unfold vsz at hv
 unfold rkA
 cases b <;> simp <;> omega
theorem poPas_in {F R:Int} {l:List Int} {bl:Bool} {ps ha:Int} (h1:ps≠-1) (h2:6<=R) (h3:ha=0) (h4:vat F R ps) :
  poPas F R l bl ps ha=(2 * (ps / F) == rkA R (!bl) 2+rkA R (!bl) 4 && l[ps.toNat]?.getD 0 == 0 && l[(rkA R (!bl) 2 * F+ps % F).toNat]?.getD 0 == 0 && l[(rkA R (!bl) 4 * F+ps % F).toNat]?.getD 0 == pcS (!bl)):=by
 unfold poPas
 rw [beq_eq_false_iff_ne.2 h1,decide_eq_true h2,decide_eq_true h4.2.1,decide_eq_true h4.2.2,h3]
 simp
theorem poPas_out {F R:Int} {l:List Int} {bl:Bool} {ps ha:Int} (h1:ps≠-1) (hv:vsz F R) (h:¬ (6<=R/\ha=0/\vat F R ps)):poPas F R l bl ps ha=false:=by
 cases e:poPas F R l bl ps ha with
 | false=>rfl
 | true =>
  exfalso
  unfold poPas at e
  rw [beq_eq_false_iff_ne.2 h1,Bool.false_or] at e
  simp only [Bool.and_eq_true,decide_eq_true_eq,beq_iff_eq] at e
  exact h ⟨e.1.1.1.1.1.1,e.1.1.1.1.1.2,hv,e.1.1.1.1.2.1,e.1.1.1.1.2.2⟩
theorem rPas_any (F R:Int) (l:List Int) (A:Option Addr) (c:Nat) (bl:Bool) (ca:Nat) (ps ha fu:Int) (hb:vbd F R l) (w:World) (hA:RdP w w.heap.size A l c) :
  Calls Tryz.prog 69 #[.agg #[.int .i64 F,.int .i64 R,.slice A l.length c,.bool bl,.int .u8 (ca:Int),.int .i64 ps,.int .i64 ha,.int .i64 fu]] w fun e w'=>e=.returned (.bool (poPas F R l bl ps ha))/\Below w.heap.size w w':=by
 have hv:=hb.1
 by_cases h1:ps=-1
 ·subst h1
  have e2:poPas F R l bl (-1) ha=true:=rfl
  rw [e2]
  clear e2
  go_enter Tryz.func69,Tryz.ntmps69
  go_wp2
  go_ret
  exact ⟨rfl,box1 _ _⟩
 ·have b1:(ps == -1)=false:=beq_eq_false_iff_ne.2 h1
  by_cases h2:6<=R
  ·by_cases h3:ha=0
   ·have HX:=Lib.hid (box8 w F R (.slice A l.length c) bl ca ps ha fu)
    by_cases h4:vat F R ps
    ·obtain ⟨n,rfl,hn⟩:=vat_nat h4
     have HE:=Lib.hid (poPas_in (l:=l) (bl:=bl) h1 h2 h3 h4)
     have HB:=Lib.hid hb
     have HVA:=Lib.hid h4
     have HV:=Lib.hid hv
     have HA:=Lib.hid (rdBo (box1 w (.cells #[.int .i64 F,.int .i64 R,.slice A l.length c,.bool bl,.int .u8 (ca:Int),.int .i64 (n:Int),.int .i64 ha,.int .i64 fu] 26)) hA)
     have H2:=Lib.hid h2
     subst h3
     clear hb hA
     go_enter Tryz.func69,Tryz.ntmps69
     go_wp2_with fail
     refine (refValid_yes F R (n:Int) HVA.out _).mono ?_
     rintro e w1 ⟨rfl,hb1⟩
     obtain ⟨⟨z0,z1,z2,z3,z4,z5,z6,z7⟩,zf⟩:=HX.out.below hb1 (by simp)
     go_wp2_with fail
     refine (refPlace_any F R (n:Int) HVA.out _).mono ?_
     rintro e w2 ⟨rfl,hb2⟩
     clear z0 z1 z2 z3 z4 z5 z6 z7 zf
     have hb12:=chain hb1 hb2
     have hb3:=hb12.alloc hb12.size (.cells #[.int .i64 ((n:Int) % F),.int .i64 ((n:Int) / F)] 104)
     have hlt:=(HX.out.below hb12 (by simp)).lt
     have hX3:=(HX.out.below hb12 (by simp)).below (box1 w2 (.cells #[.int .i64 ((n:Int) % F),.int .i64 ((n:Int) / F)] 104)) hlt
     have hA3:=(HA.out.below hb12).grow hb12.size
     have hA3:=rdBo (box1 w2 (.cells #[.int .i64 ((n:Int) % F),.int .i64 ((n:Int) / F)] 104)) hA3
     have p0:(w2.alloc (.cells #[.int .i64 ((n:Int) % F),.int .i64 ((n:Int) / F)] 104)).cell? ⟨w2.heap.size,0,none⟩=some (.int .i64 ((n:Int) % F)):=by simp [go_sem]
     have p1:(w2.alloc (.cells #[.int .i64 ((n:Int) % F),.int .i64 ((n:Int) / F)] 104)).cell? ⟨w2.heap.size,1,none⟩=some (.int .i64 ((n:Int) / F)):=by simp [go_sem]
     obtain ⟨W3,hW3⟩:∃ W3,w2.alloc (.cells #[.int .i64 ((n:Int) % F),.int .i64 ((n:Int) / F)] 104)=W3:=⟨_,rfl⟩
     rw [hW3] at hb3 hX3 hA3 p0 p1
     have HW3:=Lib.hid hW3
     have HP2:=Lib.hid (fun w=>rRank_any F R HV.out (!bl) 2 (by omega) (by omega) w)
     have HP4:=Lib.hid (fun w=>rRank_any F R HV.out (!bl) 4 (by omega) (by omega) w)
     have hr2:=rkA_bd (F:=F) (b:=!bl) H2.out HV.out (.inl rfl)
     have hr4:=rkA_bd (F:=F) (b:=!bl) H2.out HV.out (.inr rfl)
     obtain ⟨pl0,pl1,pl2,pl3⟩:=place_bd HVA.out.1 HVA.out.2.1 HVA.out.2.2
     have hon2:=Lib.hid (show onb F R ((n:Int) % F) (rkA R (!bl) 2) from ⟨pl0,pl1,hr2.1,hr2.2⟩)
     have hon4:=Lib.hid (show onb F R ((n:Int) % F) (rkA R (!bl) 4) from ⟨pl0,pl1,hr4.1,hr4.2⟩)
     have hn2:=number_bd HV.out pl0 pl1 hr2.1 hr2.2
     have hn4:=number_bd HV.out pl0 pl1 hr4.1 hr4.2
     have HPC:=Lib.hid (fun w=>rPiece1_any (!bl) w)
     have hR8:R<=8:=HV.out.2.2.2
     have hF8:F<=8:=HV.out.2.1
     generalize rkA R (!bl) 2=r2 at *
     generalize rkA R (!bl) 4=r4 at *
     generalize pcS (!bl)=pv at *
     clear hW3 hlt hb1 hb2 hb12
     obtain ⟨⟨x0,x1,x2,x3,x4,x5,x6,x7⟩,xf⟩:=id hX3
     have q0:=cell_regrown x0
     have q1:=cell_regrown x1
     have cA:∀ d os,Calls Tryz.prog 134 #[.agg #[.int .i64 F,.int .i64 R],.bool (!bl),.int .i64 2] (grow (redrawn W3 d) os) fun e w''=>e=.returned (.int .i64 r2)/\∃ q:Regrown,w''=grow (redrawn W3 q.d) q.os:=fun d os=>Calls.regrown_of (HP2.out _)
     have cB:∀ d os,Calls Tryz.prog 134 #[.agg #[.int .i64 F,.int .i64 R],.bool (!bl),.int .i64 4] (grow (redrawn W3 d) os) fun e w''=>e=.returned (.int .i64 r4)/\∃ q:Regrown,w''=grow (redrawn W3 q.d) q.os:=fun d os=>Calls.regrown_of (HP4.out _)
     go_wp2_with fail
     rw [HW3.out]
     refine wp_region_quiet_below (by kernel_rfl) (by kernel_rfl) ?_
     repeat (go_big_quiet_step (first | (go_at_call_has 134 (Value.int .i64 2);exact cA _ _) | (go_at_call_has 134 (Value.int .i64 4);exact cB _ _)))
     refine wpQuiet_nil ?_
     rintro _ ⟨⟨dq,osq⟩,rfl⟩
     have hb4:=below_regrown W3 dq osq
     generalize grow (redrawn W3 dq) osq=W4 at *
     clear q0 q1 cA cB x0 x1 x2 x3 x4 x5 x6 x7 xf
     have hp2lt:w2.heap.size<W3.heap.size:=World.block_lt_of_cell? W3 _ p0
     obtain ⟨⟨x0,x1,x2,x3,x4,x5,x6,x7⟩,xf⟩:=hX3.below hb4 hX3.lt
     have y0:=(hb4.cell (p:=⟨w2.heap.size,0,none⟩) hp2lt).trans p0
     have y1:=(hb4.cell (p:=⟨w2.heap.size,1,none⟩) hp2lt).trans p1
     have hA4:=rdBo hb4 hA3
     have hB4:=chain hb3 hb4
     have hpr:0<=2 * ((n:Int) / F)/\2 * ((n:Int) / F)<=16:=by have:=HV.out.2.2.2;omega
     clear p0 p1 hb4 hX3 hA3 hb3 HP2 HP4
     by_cases hm:2 * ((n:Int) / F)=r2+r4
     ·have em:(2 * ((n:Int) / F) != r2+r4)=false:=by simp [hm]
      have em2:(2 * ((n:Int) / F) == r2+r4)=true:=by simp [hm]
      rw [em2,Bool.true_and] at HE
      clear hm em2
      obtain ⟨n2,hm2⟩:∃ n2:Nat,r2 * F+(n:Int) % F=(n2:Int):=⟨(r2 * F+(n:Int) % F).toNat,by omega⟩
      obtain ⟨n4,hm4⟩:∃ n4:Nat,r4 * F+(n:Int) % F=(n4:Int):=⟨(r4 * F+(n:Int) % F).toNat,by omega⟩
      have HN2:=Lib.hid (refNumber_yes F R ((n:Int) % F) r2 HV.out hon2.out)
      have HN4:=Lib.hid (refNumber_yes F R ((n:Int) % F) r4 HV.out hon4.out)
      have hlen:=HB.out.2.1
      rw [hm2] at HN2 HE
      rw [hm4] at HN4 HE
      rw [Int.toNat_natCast,Int.toNat_natCast,Int.toNat_natCast] at HE
      have l0:n<l.length:=by omega
      have l2:n2<l.length:=by omega
      have l4:n4<l.length:=by omega
      obtain ⟨ad,rfl,_,k0⟩:=hA4.at_ l0
      obtain ⟨ad2,e2,_,k2⟩:=hA4.at_ l2
      obtain ⟨ad4,e4,_,k4⟩:=hA4.at_ l4
      obtain rfl:=Option.some.inj e2
      obtain rfl:=Option.some.inj e4
      have g0:=cell_regrown x0
      have g1:=cell_regrown x1
      have g2:=cell_regrown x2
      have g5:=cell_regrown x5
      have gy:=cell_regrown y0
      clear hA4 e2 e4 hm2 hm4 hlen
      generalize l[n]?.getD 0=a0 at *
      generalize l[n2]?.getD 0=a2 at *
      generalize l[n4]?.getD 0=a4 at *
      have j0:=cell_regrown k0
      have j2:=cell_regrown k2
      have j4:=cell_regrown k4
      have cN:∀ d os,Calls Tryz.prog 86 #[.agg #[.int .i64 F,.int .i64 R],.int .i64 ((n:Int) % F),.int .i64 r2] (grow (redrawn W4 d) os) fun e w''=>e=.returned (.int .i64 (n2:Int))/\∃ q:Regrown,w''=grow (redrawn W4 q.d) q.os:=fun d os=>Calls.regrown_of (HN2.out _)
      have cM:∀ d os,Calls Tryz.prog 86 #[.agg #[.int .i64 F,.int .i64 R],.int .i64 ((n:Int) % F),.int .i64 r4] (grow (redrawn W4 d) os) fun e w''=>e=.returned (.int .i64 (n4:Int))/\∃ q:Regrown,w''=grow (redrawn W4 q.d) q.os:=fun d os=>Calls.regrown_of (HN4.out _)
      have cC:∀ d os,Calls Tryz.prog 135 #[.int .i8 1,.bool (!bl)] (grow (redrawn W4 d) os) fun e w''=>e=.returned (.int .i8 pv)/\∃ q:Regrown,w''=grow (redrawn W4 q.d) q.os:=fun d os=>Calls.regrown_of (HPC.out _)
      by_cases ha0:a0=0
      ·by_cases ha2:a2=0
       ·have v0:(a0 == 0)=true:=beq_iff_eq.2 ha0
        have v2:(a2 == 0)=true:=beq_iff_eq.2 ha2
        rw [v0,v2,Bool.true_and,Bool.true_and] at HE
        clear ha0 ha2
        go_wp2_with fail
        refine wp_region_quiet_below (by kernel_rfl) (by kernel_rfl) ?_
        repeat (go_big_quiet_step (first | (go_at_call_has 86 (Value.int .i64 r2);exact cN _ _) | (go_at_call_has 86 (Value.int .i64 r4);exact cM _ _) | (go_at_call 135;exact cC _ _)))
        refine wpQuiet_nil ?_
        intro _ hw'
        obtain ⟨⟨dq2,osq2⟩,hw''⟩:=hw'
        subst hw''
        go_wp2
        go_ret
        exact ⟨ret_bool HE.out.symm,after1 (chain hB4 (below_regrown _ dq2 osq2))⟩
       ·have v0:(a0 == 0)=true:=beq_iff_eq.2 ha0
        have v2:(a2 == 0)=false:=beq_eq_false_iff_ne.2 ha2
        rw [v0,v2,Bool.true_and,Bool.false_and] at HE
        clear ha0 ha2
        go_wp2_with fail
        refine wp_region_quiet_below (by kernel_rfl) (by kernel_rfl) ?_
        repeat (go_big_quiet_step (first | (go_at_call_has 86 (Value.int .i64 r2);exact cN _ _)))
        refine wpQuiet_nil ?_
        intro _ hw'
        obtain ⟨⟨dq2,osq2⟩,hw''⟩:=hw'
        subst hw''
        go_wp2
        go_ret
        exact ⟨ret_bool HE.out.symm,after1 (chain hB4 (below_regrown _ dq2 osq2))⟩
      ·have v0:(a0 == 0)=false:=beq_eq_false_iff_ne.2 ha0
       rw [v0,Bool.false_and,Bool.false_and] at HE
       clear ha0
       go_wp2_with fail
       refine wp_region_quiet_below (by kernel_rfl) (by kernel_rfl) ?_
       repeat (go_big_quiet_step (fail))
       refine wpQuiet_nil ?_
       intro _ hw'
       obtain ⟨⟨dq2,osq2⟩,hw''⟩:=hw'
       subst hw''
       go_wp2
       go_ret
       exact ⟨ret_bool HE.out.symm,after1 (chain hB4 (below_regrown _ dq2 osq2))⟩
     ·have em:(2 * ((n:Int) / F) != r2+r4)=true:=bne_iff_ne.2 hm
      have em2:(2 * ((n:Int) / F) == r2+r4)=false:=beq_eq_false_iff_ne.2 hm
      rw [em2,Bool.false_and,Bool.false_and,Bool.false_and] at HE
      clear hm em2
      go_wp2
      go_ret
      exact ⟨ret_bool HE.out.symm,after1 hB4⟩
    ·have e2:=Lib.hid (poPas_out (l:=l) (bl:=bl) (ha:=ha) h1 hv (fun h=>h4 h.2.2))
     have H4:=Lib.hid h4
     subst h3
     clear h4 hb hA
     go_enter Tryz.func69,Tryz.ntmps69
     go_wp2_with fail
     refine (refValid_no F R ps H4.out _).mono ?_
     rintro e w1 ⟨rfl,hb1⟩
     go_wp2
     go_ret
     exact ⟨ret_bool e2.out.symm,after1 hb1⟩
   ·have e2:=Lib.hid (poPas_out (l:=l) (bl:=bl) (ps:=ps) h1 hv (fun h=>h3 h.2.1))
    have b3:(ha != 0)=true:=bne_iff_ne.2 h3
    clear hb hA h3
    go_enter Tryz.func69,Tryz.ntmps69
    go_wp2
    go_ret
    exact ⟨ret_bool e2.out.symm,box1 _ _⟩
  ·have e2:=Lib.hid (poPas_out (l:=l) (bl:=bl) (ps:=ps) (ha:=ha) h1 hv (fun h=>h2 h.1))
   have b3:R<6:=by omega
   clear hb hA h2
   go_enter Tryz.func69,Tryz.ntmps69
   go_wp2
   go_ret
   exact ⟨ret_bool e2.out.symm,box1 _ _⟩
end Go.Proofs.YtbccbgonlmkpkaaGreatDoor
namespace Go.Proofs.YtbccbgonlmkpkaaGreatDoor
open Go.RowKit Go.Sort
theorem rChk_any (F R:Int) (l:List Int) (A:Option Addr) (c:Nat) (b:Bool) (w:World) (hb:vbd F R l) (ho:orA l=true) (hk:0<=kingV l b) (hA:RdP w w.heap.size A l c) :
  Calls Tryz.prog 64 #[.agg #[.int .i64 F,.int .i64 R,.slice A l.length c],.bool b] w fun e w'=>e=.returned (.bool (decide (0<(atkL F R l (kingV l b) (!b)).length)))/\Below w.heap.size w w':=by
 have hlen:l.length<=64:=by have:=(vsz_mul hb.1).2;have:=hb.2.1;omega
 have HK:=Lib.hid (fun w hA=>rKing_any F R l A c b w hlen hA)
 have HAT:=Lib.hid (fun w hA=>ratkL_any F R l A c (kingV l b) (!b) w hb ho (kingV_at hb hk) hA)
 have hal:=atkL_len (F:=F) (R:=R) (t:=kingV l b) (bl:=!b) hlen
 generalize atkL F R l (kingV l b) (!b)=z at *
 generalize kingV l b=kv at *
 clear hk hb ho hlen
 go_enter Tryz.func64,Tryz.ntmps64
 go_wp2_with fail
 obtain ⟨V,hV⟩:∃ V,w.alloc (.cells #[.int .i64 F,.int .i64 R,.slice A l.length c] 97)=V:=⟨_,rfl⟩
 have h0:V.cell? ⟨w.heap.size,0,none⟩=some (.int .i64 F)/\V.cell? ⟨w.heap.size,1,none⟩=some (.int .i64 R)/\V.cell? ⟨w.heap.size,2,none⟩=some (.slice A l.length c)/\St w A l c V:=by
  rw [<- hV]
  exact ⟨by simp [go_sem],by simp [go_sem],by simp [go_sem],hA.below (box1 _ _),box1 _ _,by simp⟩
 rw [hV]
 clear hV hA
 go_region_held3 (fun w'=>w'.cell? ⟨w.heap.size,0,none⟩=some (.int .i64 F)/\w'.cell? ⟨w.heap.size,1,none⟩=some (.int .i64 R)/\w'.cell? ⟨w.heap.size,2,none⟩=some (.slice A l.length c)/\St w A l c w')
  (first | assumption | exact keepS2 (by assumption) (by assumption) | exact keepS (by assumption) (by assumption) | exact keepS (by assumption) ((Below.refl _ _).drew))
  (first
   | (go_at_call 63;refine (HK.out _ (rdS (by assumption))).mono ?_;rintro e wx ⟨rfl,hbx⟩)
   | (go_at_call 124;refine (HAT.out _ (rdS (by assumption))).mono ?_;rintro e w1 ⟨v1,rfl,hown1,hb1⟩;obtain ⟨A1,d1,rfl,hs1⟩:=SrcI.own hown1))
 have hH:=(by assumption:w1.cell? ⟨w.heap.size,0,none⟩=some (.int .i64 F)/\w1.cell? ⟨w.heap.size,1,none⟩=some (.int .i64 R)/\w1.cell? ⟨w.heap.size,2,none⟩=some (.slice A l.length c)/\St w A l c w1)
 have hB:=hH.2.2.2.2.1
 go_wp2
 go_ret
 exact ⟨rfl,hB⟩
theorem rOrth_any (F R:Int) (l:List Int) (A:Option Addr) (c:Nat) (w:World) (hlen:l.length<=100000) (hA:RdP w w.heap.size A l c) :
  Calls Tryz.prog 62 #[.agg #[.int .i64 F,.int .i64 R,.slice A l.length c]] w fun e w'=>e=.returned (.bool (vbdB F R l && orA l))/\Below w.heap.size w w':=by
 by_cases h:vbd F R l
 ·rw [vbdB_iff.2 h,Bool.true_and]
  exact rOrth_is F R l A c h w hA
 ·have e:vbdB F R l=false:=by
   cases e:vbdB F R l with
   | false=>rfl
   | true=>exact absurd (vbdB_iff.1 e) h
  rw [e,Bool.false_and]
  exact rOrth_no F R l A c h w hlen hA
theorem okPo_no1 {F R:Int} {l:List Int} {bl:Bool} {ca:Nat} {ps ha fu:Int} (h:(vbdB F R l && orA l)=false):okPo ⟨F,R,l,bl,ca,ps,ha,fu⟩=false:=by
 unfold okPo poBrd
 simp [h]
theorem okPo_no2 {F R:Int} {l:List Int} {bl:Bool} {ca:Nat} {ps ha fu:Int} (h:kingV l false<0):okPo ⟨F,R,l,bl,ca,ps,ha,fu⟩=false:=by
 unfold okPo poBrd
 simp [show ¬ 0<=kingV l false by omega]
theorem okPo_no3 {F R:Int} {l:List Int} {bl:Bool} {ca:Nat} {ps ha fu:Int} (h:kingV l true<0):okPo ⟨F,R,l,bl,ca,ps,ha,fu⟩=false:=by
 unfold okPo poBrd
 simp [show ¬ 0<=kingV l true by omega]
theorem okPo_no4 {F R:Int} {l:List Int} {bl:Bool} {ca:Nat} {ps ha fu:Int} (h:decide (0<(atkL F R l (kingV l (!bl)) (!!bl)).length)=true):okPo ⟨F,R,l,bl,ca,ps,ha,fu⟩=false:=by
 rw [Bool.not_not] at h
 have h:=of_decide_eq_true h
 unfold okPo poBrd
 rw [decide_eq_false (show ¬ (atkL F R l (kingV l (!bl)) bl).length=0 by omega)]
 simp
theorem okPo_no5 {F R:Int} {l:List Int} {bl:Bool} {ca:Nat} {ps ha fu:Int} {k:Nat} (hk:k<l.length) (h:poPw F R l k=true):okPo ⟨F,R,l,bl,ca,ps,ha,fu⟩=false:=by
 have e:poPwn F R l=false:=by
  cases e:poPwn F R l with
  | false=>rfl
  | true =>
   have:=List.all_eq_true.1 e k (List.mem_range.2 hk)
   rw [h] at this
   cases this
 unfold okPo
 simp [e]
theorem okPo_fin {F R:Int} {l:List Int} {bl:Bool} {ca:Nat} {ps ha fu:Int} (h1:(vbdB F R l && orA l)=true) (h2:0<=kingV l false) (h3:0<=kingV l true) (h4:decide (0<(atkL F R l (kingV l (!bl)) (!!bl)).length)=false) (h5:∀ k,k<l.length->poPw F R l k=false) :
  okPo ⟨F,R,l,bl,ca,ps,ha,fu⟩=(poCas F R l ca && (poPas F R l bl ps ha && (decide (0<=ha) && (decide (ha<=10000) && (decide (1<=fu) && decide (fu<=10000)))))):=by
 rw [Bool.not_not] at h4
 have h4:=of_decide_eq_false h4
 have e:poPwn F R l=true:=List.all_eq_true.2 fun k hk=>by rw [h5 k (List.mem_range.1 hk)];rfl
 unfold okPo poBrd poCnt
 rw [h1,decide_eq_true h2,decide_eq_true h3,decide_eq_true (show (atkL F R l (kingV l (!bl)) bl).length=0 by omega),e]
 simp only [Bool.true_and,Bool.and_assoc]
theorem fld1 (x y:Int) (w:World):(Instr.field 104 (.agg #[.int .i64 x,.int .i64 y]) 1).run Tryz.prog w=.ok (.int .i64 y) w:=by kernel_rfl
def Fv (W:World) (b d:Nat) (F R:Int) (l:List Int) (A:Option Addr) (c:Nat) (bl:Bool) (ca:Nat) (ps ha fu:Int):Prop :=
 Bx8 W b F R (.slice A l.length c) bl ca ps ha fu/\(W.cell? ⟨d,0,none⟩=some (.int .i64 F)/\W.cell? ⟨d,1,none⟩=some (.int .i64 R)/\W.cell? ⟨d,2,none⟩=some (.slice A l.length c))/\RdP W W.heap.size A l c
theorem Fv.below {W W':World} {b d:Nat} {F R:Int} {l:List Int} {A:Option Addr} {c:Nat} {bl:Bool} {ca:Nat} {ps ha fu:Int} (h:Fv W b d F R l A c bl ca ps ha fu) (hb:Below W.heap.size W W'):Fv W' b d F R l A c bl ca ps ha fu :=
 ⟨h.1.below hb h.1.lt,⟨cBo hb h.2.1.1,cBo hb h.2.1.2.1,cBo hb h.2.1.2.2⟩,rdBo hb h.2.2⟩
theorem rKind_o (p:Int) (h:orB p=true) (w:World):Calls Tryz.prog 65 #[.int .i8 p] w fun e w'=>e=.returned (.int .i8 (kdP p))/\w=w':=by
 by_cases h0:p=0
 ·subst h0
  exact rKind_pos 0 (by omega) w
 ·unfold orB at h
  rw [beq_eq_false_iff_ne.2 h0,Bool.false_or] at h
  exact rKind_or p h w
theorem orA_at6 {l:List Int} (h:orA l=true) {k:Nat} (hk:k<l.length):orB (l[k]?.getD 0)=true:=by
 rw [List.getElem?_eq_getElem hk]
 exact List.all_eq_true.1 h _ (List.getElem_mem hk)
theorem rValid_any (F R:Int) (l:List Int) (A:Option Addr) (c:Nat) (bl:Bool) (ca:Nat) (ps ha fu:Int) (hca:ca<256) (hlen:l.length<=100000) (w:World) (hA:RdP w w.heap.size A l c) :
  Calls Tryz.prog 19 #[.agg #[.int .i64 F,.int .i64 R,.slice A l.length c,.bool bl,.int .u8 (ca:Int),.int .i64 ps,.int .i64 ha,.int .i64 fu]] w fun e w'=>e=.returned (.bool (okPo ⟨F,R,l,bl,ca,ps,ha,fu⟩))/\Below w.heap.size w w':=by
 have HO:=Lib.hid (fun w hA=>rOrth_any F R l A c w hlen hA)
 have HAL:=Lib.hid hA
 have HCA:=Lib.hid hca
 clear hA hca
 go_enter Tryz.func19,Tryz.ntmps19
 go_wp2_with fail
 refine (rOf_any F R l A c bl ca ps ha fu _).mono ?_
 rintro e w1 ⟨rfl,hb1⟩
 have F2:Fv (w1.alloc (.cells #[.int .i64 F,.int .i64 R,.slice A l.length c] 97)) w.heap.size w1.heap.size F R l A c bl ca ps ha fu:=by
  have hx:=(box8 w F R (.slice A l.length c) bl ca ps ha fu).below hb1 (by simp)
  exact ⟨hx.below (box1 _ _) hx.lt,⟨by simp [go_sem],by simp [go_sem],by simp [go_sem]⟩,rdBo (box1 _ _) (rdBo hb1 (rdBo (box1 _ _) HAL.out))⟩
 have hB2:Below w.heap.size w (w1.alloc (.cells #[.int .i64 F,.int .i64 R,.slice A l.length c] 97)):=after1 (hb1.alloc hb1.size _)
 clear hb1
 go_wp2_with fail
 refine (HO.out _ F2.2.2).mono ?_
 rintro e w3 ⟨rfl,hb3⟩
 have F3:=F2.below hb3
 have hB3:=chain hB2 hb3
 clear F2 hB2 hb3 HO HAL
 generalize hol:(vbdB F R l && orA l)=ol at *
 have HOL:=Lib.hid hol
 clear hol
 obtain ⟨⟨⟨x0,x1,x2,x3,x4,x5,x6,x7⟩,xf⟩,⟨y0,y1,y2⟩,_⟩:=id F3
 cases ol with
 | false =>
  go_wp2
  go_ret
  exact ⟨ret_bool (okPo_no1 HOL.out).symm,hB3⟩
 | true =>
  have hvo:vbd F R l/\orA l=true:=by
   have:=HOL.out
   rw [Bool.and_eq_true] at this
   exact ⟨vbdB_iff.1 this.1,this.2⟩
  have hl64:l.length<=64:=by have:=(vsz_mul hvo.1.1).2;have:=hvo.1.2.1;omega
  have HVO:=Lib.hid hvo
  have HK:=Lib.hid (fun bl w hA=>rKing_any F R l A c bl w hl64 hA)
  clear hvo
  go_wp2_with fail
  refine (HK.out false _ F3.2.2).mono ?_
  rintro e w4 ⟨rfl,hb4⟩
  have F4:=F3.below hb4
  have hB4:=chain hB3 hb4
  clear x0 x1 x2 x3 x4 x5 x6 x7 xf y0 y1 y2 F3 hB3 hb4
  obtain ⟨⟨⟨x0,x1,x2,x3,x4,x5,x6,x7⟩,xf⟩,⟨y0,y1,y2⟩,_⟩:=id F4
  generalize hk0:kingV l false=k0 at *
  have HK0:=Lib.hid hk0
  clear hk0
  by_cases hc0:k0<0
  ·have HC:=Lib.hid hc0
   go_wp2
   go_ret
   exact ⟨ret_bool (okPo_no2 (by rw [HK0.out];exact HC.out)).symm,hB4⟩
  ·have hc0':0<=k0:=by omega
   clear hc0
   go_wp2_with fail
   refine (HK.out true _ F4.2.2).mono ?_
   rintro e w5 ⟨rfl,hb5⟩
   have F5:=F4.below hb5
   have hB5:=chain hB4 hb5
   clear x0 x1 x2 x3 x4 x5 x6 x7 xf y0 y1 y2 F4 hB4 hb5
   obtain ⟨⟨⟨x0,x1,x2,x3,x4,x5,x6,x7⟩,xf⟩,⟨y0,y1,y2⟩,_⟩:=id F5
   generalize hk1:kingV l true=k1 at *
   have HK1:=Lib.hid hk1
   clear hk1
   by_cases hc1:k1<0
   ·have HC:=Lib.hid hc1
    go_wp2
    go_ret
    exact ⟨ret_bool (okPo_no3 (by rw [HK1.out];exact HC.out)).symm,hB5⟩
   ·have hc1':0<=k1:=by omega
    have hkk:0<=kingV l (!bl):=by
     cases bl with
     | false=>rw [show (!false)=true from rfl,HK1.out];exact hc1'
     | true=>rw [show (!true)=false from rfl,HK0.out];exact hc0'
    have HCH:=Lib.hid (fun w hA=>rChk_any F R l A c (!bl) w HVO.out.1 HVO.out.2 hkk hA)
    clear hc1 hkk HK
    go_wp2_with fail
    refine (HCH.out _ F5.2.2).mono ?_
    rintro e w6 ⟨rfl,hb6⟩
    have F6:=F5.below hb6
    have hB6:=chain hB5 hb6
    clear x0 x1 x2 x3 x4 x5 x6 x7 xf y0 y1 y2 F5 hB5 hb6 HCH
    obtain ⟨⟨⟨x0,x1,x2,x3,x4,x5,x6,x7⟩,xf⟩,⟨y0,y1,y2⟩,_⟩:=id F6
    generalize hch:decide (0<(atkL F R l (kingV l (!bl)) (!!bl)).length)=ch at *
    have HCH:=Lib.hid hch
    clear hch
    cases ch with
    | true =>
     go_wp2
     go_ret
     exact ⟨ret_bool (okPo_no4 HCH.out).symm,hB6⟩
    | false =>
     go_wp2
     have HC0:=Lib.hid hc0'
     have HC1:=Lib.hid hc1'
     clear hc0' hc1'
     go_loopw [4] (fun i wr=>∃ k:Nat,k<=l.length/\i=.int .i64 k/\(∀ j,j<k->poPw F R l j=false)/\Below w6.heap.size w6 wr) (fun i _=>l.length - (intOf i).toNat)
     case atStart=>exact ⟨0,by omega,rfl,fun j hj=>absurd hj (by omega),Below.refl _ _⟩
     case round =>
      obtain ⟨k,hk,rfl,hgood,hB⟩:=hrel
      have F7:=F6.below hB
      have hB7:=chain hB6 hB
      have HBr:=Lib.hid hB
      clear x0 x1 x2 x3 x4 x5 x6 x7 xf y0 y1 y2 hB F6 hB6
      obtain ⟨⟨⟨x0,x1,x2,x3,x4,x5,x6,x7⟩,xf⟩,⟨y0,y1,y2⟩,_⟩:=id F7
      by_cases hlt:k<l.length
      ·obtain ⟨ad,rfl,_,hc⟩:=F7.2.2.at_ hlt
       have hor:=orA_at6 HVO.out.2 hlt
       have hva:vat F R (k:Int):=⟨HVO.out.1.1,by omega,by have:=HVO.out.1.2.1;omega⟩
       have HP:Hid (poPw F R l k=(kdP (l[k]?.getD 0) == 1 && (k:Int) / F == lastR R (decide (l[k]?.getD 0<0)))):=Lib.hid rfl
       have HN:Hid (poPw F R l k=false->∀ j,j<k+1->poPw F R l j=false):=Lib.hid fun h j hj=>by
        rcases Nat.lt_or_ge j k with hj2 | hj2
        ·exact hgood j hj2
        ·have:j=k:=by omega
         subst this;exact h
       have H5:=Lib.hid (fun h=>okPo_no5 (F:=F) (R:=R) (l:=l) (bl:=bl) (ca:=ca) (ps:=ps) (ha:=ha) (fu:=fu) hlt h)
       clear hgood
       generalize hpp:l[k]?.getD 0=p at *
       clear hpp
       have cK:∀ d os,Calls Tryz.prog 65 #[.int .i8 p] (grow (redrawn wr d) os) fun e w''=>e=.returned (.int .i8 (kdP p))/\∃ q:Regrown,w''=grow (redrawn wr q.d) q.os:=fun d os=>Calls.regrown_of ((rKind_o p hor _).mono fun _ _ h=>⟨h.1,by rw [<- h.2];exact Below.refl _ _⟩)
       have cP:∀ d os,Calls Tryz.prog 66 #[.agg #[.int .i64 F,.int .i64 R],.int .i64 (k:Int)] (grow (redrawn wr d) os) fun e w''=>e=.returned (.agg #[.int .i64 ((k:Int) % F),.int .i64 ((k:Int) / F)])/\∃ q:Regrown,w''=grow (redrawn wr q.d) q.os:=fun d os=>Calls.regrown_of (refPlace_any F R (k:Int) hva _)
       have cL:∀ d os,Calls Tryz.prog 67 #[.agg #[.int .i64 F,.int .i64 R],.bool (decide (p<0))] (grow (redrawn wr d) os) fun e w''=>e=.returned (.int .i64 (lastR R (decide (p<0))))/\∃ q:Regrown,w''=grow (redrawn wr q.d) q.os:=fun d os=>Calls.regrown_of (rLast_any F R HVO.out.1.1 (decide (p<0)) _)
       generalize kdP p=kd at *
       generalize lastR R (decide (p<0))=la at *
       generalize poPw F R l k=pw at *
       have q0:=cell_regrown x0
       have q1:=cell_regrown x1
       have q2:=cell_regrown x2
       have qc:=cell_regrown hc
       have hfl:=fun w'=>fld1 ((k:Int) % F) ((k:Int) / F) w'
       clear hor hva hc
       by_cases hkd:kd=1
       ·have v1:(kd == 1)=true:=beq_iff_eq.2 hkd
        rw [v1,Bool.true_and] at HP
        clear hkd
        by_cases hla:(k:Int) / F=la
        ·have v2:((k:Int) / F == la)=true:=beq_iff_eq.2 hla
         rw [v2] at HP
         clear hla
         go_wp2_with fail
         refine wp_region_quiet_below (by kernel_rfl) (by kernel_rfl) ?_
         repeat (go_big_quiet_step (first | (go_at_call 65;exact cK _ _) | (go_at_call 66;exact cP _ _) | (go_at_call 67;exact cL _ _)))
         refine wpQuiet_nil ?_
         rintro _ ⟨⟨dq,osq⟩,rfl⟩
         go_wp2
         go_ret
         exact ⟨ret_bool (H5.out HP.out).symm,chain hB7 (below_regrown _ dq osq)⟩
        ·have v2:((k:Int) / F == la)=false:=beq_eq_false_iff_ne.2 hla
         rw [v2] at HP
         have hpw:=HP.out
         subst hpw
         clear hla
         go_wp2_with fail
         refine wp_region_quiet_below (by kernel_rfl) (by kernel_rfl) ?_
         repeat (go_big_quiet_step (first | (go_at_call 65;exact cK _ _) | (go_at_call 66;exact cP _ _) | (go_at_call 67;exact cL _ _)))
         refine wpQuiet_nil ?_
         rintro _ ⟨⟨dq,osq⟩,rfl⟩
         go_wp2
         go_roundw
         case rel=>exact ⟨k+1,by omega,by go_num,HN.out (by first | rfl | trivial),chain HBr.out (below_regrown _ dq osq)⟩
         case measure=>simp [intOf];omega
       ·have v1:(kd == 1)=false:=beq_eq_false_iff_ne.2 hkd
        rw [v1,Bool.false_and] at HP
        have hpw:=HP.out
        subst hpw
        clear hkd
        go_wp2_with fail
        refine wp_region_quiet_below (by kernel_rfl) (by kernel_rfl) ?_
        repeat (go_big_quiet_step (first | (go_at_call 65;exact cK _ _) | (go_at_call 66;exact cP _ _) | (go_at_call 67;exact cL _ _)))
        refine wpQuiet_nil ?_
        rintro _ ⟨⟨dq,osq⟩,rfl⟩
        go_wp2
        go_roundw
        case rel=>exact ⟨k+1,by omega,by go_num,HN.out (by first | rfl | trivial),chain HBr.out (below_regrown _ dq osq)⟩
        case measure=>simp [intOf];omega
      ·have hkl:k=l.length:=by omega
       subst hkl
       have HFIN:=Lib.hid (okPo_fin (ca:=ca) (ps:=ps) (ha:=ha) (fu:=fu) HOL.out (by rw [HK0.out];exact HC0.out) (by rw [HK1.out];exact HC1.out) HCH.out hgood)
       have HCS:=Lib.hid (fun w hA=>rCas_any F R l A c bl ca ps ha fu HCA.out (fun hF hR=>by have:=HVO.out.1.2.1;subst hF hR;omega) w hA)
       have HPS:=Lib.hid (fun w hA=>rPas_any F R l A c bl ca ps ha fu HVO.out.1 w hA)
       clear hgood
       go_wp2_with fail
       refine (HCS.out _ F7.2.2).mono ?_
       rintro e w8 ⟨rfl,hb8⟩
       have F8:=F7.below hb8
       have hB8:=chain hB7 hb8
       clear x0 x1 x2 x3 x4 x5 x6 x7 xf y0 y1 y2 F7 hB7 hb8 HCS
       obtain ⟨⟨⟨x0,x1,x2,x3,x4,x5,x6,x7⟩,xf⟩,⟨y0,y1,y2⟩,_⟩:=id F8
       generalize poCas F R l ca=cs at *
       cases cs with
       | false =>
        go_wp2
        go_ret
        exact ⟨ret_bool HFIN.out.symm,hB8⟩
       | true =>
        go_wp2_with fail
        refine (HPS.out _ F8.2.2).mono ?_
        rintro e w9 ⟨rfl,hb9⟩
        have F9:=F8.below hb9
        have hB9:=chain hB8 hb9
        clear x0 x1 x2 x3 x4 x5 x6 x7 xf y0 y1 y2 F8 hB8 hb9 HPS
        obtain ⟨⟨⟨x0,x1,x2,x3,x4,x5,x6,x7⟩,xf⟩,⟨y0,y1,y2⟩,_⟩:=id F9
        generalize poPas F R l bl ps ha=pp at *
        cases pp with
        | false =>
         go_wp2
         go_ret
         exact ⟨ret_bool HFIN.out.symm,hB9⟩
        | true =>
         rw [Bool.true_and,Bool.true_and] at HFIN
         by_cases a1:0<=ha
         ·by_cases a2:ha<=10000
          ·by_cases a3:1<=fu
           ·have HE:=Lib.hid (HFIN.out.trans (show _=decide (fu<=10000) by simp [a1,a2,a3]))
            go_wp2
            go_ret
            exact ⟨ret_bool HE.out.symm,hB9⟩
           ·have HE:=Lib.hid (HFIN.out.trans (show _=false by simp [a3]))
            have a3':fu<1:=by omega
            clear a3
            go_wp2
            go_ret
            exact ⟨ret_bool HE.out.symm,hB9⟩
          ·have HE:=Lib.hid (HFIN.out.trans (show _=false by simp [a2]))
           have a2':10000<ha:=by omega
           clear a2
           go_wp2
           go_ret
           exact ⟨ret_bool HE.out.symm,hB9⟩
         ·have HE:=Lib.hid (HFIN.out.trans (show _=false by simp [a1]))
          have a1':ha<0:=by omega
          clear a1
          go_wp2
          go_ret
          exact ⟨ret_bool HE.out.symm,hB9⟩
end Go.Proofs.YtbccbgonlmkpkaaGreatDoor
