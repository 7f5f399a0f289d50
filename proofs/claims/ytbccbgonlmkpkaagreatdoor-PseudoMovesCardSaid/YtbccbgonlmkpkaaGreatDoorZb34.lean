/- What the theorem needs, piece Zb34. -/
import Derived.Deep.RegionHeld3
import Derived.Deep.DeepCutAuto
import Derived.Test.YtbccbgonlmkpkaaGreatDoorZb07
import Derived.Test.YtbccbgonlmkpkaaGreatDoorZb05
import Derived.Test.YtbccbgonlmkpkaaGreatDoorZb06
import Derived.Test.YtbccbgonlmkpkaaGreatDoorZb27
import Derived.Test.YtbccbgonlmkpkaaGreatDoorZb33
set_option linter.unusedSimpArgs false
set_option linter.unusedVariables false
set_option maxRecDepth 100000
set_option maxHeartbeats 16000000
namespace Go.Proofs.YtbccbgonlmkpkaaGreatDoor
open Go.RowKit Go.Sort
def ParsedD (w:World) (o:Option Po) (e:Ending) (w':World):Prop :=
 match o with
 | none=>e=.returned (.tuple #[.agg #[.int .i64 0,.int .i64 0,.slice none 0 0,.bool false,.int .u8 0,.int .i64 0,.int .i64 0,.int .i64 0],.bool false])/\Below w.heap.size w w'
 | some p=>∃ v,e=.returned (.tuple #[.agg #[.int .i64 p.F,.int .i64 p.R,v,.bool p.bl,.int .u8 (p.ca:Int),.int .i64 p.ps,.int .i64 p.ha,.int .i64 p.fu],.bool true])/\w'.ownsRow w.heap.size 28 1 v p.l.length (vpcs p.l)/\Below w.heap.size w w'
theorem ParsedD.no {w w':World} {o:Option Po} (h:o=none) (hb:Below w.heap.size w w'):ParsedD w o (.returned (.tuple #[.agg #[.int .i64 0,.int .i64 0,.slice none 0 0,.bool false,.int .u8 0,.int .i64 0,.int .i64 0,.int .i64 0],.bool false])) w':=by
 subst h
 exact ⟨rfl,hb⟩
theorem ParsedD.yes {w w':World} {o:Option Po} {F R:Int} {l:List Int} {bl:Bool} {ca:Nat} {ps ha fu:Int} {v:Value} (h:o=some ⟨F,R,l,bl,ca,ps,ha,fu⟩) (ho:w'.ownsRow w.heap.size 28 1 v l.length (vpcs l)) (hb:Below w.heap.size w w'):ParsedD w o (.returned (.tuple #[.agg #[.int .i64 F,.int .i64 R,v,.bool bl,.int .u8 (ca:Int),.int .i64 ps,.int .i64 ha,.int .i64 fu],.bool true])) w':=by
 subst h
 exact ⟨_,rfl,ho,hb⟩
def rdW (w0 w1 w2 w3 w4 w5 w6:List UInt8):Option Po :=
  if w2≠[119]/\w2≠[98] then none else
  match parseB w1 with
  | none=>none
  | some (f,r,l) =>
   if w0≠szL (f:Int) (r:Int) then none else
   match casV w3 with
   | none=>none
   | some ca =>
    match psV (f:Int) (r:Int) w4 with
    | none=>none
    | some ps=>if okPo ⟨f,r,l,w2 == [98],ca,ps,nmbV w5,nmbV w6⟩ then some ⟨f,r,l,w2 == [98],ca,ps,nmbV w5,nmbV w6⟩ else none
theorem rdPo_7 {L:List UInt8} {w0 w1 w2 w3 w4 w5 w6:List UInt8} (h:wds L=[w0,w1,w2,w3,w4,w5,w6]):rdPo L=rdW w0 w1 w2 w3 w4 w5 w6:=by
 unfold rdPo
 rw [h]
 rfl
theorem rdPo_n {L:List UInt8} (h:(wds L).length≠7):rdPo L=none:=by
 unfold rdPo
 split
 ·rename_i hw
  rw [hw] at h
  exact absurd rfl h
 ·rfl
section
variable {w0 w1 w2 w3 w4 w5 w6:List UInt8} {f r:Nat} {l:List Int}
theorem rdW_sd (h1:w2≠[119]) (h2:w2≠[98]):rdW w0 w1 w2 w3 w4 w5 w6=none:=by
 unfold rdW
 rw [if_pos ⟨h1,h2⟩]
theorem rdW_nb (h:parseB w1=none):rdW w0 w1 w2 w3 w4 w5 w6=none:=by
 unfold rdW
 rw [h]
 split <;> rfl
theorem rdW_sz (h:parseB w1=some (f,r,l)) (h0:w0≠szL (f:Int) (r:Int)):rdW w0 w1 w2 w3 w4 w5 w6=none:=by
 unfold rdW
 rw [h]
 dsimp only
 rw [if_pos h0]
 split <;> rfl
theorem rdW_ca (h:parseB w1=some (f,r,l)) (h3:casV w3=none):rdW w0 w1 w2 w3 w4 w5 w6=none:=by
 unfold rdW
 rw [h,h3]
 dsimp only
 split
 ·rfl
 ·split <;> rfl
theorem rdW_ps (h:parseB w1=some (f,r,l)) (h4:psV (f:Int) (r:Int) w4=none):rdW w0 w1 w2 w3 w4 w5 w6=none:=by
 unfold rdW
 rw [h]
 dsimp only
 split
 ·rfl
 ·split
  ·rfl
  ·split
   ·rfl
   ·rw [h4]
theorem rdW_in {ca:Nat} {ps:Int} (h2:¬ (w2≠[119]/\w2≠[98])) (h:parseB w1=some (f,r,l)) (h0:w0=szL (f:Int) (r:Int)) (h3:casV w3=some ca) (h4:psV (f:Int) (r:Int) w4=some ps) :
  rdW w0 w1 w2 w3 w4 w5 w6=if okPo ⟨f,r,l,w2 == [98],ca,ps,nmbV w5,nmbV w6⟩ then some ⟨f,r,l,w2 == [98],ca,ps,nmbV w5,nmbV w6⟩ else none:=by
 unfold rdW
 rw [if_neg h2,h]
 dsimp only
 rw [if_neg (by simpa using h0),h3]
 dsimp only
 rw [h4]
end
def W7 (W:World) (g:Nat) (y0 y1 y2 y3 y4 y5 y6:ByteArray):Prop :=
 W.cell? ⟨g,0,none⟩=some (.string y0)/\W.cell? ⟨g,1,none⟩=some (.string y1)/\W.cell? ⟨g,2,none⟩=some (.string y2)/\W.cell? ⟨g,3,none⟩=some (.string y3)/\W.cell? ⟨g,4,none⟩=some (.string y4)/\W.cell? ⟨g,5,none⟩=some (.string y5)/\W.cell? ⟨g,6,none⟩=some (.string y6)
theorem W7.below {W W':World} {g:Nat} {y0 y1 y2 y3 y4 y5 y6:ByteArray} (h:W7 W g y0 y1 y2 y3 y4 y5 y6) (hb:Below W.heap.size W W'):W7 W' g y0 y1 y2 y3 y4 y5 y6 :=
 ⟨cBo hb h.1,cBo hb h.2.1,cBo hb h.2.2.1,cBo hb h.2.2.2.1,cBo hb h.2.2.2.2.1,cBo hb h.2.2.2.2.2.1,cBo hb h.2.2.2.2.2.2⟩
def Bel (V W:World):Prop:=Below V.heap.size V W
theorem keep7 {V W W':World} {g k:Nat} {y2 y5 y6:ByteArray} {z0 z1 z2:Value} (h:(W.cell? ⟨g,2,none⟩=some (.string y2)/\W.cell? ⟨g,5,none⟩=some (.string y5)/\W.cell? ⟨g,6,none⟩=some (.string y6))/\(W.cell? ⟨k,0,none⟩=some z0/\W.cell? ⟨k,1,none⟩=some z1/\W.cell? ⟨k,2,none⟩=some z2)/\Bel V W) (hb:Below W.heap.size W W') :
  (W'.cell? ⟨g,2,none⟩=some (.string y2)/\W'.cell? ⟨g,5,none⟩=some (.string y5)/\W'.cell? ⟨g,6,none⟩=some (.string y6))/\(W'.cell? ⟨k,0,none⟩=some z0/\W'.cell? ⟨k,1,none⟩=some z1/\W'.cell? ⟨k,2,none⟩=some z2)/\Bel V W' :=
 ⟨⟨cBo hb h.1.1,cBo hb h.1.2.1,cBo hb h.1.2.2⟩,⟨cBo hb h.2.1.1,cBo hb h.2.1.2.1,cBo hb h.2.1.2.2⟩,Below.trans h.2.2 (hb.mono (Below.size h.2.2))⟩
theorem Bel.of {a b:Prop} {V W:World} (h:a/\b/\Bel V W):Below V.heap.size V W:=h.2.2
def Belm (V W:World) (b:Nat) (v0 v1 v2 v3 v4 v5 v6 v7:Value):Prop:=Bel V ((((((((W.setCell ⟨b,0,none⟩ v0).setCell ⟨b,1,none⟩ v1).setCell ⟨b,2,none⟩ v2).setCell ⟨b,3,none⟩ v3).setCell ⟨b,4,none⟩ v4).setCell ⟨b,5,none⟩ v5).setCell ⟨b,6,none⟩ v6).setCell ⟨b,7,none⟩ v7)
theorem Bel.mark {V W:World} {b:Nat} {v0 v1 v2 v3 v4 v5 v6 v7:Value}:Bel V ((((((((W.setCell ⟨b,0,none⟩ v0).setCell ⟨b,1,none⟩ v1).setCell ⟨b,2,none⟩ v2).setCell ⟨b,3,none⟩ v3).setCell ⟨b,4,none⟩ v4).setCell ⟨b,5,none⟩ v5).setCell ⟨b,6,none⟩ v6).setCell ⟨b,7,none⟩ v7)=Belm V W b v0 v1 v2 v3 v4 v5 v6 v7:=rfl
theorem keep7s {V W:World} {b g k:Nat} {y2 y5 y6:ByteArray} {z0 z1 z2:Value} (h:(V.cell? ⟨g,2,none⟩=some (.string y2)/\V.cell? ⟨g,5,none⟩=some (.string y5)/\V.cell? ⟨g,6,none⟩=some (.string y6))/\(V.cell? ⟨k,0,none⟩=some z0/\V.cell? ⟨k,1,none⟩=some z1/\V.cell? ⟨k,2,none⟩=some z2)/\Bel V V) (hb:Below V.heap.size V W) (hbb:V.heap.size<=b) (v0 v1 v2 v3 v4 v5 v6 v7:Value) :
  (World.cell? ((((((((W.setCell ⟨b,0,none⟩ v0).setCell ⟨b,1,none⟩ v1).setCell ⟨b,2,none⟩ v2).setCell ⟨b,3,none⟩ v3).setCell ⟨b,4,none⟩ v4).setCell ⟨b,5,none⟩ v5).setCell ⟨b,6,none⟩ v6).setCell ⟨b,7,none⟩ v7) ⟨g,2,none⟩=some (.string y2)/\World.cell? ((((((((W.setCell ⟨b,0,none⟩ v0).setCell ⟨b,1,none⟩ v1).setCell ⟨b,2,none⟩ v2).setCell ⟨b,3,none⟩ v3).setCell ⟨b,4,none⟩ v4).setCell ⟨b,5,none⟩ v5).setCell ⟨b,6,none⟩ v6).setCell ⟨b,7,none⟩ v7) ⟨g,5,none⟩=some (.string y5)/\World.cell? ((((((((W.setCell ⟨b,0,none⟩ v0).setCell ⟨b,1,none⟩ v1).setCell ⟨b,2,none⟩ v2).setCell ⟨b,3,none⟩ v3).setCell ⟨b,4,none⟩ v4).setCell ⟨b,5,none⟩ v5).setCell ⟨b,6,none⟩ v6).setCell ⟨b,7,none⟩ v7) ⟨g,6,none⟩=some (.string y6))/\(World.cell? ((((((((W.setCell ⟨b,0,none⟩ v0).setCell ⟨b,1,none⟩ v1).setCell ⟨b,2,none⟩ v2).setCell ⟨b,3,none⟩ v3).setCell ⟨b,4,none⟩ v4).setCell ⟨b,5,none⟩ v5).setCell ⟨b,6,none⟩ v6).setCell ⟨b,7,none⟩ v7) ⟨k,0,none⟩=some z0/\World.cell? ((((((((W.setCell ⟨b,0,none⟩ v0).setCell ⟨b,1,none⟩ v1).setCell ⟨b,2,none⟩ v2).setCell ⟨b,3,none⟩ v3).setCell ⟨b,4,none⟩ v4).setCell ⟨b,5,none⟩ v5).setCell ⟨b,6,none⟩ v6).setCell ⟨b,7,none⟩ v7) ⟨k,1,none⟩=some z1/\World.cell? ((((((((W.setCell ⟨b,0,none⟩ v0).setCell ⟨b,1,none⟩ v1).setCell ⟨b,2,none⟩ v2).setCell ⟨b,3,none⟩ v3).setCell ⟨b,4,none⟩ v4).setCell ⟨b,5,none⟩ v5).setCell ⟨b,6,none⟩ v6).setCell ⟨b,7,none⟩ v7) ⟨k,2,none⟩=some z2)/\Belm V W b v0 v1 v2 v3 v4 v5 v6 v7 :=
 keep7 h (below8 hb hbb v0 v1 v2 v3 v4 v5 v6 v7)
theorem yb8 {X u:World} (h:Below (X.alloc (.cells #[.int .i64 0,.int .i64 0,.slice none 0 0,.bool false,.int .u8 0,.int .i64 0,.int .i64 0,.int .i64 0] 26)).heap.size (X.alloc (.cells #[.int .i64 0,.int .i64 0,.slice none 0 0,.bool false,.int .u8 0,.int .i64 0,.int .i64 0,.int .i64 0] 26)) u):Bx8 u X.heap.size 0 0 (.slice none 0 0) false 0 0 0 0 :=
 (show Bx8 (X.alloc (.cells #[.int .i64 0,.int .i64 0,.slice none 0 0,.bool false,.int .u8 0,.int .i64 0,.int .i64 0,.int .i64 0] 26)) X.heap.size 0 0 (.slice none 0 0) false 0 0 0 0 from box8 X 0 0 (.slice none 0 0) false 0 0 0 0).below h (by simp)
theorem yb8d {X u:World} (h:Below (X.alloc (.cells #[.int .i64 0,.int .i64 0,.slice none 0 0,.bool false,.int .u8 0,.int .i64 0,.int .i64 0,.int .i64 0] 26)).drew.heap.size (X.alloc (.cells #[.int .i64 0,.int .i64 0,.slice none 0 0,.bool false,.int .u8 0,.int .i64 0,.int .i64 0,.int .i64 0] 26)).drew u):Bx8 u X.heap.size 0 0 (.slice none 0 0) false 0 0 0 0 :=
 (show Bx8 (X.alloc (.cells #[.int .i64 0,.int .i64 0,.slice none 0 0,.bool false,.int .u8 0,.int .i64 0,.int .i64 0,.int .i64 0] 26)).drew X.heap.size 0 0 (.slice none 0 0) false 0 0 0 0 from box8 X 0 0 (.slice none 0 0) false 0 0 0 0).below h (by simp)
theorem bxCa {W:World} {b:Nat} {F R:Int} {v:Value} {bl:Bool} {ca:Nat} {ps ha fu:Int} (h:Bx8 W b F R v bl ca ps ha fu) (n:Nat):Bx8 (W.setCell ⟨b,4,none⟩ (.int .u8 (n:Int))) b F R v bl n ps ha fu:=by
 obtain ⟨⟨x0,x1,x2,x3,x4,x5,x6,x7⟩,xf⟩:=h
 refine ⟨⟨?_,?_,?_,?_,?_,?_,?_,?_⟩,fun o=>?_⟩ <;> simp [go_sem,x0,x1,x2,x3,x4,x5,x6,x7,xf]
theorem bxPs {W:World} {b:Nat} {F R:Int} {v:Value} {bl:Bool} {ca:Nat} {ps ha fu:Int} (h:Bx8 W b F R v bl ca ps ha fu) (n:Int):Bx8 (W.setCell ⟨b,5,none⟩ (.int .i64 n)) b F R v bl ca n ha fu:=by
 obtain ⟨⟨x0,x1,x2,x3,x4,x5,x6,x7⟩,xf⟩:=h
 refine ⟨⟨?_,?_,?_,?_,?_,?_,?_,?_⟩,fun o=>?_⟩ <;> simp [go_sem,x0,x1,x2,x3,x4,x5,x6,x7,xf]
theorem row_at {W:World} {B e g cap:Nat} {ts:List (List UInt8)} (h:W.ownsRow B e 1 (.slice (some ⟨g,0,none⟩) ts.length cap) ts.length (vstrs ts)) {k:Nat} {t:List UInt8} (hk:ts[k]?=some t):W.cell? ⟨g,k,none⟩=some (.string (bsL t)):=by
 have hl:=(List.getElem?_eq_some_iff.1 hk).1
 rw [h.cellAt k (by omega)]
 simp [vstrs,vstr,hk]
theorem rParseP_any (s:ByteArray) (hs:s.size<=200) (w:World) :
  Calls Tryz.prog 89 #[.string s] w (ParsedD w (rdPo s.data.toList)):=by
 have hB0:=box1 w (.cells #[.int .i64 0,.int .i64 0,.slice none 0 0,.bool false,.int .u8 0,.int .i64 0,.int .i64 0,.int .i64 0] 26)
 have hX0:Bx8 (w.alloc (.cells #[.int .i64 0,.int .i64 0,.slice none 0 0,.bool false,.int .u8 0,.int .i64 0,.int .i64 0,.int .i64 0] 26)) w.heap.size 0 0 (.slice none 0 0) false 0 0 0 0:=box8 w 0 0 (.slice none 0 0) false 0 0 0 0
 have HL:Hid (s.data.toList.length=s.size):=Lib.hid (by rw [Array.length_toList];rfl)
 have hlen:=wdT_len s.data.toList s.data.toList.length (Nat.le_refl _)
 have heach:=Lib.hid (wdT_each s.data.toList s.data.toList.length (Nat.le_refl _))
 go_enter Tryz.func89,Tryz.ntmps89
 go_wp2_with fail
 refine (rSplit_any s hs _).mono ?_
 rintro e w1 ⟨v,rfl,hown,hb1⟩
 have hX:=hX0.below hb1 hX0.lt
 have hB:=after1 hb1
 clear hX0 hB0 hb1
 obtain ⟨ts,hts⟩:∃ ts,wds s.data.toList=ts:=⟨_,rfl⟩
 have HTS:=Lib.hid hts
 have hlen':1<=ts.length/\ts.length<=201:=by
  rw [<- hts]
  have:=HL.out
  show 1<=(wdT s.data.toList s.data.toList.length).length/\(wdT s.data.toList s.data.toList.length).length<=201
  omega
 have heach':∀ t∈ts,t.length<=200:=by
  intro t ht
  rw [<- hts] at ht
  have h1:=heach.out t ht
  have h2:=HL.out
  omega
 rw [hts] at hown
 clear hts hlen heach
 obtain ⟨g,cap,rfl⟩:=Joins.ownsRow_form hown (by omega)
 by_cases h7:ts.length=7
 ·obtain ⟨t0,t1,t2,t3,t4,t5,t6,rfl⟩:∃ t0 t1 t2 t3 t4 t5 t6,ts=[t0,t1,t2,t3,t4,t5,t6]:=by
   match ts,h7 with
   | [t0,t1,t2,t3,t4,t5,t6],_=>exact ⟨t0,t1,t2,t3,t4,t5,t6,rfl⟩
  have hW:W7 w1 g (bsL t0) (bsL t1) (bsL t2) (bsL t3) (bsL t4) (bsL t5) (bsL t6):=⟨row_at (k:=0) hown rfl,row_at (k:=1) hown rfl,row_at (k:=2) hown rfl,row_at (k:=3) hown rfl,row_at (k:=4) hown rfl,row_at (k:=5) hown rfl,row_at (k:=6) hown rfl⟩
  have HRD:=Lib.hid (rdPo_7 HTS.out)
  have l0:(bsL t0).size<=200:=by rw [bsL_size];exact heach' t0 (by simp)
  have l1:(bsL t1).size<=200:=by rw [bsL_size];exact heach' t1 (by simp)
  have l3:(bsL t3).size<=200:=by rw [bsL_size];exact heach' t3 (by simp)
  have l4:(bsL t4).size<=200:=by rw [bsL_size];exact heach' t4 (by simp)
  have l5:(bsL t5).size<=200:=by rw [bsL_size];exact heach' t5 (by simp)
  have l6:(bsL t6).size<=200:=by rw [bsL_size];exact heach' t6 (by simp)
  have hown1:=hown
  clear hown hown1 heach' hlen' h7 HTS
  simp only [List.length_cons,List.length_nil,Nat.zero_add,Nat.reduceAdd]
  have n2:=bsL_ne t2
  have HPB:=Lib.hid (fun w=>rParse_bd (bsL t1) l1 w)
  rw [bsL_toList] at HPB
  by_cases h119:t2=[119]
  rotate_left
  by_cases h98:t2=[98]
  rotate_left
  focus
   have c1:(t2 == [119])=false:=beq_eq_false_iff_ne.2 h119
   have c2:(t2 == [98])=false:=beq_eq_false_iff_ne.2 h98
   obtain ⟨g0,g1,g2,g3,g4,g5,g6⟩:=id hW
   have HNO:Hid (rdPo s.data.toList=none):=Lib.hid (by rw [HRD.out];exact rdW_sd h119 h98)
   have HNP:=Lib.hid (ParsedD.no HNO.out (below8 hB (Nat.le_refl _) (.int .i64 0) (.int .i64 0) (.slice none 0 0) (.bool false) (.int .u8 0) (.int .i64 0) (.int .i64 0) (.int .i64 0)))
   obtain ⟨⟨x0,x1,x2,x3,x4,x5,x6,x7⟩,xf⟩:=id hX
   clear hB hX HNO
   go_upto_region 3 with fail
   repeat (first | go_values | go_skip | go_guarded | go_step | go_upon | go_in)
   have hR:=HNP.out
   try dsimp only [Exit.then]
   apply bodyPost_ret (v:=.tuple #[.agg #[.int .i64 0,.int .i64 0,.slice none 0 0,.bool false,.int .u8 0,.int .i64 0,.int .i64 0,.int .i64 0],.bool false])
   rotate_left
   ·rfl
   ·exact hR
   simp [results,Tryz.results89,go_sem,x0,x1,x2,x3,x4,x5,x6,x7]
  focus
   have hsd:¬ (t2≠[119]/\t2≠[98]):=by first | exact fun h=>h.1 h119 | exact fun h=>h.2 h98
   first | (subst h119;have hbl:Hid ((([119]:List UInt8) == [98])=false):=Lib.hid rfl) | (subst h98;have hbl:Hid ((([98]:List UInt8) == [98])=true):=Lib.hid rfl)
   have HSD:=Lib.hid hsd
   clear hsd
   obtain ⟨g0,g1,g2,g3,g4,g5,g6⟩:=id hW
   go_wp2_with fail
   refine (HPB.out _).mono ?_
   intro e w2 hP
   cases hpb:parseB t1 with
   | none =>
    rw [hpb] at hP
    obtain ⟨rfl,hb2⟩:=hP
    have bx:=box1 w2 (.cells #[.int .i64 0,.int .i64 0,.slice none 0 0] 97)
    replace hX:=(hX.below hb2 hX.lt).below bx (hX.below hb2 hX.lt).lt
    replace hB:=chain (chain hB hb2) bx
    clear g0 g1 g2 g3 g4 g5 g6 hb2 bx hW
    obtain ⟨V,hV⟩:∃ V,w2.alloc (.cells #[.int .i64 0,.int .i64 0,.slice none 0 0] 97)=V:=⟨_,rfl⟩
    rw [hV] at hX hB
    have HV:=Lib.hid hV
    clear hV
    go_upto_region 5 with fail
    rw [HV.out]
    refine wp_region_quiet_below (by kernel_rfl) (by kernel_rfl) ?_
    repeat (go_big_quiet_step (fail))
    refine wpQuiet_nil ?_
    rintro _ ⟨⟨dq,osq⟩,rfl⟩
    have bq:=below_regrown V dq osq
    replace hX:=hX.below bq hX.lt
    replace hB:=chain hB bq
    clear bq HV
    generalize Go.Sort.grow (redrawn V dq) osq=w3 at *
    have HNO:Hid (rdPo s.data.toList=none):=Lib.hid (by rw [HRD.out];exact rdW_nb hpb)
    have HNP:=Lib.hid (ParsedD.no HNO.out (below8 hB (Nat.le_refl _) (.int .i64 0) (.int .i64 0) (.slice none 0 0) (.bool false) (.int .u8 0) (.int .i64 0) (.int .i64 0) (.int .i64 0)))
    obtain ⟨⟨x0,x1,x2,x3,x4,x5,x6,x7⟩,xf⟩:=id hX
    clear hB hX HNO HPB
    go_upto_region 6 with fail
    repeat (first | go_values | go_skip | go_guarded | go_step | go_upon | go_in)
    have hR:=HNP.out
    try dsimp only [Exit.then]
    apply bodyPost_ret (v:=.tuple #[.agg #[.int .i64 0,.int .i64 0,.slice none 0 0,.bool false,.int .u8 0,.int .i64 0,.int .i64 0,.int .i64 0],.bool false])
    rotate_left
    ·rfl
    ·exact hR
    simp [results,Tryz.results89,go_sem,x0,x1,x2,x3,x4,x5,x6,x7]
   | some q =>
    obtain ⟨f,r,l⟩:=q
    rw [hpb] at hP
    obtain ⟨v,rfl,hown,hb2⟩:=hP
    obtain ⟨A,c2,rfl,hcap,hA⟩:=RdP.own hown
    obtain ⟨f0,f1,r0,r1,hl,_,_⟩:=text_parse hpb
    have hvs:vsz (f:Int) (r:Int):=⟨by omega,by omega,by omega,by omega⟩
    have hl64:l.length<=64:=by rw [hl];exact Nat.mul_le_mul r1 f1
    have hbase:w.heap.size<w1.heap.size:=hX.lt
    have bx:=box1 w2 (.cells #[.int .i64 (f:Int),.int .i64 (r:Int),.slice A l.length c2] 97)
    have k0:(w2.alloc (.cells #[.int .i64 (f:Int),.int .i64 (r:Int),.slice A l.length c2] 97)).cell? ⟨w2.heap.size,0,none⟩=some (.int .i64 (f:Int)):=by simp [go_sem]
    have k1:(w2.alloc (.cells #[.int .i64 (f:Int),.int .i64 (r:Int),.slice A l.length c2] 97)).cell? ⟨w2.heap.size,1,none⟩=some (.int .i64 (r:Int)):=by simp [go_sem]
    have k2:(w2.alloc (.cells #[.int .i64 (f:Int),.int .i64 (r:Int),.slice A l.length c2] 97)).cell? ⟨w2.heap.size,2,none⟩=some (.slice A l.length c2):=by simp [go_sem]
    replace hX:=(hX.below hb2 hX.lt).below bx (hX.below hb2 hX.lt).lt
    replace hB:=chain (chain hB hb2) bx
    replace hW:=(hW.below hb2).below bx
    replace hA:=rdBo bx hA
    replace hown:=own_below hown bx
    obtain ⟨V,hV⟩:∃ V,w2.alloc (.cells #[.int .i64 (f:Int),.int .i64 (r:Int),.slice A l.length c2] 97)=V:=⟨_,rfl⟩
    rw [hV] at k0 k1 k2 hX hB hW hA hown
    have HV:=Lib.hid hV
    clear hV bx hb2 g0 g1 g2 g3 g4 g5 g6 HPB hl
    obtain ⟨g0,g1,g2,g3,g4,g5,g6⟩:=id hW
    have q0:=cell_regrown g0
    have qa:=cell_regrown k0
    have qb:=cell_regrown k1
    have b1:=dec_len (n:=f) (by omega)
    have b2:=dec_len (n:=r) (by omega)
    have cA:=Lib.hid (fun d os=>Calls.regrown_of (rDec f (by omega) (grow (redrawn V d) os)))
    have cB:=Lib.hid (fun d os=>Calls.regrown_of (rDec r (by omega) (grow (redrawn V d) os)))
    have z1:(bsL (dec f)).size<=5:=by rw [bsL_size];omega
    have z2:(bsL (dec r)).size<=5:=by rw [bsL_size];omega
    have z3:(bsL (dec f) ++ (⟨#[120]⟩:ByteArray)).size<=6:=by rw [ByteArray.size_append];show _+1<=_;omega
    have HSZ:Hid ((bsL (dec f) ++ (⟨#[120]⟩:ByteArray) ++ bsL (dec r)).toList=szL (f:Int) (r:Int)):=Lib.hid (by
     rw [show (⟨#[120]⟩:ByteArray)=bsL [120] from rfl,bsL_append,bsL_append,bsL_ne]
     unfold szL
     rw [Int.toNat_natCast,Int.toNat_natCast]
     simp)
    have n0:=bsL_ne t0
    clear b1 b2 f0 f1 r0 r1
    generalize bsL (dec f)=s1 at *
    generalize bsL (dec r)=s2 at *
    go_upto_region 5 with fail
    rw [HV.out]
    clear HV
    refine wp_region_quiet_below (by kernel_rfl) (by kernel_rfl) ?_
    repeat (go_big_quiet_step (first | (go_at_call_has 91 (Value.int .i64 (f:Int));exact cA.out _ _) | (go_at_call_has 91 (Value.int .i64 (r:Int));exact cB.out _ _)))
    refine wpQuiet_nil ?_
    rintro _ ⟨⟨dq,osq⟩,rfl⟩
    have bq:=below_regrown V dq osq
    replace hX:=hX.below bq hX.lt
    replace hB:=chain hB bq
    replace hW:=hW.below bq
    replace hA:=rdBo bq hA
    replace hown:=own_below hown bq
    replace k0:=cBo bq k0
    replace k1:=cBo bq k1
    replace k2:=cBo bq k2
    clear bq q0 qa qb cA cB g0 g1 g2 g3 g4 g5 g6 z1 z2 z3
    generalize Go.Sort.grow (redrawn V dq) osq=w3 at *
    obtain ⟨sz,hsz⟩:∃ sz,szL (f:Int) (r:Int)=sz:=⟨_,rfl⟩
    have HSZ2:=Lib.hid hsz
    have hs12:Hid ((s1 ++ (⟨#[120]⟩:ByteArray) ++ s2).toList=sz):=Lib.hid (by rw [<- hsz];exact HSZ.out)
    clear hsz HSZ
    obtain ⟨g0,g1,g2,g3,g4,g5,g6⟩:=id hW
    by_cases h0:t0=sz
    rotate_left
    focus
     have c0:(t0 == (s1 ++ (⟨#[120]⟩:ByteArray) ++ s2).toList)=false:=by rw [hs12.out];exact beq_eq_false_iff_ne.2 h0
     have c0':(!t0 == (s1 ++ (⟨#[120]⟩:ByteArray) ++ s2).toList)=true:=by rw [c0];rfl
     rw [c0']
     have HNO:Hid (rdPo s.data.toList=none):=Lib.hid (by rw [HRD.out];exact rdW_sz hpb (by rw [HSZ2.out];exact h0))
     have HNP:=Lib.hid (ParsedD.no HNO.out (below8 hB (Nat.le_refl _) (.int .i64 0) (.int .i64 0) (.slice none 0 0) (.bool false) (.int .u8 0) (.int .i64 0) (.int .i64 0) (.int .i64 0)))
     obtain ⟨⟨x0,x1,x2,x3,x4,x5,x6,x7⟩,xf⟩:=id hX
     clear hB hX HNO
     go_upto_region 6 with fail
     repeat (first | go_values | go_skip | go_guarded | go_step | go_upon | go_in)
     have hR:=HNP.out
     try dsimp only [Exit.then]
     apply bodyPost_ret (v:=.tuple #[.agg #[.int .i64 0,.int .i64 0,.slice none 0 0,.bool false,.int .u8 0,.int .i64 0,.int .i64 0,.int .i64 0],.bool false])
     rotate_left
     ·rfl
     ·exact hR
     simp [results,Tryz.results89,go_sem,x0,x1,x2,x3,x4,x5,x6,x7]
    subst h0
    have c0:(t0 == (s1 ++ (⟨#[120]⟩:ByteArray) ++ s2).toList)=true:=by rw [hs12.out];exact beq_self_eq_true _
    have c0':(!t0 == (s1 ++ (⟨#[120]⟩:ByteArray) ++ s2).toList)=false:=by rw [c0];rfl
    rw [c0']
    have n3:=bsL_ne t3
    have n4:=bsL_ne t4
    have HN5:=Lib.hid (fun W=>rNumber_any (bsL t5) l5 W)
    have HN6:=Lib.hid (fun W=>rNumber_any (bsL t6) l6 W)
    have HC3:=Lib.hid (fun W=>rCastle_any (bsL t3) W)
    rw [bsL_toList] at HN5 HN6 HC3
    have hS:(w3.cell? ⟨g,2,none⟩=some (.string (bsL [119]))/\w3.cell? ⟨g,5,none⟩=some (.string (bsL t5))/\w3.cell? ⟨g,6,none⟩=some (.string (bsL t6)))/\(w3.cell? ⟨w2.heap.size,0,none⟩=some (.int .i64 (f:Int))/\w3.cell? ⟨w2.heap.size,1,none⟩=some (.int .i64 (r:Int))/\w3.cell? ⟨w2.heap.size,2,none⟩=some (.slice A l.length c2))/\Bel w3 w3:=⟨⟨g2,g5,g6⟩,⟨k0,k1,k2⟩,Below.refl _ _⟩
    obtain ⟨a5,ha5⟩:∃ a5,nmbV t5=a5:=⟨_,rfl⟩
    obtain ⟨a6,ha6⟩:∃ a6,nmbV t6=a6:=⟨_,rfl⟩
    have HA5:=Lib.hid ha5
    have HA6:=Lib.hid ha6
    rw [ha5] at HN5
    rw [ha6] at HN6
    clear ha5 ha6 g0 g1 g2 g3 g4 g5 g6 hs12
    go_upto_region 7 with fail
    go_cut [7] (fun s7 wx=>∃ b:Nat,s7=.pointer (some ⟨b,0,none⟩)/\w3.heap.size<=b/\Bx8 wx b (f:Int) (r:Int) (.slice A l.length c2) false 0 (-1) a5 a6/\Below w3.heap.size w3 wx)
    case first =>
     go_region_held3 (fun w'=>(w'.cell? ⟨g,2,none⟩=some (.string (bsL [119]))/\w'.cell? ⟨g,5,none⟩=some (.string (bsL t5))/\w'.cell? ⟨g,6,none⟩=some (.string (bsL t6)))/\(w'.cell? ⟨w2.heap.size,0,none⟩=some (.int .i64 (f:Int))/\w'.cell? ⟨w2.heap.size,1,none⟩=some (.int .i64 (r:Int))/\w'.cell? ⟨w2.heap.size,2,none⟩=some (.slice A l.length c2))/\Bel w3 w')
      (first | (simp only [Bel.mark];refine keep7s hS ?_ ?_ _ _ _ _ _ _ _ _ <;> first | (exact Bel.of (by assumption)) | (exact (Bel.of (by assumption)).drew) | exact Nat.le_refl _ | (have e1:=hc1.size;have e2:=hc2.size;simp at e1 e2 ⊢;omega)) | assumption | exact keep7 (by assumption) (by assumption) | exact keep7 (by assumption) ((Below.refl _ _).drew) | exact keep7 (by assumption) (box1 _ _) | exact keep7 (keep7 (keep7 hS ((Below.refl _ _).drew)) hc1) hc2 | exact keep7 (keep7 (keep7 hS ((Below.refl _ _).drew)) hc2) hc1 | exact keep7 (keep7 (keep7 (keep7 hS ((Below.refl _ _).drew)) hc1) hc2) (box1 _ _) | exact keep7 (keep7 (keep7 (keep7 hS ((Below.refl _ _).drew)) hc2) hc1) (box1 _ _))
      (first
       | (go_at_call_has 152 (Value.string (bsL t5));refine (HN5.out _).mono ?_;rintro e u1 ⟨rfl,hc1⟩;try (first | (have yz1:=yz2.below hc1 yz2.lt) | (have yz1:=yb8d hc1) | (have yz1:=yb8 hc1));try (obtain ⟨⟨e0,e1,e2,e3,e4,e5,e6,e7⟩,ef⟩:=id yz1))
       | (go_at_call_has 152 (Value.string (bsL t6));refine (HN6.out _).mono ?_;rintro e u2 ⟨rfl,hc2⟩;try (first | (have yz2:=yz1.below hc2 yz1.lt) | (have yz2:=yb8d hc2) | (have yz2:=yb8 hc2));try (obtain ⟨⟨e0,e1,e2,e3,e4,e5,e6,e7⟩,ef⟩:=id yz2)))
     all_goals
      go_wp2_with fail
      (conv=>arg 2;simp [Act.put])
      go_meet
      case rel =>
       refine ⟨_,rfl,?_,?_,?_⟩
       ·first | exact Nat.le_refl _ | (have e1:=hc1.size;have e2:=hc2.size;simp at e1 e2 ⊢;omega)
       ·first | exact st8 yz2 _ _ _ _ 0 _ _ _ | exact st8 yz1 _ _ _ _ 0 _ _ _ | exact box8 _ _ _ _ _ 0 _ _ _
       ·exact Bel.of (by assumption)
    case rest =>
     obtain ⟨b,rfl,hbb,hbx,hbw⟩:=hcut
     have HX3:=Lib.hid hX
     have HB3:=Lib.hid hB
     have HW3:=Lib.hid hW
     have HA3:=Lib.hid hA
     have HO3:=Lib.hid hown
     clear hX hB hW hA hown hS HN5 HN6
     obtain ⟨g0,g1,g2,g3,g4,g5,g6⟩:=HW3.out.below hbw
     go_wp2_with fail
     refine (HC3.out _).mono ?_
     rintro e w5 ⟨rfl,hb5⟩
     replace hbw:=chain hbw hb5
     replace hbx:=hbx.below hb5 hbx.lt
     clear g0 g1 g2 g3 g4 g5 g6 hb5 HC3
     cases hca:casV t3 with
     | none =>
      have hcn:casN t3=-1:=by unfold casN;rw [hca]
      rw [hcn]
      have hX:=HX3.out.below hbw HX3.out.lt
      have hB:=chain HB3.out hbw
      have HNO:Hid (rdPo s.data.toList=none):=Lib.hid (by rw [HRD.out];exact rdW_ca hpb hca)
      have HNP:=Lib.hid (ParsedD.no HNO.out (below8 hB (Nat.le_refl _) (.int .i64 0) (.int .i64 0) (.slice none 0 0) (.bool false) (.int .u8 0) (.int .i64 0) (.int .i64 0) (.int .i64 0)))
      obtain ⟨⟨x0,x1,x2,x3,x4,x5,x6,x7⟩,xf⟩:=id hX
      clear hB hX HNO
      go_upto_region 10 with fail
      repeat (first | go_values | go_skip | go_guarded | go_step | go_upon | go_in)
      have hR:=HNP.out
      try dsimp only [Exit.then]
      apply bodyPost_ret (v:=.tuple #[.agg #[.int .i64 0,.int .i64 0,.slice none 0 0,.bool false,.int .u8 0,.int .i64 0,.int .i64 0,.int .i64 0],.bool false])
      rotate_left
      ·rfl
      ·exact hR
      simp [results,Tryz.results89,go_sem,x0,x1,x2,x3,x4,x5,x6,x7]
     | some ca =>
      have hca15:=(casV_yes hca).1
      have hcn:casN t3=(ca:Int):=by unfold casN;rw [hca]
      rw [hcn]
      obtain ⟨⟨z0,z1,z2,z3,z4,z5,z6,z7⟩,zf⟩:=id hbx
      have hbx6:=bxCa hbx ca
      have hbw6:=hbw.setCell (p:=⟨b,4,none⟩) hbb (.int .u8 (ca:Int))
      obtain ⟨g0,g1,g2,g3,g4,g5,g6⟩:=HW3.out.below hbw6
      by_cases h45:t4=[45]
      ·have e45:(t4 == [45])=true:=by rw [h45];rfl
       have e45':(!t4 == [45])=false:=by rw [e45];rfl
       have HV:=Lib.hid (rValid_any (f:Int) (r:Int) l A c2 false ca (-1) a5 a6 (by omega) (by omega) _ (rdBo hbw6 HA3.out))
       clear hbx hbw
       have hbx:=hbx6
       have hbw:=hbw6
       clear hbx6 hbw6
       obtain ⟨⟨u0,u1,u2,u3,u4,u5,u6,u7⟩,uf⟩:=id hbx
       have HPV:=Lib.hid (show psV (f:Int) (r:Int) t4=some (-1) by unfold psV;rw [if_pos h45])
       clear h45
       cases hok:okPo ⟨(f:Int),(r:Int),l,false,ca,-1,a5,a6⟩ with
       | false =>
        rw [hok] at HV
        go_wp2_with fail
        refine HV.out.mono ?_
        rintro e w8 ⟨rfl,hb8⟩
        replace hbw:=chain hbw hb8
        have hX:=HX3.out.below hbw HX3.out.lt
        have hB:=chain HB3.out hbw
        clear z0 z1 z2 z3 z4 z5 z6 z7 zf hb8 hbx
        have HNO:Hid (rdPo s.data.toList=none):=Lib.hid (by rw [HRD.out,rdW_in HSD.out hpb HSZ2.out.symm hca (HPV.out),hbl.out,HA5.out,HA6.out,hok];rfl)
        have HNP:=Lib.hid (ParsedD.no HNO.out (below8 hB (Nat.le_refl _) (.int .i64 0) (.int .i64 0) (.slice none 0 0) (.bool false) (.int .u8 0) (.int .i64 0) (.int .i64 0) (.int .i64 0)))
        obtain ⟨⟨x0,x1,x2,x3,x4,x5,x6,x7⟩,xf⟩:=id hX
        clear hB hX HNO
        go_upto_region 17 with fail
        repeat (first | go_values | go_skip | go_guarded | go_step | go_upon | go_in)
        have hR:=HNP.out
        try dsimp only [Exit.then]
        apply bodyPost_ret (v:=.tuple #[.agg #[.int .i64 0,.int .i64 0,.slice none 0 0,.bool false,.int .u8 0,.int .i64 0,.int .i64 0,.int .i64 0],.bool false])
        rotate_left
        ·rfl
        ·exact hR
        simp [results,Tryz.results89,go_sem,x0,x1,x2,x3,x4,x5,x6,x7]
       | true =>
        rw [hok] at HV
        go_wp2_with fail
        refine HV.out.mono ?_
        rintro e w8 ⟨rfl,hb8⟩
        replace hbw:=chain hbw hb8
        have hbx8:=hbx.below hb8 hbx.lt
        have hX:=HX3.out.below hbw HX3.out.lt
        have hB:=chain HB3.out hbw
        have hown:=own_below HO3.out hbw
        clear z0 z1 z2 z3 z4 z5 z6 z7 zf hb8 hbx
        have HS:Hid (rdPo s.data.toList=some ⟨(f:Int),(r:Int),l,false,ca,-1,a5,a6⟩):=Lib.hid (by rw [HRD.out,rdW_in HSD.out hpb HSZ2.out.symm hca (HPV.out),hbl.out,HA5.out,HA6.out,hok];rfl)
        have HNP:=Lib.hid (ParsedD.yes HS.out ((own8 hown (b:=w.heap.size) hbase (.int .i64 (f:Int)) (.int .i64 (r:Int)) (.slice A l.length c2) (.bool false) (.int .u8 (ca:Int)) (.int .i64 (-1)) (.int .i64 a5) (.int .i64 a6)).mono (Nat.le_of_lt hbase)) (below8 hB (Nat.le_refl _) (.int .i64 (f:Int)) (.int .i64 (r:Int)) (.slice A l.length c2) (.bool false) (.int .u8 (ca:Int)) (.int .i64 (-1)) (.int .i64 a5) (.int .i64 a6)))
        obtain ⟨⟨x0,x1,x2,x3,x4,x5,x6,x7⟩,xf⟩:=id hX
        obtain ⟨⟨z0,z1,z2,z3,z4,z5,z6,z7⟩,zf⟩:=id hbx8
        clear hB hX hown HS hbw
        go_upto_region 18 with fail
        repeat (first | go_values | go_skip | go_guarded | go_step | go_upon | go_in)
        have hR:=HNP.out
        try dsimp only [Exit.then]
        apply bodyPost_ret (v:=.tuple #[.agg #[.int .i64 (f:Int),.int .i64 (r:Int),.slice A l.length c2,.bool false,.int .u8 (ca:Int),.int .i64 (-1),.int .i64 a5,.int .i64 a6],.bool true])
        rotate_left
        ·rfl
        ·exact hR
        simp [results,Tryz.results89,go_sem,x0,x1,x2,x3,x4,x5,x6,x7]
      ·have e45:(t4 == [45])=false:=beq_eq_false_iff_ne.2 h45
       have e45':(!t4 == [45])=true:=by rw [e45];rfl
       have HPV:=Lib.hid (show psV (f:Int) (r:Int) t4=sqV (f:Int) (r:Int) t4 by unfold psV;rw [if_neg h45])
       obtain ⟨n,hn⟩:∃ n,(match sqV (f:Int) (r:Int) t4 with | none=>(-1:Int) | some n=>n)=n:=⟨_,rfl⟩
       have HR:Hid (∀ W:World,Calls Tryz.prog 136 #[.agg #[.int .i64 (f:Int),.int .i64 (r:Int)],.string (bsL t4)] W fun e w'=>e=.returned (.int .i64 n)/\Below W.heap.size W w'):=Lib.hid (fun W=>by
        cases hsq:sqV (f:Int) (r:Int) t4 with
        | none =>
         rw [hsq] at hn
         subst hn
         exact refParse_no (f:Int) (r:Int) (bsL t4) hvs (fun a ha e=>sqV_no hsq a ha (by rw [e,bsL_toList])) W
        | some m =>
         rw [hsq] at hn
         subst hn
         obtain ⟨q1,q2⟩:=sqV_yes hvs hsq
         exact refParse_yes (f:Int) (r:Int) m (bsL t4) q1 (by rw [<- q2,bsL_of]) W)
       go_upto_region 13 with fail
       generalize hW6:w5.setCell ⟨b,4,none⟩ (.int .u8 (ca:Int))=W6 at *
       clear hbx hbw z0 z1 z2 z3 z4 z5 z6 z7 zf hW6
       have hbx:=hbx6
       have hbw:=hbw6
       clear hbx6 hbw6
       obtain ⟨⟨z0,z1,z2,z3,z4,z5,z6,z7⟩,zf⟩:=id hbx
       have hgb:g<b:=Nat.lt_of_lt_of_le (World.block_lt_of_cell? _ _ HW3.out.1) hbb
       have hS:(W6.cell? ⟨g,4,none⟩=some (.string (bsL t4)))/\(W6.cell? ⟨b,0,none⟩=some (.int .i64 (f:Int))/\W6.cell? ⟨b,1,none⟩=some (.int .i64 (r:Int))/\W6.frozen? ⟨b,5,none⟩=false)/\Bel w3 W6:=⟨g4,⟨z0,z1,zf 5⟩,hbw⟩
       clear g0 g1 g2 g3 g4 g5 g6 z0 z1 z2 z3 z4 z5 z6 z7 zf
       go_cut [7] (fun s7 wx=>s7=.pointer (some ⟨b,0,none⟩)/\Bx8 wx b (f:Int) (r:Int) (.slice A l.length c2) false ca n a5 a6/\Below w3.heap.size w3 wx)
       case first =>
        obtain ⟨⟨z0,z1,z2,z3,z4,z5,z6,z7⟩,zf⟩:=id hbx
        obtain ⟨g4,_,_⟩:=id hS
        go_region_with ((first | (go_at_call 136;refine (HR.out _).mono ?_;rintro e u1 ⟨rfl,hc1⟩;have hbx1:Bx8 u1 b (f:Int) (r:Int) (.slice A l.length c2) false ca (-1) a5 a6:=(by first | exact hbx.below hc1 hbx.lt | exact (show Bx8 W6.drew b (f:Int) (r:Int) (.slice A l.length c2) false ca (-1) a5 a6 from hbx).below hc1 hbx.lt);obtain ⟨⟨p0,p1,p2,p3,p4,p5,p6,p7⟩,pf⟩:=id hbx1)))
        all_goals
         go_wp2_with fail
         (conv=>arg 2;simp [Act.put])
         go_meet
         case rel =>
          refine ⟨rfl,bxPs hbx1 n,?_⟩
          first | exact (chain hbw hc1).setCell (p:=⟨b,5,none⟩) hbb _ | exact (chain hbw.drew hc1).setCell (p:=⟨b,5,none⟩) hbb _
       case rest =>
        obtain ⟨rfl,hbx,hbw⟩:=hcut
        clear hS HR
        obtain ⟨⟨z0,z1,z2,z3,z4,z5,z6,z7⟩,zf⟩:=id hbx
        have HV:=Lib.hid (rValid_any (f:Int) (r:Int) l A c2 false ca n a5 a6 (by omega) (by omega) _ (rdBo hbw HA3.out))
        rcases hsq:sqV (f:Int) (r:Int) t4 with _ | m
        ·rw [hsq] at hn HPV
         replace hn:n=-1:=hn.symm
         subst hn
         have hX:=HX3.out.below hbw HX3.out.lt
         have hB:=chain HB3.out hbw
         clear hbx
         have HNO:Hid (rdPo s.data.toList=none):=Lib.hid (by rw [HRD.out];exact rdW_ps hpb HPV.out)
         have HNP:=Lib.hid (ParsedD.no HNO.out (below8 hB (Nat.le_refl _) (.int .i64 0) (.int .i64 0) (.slice none 0 0) (.bool false) (.int .u8 0) (.int .i64 0) (.int .i64 0) (.int .i64 0)))
         obtain ⟨⟨x0,x1,x2,x3,x4,x5,x6,x7⟩,xf⟩:=id hX
         clear hB hX HNO
         go_upto_region 15 with fail
         repeat (first | go_values | go_skip | go_guarded | go_step | go_upon | go_in)
         have hR:=HNP.out
         try dsimp only [Exit.then]
         apply bodyPost_ret (v:=.tuple #[.agg #[.int .i64 0,.int .i64 0,.slice none 0 0,.bool false,.int .u8 0,.int .i64 0,.int .i64 0,.int .i64 0],.bool false])
         rotate_left
         ·rfl
         ·exact hR
         simp [results,Tryz.results89,go_sem,x0,x1,x2,x3,x4,x5,x6,x7]
        ·rw [hsq] at hn HPV
         replace hn:n=m:=hn.symm
         subst hn
         have hm0:=(sqV_yes hvs hsq).1.2.1
         clear hsq
         cases hok:okPo ⟨(f:Int),(r:Int),l,false,ca,n,a5,a6⟩ with
         | false =>
          rw [hok] at HV
          go_wp2_with fail
          refine HV.out.mono ?_
          rintro e w8 ⟨rfl,hb8⟩
          replace hbw:=chain hbw hb8
          have hX:=HX3.out.below hbw HX3.out.lt
          have hB:=chain HB3.out hbw
          clear z0 z1 z2 z3 z4 z5 z6 z7 zf hb8 hbx
          have HNO:Hid (rdPo s.data.toList=none):=Lib.hid (by rw [HRD.out,rdW_in HSD.out hpb HSZ2.out.symm hca (HPV.out),hbl.out,HA5.out,HA6.out,hok];rfl)
          have HNP:=Lib.hid (ParsedD.no HNO.out (below8 hB (Nat.le_refl _) (.int .i64 0) (.int .i64 0) (.slice none 0 0) (.bool false) (.int .u8 0) (.int .i64 0) (.int .i64 0) (.int .i64 0)))
          obtain ⟨⟨x0,x1,x2,x3,x4,x5,x6,x7⟩,xf⟩:=id hX
          clear hB hX HNO
          go_upto_region 17 with fail
          repeat (first | go_values | go_skip | go_guarded | go_step | go_upon | go_in)
          have hR:=HNP.out
          try dsimp only [Exit.then]
          apply bodyPost_ret (v:=.tuple #[.agg #[.int .i64 0,.int .i64 0,.slice none 0 0,.bool false,.int .u8 0,.int .i64 0,.int .i64 0,.int .i64 0],.bool false])
          rotate_left
          ·rfl
          ·exact hR
          simp [results,Tryz.results89,go_sem,x0,x1,x2,x3,x4,x5,x6,x7]
         | true =>
          rw [hok] at HV
          go_wp2_with fail
          refine HV.out.mono ?_
          rintro e w8 ⟨rfl,hb8⟩
          replace hbw:=chain hbw hb8
          have hbx8:=hbx.below hb8 hbx.lt
          have hX:=HX3.out.below hbw HX3.out.lt
          have hB:=chain HB3.out hbw
          have hown:=own_below HO3.out hbw
          clear z0 z1 z2 z3 z4 z5 z6 z7 zf hb8 hbx
          have HS:Hid (rdPo s.data.toList=some ⟨(f:Int),(r:Int),l,false,ca,n,a5,a6⟩):=Lib.hid (by rw [HRD.out,rdW_in HSD.out hpb HSZ2.out.symm hca (HPV.out),hbl.out,HA5.out,HA6.out,hok];rfl)
          have HNP:=Lib.hid (ParsedD.yes HS.out ((own8 hown (b:=w.heap.size) hbase (.int .i64 (f:Int)) (.int .i64 (r:Int)) (.slice A l.length c2) (.bool false) (.int .u8 (ca:Int)) (.int .i64 n) (.int .i64 a5) (.int .i64 a6)).mono (Nat.le_of_lt hbase)) (below8 hB (Nat.le_refl _) (.int .i64 (f:Int)) (.int .i64 (r:Int)) (.slice A l.length c2) (.bool false) (.int .u8 (ca:Int)) (.int .i64 n) (.int .i64 a5) (.int .i64 a6)))
          obtain ⟨⟨x0,x1,x2,x3,x4,x5,x6,x7⟩,xf⟩:=id hX
          obtain ⟨⟨z0,z1,z2,z3,z4,z5,z6,z7⟩,zf⟩:=id hbx8
          clear hB hX hown HS hbw
          go_upto_region 18 with fail
          repeat (first | go_values | go_skip | go_guarded | go_step | go_upon | go_in)
          have hR:=HNP.out
          try dsimp only [Exit.then]
          apply bodyPost_ret (v:=.tuple #[.agg #[.int .i64 (f:Int),.int .i64 (r:Int),.slice A l.length c2,.bool false,.int .u8 (ca:Int),.int .i64 n,.int .i64 a5,.int .i64 a6],.bool true])
          rotate_left
          ·rfl
          ·exact hR
          simp [results,Tryz.results89,go_sem,x0,x1,x2,x3,x4,x5,x6,x7]
  focus
   have hsd:¬ (t2≠[119]/\t2≠[98]):=by first | exact fun h=>h.1 h119 | exact fun h=>h.2 h98
   first | (subst h119;have hbl:Hid ((([119]:List UInt8) == [98])=false):=Lib.hid rfl) | (subst h98;have hbl:Hid ((([98]:List UInt8) == [98])=true):=Lib.hid rfl)
   have HSD:=Lib.hid hsd
   clear hsd
   obtain ⟨g0,g1,g2,g3,g4,g5,g6⟩:=id hW
   go_wp2_with fail
   refine (HPB.out _).mono ?_
   intro e w2 hP
   cases hpb:parseB t1 with
   | none =>
    rw [hpb] at hP
    obtain ⟨rfl,hb2⟩:=hP
    have bx:=box1 w2 (.cells #[.int .i64 0,.int .i64 0,.slice none 0 0] 97)
    replace hX:=(hX.below hb2 hX.lt).below bx (hX.below hb2 hX.lt).lt
    replace hB:=chain (chain hB hb2) bx
    clear g0 g1 g2 g3 g4 g5 g6 hb2 bx hW
    obtain ⟨V,hV⟩:∃ V,w2.alloc (.cells #[.int .i64 0,.int .i64 0,.slice none 0 0] 97)=V:=⟨_,rfl⟩
    rw [hV] at hX hB
    have HV:=Lib.hid hV
    clear hV
    go_upto_region 5 with fail
    rw [HV.out]
    refine wp_region_quiet_below (by kernel_rfl) (by kernel_rfl) ?_
    repeat (go_big_quiet_step (fail))
    refine wpQuiet_nil ?_
    rintro _ ⟨⟨dq,osq⟩,rfl⟩
    have bq:=below_regrown V dq osq
    replace hX:=hX.below bq hX.lt
    replace hB:=chain hB bq
    clear bq HV
    generalize Go.Sort.grow (redrawn V dq) osq=w3 at *
    have HNO:Hid (rdPo s.data.toList=none):=Lib.hid (by rw [HRD.out];exact rdW_nb hpb)
    have HNP:=Lib.hid (ParsedD.no HNO.out (below8 hB (Nat.le_refl _) (.int .i64 0) (.int .i64 0) (.slice none 0 0) (.bool false) (.int .u8 0) (.int .i64 0) (.int .i64 0) (.int .i64 0)))
    obtain ⟨⟨x0,x1,x2,x3,x4,x5,x6,x7⟩,xf⟩:=id hX
    clear hB hX HNO HPB
    go_upto_region 6 with fail
    repeat (first | go_values | go_skip | go_guarded | go_step | go_upon | go_in)
    have hR:=HNP.out
    try dsimp only [Exit.then]
    apply bodyPost_ret (v:=.tuple #[.agg #[.int .i64 0,.int .i64 0,.slice none 0 0,.bool false,.int .u8 0,.int .i64 0,.int .i64 0,.int .i64 0],.bool false])
    rotate_left
    ·rfl
    ·exact hR
    simp [results,Tryz.results89,go_sem,x0,x1,x2,x3,x4,x5,x6,x7]
   | some q =>
    obtain ⟨f,r,l⟩:=q
    rw [hpb] at hP
    obtain ⟨v,rfl,hown,hb2⟩:=hP
    obtain ⟨A,c2,rfl,hcap,hA⟩:=RdP.own hown
    obtain ⟨f0,f1,r0,r1,hl,_,_⟩:=text_parse hpb
    have hvs:vsz (f:Int) (r:Int):=⟨by omega,by omega,by omega,by omega⟩
    have hl64:l.length<=64:=by rw [hl];exact Nat.mul_le_mul r1 f1
    have hbase:w.heap.size<w1.heap.size:=hX.lt
    have bx:=box1 w2 (.cells #[.int .i64 (f:Int),.int .i64 (r:Int),.slice A l.length c2] 97)
    have k0:(w2.alloc (.cells #[.int .i64 (f:Int),.int .i64 (r:Int),.slice A l.length c2] 97)).cell? ⟨w2.heap.size,0,none⟩=some (.int .i64 (f:Int)):=by simp [go_sem]
    have k1:(w2.alloc (.cells #[.int .i64 (f:Int),.int .i64 (r:Int),.slice A l.length c2] 97)).cell? ⟨w2.heap.size,1,none⟩=some (.int .i64 (r:Int)):=by simp [go_sem]
    have k2:(w2.alloc (.cells #[.int .i64 (f:Int),.int .i64 (r:Int),.slice A l.length c2] 97)).cell? ⟨w2.heap.size,2,none⟩=some (.slice A l.length c2):=by simp [go_sem]
    replace hX:=(hX.below hb2 hX.lt).below bx (hX.below hb2 hX.lt).lt
    replace hB:=chain (chain hB hb2) bx
    replace hW:=(hW.below hb2).below bx
    replace hA:=rdBo bx hA
    replace hown:=own_below hown bx
    obtain ⟨V,hV⟩:∃ V,w2.alloc (.cells #[.int .i64 (f:Int),.int .i64 (r:Int),.slice A l.length c2] 97)=V:=⟨_,rfl⟩
    rw [hV] at k0 k1 k2 hX hB hW hA hown
    have HV:=Lib.hid hV
    clear hV bx hb2 g0 g1 g2 g3 g4 g5 g6 HPB hl
    obtain ⟨g0,g1,g2,g3,g4,g5,g6⟩:=id hW
    have q0:=cell_regrown g0
    have qa:=cell_regrown k0
    have qb:=cell_regrown k1
    have b1:=dec_len (n:=f) (by omega)
    have b2:=dec_len (n:=r) (by omega)
    have cA:=Lib.hid (fun d os=>Calls.regrown_of (rDec f (by omega) (grow (redrawn V d) os)))
    have cB:=Lib.hid (fun d os=>Calls.regrown_of (rDec r (by omega) (grow (redrawn V d) os)))
    have z1:(bsL (dec f)).size<=5:=by rw [bsL_size];omega
    have z2:(bsL (dec r)).size<=5:=by rw [bsL_size];omega
    have z3:(bsL (dec f) ++ (⟨#[120]⟩:ByteArray)).size<=6:=by rw [ByteArray.size_append];show _+1<=_;omega
    have HSZ:Hid ((bsL (dec f) ++ (⟨#[120]⟩:ByteArray) ++ bsL (dec r)).toList=szL (f:Int) (r:Int)):=Lib.hid (by
     rw [show (⟨#[120]⟩:ByteArray)=bsL [120] from rfl,bsL_append,bsL_append,bsL_ne]
     unfold szL
     rw [Int.toNat_natCast,Int.toNat_natCast]
     simp)
    have n0:=bsL_ne t0
    clear b1 b2 f0 f1 r0 r1
    generalize bsL (dec f)=s1 at *
    generalize bsL (dec r)=s2 at *
    go_upto_region 5 with fail
    rw [HV.out]
    clear HV
    refine wp_region_quiet_below (by kernel_rfl) (by kernel_rfl) ?_
    repeat (go_big_quiet_step (first | (go_at_call_has 91 (Value.int .i64 (f:Int));exact cA.out _ _) | (go_at_call_has 91 (Value.int .i64 (r:Int));exact cB.out _ _)))
    refine wpQuiet_nil ?_
    rintro _ ⟨⟨dq,osq⟩,rfl⟩
    have bq:=below_regrown V dq osq
    replace hX:=hX.below bq hX.lt
    replace hB:=chain hB bq
    replace hW:=hW.below bq
    replace hA:=rdBo bq hA
    replace hown:=own_below hown bq
    replace k0:=cBo bq k0
    replace k1:=cBo bq k1
    replace k2:=cBo bq k2
    clear bq q0 qa qb cA cB g0 g1 g2 g3 g4 g5 g6 z1 z2 z3
    generalize Go.Sort.grow (redrawn V dq) osq=w3 at *
    obtain ⟨sz,hsz⟩:∃ sz,szL (f:Int) (r:Int)=sz:=⟨_,rfl⟩
    have HSZ2:=Lib.hid hsz
    have hs12:Hid ((s1 ++ (⟨#[120]⟩:ByteArray) ++ s2).toList=sz):=Lib.hid (by rw [<- hsz];exact HSZ.out)
    clear hsz HSZ
    obtain ⟨g0,g1,g2,g3,g4,g5,g6⟩:=id hW
    by_cases h0:t0=sz
    rotate_left
    focus
     have c0:(t0 == (s1 ++ (⟨#[120]⟩:ByteArray) ++ s2).toList)=false:=by rw [hs12.out];exact beq_eq_false_iff_ne.2 h0
     have c0':(!t0 == (s1 ++ (⟨#[120]⟩:ByteArray) ++ s2).toList)=true:=by rw [c0];rfl
     rw [c0']
     have HNO:Hid (rdPo s.data.toList=none):=Lib.hid (by rw [HRD.out];exact rdW_sz hpb (by rw [HSZ2.out];exact h0))
     have HNP:=Lib.hid (ParsedD.no HNO.out (below8 hB (Nat.le_refl _) (.int .i64 0) (.int .i64 0) (.slice none 0 0) (.bool false) (.int .u8 0) (.int .i64 0) (.int .i64 0) (.int .i64 0)))
     obtain ⟨⟨x0,x1,x2,x3,x4,x5,x6,x7⟩,xf⟩:=id hX
     clear hB hX HNO
     go_upto_region 6 with fail
     repeat (first | go_values | go_skip | go_guarded | go_step | go_upon | go_in)
     have hR:=HNP.out
     try dsimp only [Exit.then]
     apply bodyPost_ret (v:=.tuple #[.agg #[.int .i64 0,.int .i64 0,.slice none 0 0,.bool false,.int .u8 0,.int .i64 0,.int .i64 0,.int .i64 0],.bool false])
     rotate_left
     ·rfl
     ·exact hR
     simp [results,Tryz.results89,go_sem,x0,x1,x2,x3,x4,x5,x6,x7]
    subst h0
    have c0:(t0 == (s1 ++ (⟨#[120]⟩:ByteArray) ++ s2).toList)=true:=by rw [hs12.out];exact beq_self_eq_true _
    have c0':(!t0 == (s1 ++ (⟨#[120]⟩:ByteArray) ++ s2).toList)=false:=by rw [c0];rfl
    rw [c0']
    have n3:=bsL_ne t3
    have n4:=bsL_ne t4
    have HN5:=Lib.hid (fun W=>rNumber_any (bsL t5) l5 W)
    have HN6:=Lib.hid (fun W=>rNumber_any (bsL t6) l6 W)
    have HC3:=Lib.hid (fun W=>rCastle_any (bsL t3) W)
    rw [bsL_toList] at HN5 HN6 HC3
    have hS:(w3.cell? ⟨g,2,none⟩=some (.string (bsL [98]))/\w3.cell? ⟨g,5,none⟩=some (.string (bsL t5))/\w3.cell? ⟨g,6,none⟩=some (.string (bsL t6)))/\(w3.cell? ⟨w2.heap.size,0,none⟩=some (.int .i64 (f:Int))/\w3.cell? ⟨w2.heap.size,1,none⟩=some (.int .i64 (r:Int))/\w3.cell? ⟨w2.heap.size,2,none⟩=some (.slice A l.length c2))/\Bel w3 w3:=⟨⟨g2,g5,g6⟩,⟨k0,k1,k2⟩,Below.refl _ _⟩
    obtain ⟨a5,ha5⟩:∃ a5,nmbV t5=a5:=⟨_,rfl⟩
    obtain ⟨a6,ha6⟩:∃ a6,nmbV t6=a6:=⟨_,rfl⟩
    have HA5:=Lib.hid ha5
    have HA6:=Lib.hid ha6
    rw [ha5] at HN5
    rw [ha6] at HN6
    clear ha5 ha6 g0 g1 g2 g3 g4 g5 g6 hs12
    go_upto_region 7 with fail
    go_cut [7] (fun s7 wx=>∃ b:Nat,s7=.pointer (some ⟨b,0,none⟩)/\w3.heap.size<=b/\Bx8 wx b (f:Int) (r:Int) (.slice A l.length c2) true 0 (-1) a5 a6/\Below w3.heap.size w3 wx)
    case first =>
     go_region_held3 (fun w'=>(w'.cell? ⟨g,2,none⟩=some (.string (bsL [98]))/\w'.cell? ⟨g,5,none⟩=some (.string (bsL t5))/\w'.cell? ⟨g,6,none⟩=some (.string (bsL t6)))/\(w'.cell? ⟨w2.heap.size,0,none⟩=some (.int .i64 (f:Int))/\w'.cell? ⟨w2.heap.size,1,none⟩=some (.int .i64 (r:Int))/\w'.cell? ⟨w2.heap.size,2,none⟩=some (.slice A l.length c2))/\Bel w3 w')
      (first | (simp only [Bel.mark];refine keep7s hS ?_ ?_ _ _ _ _ _ _ _ _ <;> first | (exact Bel.of (by assumption)) | (exact (Bel.of (by assumption)).drew) | exact Nat.le_refl _ | (have e1:=hc1.size;have e2:=hc2.size;simp at e1 e2 ⊢;omega)) | assumption | exact keep7 (by assumption) (by assumption) | exact keep7 (by assumption) ((Below.refl _ _).drew) | exact keep7 (by assumption) (box1 _ _) | exact keep7 (keep7 (keep7 hS ((Below.refl _ _).drew)) hc1) hc2 | exact keep7 (keep7 (keep7 hS ((Below.refl _ _).drew)) hc2) hc1 | exact keep7 (keep7 (keep7 (keep7 hS ((Below.refl _ _).drew)) hc1) hc2) (box1 _ _) | exact keep7 (keep7 (keep7 (keep7 hS ((Below.refl _ _).drew)) hc2) hc1) (box1 _ _))
      (first
       | (go_at_call_has 152 (Value.string (bsL t5));refine (HN5.out _).mono ?_;rintro e u1 ⟨rfl,hc1⟩;try (first | (have yz1:=yz2.below hc1 yz2.lt) | (have yz1:=yb8d hc1) | (have yz1:=yb8 hc1));try (obtain ⟨⟨e0,e1,e2,e3,e4,e5,e6,e7⟩,ef⟩:=id yz1))
       | (go_at_call_has 152 (Value.string (bsL t6));refine (HN6.out _).mono ?_;rintro e u2 ⟨rfl,hc2⟩;try (first | (have yz2:=yz1.below hc2 yz1.lt) | (have yz2:=yb8d hc2) | (have yz2:=yb8 hc2));try (obtain ⟨⟨e0,e1,e2,e3,e4,e5,e6,e7⟩,ef⟩:=id yz2)))
     all_goals
      go_wp2_with fail
      (conv=>arg 2;simp [Act.put])
      go_meet
      case rel =>
       refine ⟨_,rfl,?_,?_,?_⟩
       ·first | exact Nat.le_refl _ | (have e1:=hc1.size;have e2:=hc2.size;simp at e1 e2 ⊢;omega)
       ·first | exact st8 yz2 _ _ _ _ 0 _ _ _ | exact st8 yz1 _ _ _ _ 0 _ _ _ | exact box8 _ _ _ _ _ 0 _ _ _
       ·exact Bel.of (by assumption)
    case rest =>
     obtain ⟨b,rfl,hbb,hbx,hbw⟩:=hcut
     have HX3:=Lib.hid hX
     have HB3:=Lib.hid hB
     have HW3:=Lib.hid hW
     have HA3:=Lib.hid hA
     have HO3:=Lib.hid hown
     clear hX hB hW hA hown hS HN5 HN6
     obtain ⟨g0,g1,g2,g3,g4,g5,g6⟩:=HW3.out.below hbw
     go_wp2_with fail
     refine (HC3.out _).mono ?_
     rintro e w5 ⟨rfl,hb5⟩
     replace hbw:=chain hbw hb5
     replace hbx:=hbx.below hb5 hbx.lt
     clear g0 g1 g2 g3 g4 g5 g6 hb5 HC3
     cases hca:casV t3 with
     | none =>
      have hcn:casN t3=-1:=by unfold casN;rw [hca]
      rw [hcn]
      have hX:=HX3.out.below hbw HX3.out.lt
      have hB:=chain HB3.out hbw
      have HNO:Hid (rdPo s.data.toList=none):=Lib.hid (by rw [HRD.out];exact rdW_ca hpb hca)
      have HNP:=Lib.hid (ParsedD.no HNO.out (below8 hB (Nat.le_refl _) (.int .i64 0) (.int .i64 0) (.slice none 0 0) (.bool false) (.int .u8 0) (.int .i64 0) (.int .i64 0) (.int .i64 0)))
      obtain ⟨⟨x0,x1,x2,x3,x4,x5,x6,x7⟩,xf⟩:=id hX
      clear hB hX HNO
      go_upto_region 10 with fail
      repeat (first | go_values | go_skip | go_guarded | go_step | go_upon | go_in)
      have hR:=HNP.out
      try dsimp only [Exit.then]
      apply bodyPost_ret (v:=.tuple #[.agg #[.int .i64 0,.int .i64 0,.slice none 0 0,.bool false,.int .u8 0,.int .i64 0,.int .i64 0,.int .i64 0],.bool false])
      rotate_left
      ·rfl
      ·exact hR
      simp [results,Tryz.results89,go_sem,x0,x1,x2,x3,x4,x5,x6,x7]
     | some ca =>
      have hca15:=(casV_yes hca).1
      have hcn:casN t3=(ca:Int):=by unfold casN;rw [hca]
      rw [hcn]
      obtain ⟨⟨z0,z1,z2,z3,z4,z5,z6,z7⟩,zf⟩:=id hbx
      have hbx6:=bxCa hbx ca
      have hbw6:=hbw.setCell (p:=⟨b,4,none⟩) hbb (.int .u8 (ca:Int))
      obtain ⟨g0,g1,g2,g3,g4,g5,g6⟩:=HW3.out.below hbw6
      by_cases h45:t4=[45]
      ·have e45:(t4 == [45])=true:=by rw [h45];rfl
       have e45':(!t4 == [45])=false:=by rw [e45];rfl
       have HV:=Lib.hid (rValid_any (f:Int) (r:Int) l A c2 true ca (-1) a5 a6 (by omega) (by omega) _ (rdBo hbw6 HA3.out))
       clear hbx hbw
       have hbx:=hbx6
       have hbw:=hbw6
       clear hbx6 hbw6
       obtain ⟨⟨u0,u1,u2,u3,u4,u5,u6,u7⟩,uf⟩:=id hbx
       have HPV:=Lib.hid (show psV (f:Int) (r:Int) t4=some (-1) by unfold psV;rw [if_pos h45])
       clear h45
       cases hok:okPo ⟨(f:Int),(r:Int),l,true,ca,-1,a5,a6⟩ with
       | false =>
        rw [hok] at HV
        go_wp2_with fail
        refine HV.out.mono ?_
        rintro e w8 ⟨rfl,hb8⟩
        replace hbw:=chain hbw hb8
        have hX:=HX3.out.below hbw HX3.out.lt
        have hB:=chain HB3.out hbw
        clear z0 z1 z2 z3 z4 z5 z6 z7 zf hb8 hbx
        have HNO:Hid (rdPo s.data.toList=none):=Lib.hid (by rw [HRD.out,rdW_in HSD.out hpb HSZ2.out.symm hca (HPV.out),hbl.out,HA5.out,HA6.out,hok];rfl)
        have HNP:=Lib.hid (ParsedD.no HNO.out (below8 hB (Nat.le_refl _) (.int .i64 0) (.int .i64 0) (.slice none 0 0) (.bool false) (.int .u8 0) (.int .i64 0) (.int .i64 0) (.int .i64 0)))
        obtain ⟨⟨x0,x1,x2,x3,x4,x5,x6,x7⟩,xf⟩:=id hX
        clear hB hX HNO
        go_upto_region 17 with fail
        repeat (first | go_values | go_skip | go_guarded | go_step | go_upon | go_in)
        have hR:=HNP.out
        try dsimp only [Exit.then]
        apply bodyPost_ret (v:=.tuple #[.agg #[.int .i64 0,.int .i64 0,.slice none 0 0,.bool false,.int .u8 0,.int .i64 0,.int .i64 0,.int .i64 0],.bool false])
        rotate_left
        ·rfl
        ·exact hR
        simp [results,Tryz.results89,go_sem,x0,x1,x2,x3,x4,x5,x6,x7]
       | true =>
        rw [hok] at HV
        go_wp2_with fail
        refine HV.out.mono ?_
        rintro e w8 ⟨rfl,hb8⟩
        replace hbw:=chain hbw hb8
        have hbx8:=hbx.below hb8 hbx.lt
        have hX:=HX3.out.below hbw HX3.out.lt
        have hB:=chain HB3.out hbw
        have hown:=own_below HO3.out hbw
        clear z0 z1 z2 z3 z4 z5 z6 z7 zf hb8 hbx
        have HS:Hid (rdPo s.data.toList=some ⟨(f:Int),(r:Int),l,true,ca,-1,a5,a6⟩):=Lib.hid (by rw [HRD.out,rdW_in HSD.out hpb HSZ2.out.symm hca (HPV.out),hbl.out,HA5.out,HA6.out,hok];rfl)
        have HNP:=Lib.hid (ParsedD.yes HS.out ((own8 hown (b:=w.heap.size) hbase (.int .i64 (f:Int)) (.int .i64 (r:Int)) (.slice A l.length c2) (.bool true) (.int .u8 (ca:Int)) (.int .i64 (-1)) (.int .i64 a5) (.int .i64 a6)).mono (Nat.le_of_lt hbase)) (below8 hB (Nat.le_refl _) (.int .i64 (f:Int)) (.int .i64 (r:Int)) (.slice A l.length c2) (.bool true) (.int .u8 (ca:Int)) (.int .i64 (-1)) (.int .i64 a5) (.int .i64 a6)))
        obtain ⟨⟨x0,x1,x2,x3,x4,x5,x6,x7⟩,xf⟩:=id hX
        obtain ⟨⟨z0,z1,z2,z3,z4,z5,z6,z7⟩,zf⟩:=id hbx8
        clear hB hX hown HS hbw
        go_upto_region 18 with fail
        repeat (first | go_values | go_skip | go_guarded | go_step | go_upon | go_in)
        have hR:=HNP.out
        try dsimp only [Exit.then]
        apply bodyPost_ret (v:=.tuple #[.agg #[.int .i64 (f:Int),.int .i64 (r:Int),.slice A l.length c2,.bool true,.int .u8 (ca:Int),.int .i64 (-1),.int .i64 a5,.int .i64 a6],.bool true])
        rotate_left
        ·rfl
        ·exact hR
        simp [results,Tryz.results89,go_sem,x0,x1,x2,x3,x4,x5,x6,x7]
      ·have e45:(t4 == [45])=false:=beq_eq_false_iff_ne.2 h45
       have e45':(!t4 == [45])=true:=by rw [e45];rfl
       have HPV:=Lib.hid (show psV (f:Int) (r:Int) t4=sqV (f:Int) (r:Int) t4 by unfold psV;rw [if_neg h45])
       obtain ⟨n,hn⟩:∃ n,(match sqV (f:Int) (r:Int) t4 with | none=>(-1:Int) | some n=>n)=n:=⟨_,rfl⟩
       have HR:Hid (∀ W:World,Calls Tryz.prog 136 #[.agg #[.int .i64 (f:Int),.int .i64 (r:Int)],.string (bsL t4)] W fun e w'=>e=.returned (.int .i64 n)/\Below W.heap.size W w'):=Lib.hid (fun W=>by
        cases hsq:sqV (f:Int) (r:Int) t4 with
        | none =>
         rw [hsq] at hn
         subst hn
         exact refParse_no (f:Int) (r:Int) (bsL t4) hvs (fun a ha e=>sqV_no hsq a ha (by rw [e,bsL_toList])) W
        | some m =>
         rw [hsq] at hn
         subst hn
         obtain ⟨q1,q2⟩:=sqV_yes hvs hsq
         exact refParse_yes (f:Int) (r:Int) m (bsL t4) q1 (by rw [<- q2,bsL_of]) W)
       go_upto_region 13 with fail
       generalize hW6:w5.setCell ⟨b,4,none⟩ (.int .u8 (ca:Int))=W6 at *
       clear hbx hbw z0 z1 z2 z3 z4 z5 z6 z7 zf hW6
       have hbx:=hbx6
       have hbw:=hbw6
       clear hbx6 hbw6
       obtain ⟨⟨z0,z1,z2,z3,z4,z5,z6,z7⟩,zf⟩:=id hbx
       have hgb:g<b:=Nat.lt_of_lt_of_le (World.block_lt_of_cell? _ _ HW3.out.1) hbb
       have hS:(W6.cell? ⟨g,4,none⟩=some (.string (bsL t4)))/\(W6.cell? ⟨b,0,none⟩=some (.int .i64 (f:Int))/\W6.cell? ⟨b,1,none⟩=some (.int .i64 (r:Int))/\W6.frozen? ⟨b,5,none⟩=false)/\Bel w3 W6:=⟨g4,⟨z0,z1,zf 5⟩,hbw⟩
       clear g0 g1 g2 g3 g4 g5 g6 z0 z1 z2 z3 z4 z5 z6 z7 zf
       go_cut [7] (fun s7 wx=>s7=.pointer (some ⟨b,0,none⟩)/\Bx8 wx b (f:Int) (r:Int) (.slice A l.length c2) true ca n a5 a6/\Below w3.heap.size w3 wx)
       case first =>
        obtain ⟨⟨z0,z1,z2,z3,z4,z5,z6,z7⟩,zf⟩:=id hbx
        obtain ⟨g4,_,_⟩:=id hS
        go_region_with ((first | (go_at_call 136;refine (HR.out _).mono ?_;rintro e u1 ⟨rfl,hc1⟩;have hbx1:Bx8 u1 b (f:Int) (r:Int) (.slice A l.length c2) true ca (-1) a5 a6:=(by first | exact hbx.below hc1 hbx.lt | exact (show Bx8 W6.drew b (f:Int) (r:Int) (.slice A l.length c2) true ca (-1) a5 a6 from hbx).below hc1 hbx.lt);obtain ⟨⟨p0,p1,p2,p3,p4,p5,p6,p7⟩,pf⟩:=id hbx1)))
        all_goals
         go_wp2_with fail
         (conv=>arg 2;simp [Act.put])
         go_meet
         case rel =>
          refine ⟨rfl,bxPs hbx1 n,?_⟩
          first | exact (chain hbw hc1).setCell (p:=⟨b,5,none⟩) hbb _ | exact (chain hbw.drew hc1).setCell (p:=⟨b,5,none⟩) hbb _
       case rest =>
        obtain ⟨rfl,hbx,hbw⟩:=hcut
        clear hS HR
        obtain ⟨⟨z0,z1,z2,z3,z4,z5,z6,z7⟩,zf⟩:=id hbx
        have HV:=Lib.hid (rValid_any (f:Int) (r:Int) l A c2 true ca n a5 a6 (by omega) (by omega) _ (rdBo hbw HA3.out))
        rcases hsq:sqV (f:Int) (r:Int) t4 with _ | m
        ·rw [hsq] at hn HPV
         replace hn:n=-1:=hn.symm
         subst hn
         have hX:=HX3.out.below hbw HX3.out.lt
         have hB:=chain HB3.out hbw
         clear hbx
         have HNO:Hid (rdPo s.data.toList=none):=Lib.hid (by rw [HRD.out];exact rdW_ps hpb HPV.out)
         have HNP:=Lib.hid (ParsedD.no HNO.out (below8 hB (Nat.le_refl _) (.int .i64 0) (.int .i64 0) (.slice none 0 0) (.bool false) (.int .u8 0) (.int .i64 0) (.int .i64 0) (.int .i64 0)))
         obtain ⟨⟨x0,x1,x2,x3,x4,x5,x6,x7⟩,xf⟩:=id hX
         clear hB hX HNO
         go_upto_region 15 with fail
         repeat (first | go_values | go_skip | go_guarded | go_step | go_upon | go_in)
         have hR:=HNP.out
         try dsimp only [Exit.then]
         apply bodyPost_ret (v:=.tuple #[.agg #[.int .i64 0,.int .i64 0,.slice none 0 0,.bool false,.int .u8 0,.int .i64 0,.int .i64 0,.int .i64 0],.bool false])
         rotate_left
         ·rfl
         ·exact hR
         simp [results,Tryz.results89,go_sem,x0,x1,x2,x3,x4,x5,x6,x7]
        ·rw [hsq] at hn HPV
         replace hn:n=m:=hn.symm
         subst hn
         have hm0:=(sqV_yes hvs hsq).1.2.1
         clear hsq
         cases hok:okPo ⟨(f:Int),(r:Int),l,true,ca,n,a5,a6⟩ with
         | false =>
          rw [hok] at HV
          go_wp2_with fail
          refine HV.out.mono ?_
          rintro e w8 ⟨rfl,hb8⟩
          replace hbw:=chain hbw hb8
          have hX:=HX3.out.below hbw HX3.out.lt
          have hB:=chain HB3.out hbw
          clear z0 z1 z2 z3 z4 z5 z6 z7 zf hb8 hbx
          have HNO:Hid (rdPo s.data.toList=none):=Lib.hid (by rw [HRD.out,rdW_in HSD.out hpb HSZ2.out.symm hca (HPV.out),hbl.out,HA5.out,HA6.out,hok];rfl)
          have HNP:=Lib.hid (ParsedD.no HNO.out (below8 hB (Nat.le_refl _) (.int .i64 0) (.int .i64 0) (.slice none 0 0) (.bool false) (.int .u8 0) (.int .i64 0) (.int .i64 0) (.int .i64 0)))
          obtain ⟨⟨x0,x1,x2,x3,x4,x5,x6,x7⟩,xf⟩:=id hX
          clear hB hX HNO
          go_upto_region 17 with fail
          repeat (first | go_values | go_skip | go_guarded | go_step | go_upon | go_in)
          have hR:=HNP.out
          try dsimp only [Exit.then]
          apply bodyPost_ret (v:=.tuple #[.agg #[.int .i64 0,.int .i64 0,.slice none 0 0,.bool false,.int .u8 0,.int .i64 0,.int .i64 0,.int .i64 0],.bool false])
          rotate_left
          ·rfl
          ·exact hR
          simp [results,Tryz.results89,go_sem,x0,x1,x2,x3,x4,x5,x6,x7]
         | true =>
          rw [hok] at HV
          go_wp2_with fail
          refine HV.out.mono ?_
          rintro e w8 ⟨rfl,hb8⟩
          replace hbw:=chain hbw hb8
          have hbx8:=hbx.below hb8 hbx.lt
          have hX:=HX3.out.below hbw HX3.out.lt
          have hB:=chain HB3.out hbw
          have hown:=own_below HO3.out hbw
          clear z0 z1 z2 z3 z4 z5 z6 z7 zf hb8 hbx
          have HS:Hid (rdPo s.data.toList=some ⟨(f:Int),(r:Int),l,true,ca,n,a5,a6⟩):=Lib.hid (by rw [HRD.out,rdW_in HSD.out hpb HSZ2.out.symm hca (HPV.out),hbl.out,HA5.out,HA6.out,hok];rfl)
          have HNP:=Lib.hid (ParsedD.yes HS.out ((own8 hown (b:=w.heap.size) hbase (.int .i64 (f:Int)) (.int .i64 (r:Int)) (.slice A l.length c2) (.bool true) (.int .u8 (ca:Int)) (.int .i64 n) (.int .i64 a5) (.int .i64 a6)).mono (Nat.le_of_lt hbase)) (below8 hB (Nat.le_refl _) (.int .i64 (f:Int)) (.int .i64 (r:Int)) (.slice A l.length c2) (.bool true) (.int .u8 (ca:Int)) (.int .i64 n) (.int .i64 a5) (.int .i64 a6)))
          obtain ⟨⟨x0,x1,x2,x3,x4,x5,x6,x7⟩,xf⟩:=id hX
          obtain ⟨⟨z0,z1,z2,z3,z4,z5,z6,z7⟩,zf⟩:=id hbx8
          clear hB hX hown HS hbw
          go_upto_region 18 with fail
          repeat (first | go_values | go_skip | go_guarded | go_step | go_upon | go_in)
          have hR:=HNP.out
          try dsimp only [Exit.then]
          apply bodyPost_ret (v:=.tuple #[.agg #[.int .i64 (f:Int),.int .i64 (r:Int),.slice A l.length c2,.bool true,.int .u8 (ca:Int),.int .i64 n,.int .i64 a5,.int .i64 a6],.bool true])
          rotate_left
          ·rfl
          ·exact hR
          simp [results,Tryz.results89,go_sem,x0,x1,x2,x3,x4,x5,x6,x7]
 ·have hne:((ts.length:Int) != 7)=true:=by simp;omega
  have HNO:Hid (rdPo s.data.toList=none):=Lib.hid (by exact rdPo_n (by rw [HTS.out];exact h7))
  have HNP:=Lib.hid (ParsedD.no HNO.out (below8 hB (Nat.le_refl _) (.int .i64 0) (.int .i64 0) (.slice none 0 0) (.bool false) (.int .u8 0) (.int .i64 0) (.int .i64 0) (.int .i64 0)))
  obtain ⟨⟨x0,x1,x2,x3,x4,x5,x6,x7⟩,xf⟩:=id hX
  clear hB hX HNO hown
  go_upto_region 3 with fail
  repeat (first | go_values | go_skip | go_guarded | go_step | go_upon | go_in)
  have hR:=HNP.out
  try dsimp only [Exit.then]
  apply bodyPost_ret (v:=.tuple #[.agg #[.int .i64 0,.int .i64 0,.slice none 0 0,.bool false,.int .u8 0,.int .i64 0,.int .i64 0,.int .i64 0],.bool false])
  rotate_left
  ·rfl
  ·exact hR
  simp [results,Tryz.results89,go_sem,x0,x1,x2,x3,x4,x5,x6,x7]
end Go.Proofs.YtbccbgonlmkpkaaGreatDoor
