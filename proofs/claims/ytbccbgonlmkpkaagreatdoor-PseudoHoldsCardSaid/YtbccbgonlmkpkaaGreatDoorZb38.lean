/- What the theorem needs, piece Zb38. -/
import Derived.Deep.RegionHeld3
import Derived.Deep.DeepCutAuto
import Derived.Test.YtbccbgonlmkpkaaGreatDoorZb35
import Derived.Test.YtbccbgonlmkpkaaGreatDoorZb30
import Derived.Test.YtbccbgonlmkpkaaGreatDoorZb37
set_option linter.unusedSimpArgs false
set_option linter.unusedVariables false
set_option maxRecDepth 100000
set_option maxHeartbeats 16000000
namespace Go.Proofs.YtbccbgonlmkpkaaGreatDoor
open Go.RowKit Go.Sort
theorem lnT_one (F:Int) (m:Mv):lnT F [m]=mvT F m:=by
 unfold lnT
 rw [List.map_cons,List.map_nil,jw_one]
theorem lnT_snoc (F:Int) {l:List Mv} (h:l≠[]) (m:Mv):lnT F (l ++ [m])=lnT F l ++ [32] ++ mvT F m:=by
 unfold lnT
 rw [List.map_append,List.map_cons,List.map_nil,jw_snoc (by simpa using h)]
theorem lnT_len (F:Int):∀ l:List Mv,(lnT F l).length<=6 * l.length:=by
 have h6:∀ l:List Mv,(List.flatMap (fun u:List UInt8=>32 :: u) (l.map (mvT F))).length<=6 * l.length:=by
  intro l
  induction l with
  | nil=>simp
  | cons m l ih =>
   have:=mvT_len F m
   simp only [List.map_cons,List.flatMap_cons,List.length_append,List.length_cons] at ih ⊢
   omega
 intro l
 cases l with
 | nil=>simp [lnT,jw]
 | cons m l =>
  have h1:=h6 l
  have:=mvT_len F m
  unfold lnT
  simp only [List.map_cons,jw,List.length_append,List.length_cons] at h1 ⊢
  omega
theorem rmLine_any (F R:Int) (l:List Mv) (A:Option Addr) (c:Nat) (hl:l.length<=2000) (hok:∀ m∈l,okM F R m) (w:World) (hA:RdM w w.heap.size A l) :
  Calls Tryz.prog 75 #[.agg #[.int .i64 F,.int .i64 R],.slice A l.length c] w fun e w'=>e=.returned (.string (bsL (lnT F l)))/\Below w.heap.size w w':=by
 have hs:=box2 w F R
 have hB:=box1 w (.cells #[.int .i64 F,.int .i64 R] 23)
 replace hA:=rdMv hB hA
 have hV2:(w.alloc (.cells #[.int .i64 F,.int .i64 R] 23)).heap.size=w.heap.size+1:=by simp
 go_enter Tryz.func75,Tryz.ntmps75
 go_wp2
 generalize hV:w.alloc (.cells #[.int .i64 F,.int .i64 R] 23)=V at *
 clear hV hV2
 go_loopw [5,6] (fun v i wr=>∃ k:Nat,k<=l.length/\i=.int .i64 k/\v=.string (bsL (lnT F (l.take k)))/\Below V.heap.size V wr) (fun _ i _=>l.length - (intOf i).toNat)
 case atStart=>exact ⟨0,by omega,rfl,rfl,Below.refl _ _⟩
 case round =>
  obtain ⟨k,hk,rfl,rfl,hW⟩:=hrel
  have hs1:=hs.below hW hs.lt
  have hA1:=rdMv hW hA
  by_cases hlt:k<l.length
  ·obtain ⟨m,hm⟩:∃ m,l[k]?=some m:=⟨_,List.getElem?_eq_getElem hlt⟩
   obtain ⟨ad,rfl,had,m0,m1,m2⟩:=hA1.at_ hm
   have hokm:=hok m (List.mem_of_getElem? hm)
   have ht:l.take (k+1)=l.take k ++ [m]:=by
    rw [List.take_add_one,hm]
    rfl
   have hz:=lnT_len F (l.take k)
   rw [List.length_take] at hz
   have hz2:(bsL (mvT F m)).size<=5:=by rw [bsL_size];exact (mvT_len F m).2
   obtain ⟨x,y,p⟩:=m
   have HX:=Lib.hid (fun w=>rmText_any F R x y p hokm w)
   simp only at m0 m1 m2
   by_cases h0:k=0
   ·have HT:Hid (bsL (lnT F (l.take (k+1)))=(⟨#[]⟩:ByteArray) ++ bsL (mvT F ⟨x,y,p⟩)):=Lib.hid (by
     rw [ht,h0,List.take_zero,List.nil_append,lnT_one]
     show _=bsL [] ++ bsL _
     rw [bsL_append,List.nil_append])
    have hz3:bsL (lnT F (l.take k))=⟨#[]⟩:=by rw [h0];rfl
    have hk0:¬ 0<(k:Int):=by omega
    rw [hz3]
    clear hm ht hokm hz hz3 hk hA1 had h0
    generalize bsL (mvT F ⟨x,y,p⟩)=tx at *
    obtain ⟨s0,s1⟩:=id hs1
    go_wp2_with fail
    have q0:=cell_regrown s0
    have q1:=cell_regrown s1
    have q2:=cell_regrown m0
    have q3:=cell_regrown m1
    have q4:=cell_regrown m2
    have cC:=Lib.hid (fun d os=>Calls.regrown_of (HX.out (grow (redrawn wr d) os)))
    refine wp_region_quiet_below (by kernel_rfl) (by kernel_rfl) ?_
    repeat (go_big_quiet_step (exact cC.out _ _))
    refine wpQuiet_nil ?_
    rintro _ ⟨⟨dq,osq⟩,rfl⟩
    have bq:=below_regrown wr dq osq
    clear cC q0 q1 q2 q3 q4 s0 s1 m0 m1 m2 hs1
    replace hW:=chain hW bq
    generalize Go.Sort.grow (redrawn wr dq) osq=w2 at *
    go_wp2
    go_roundw
    case rel=>exact ⟨k+1,by omega,by go_num,by rw [HT.out],hW⟩
    case measure=>simp [intOf];omega
   ·have hne:l.take k≠[]:=by
     intro e
     have:=congrArg List.length e
     rw [List.length_take,List.length_nil] at this
     omega
    have HT:Hid (bsL (lnT F (l.take (k+1)))=bsL (lnT F (l.take k)) ++ ⟨#[32]⟩ ++ bsL (mvT F ⟨x,y,p⟩)):=Lib.hid (by
     rw [ht,lnT_snoc F hne]
     show _=bsL _ ++ bsL [32] ++ bsL _
     rw [bsL_append,bsL_append])
    have hz3:(bsL (lnT F (l.take k))).size<=12000:=by rw [bsL_size];omega
    have hz4:(bsL (lnT F (l.take k)) ++ ⟨#[32]⟩).size<=12001:=by rw [ByteArray.size_append];show _+1<=_;omega
    have hk0:0<(k:Int):=by omega
    clear hm ht hokm hz hk hA1 had hne
    generalize bsL (mvT F ⟨x,y,p⟩)=tx at *
    generalize bsL (lnT F (l.take k))=ty at *
    obtain ⟨s0,s1⟩:=id hs1
    go_wp2_with fail
    have q0:=cell_regrown s0
    have q1:=cell_regrown s1
    have q2:=cell_regrown m0
    have q3:=cell_regrown m1
    have q4:=cell_regrown m2
    have cC:=Lib.hid (fun d os=>Calls.regrown_of (HX.out (grow (redrawn wr d) os)))
    refine wp_region_quiet_below (by kernel_rfl) (by kernel_rfl) ?_
    repeat (go_big_quiet_step (exact cC.out _ _))
    refine wpQuiet_nil ?_
    rintro _ ⟨⟨dq,osq⟩,rfl⟩
    have bq:=below_regrown wr dq osq
    clear cC q0 q1 q2 q3 q4 s0 s1 m0 m1 m2 hs1
    replace hW:=chain hW bq
    generalize Go.Sort.grow (redrawn wr dq) osq=w2 at *
    go_wp2
    go_roundw
    case rel=>exact ⟨k+1,by omega,by go_num,by rw [HT.out],hW⟩
    case measure=>simp [intOf];omega
  ·have hkl:l.take k=l:=List.take_of_length_le (by omega)
   rw [hkl]
   go_wp2
   go_ret
   exact ⟨rfl,chain hB hW⟩
end Go.Proofs.YtbccbgonlmkpkaaGreatDoor
namespace Go.Proofs.YtbccbgonlmkpkaaGreatDoor
open Go.RowKit Go.Sort
theorem RdM.take {w:World} {B:Nat} {A:Option Addr} {l:List Mv} (h:RdM w B A l) (n:Nat):RdM w B A (l.take n):=by
 intro h0
 have hl:0<l.length:=by rw [List.length_take] at h0;omega
 obtain ⟨ad,h1,h2,h3⟩:=h hl
 refine ⟨ad,h1,h2,fun j u hu=>h3 j u ?_⟩
 have e:vmvs l=vmvs (l.take n) ++ vmvs (l.drop n):=by rw [<- vmvs_app,List.take_append_drop]
 have hj:=(List.getElem?_eq_some_iff.1 hu).1
 rw [e,List.getElem?_append_left hj]
 exact hu
theorem ok_bd {q:Po} (h:okPo q=true):q.ca<256/\q.l.length<=100000/\0<q.l.length/\vsz q.F q.R:=by
 have hp:=(okPo_iff q).1 h
 have h1:q.ca<=15:=cas_ca hp.cas
 have h2:(q.l.length:Int)=q.F * q.R:=hp.len
 have h3:=(vsz_mul hp.hv)
 exact ⟨by omega,by omega,by omega,hp.hv⟩
theorem known9_any (w:World) (hT:T8 w):Calls Tryz.prog 27 #[] w fun e w'=>e=.returned (.bool true)/\Below w.heap.size w w':=by
 obtain ⟨h1A,h2A,h3A,h4A⟩:=ok_bd xoA
 have HPOA:Hid (∀ w:World,Calls Tryz.prog 74 #[.string ⟨#[56,120,56,32,114,110,98,113,107,98,110,114,47,112,112,112,112,112,112,112,112,47,56,47,56,47,56,47,56,47,80,80,80,80,80,80,80,80,47,82,78,66,81,75,66,78,82,32,119,32,75,81,107,113,32,45,32,48,32,49]⟩] w (NewP w xqA.F xqA.R xqA.l xqA.bl xqA.ca xqA.ps xqA.ha xqA.fu)):=Lib.hid (fun w=>pos9_any txA xsA xqA xrA h3A w)
 have HOKA:=xoA
 obtain ⟨h1B,h2B,h3B,h4B⟩:=ok_bd xoB
 have HPOB:Hid (∀ w:World,Calls Tryz.prog 74 #[.string ⟨#[52,120,52,32,49,107,50,47,49,114,50,47,49,82,50,47,49,75,50,32,119,32,45,32,45,32,48,32,49]⟩] w (NewP w xqB.F xqB.R xqB.l xqB.bl xqB.ca xqB.ps xqB.ha xqB.fu)):=Lib.hid (fun w=>pos9_any txB xsB xqB xrB h3B w)
 have HOKB:=xoB
 obtain ⟨h1C,h2C,h3C,h4C⟩:=ok_bd xoC
 have HPOC:Hid (∀ w:World,Calls Tryz.prog 74 #[.string ⟨#[51,120,51,32,50,107,47,80,50,47,50,75,32,119,32,45,32,45,32,53,32,55]⟩] w (NewP w xqC.F xqC.R xqC.l xqC.bl xqC.ca xqC.ps xqC.ha xqC.fu)):=Lib.hid (fun w=>pos9_any txC xsC xqC xrC h3C w)
 have HOKC:=xoC
 obtain ⟨h1D,h2D,h3D,h4D⟩:=ok_bd xoD
 have HPOD:Hid (∀ w:World,Calls Tryz.prog 74 #[.string ⟨#[56,120,56,32,52,107,114,50,47,56,47,56,47,56,47,56,47,56,47,56,47,82,51,75,50,82,32,119,32,75,81,32,45,32,51,32,57]⟩] w (NewP w xqD.F xqD.R xqD.l xqD.bl xqD.ca xqD.ps xqD.ha xqD.fu)):=Lib.hid (fun w=>pos9_any txD xsD xqD xrD h3D w)
 have HOKD:=xoD
 have HMVB1:Hid (∀ (A:Option Addr) (c:Nat) (w:World),Calls Tryz.prog 76 #[.agg #[.int .i64 xqB.F,.int .i64 xqB.R,.slice A xqB.l.length c,.bool xqB.bl,.int .u8 (xqB.ca:Int),.int .i64 xqB.ps,.int .i64 xqB.ha,.int .i64 xqB.fu],.string ⟨#[98,50,97,50]⟩] w fun e w'=>e=.returned (.agg #[.int .i64 5,.int .i64 4,.int .i8 0])/\Below w.heap.size w w'):=Lib.hid (fun A c w=>mov9_any xqB.F xqB.R xqB.l A c xqB.bl xqB.ca xqB.ps xqB.ha xqB.fu tmB1 xmB1 h4B xpB1 w)
 have HMVB2:Hid (∀ (A:Option Addr) (c:Nat) (w:World),Calls Tryz.prog 76 #[.agg #[.int .i64 xqB.F,.int .i64 xqB.R,.slice A xqB.l.length c,.bool xqB.bl,.int .u8 (xqB.ca:Int),.int .i64 xqB.ps,.int .i64 xqB.ha,.int .i64 xqB.fu],.string ⟨#[98,50,98,51]⟩] w fun e w'=>e=.returned (.agg #[.int .i64 5,.int .i64 9,.int .i8 0])/\Below w.heap.size w w'):=Lib.hid (fun A c w=>mov9_any xqB.F xqB.R xqB.l A c xqB.bl xqB.ca xqB.ps xqB.ha xqB.fu tmB2 xmB2 h4B xpB2 w)
 have HMVB3:Hid (∀ (A:Option Addr) (c:Nat) (w:World),Calls Tryz.prog 76 #[.agg #[.int .i64 xqB.F,.int .i64 xqB.R,.slice A xqB.l.length c,.bool xqB.bl,.int .u8 (xqB.ca:Int),.int .i64 xqB.ps,.int .i64 xqB.ha,.int .i64 xqB.fu],.string ⟨#[98,50,98,52]⟩] w fun e w'=>e=.returned (.agg #[.int .i64 5,.int .i64 13,.int .i8 0])/\Below w.heap.size w w'):=Lib.hid (fun A c w=>mov9_any xqB.F xqB.R xqB.l A c xqB.bl xqB.ca xqB.ps xqB.ha xqB.fu tmB3 xmB3 h4B xpB3 w)
 have HMVD1:Hid (∀ (A:Option Addr) (c:Nat) (w:World),Calls Tryz.prog 76 #[.agg #[.int .i64 xqD.F,.int .i64 xqD.R,.slice A xqD.l.length c,.bool xqD.bl,.int .u8 (xqD.ca:Int),.int .i64 xqD.ps,.int .i64 xqD.ha,.int .i64 xqD.fu],.string ⟨#[101,49,103,49]⟩] w fun e w'=>e=.returned (.agg #[.int .i64 4,.int .i64 6,.int .i8 0])/\Below w.heap.size w w'):=Lib.hid (fun A c w=>mov9_any xqD.F xqD.R xqD.l A c xqD.bl xqD.ca xqD.ps xqD.ha xqD.fu tmD1 xmD1 h4D xpD1 w)
 have HMVD2:Hid (∀ (A:Option Addr) (c:Nat) (w:World),Calls Tryz.prog 76 #[.agg #[.int .i64 xqD.F,.int .i64 xqD.R,.slice A xqD.l.length c,.bool xqD.bl,.int .u8 (xqD.ca:Int),.int .i64 xqD.ps,.int .i64 xqD.ha,.int .i64 xqD.fu],.string ⟨#[101,49,102,49]⟩] w fun e w'=>e=.returned (.agg #[.int .i64 4,.int .i64 5,.int .i8 0])/\Below w.heap.size w w'):=Lib.hid (fun A c w=>mov9_any xqD.F xqD.R xqD.l A c xqD.bl xqD.ca xqD.ps xqD.ha xqD.fu tmD2 xmD2 h4D xpD2 w)
 have HMVD3:Hid (∀ (A:Option Addr) (c:Nat) (w:World),Calls Tryz.prog 76 #[.agg #[.int .i64 xqD.F,.int .i64 xqD.R,.slice A xqD.l.length c,.bool xqD.bl,.int .u8 (xqD.ca:Int),.int .i64 xqD.ps,.int .i64 xqD.ha,.int .i64 xqD.fu],.string ⟨#[101,49,101,51]⟩] w fun e w'=>e=.returned (.agg #[.int .i64 4,.int .i64 20,.int .i8 0])/\Below w.heap.size w w'):=Lib.hid (fun A c w=>mov9_any xqD.F xqD.R xqD.l A c xqD.bl xqD.ca xqD.ps xqD.ha xqD.fu tmD3 xmD3 h4D xpD3 w)
 have HLNA:Hid (∀ (A:Option Addr) (c:Nat) (w:World),RdM w w.heap.size A (xlA.take 6)->Calls Tryz.prog 75 #[.agg #[.int .i64 xqA.F,.int .i64 xqA.R],.slice A 6 c] w fun e w'=>e=.returned (.string ⟨#[98,49,97,51,32,98,49,99,51,32,103,49,102,51,32,103,49,104,51,32,97,50,97,51,32,97,50,97,52]⟩)/\Below w.heap.size w w'):=Lib.hid (fun A c w hA=>by
   have h:=rmLine_any xqA.F xqA.R (xlA.take 6) A c (by decide) xkA w hA
   rw [xtA] at h
   exact h)
 have HLNB:Hid (∀ (A:Option Addr) (c:Nat) (w:World),RdM w w.heap.size A xlB->Calls Tryz.prog 75 #[.agg #[.int .i64 xqB.F,.int .i64 xqB.R],.slice A 8 c] w fun e w'=>e=.returned (.string ⟨#[98,49,97,49,32,98,49,99,49,32,98,49,97,50,32,98,49,99,50,32,98,50,97,50,32,98,50,99,50,32,98,50,100,50,32,98,50,98,51]⟩)/\Below w.heap.size w w'):=Lib.hid (fun A c w hA=>by
   have h:=rmLine_any xqB.F xqB.R xlB A c (by decide) xkB w hA
   rw [xtB] at h
   exact h)
 have HLNC:Hid (∀ (A:Option Addr) (c:Nat) (w:World),RdM w w.heap.size A xlC->Calls Tryz.prog 75 #[.agg #[.int .i64 xqC.F,.int .i64 xqC.R],.slice A 4 c] w fun e w'=>e=.returned (.string ⟨#[97,50,97,51,78,32,97,50,97,51,66,32,97,50,97,51,82,32,97,50,97,51,81]⟩)/\Below w.heap.size w w'):=Lib.hid (fun A c w hA=>by
   have h:=rmLine_any xqC.F xqC.R xlC A c (by decide) xkC w hA
   rw [xtC] at h
   exact h)
 have HVA:=xvA
 have HVB:=xvB
 have HVC:=xvC
 have hfB:=xfB
 have hvC:vat xqC.F xqC.R 3:=by decide +kernel
 have hfD:=xfD
 unfold xmB1 xmB2 xmB3 at hfB
 unfold xmD1 xmD2 xmD3 at hfD
 generalize xqA=qA at *
 obtain ⟨FA,RA,lA,bA,cA,pA,hA,fA⟩:=qA
 simp only at h1A h2A h3A h4A
 generalize xqB=qB at *
 obtain ⟨FB,RB,lB,bB,cB,pB,hB,fB⟩:=qB
 simp only at h1B h2B h3B h4B
 generalize xqC=qC at *
 obtain ⟨FC,RC,lC,bC,cC,pC,hC,fC⟩:=qC
 simp only at h1C h2C h3C h4C
 generalize xqD=qD at *
 obtain ⟨FD,RD,lD,bD,cD,pD,hD,fD⟩:=qD
 simp only at h1D h2D h3D h4D
 simp only at hvC HPOA HPOB HPOC HPOD HMVB1 HMVB2 HMVB3 HMVD1 HMVD2 HMVD3 HLNA HLNB HLNC
 have HMSA:=Lib.hid (fun A c hc w hT hZ=>qMov_yes FA RA lA A c bA cA pA hA fA h1A h2A hc HOKA w after_c hT hZ)
 rw [HVA] at HMSA
 have HMSB:=Lib.hid (fun A c hc w hT hZ=>qMov_yes FB RB lB A c bB cB pB hB fB h1B h2B hc HOKB w after_c hT hZ)
 rw [HVB] at HMSB
 have HFRC:=Lib.hid (fun A c hc w hT hZ=>qFrm_yes FC RC lC A c bC cC pC hC fC 3 h1C h2C hc HOKC hvC w after_c hT hZ)
 rw [HVC] at HFRC
 obtain ⟨⟨i1,i2⟩,⟨i3,i4,i5⟩,⟨i6,i7,i8⟩,i9⟩:=hfB
 obtain ⟨⟨j1,j2⟩,⟨j3,j4⟩,j5⟩:=hfD
 have HIS1:=Lib.hid (fun A c hc w hT hZ=>qIs_any FB RB lB A c bB cB pB hB fB 5 4 0 h1B h2B hc w after_c hT hZ)
 rw [i1,i2] at HIS1
 have HCP2:=Lib.hid (fun A c hc w hT hZ=>qCap_any FB RB lB A c bB cB pB hB fB 5 9 0 h1B h2B hc w after_c hT hZ)
 rw [i3,i4,i5] at HCP2
 have HCP1:=Lib.hid (fun A c hc w hT hZ=>qCap_any FB RB lB A c bB cB pB hB fB 5 4 0 h1B h2B hc w after_c hT hZ)
 rw [i6,i7,i8] at HCP1
 have HCP3:=Lib.hid (fun A c hc w hT hZ=>qCap_any FB RB lB A c bB cB pB hB fB 5 13 0 h1B h2B hc w after_c hT hZ)
 rw [i9] at HCP3
 have HCA1:=Lib.hid (fun A c hc w hT hZ=>qCst_any FD RD lD A c bD cD pD hD fD 4 6 0 h1D h2D hc w after_c hT hZ)
 rw [j1,j2] at HCA1
 have HCA2:=Lib.hid (fun A c hc w hT hZ=>qCst_any FD RD lD A c bD cD pD hD fD 4 5 0 h1D h2D hc w after_c hT hZ)
 rw [j3,j4] at HCA2
 have HCA3:=Lib.hid (fun A c hc w hT hZ=>qCst_any FD RD lD A c bD cD pD hD fD 4 20 0 h1D h2D hc w after_c hT hZ)
 rw [j5] at HCA3
 clear i1 i2 i3 i4 i5 i6 i7 i8 i9 j1 j2 j3 j4 j5 HVA HVB HVC HOKA HOKB HOKC HOKD
 have hLA:xlA.length=20:=rfl
 have hLB:xlB.length=8:=rfl
 have hLC:xlC.length=4:=rfl
 generalize xlA=LA at *
 generalize xlB=LB at *
 generalize xlC=LC at *
 clear h1A h2A h4A
 clear h1B h2B h4B
 clear h1C h2C h4C
 clear h1D h2D h4D
 have H3A:=Lib.hid h3A
 have H3B:=Lib.hid h3B
 have H3C:=Lib.hid h3C
 have H3D:=Lib.hid h3D
 clear h3A h3B h3C h3D
 have HT0:=Lib.hid hT
 have HB0:Hid (Bw w w):=Lib.hid (Below.refl _ _)
 clear hT
 go_enter Tryz.func27,Tryz.ntmps27
 go_wp2_with fail
 refine (HPOA.out _).mono ?_
 intro e w1 hN
 obtain ⟨rA,capA,rfl,hrow,hrd,hr0,hr1,hq⟩:=newP_rd hN H3A.out
 have hcpA:lA.length<=capA:=(own_form hrow H3A.out (n:=0)).elim fun r2 h=>h.elim fun cap2 h=>by
  obtain ⟨e1,_,_,_,e5⟩:=h
  injection e1 with _ _ e6
  rw [e6];exact e5
 clear hN hrow hr0 hr1 HPOA
 have HT_1:=Lib.hid (HT0.out.below hq)
 have HB_1:Hid (Bw w _):=Lib.hid (chain HB0.out hq)
 clear hq HT0 HB0
 have HAA0:=Lib.hid hrd
 clear hrd
 go_upto_region 2 with fail
 have HPA0:=Lib.hid (Bxs.new w1 [.int .i64 FA,.int .i64 RA,.slice (some ⟨rA,0,none⟩) lA.length capA,.bool bA,.int .u8 (cA:Int),.int .i64 pA,.int .i64 hA,.int .i64 fA] 26)
 have hq:=box1 w1 (.cells #[.int .i64 FA,.int .i64 RA,.slice (some ⟨rA,0,none⟩) lA.length capA,.bool bA,.int .u8 (cA:Int),.int .i64 pA,.int .i64 hA,.int .i64 fA] 26)
 generalize w1.alloc (.cells #[.int .i64 FA,.int .i64 RA,.slice (some ⟨rA,0,none⟩) lA.length capA,.bool bA,.int .u8 (cA:Int),.int .i64 pA,.int .i64 hA,.int .i64 fA] 26)=w2 at *
 have HT_2:=Lib.hid (HT_1.out.below hq)
 have HB_2:Hid (Bw w _):=Lib.hid (chain HB_1.out hq)
 have HAA_2:=Lib.hid (rdBo hq HAA0.out)
 clear hq HT_1 HB_1 HAA0
 generalize w1.heap.size=gA at *
 obtain ⟨p0,p1,p2,p3,p4,p5,p6,p7⟩:=HPA0.out.h8
 go_wp2_with fail
 refine (HMSA.out _ _ hcpA _ HT_2.out HAA_2.out).mono ?_
 rintro e w3 ⟨v,rfl,hown,hq⟩
 obtain ⟨ALA,clA,rfl,hclA,hM⟩:=RdM.own hown
 rw [hLA]
 rw [hLA] at hclA
 clear hown
 have HT_3:=Lib.hid (HT_2.out.below hq)
 have HB_3:Hid (Bw w _):=Lib.hid (chain HB_2.out hq)
 have HAA_3:=Lib.hid (rdBo hq HAA_2.out)
 have HPA_3:=Lib.hid (HPA0.out.below hq HPA0.out.lt)
 clear hq HT_2 HB_2 HAA_2 HPA0 p0 p1 p2 p3 p4 p5 p6 p7
 have HMA0:=Lib.hid hM
 clear hM
 go_upto_region 3 with fail
 obtain ⟨p0,p1⟩:=HPA_3.out.h2
 go_wp2_with fail
 have kq0:=cell_regrown p0
 have kq1:=cell_regrown p1
 refine wp_region_quiet_below (by kernel_rfl) (by kernel_rfl) ?_
 repeat (go_big_quiet_step (first | (go_at_call 75;exact Calls.regrown_of (HLNA.out _ _ _ (rdMv (below_regrown _ _ _) (RdM.take HMA0.out 6))))))
 refine wpQuiet_nil ?_
 rintro _ ⟨⟨dq,osq⟩,rfl⟩
 have hq:=below_regrown w3 dq osq
 generalize grow (redrawn w3 dq) osq=w4 at *
 have HT_4:=Lib.hid (HT_3.out.below hq)
 have HB_4:Hid (Bw w _):=Lib.hid (chain HB_3.out hq)
 have HAA_4:=Lib.hid (rdBo hq HAA_3.out)
 have HPA_4:=Lib.hid (HPA_3.out.below hq HPA_3.out.lt)
 have HMA_4:=Lib.hid (rdMv hq HMA0.out)
 clear hq HT_3 HB_3 HAA_3 HPA_3 HMA0 p0 p1 kq0 kq1
 go_wp2_with fail
 refine (HPOB.out _).mono ?_
 intro e w5 hN
 obtain ⟨rB,capB,rfl,hrow,hrd,hr0,hr1,hq⟩:=newP_rd hN H3B.out
 have hcpB:lB.length<=capB:=(own_form hrow H3B.out (n:=0)).elim fun r2 h=>h.elim fun cap2 h=>by
  obtain ⟨e1,_,_,_,e5⟩:=h
  injection e1 with _ _ e6
  rw [e6];exact e5
 clear hN hrow hr0 hr1 HPOB
 have HT_5:=Lib.hid (HT_4.out.below hq)
 have HB_5:Hid (Bw w _):=Lib.hid (chain HB_4.out hq)
 have HAA_5:=Lib.hid (rdBo hq HAA_4.out)
 have HPA_5:=Lib.hid (HPA_4.out.below hq HPA_4.out.lt)
 have HMA_5:=Lib.hid (rdMv hq HMA_4.out)
 clear hq HT_4 HB_4 HAA_4 HPA_4 HMA_4
 have HAB0:=Lib.hid hrd
 clear hrd
 go_upto_region 6 with fail
 have HPB0:=Lib.hid (Bxs.new w5 [.int .i64 FB,.int .i64 RB,.slice (some ⟨rB,0,none⟩) lB.length capB,.bool bB,.int .u8 (cB:Int),.int .i64 pB,.int .i64 hB,.int .i64 fB] 26)
 have hq:=box1 w5 (.cells #[.int .i64 FB,.int .i64 RB,.slice (some ⟨rB,0,none⟩) lB.length capB,.bool bB,.int .u8 (cB:Int),.int .i64 pB,.int .i64 hB,.int .i64 fB] 26)
 generalize w5.alloc (.cells #[.int .i64 FB,.int .i64 RB,.slice (some ⟨rB,0,none⟩) lB.length capB,.bool bB,.int .u8 (cB:Int),.int .i64 pB,.int .i64 hB,.int .i64 fB] 26)=w6 at *
 have HT_6:=Lib.hid (HT_5.out.below hq)
 have HB_6:Hid (Bw w _):=Lib.hid (chain HB_5.out hq)
 have HAA_6:=Lib.hid (rdBo hq HAA_5.out)
 have HPA_6:=Lib.hid (HPA_5.out.below hq HPA_5.out.lt)
 have HMA_6:=Lib.hid (rdMv hq HMA_5.out)
 have HAB_6:=Lib.hid (rdBo hq HAB0.out)
 clear hq HT_5 HB_5 HAA_5 HPA_5 HMA_5 HAB0
 generalize w5.heap.size=gB at *
 obtain ⟨p0,p1,p2,p3,p4,p5,p6,p7⟩:=HPB0.out.h8
 go_wp2_with fail
 refine (HMSB.out _ _ hcpB _ HT_6.out HAB_6.out).mono ?_
 rintro e w7 ⟨v,rfl,hown,hq⟩
 obtain ⟨ALB,clB,rfl,hclB,hM⟩:=RdM.own hown
 rw [hLB]
 rw [hLB] at hclB
 clear hown
 have HT_7:=Lib.hid (HT_6.out.below hq)
 have HB_7:Hid (Bw w _):=Lib.hid (chain HB_6.out hq)
 have HAA_7:=Lib.hid (rdBo hq HAA_6.out)
 have HPA_7:=Lib.hid (HPA_6.out.below hq HPA_6.out.lt)
 have HMA_7:=Lib.hid (rdMv hq HMA_6.out)
 have HAB_7:=Lib.hid (rdBo hq HAB_6.out)
 have HPB_7:=Lib.hid (HPB0.out.below hq HPB0.out.lt)
 clear hq HT_6 HB_6 HAA_6 HPA_6 HMA_6 HAB_6 HPB0 p0 p1 p2 p3 p4 p5 p6 p7
 have HMB0:=Lib.hid hM
 clear hM
 go_upto_region 7 with fail
 obtain ⟨p0,p1,p2,p3,p4,p5,p6,p7⟩:=HPB_7.out.h8
 go_wp2_with fail
 have kq0:=cell_regrown p0
 have kq1:=cell_regrown p1
 have kq2:=cell_regrown p2
 have kq3:=cell_regrown p3
 have kq4:=cell_regrown p4
 have kq5:=cell_regrown p5
 have kq6:=cell_regrown p6
 have kq7:=cell_regrown p7
 refine wp_region_quiet_below (by kernel_rfl) (by kernel_rfl) ?_
 repeat (go_big_quiet_step (first | (go_at_call 76;exact Calls.regrown_of (HMVB1.out _ _ _)) | (go_at_call 34;exact Calls.regrown_of (HIS1.out _ _ hcpB _ (HT_7.out.below (below_regrown _ _ _)) (rdBo (below_regrown _ _ _) HAB_7.out)))))
 refine wpQuiet_nil ?_
 rintro _ ⟨⟨dq,osq⟩,rfl⟩
 have hq:=below_regrown w7 dq osq
 generalize grow (redrawn w7 dq) osq=w8 at *
 have HT_8:=Lib.hid (HT_7.out.below hq)
 have HB_8:Hid (Bw w _):=Lib.hid (chain HB_7.out hq)
 have HAA_8:=Lib.hid (rdBo hq HAA_7.out)
 have HPA_8:=Lib.hid (HPA_7.out.below hq HPA_7.out.lt)
 have HMA_8:=Lib.hid (rdMv hq HMA_7.out)
 have HAB_8:=Lib.hid (rdBo hq HAB_7.out)
 have HPB_8:=Lib.hid (HPB_7.out.below hq HPB_7.out.lt)
 have HMB_8:=Lib.hid (rdMv hq HMB0.out)
 clear hq HT_7 HB_7 HAA_7 HPA_7 HMA_7 HAB_7 HPB_7 HMB0 p0 p1 p2 p3 p4 p5 p6 p7 kq0 kq1 kq2 kq3 kq4 kq5 kq6 kq7
 go_upto_region 8 with fail
 obtain ⟨p0,p1,p2,p3,p4,p5,p6,p7⟩:=HPB_8.out.h8
 go_wp2_with fail
 have kq0:=cell_regrown p0
 have kq1:=cell_regrown p1
 have kq2:=cell_regrown p2
 have kq3:=cell_regrown p3
 have kq4:=cell_regrown p4
 have kq5:=cell_regrown p5
 have kq6:=cell_regrown p6
 have kq7:=cell_regrown p7
 refine wp_region_quiet_below (by kernel_rfl) (by kernel_rfl) ?_
 repeat (go_big_quiet_step (first | (go_at_call 76;exact Calls.regrown_of (HMVB2.out _ _ _)) | (go_at_call 36;exact Calls.regrown_of (HCP2.out _ _ hcpB _ (HT_8.out.below (below_regrown _ _ _)) (rdBo (below_regrown _ _ _) HAB_8.out)))))
 refine wpQuiet_nil ?_
 rintro _ ⟨⟨dq,osq⟩,rfl⟩
 have hq:=below_regrown w8 dq osq
 generalize grow (redrawn w8 dq) osq=w9 at *
 have HT_9:=Lib.hid (HT_8.out.below hq)
 have HB_9:Hid (Bw w _):=Lib.hid (chain HB_8.out hq)
 have HAA_9:=Lib.hid (rdBo hq HAA_8.out)
 have HPA_9:=Lib.hid (HPA_8.out.below hq HPA_8.out.lt)
 have HMA_9:=Lib.hid (rdMv hq HMA_8.out)
 have HAB_9:=Lib.hid (rdBo hq HAB_8.out)
 have HPB_9:=Lib.hid (HPB_8.out.below hq HPB_8.out.lt)
 have HMB_9:=Lib.hid (rdMv hq HMB_8.out)
 clear hq HT_8 HB_8 HAA_8 HPA_8 HMA_8 HAB_8 HPB_8 HMB_8 p0 p1 p2 p3 p4 p5 p6 p7 kq0 kq1 kq2 kq3 kq4 kq5 kq6 kq7
 go_upto_region 9 with fail
 obtain ⟨p0,p1,p2,p3,p4,p5,p6,p7⟩:=HPB_9.out.h8
 go_wp2_with fail
 have kq0:=cell_regrown p0
 have kq1:=cell_regrown p1
 have kq2:=cell_regrown p2
 have kq3:=cell_regrown p3
 have kq4:=cell_regrown p4
 have kq5:=cell_regrown p5
 have kq6:=cell_regrown p6
 have kq7:=cell_regrown p7
 refine wp_region_quiet_below (by kernel_rfl) (by kernel_rfl) ?_
 repeat (go_big_quiet_step (first | (go_at_call 76;exact Calls.regrown_of (HMVB1.out _ _ _)) | (go_at_call 36;exact Calls.regrown_of (HCP1.out _ _ hcpB _ (HT_9.out.below (below_regrown _ _ _)) (rdBo (below_regrown _ _ _) HAB_9.out)))))
 refine wpQuiet_nil ?_
 rintro _ ⟨⟨dq,osq⟩,rfl⟩
 have hq:=below_regrown w9 dq osq
 generalize grow (redrawn w9 dq) osq=w10 at *
 have HT_10:=Lib.hid (HT_9.out.below hq)
 have HB_10:Hid (Bw w _):=Lib.hid (chain HB_9.out hq)
 have HAA_10:=Lib.hid (rdBo hq HAA_9.out)
 have HPA_10:=Lib.hid (HPA_9.out.below hq HPA_9.out.lt)
 have HMA_10:=Lib.hid (rdMv hq HMA_9.out)
 have HAB_10:=Lib.hid (rdBo hq HAB_9.out)
 have HPB_10:=Lib.hid (HPB_9.out.below hq HPB_9.out.lt)
 have HMB_10:=Lib.hid (rdMv hq HMB_9.out)
 clear hq HT_9 HB_9 HAA_9 HPA_9 HMA_9 HAB_9 HPB_9 HMB_9 p0 p1 p2 p3 p4 p5 p6 p7 kq0 kq1 kq2 kq3 kq4 kq5 kq6 kq7
 go_upto_region 10 with fail
 obtain ⟨p0,p1,p2,p3,p4,p5,p6,p7⟩:=HPB_10.out.h8
 go_wp2_with fail
 have kq0:=cell_regrown p0
 have kq1:=cell_regrown p1
 have kq2:=cell_regrown p2
 have kq3:=cell_regrown p3
 have kq4:=cell_regrown p4
 have kq5:=cell_regrown p5
 have kq6:=cell_regrown p6
 have kq7:=cell_regrown p7
 refine wp_region_quiet_below (by kernel_rfl) (by kernel_rfl) ?_
 repeat (go_big_quiet_step (first | (go_at_call 76;exact Calls.regrown_of (HMVB3.out _ _ _)) | (go_at_call 36;exact Calls.regrown_of (HCP3.out _ _ hcpB _ (HT_10.out.below (below_regrown _ _ _)) (rdBo (below_regrown _ _ _) HAB_10.out)))))
 refine wpQuiet_nil ?_
 rintro _ ⟨⟨dq,osq⟩,rfl⟩
 have hq:=below_regrown w10 dq osq
 generalize grow (redrawn w10 dq) osq=w11 at *
 have HT_11:=Lib.hid (HT_10.out.below hq)
 have HB_11:Hid (Bw w _):=Lib.hid (chain HB_10.out hq)
 have HAA_11:=Lib.hid (rdBo hq HAA_10.out)
 have HPA_11:=Lib.hid (HPA_10.out.below hq HPA_10.out.lt)
 have HMA_11:=Lib.hid (rdMv hq HMA_10.out)
 have HAB_11:=Lib.hid (rdBo hq HAB_10.out)
 have HPB_11:=Lib.hid (HPB_10.out.below hq HPB_10.out.lt)
 have HMB_11:=Lib.hid (rdMv hq HMB_10.out)
 clear hq HT_10 HB_10 HAA_10 HPA_10 HMA_10 HAB_10 HPB_10 HMB_10 p0 p1 p2 p3 p4 p5 p6 p7 kq0 kq1 kq2 kq3 kq4 kq5 kq6 kq7
 obtain ⟨p0,p1,p2,p3,p4,p5,p6,p7⟩:=HPB_11.out.h8
 go_wp2_with fail
 refine (HLNB.out _ _ _ HMB_11.out).mono ?_
 rintro e w12 ⟨rfl,hq⟩
 have HT_12:=Lib.hid (HT_11.out.below hq)
 have HB_12:Hid (Bw w _):=Lib.hid (chain HB_11.out hq)
 have HAA_12:=Lib.hid (rdBo hq HAA_11.out)
 have HPA_12:=Lib.hid (HPA_11.out.below hq HPA_11.out.lt)
 have HMA_12:=Lib.hid (rdMv hq HMA_11.out)
 have HAB_12:=Lib.hid (rdBo hq HAB_11.out)
 have HPB_12:=Lib.hid (HPB_11.out.below hq HPB_11.out.lt)
 have HMB_12:=Lib.hid (rdMv hq HMB_11.out)
 clear hq HT_11 HB_11 HAA_11 HPA_11 HMA_11 HAB_11 HPB_11 HMB_11 p0 p1 p2 p3 p4 p5 p6 p7
 go_wp2_with fail
 refine (HPOC.out _).mono ?_
 intro e w13 hN
 obtain ⟨rC,capC,rfl,hrow,hrd,hr0,hr1,hq⟩:=newP_rd hN H3C.out
 have hcpC:lC.length<=capC:=(own_form hrow H3C.out (n:=0)).elim fun r2 h=>h.elim fun cap2 h=>by
  obtain ⟨e1,_,_,_,e5⟩:=h
  injection e1 with _ _ e6
  rw [e6];exact e5
 clear hN hrow hr0 hr1 HPOC
 have HT_13:=Lib.hid (HT_12.out.below hq)
 have HB_13:Hid (Bw w _):=Lib.hid (chain HB_12.out hq)
 have HAA_13:=Lib.hid (rdBo hq HAA_12.out)
 have HPA_13:=Lib.hid (HPA_12.out.below hq HPA_12.out.lt)
 have HMA_13:=Lib.hid (rdMv hq HMA_12.out)
 have HAB_13:=Lib.hid (rdBo hq HAB_12.out)
 have HPB_13:=Lib.hid (HPB_12.out.below hq HPB_12.out.lt)
 have HMB_13:=Lib.hid (rdMv hq HMB_12.out)
 clear hq HT_12 HB_12 HAA_12 HPA_12 HMA_12 HAB_12 HPB_12 HMB_12
 have HAC0:=Lib.hid hrd
 clear hrd
 go_upto_region 14 with fail
 have HPC0:=Lib.hid (Bxs.new w13 [.int .i64 FC,.int .i64 RC,.slice (some ⟨rC,0,none⟩) lC.length capC,.bool bC,.int .u8 (cC:Int),.int .i64 pC,.int .i64 hC,.int .i64 fC] 26)
 have hq:=box1 w13 (.cells #[.int .i64 FC,.int .i64 RC,.slice (some ⟨rC,0,none⟩) lC.length capC,.bool bC,.int .u8 (cC:Int),.int .i64 pC,.int .i64 hC,.int .i64 fC] 26)
 generalize w13.alloc (.cells #[.int .i64 FC,.int .i64 RC,.slice (some ⟨rC,0,none⟩) lC.length capC,.bool bC,.int .u8 (cC:Int),.int .i64 pC,.int .i64 hC,.int .i64 fC] 26)=w14 at *
 have HT_14:=Lib.hid (HT_13.out.below hq)
 have HB_14:Hid (Bw w _):=Lib.hid (chain HB_13.out hq)
 have HAA_14:=Lib.hid (rdBo hq HAA_13.out)
 have HPA_14:=Lib.hid (HPA_13.out.below hq HPA_13.out.lt)
 have HMA_14:=Lib.hid (rdMv hq HMA_13.out)
 have HAB_14:=Lib.hid (rdBo hq HAB_13.out)
 have HPB_14:=Lib.hid (HPB_13.out.below hq HPB_13.out.lt)
 have HMB_14:=Lib.hid (rdMv hq HMB_13.out)
 have HAC_14:=Lib.hid (rdBo hq HAC0.out)
 clear hq HT_13 HB_13 HAA_13 HPA_13 HMA_13 HAB_13 HPB_13 HMB_13 HAC0
 generalize w13.heap.size=gC at *
 obtain ⟨p0,p1,p2,p3,p4,p5,p6,p7⟩:=HPC0.out.h8
 go_wp2_with fail
 refine (HFRC.out _ _ hcpC _ HT_14.out HAC_14.out).mono ?_
 rintro e w15 ⟨v,rfl,hown,hq⟩
 obtain ⟨ALC,clC,rfl,hclC,hM⟩:=RdM.own hown
 rw [hLC]
 rw [hLC] at hclC
 clear hown
 have HT_15:=Lib.hid (HT_14.out.below hq)
 have HB_15:Hid (Bw w _):=Lib.hid (chain HB_14.out hq)
 have HAA_15:=Lib.hid (rdBo hq HAA_14.out)
 have HPA_15:=Lib.hid (HPA_14.out.below hq HPA_14.out.lt)
 have HMA_15:=Lib.hid (rdMv hq HMA_14.out)
 have HAB_15:=Lib.hid (rdBo hq HAB_14.out)
 have HPB_15:=Lib.hid (HPB_14.out.below hq HPB_14.out.lt)
 have HMB_15:=Lib.hid (rdMv hq HMB_14.out)
 have HAC_15:=Lib.hid (rdBo hq HAC_14.out)
 have HPC_15:=Lib.hid (HPC0.out.below hq HPC0.out.lt)
 clear hq HT_14 HB_14 HAA_14 HPA_14 HMA_14 HAB_14 HPB_14 HMB_14 HAC_14 HPC0 p0 p1 p2 p3 p4 p5 p6 p7
 have HMC0:=Lib.hid hM
 clear hM
 go_wp2_with fail
 refine (HPOD.out _).mono ?_
 intro e w16 hN
 obtain ⟨rD,capD,rfl,hrow,hrd,hr0,hr1,hq⟩:=newP_rd hN H3D.out
 have hcpD:lD.length<=capD:=(own_form hrow H3D.out (n:=0)).elim fun r2 h=>h.elim fun cap2 h=>by
  obtain ⟨e1,_,_,_,e5⟩:=h
  injection e1 with _ _ e6
  rw [e6];exact e5
 clear hN hrow hr0 hr1 HPOD
 have HT_16:=Lib.hid (HT_15.out.below hq)
 have HB_16:Hid (Bw w _):=Lib.hid (chain HB_15.out hq)
 have HAA_16:=Lib.hid (rdBo hq HAA_15.out)
 have HPA_16:=Lib.hid (HPA_15.out.below hq HPA_15.out.lt)
 have HMA_16:=Lib.hid (rdMv hq HMA_15.out)
 have HAB_16:=Lib.hid (rdBo hq HAB_15.out)
 have HPB_16:=Lib.hid (HPB_15.out.below hq HPB_15.out.lt)
 have HMB_16:=Lib.hid (rdMv hq HMB_15.out)
 have HAC_16:=Lib.hid (rdBo hq HAC_15.out)
 have HPC_16:=Lib.hid (HPC_15.out.below hq HPC_15.out.lt)
 have HMC_16:=Lib.hid (rdMv hq HMC0.out)
 clear hq HT_15 HB_15 HAA_15 HPA_15 HMA_15 HAB_15 HPB_15 HMB_15 HAC_15 HPC_15 HMC0
 have HAD0:=Lib.hid hrd
 clear hrd
 go_upto_region 16 with fail
 have HPD0:=Lib.hid (Bxs.new w16 [.int .i64 FD,.int .i64 RD,.slice (some ⟨rD,0,none⟩) lD.length capD,.bool bD,.int .u8 (cD:Int),.int .i64 pD,.int .i64 hD,.int .i64 fD] 26)
 have hq:=box1 w16 (.cells #[.int .i64 FD,.int .i64 RD,.slice (some ⟨rD,0,none⟩) lD.length capD,.bool bD,.int .u8 (cD:Int),.int .i64 pD,.int .i64 hD,.int .i64 fD] 26)
 generalize w16.alloc (.cells #[.int .i64 FD,.int .i64 RD,.slice (some ⟨rD,0,none⟩) lD.length capD,.bool bD,.int .u8 (cD:Int),.int .i64 pD,.int .i64 hD,.int .i64 fD] 26)=w17 at *
 have HT_17:=Lib.hid (HT_16.out.below hq)
 have HB_17:Hid (Bw w _):=Lib.hid (chain HB_16.out hq)
 have HAA_17:=Lib.hid (rdBo hq HAA_16.out)
 have HPA_17:=Lib.hid (HPA_16.out.below hq HPA_16.out.lt)
 have HMA_17:=Lib.hid (rdMv hq HMA_16.out)
 have HAB_17:=Lib.hid (rdBo hq HAB_16.out)
 have HPB_17:=Lib.hid (HPB_16.out.below hq HPB_16.out.lt)
 have HMB_17:=Lib.hid (rdMv hq HMB_16.out)
 have HAC_17:=Lib.hid (rdBo hq HAC_16.out)
 have HPC_17:=Lib.hid (HPC_16.out.below hq HPC_16.out.lt)
 have HMC_17:=Lib.hid (rdMv hq HMC_16.out)
 have HAD_17:=Lib.hid (rdBo hq HAD0.out)
 clear hq HT_16 HB_16 HAA_16 HPA_16 HMA_16 HAB_16 HPB_16 HMB_16 HAC_16 HPC_16 HMC_16 HAD0
 generalize w16.heap.size=gD at *
 go_upto_region 16 with fail
 obtain ⟨p0,p1,p2,p3,p4,p5,p6,p7⟩:=HPD0.out.h8
 go_wp2_with fail
 have kq0:=cell_regrown p0
 have kq1:=cell_regrown p1
 have kq2:=cell_regrown p2
 have kq3:=cell_regrown p3
 have kq4:=cell_regrown p4
 have kq5:=cell_regrown p5
 have kq6:=cell_regrown p6
 have kq7:=cell_regrown p7
 refine wp_region_quiet_below (by kernel_rfl) (by kernel_rfl) ?_
 repeat (go_big_quiet_step (first | (go_at_call 76;exact Calls.regrown_of (HMVD1.out _ _ _)) | (go_at_call 37;exact Calls.regrown_of (HCA1.out _ _ hcpD _ (HT_17.out.below (below_regrown _ _ _)) (rdBo (below_regrown _ _ _) HAD_17.out)))))
 refine wpQuiet_nil ?_
 rintro _ ⟨⟨dq,osq⟩,rfl⟩
 have hq:=below_regrown w17 dq osq
 generalize grow (redrawn w17 dq) osq=w18 at *
 have HT_18:=Lib.hid (HT_17.out.below hq)
 have HB_18:Hid (Bw w _):=Lib.hid (chain HB_17.out hq)
 have HAA_18:=Lib.hid (rdBo hq HAA_17.out)
 have HPA_18:=Lib.hid (HPA_17.out.below hq HPA_17.out.lt)
 have HMA_18:=Lib.hid (rdMv hq HMA_17.out)
 have HAB_18:=Lib.hid (rdBo hq HAB_17.out)
 have HPB_18:=Lib.hid (HPB_17.out.below hq HPB_17.out.lt)
 have HMB_18:=Lib.hid (rdMv hq HMB_17.out)
 have HAC_18:=Lib.hid (rdBo hq HAC_17.out)
 have HPC_18:=Lib.hid (HPC_17.out.below hq HPC_17.out.lt)
 have HMC_18:=Lib.hid (rdMv hq HMC_17.out)
 have HAD_18:=Lib.hid (rdBo hq HAD_17.out)
 have HPD_18:=Lib.hid (HPD0.out.below hq HPD0.out.lt)
 clear hq HT_17 HB_17 HAA_17 HPA_17 HMA_17 HAB_17 HPB_17 HMB_17 HAC_17 HPC_17 HMC_17 HAD_17 HPD0 p0 p1 p2 p3 p4 p5 p6 p7 kq0 kq1 kq2 kq3 kq4 kq5 kq6 kq7
 go_upto_region 17 with fail
 obtain ⟨p0,p1,p2,p3,p4,p5,p6,p7⟩:=HPD_18.out.h8
 go_wp2_with fail
 have kq0:=cell_regrown p0
 have kq1:=cell_regrown p1
 have kq2:=cell_regrown p2
 have kq3:=cell_regrown p3
 have kq4:=cell_regrown p4
 have kq5:=cell_regrown p5
 have kq6:=cell_regrown p6
 have kq7:=cell_regrown p7
 refine wp_region_quiet_below (by kernel_rfl) (by kernel_rfl) ?_
 repeat (go_big_quiet_step (first | (go_at_call 76;exact Calls.regrown_of (HMVD2.out _ _ _)) | (go_at_call 37;exact Calls.regrown_of (HCA2.out _ _ hcpD _ (HT_18.out.below (below_regrown _ _ _)) (rdBo (below_regrown _ _ _) HAD_18.out)))))
 refine wpQuiet_nil ?_
 rintro _ ⟨⟨dq,osq⟩,rfl⟩
 have hq:=below_regrown w18 dq osq
 generalize grow (redrawn w18 dq) osq=w19 at *
 have HT_19:=Lib.hid (HT_18.out.below hq)
 have HB_19:Hid (Bw w _):=Lib.hid (chain HB_18.out hq)
 have HAA_19:=Lib.hid (rdBo hq HAA_18.out)
 have HPA_19:=Lib.hid (HPA_18.out.below hq HPA_18.out.lt)
 have HMA_19:=Lib.hid (rdMv hq HMA_18.out)
 have HAB_19:=Lib.hid (rdBo hq HAB_18.out)
 have HPB_19:=Lib.hid (HPB_18.out.below hq HPB_18.out.lt)
 have HMB_19:=Lib.hid (rdMv hq HMB_18.out)
 have HAC_19:=Lib.hid (rdBo hq HAC_18.out)
 have HPC_19:=Lib.hid (HPC_18.out.below hq HPC_18.out.lt)
 have HMC_19:=Lib.hid (rdMv hq HMC_18.out)
 have HAD_19:=Lib.hid (rdBo hq HAD_18.out)
 have HPD_19:=Lib.hid (HPD_18.out.below hq HPD_18.out.lt)
 clear hq HT_18 HB_18 HAA_18 HPA_18 HMA_18 HAB_18 HPB_18 HMB_18 HAC_18 HPC_18 HMC_18 HAD_18 HPD_18 p0 p1 p2 p3 p4 p5 p6 p7 kq0 kq1 kq2 kq3 kq4 kq5 kq6 kq7
 go_upto_region 18 with fail
 obtain ⟨p0,p1,p2,p3,p4,p5,p6,p7⟩:=HPD_19.out.h8
 go_wp2_with fail
 have kq0:=cell_regrown p0
 have kq1:=cell_regrown p1
 have kq2:=cell_regrown p2
 have kq3:=cell_regrown p3
 have kq4:=cell_regrown p4
 have kq5:=cell_regrown p5
 have kq6:=cell_regrown p6
 have kq7:=cell_regrown p7
 refine wp_region_quiet_below (by kernel_rfl) (by kernel_rfl) ?_
 repeat (go_big_quiet_step (first | (go_at_call 76;exact Calls.regrown_of (HMVD3.out _ _ _)) | (go_at_call 37;exact Calls.regrown_of (HCA3.out _ _ hcpD _ (HT_19.out.below (below_regrown _ _ _)) (rdBo (below_regrown _ _ _) HAD_19.out)))))
 refine wpQuiet_nil ?_
 rintro _ ⟨⟨dq,osq⟩,rfl⟩
 have hq:=below_regrown w19 dq osq
 generalize grow (redrawn w19 dq) osq=w20 at *
 have HT_20:=Lib.hid (HT_19.out.below hq)
 have HB_20:Hid (Bw w _):=Lib.hid (chain HB_19.out hq)
 have HAA_20:=Lib.hid (rdBo hq HAA_19.out)
 have HPA_20:=Lib.hid (HPA_19.out.below hq HPA_19.out.lt)
 have HMA_20:=Lib.hid (rdMv hq HMA_19.out)
 have HAB_20:=Lib.hid (rdBo hq HAB_19.out)
 have HPB_20:=Lib.hid (HPB_19.out.below hq HPB_19.out.lt)
 have HMB_20:=Lib.hid (rdMv hq HMB_19.out)
 have HAC_20:=Lib.hid (rdBo hq HAC_19.out)
 have HPC_20:=Lib.hid (HPC_19.out.below hq HPC_19.out.lt)
 have HMC_20:=Lib.hid (rdMv hq HMC_19.out)
 have HAD_20:=Lib.hid (rdBo hq HAD_19.out)
 have HPD_20:=Lib.hid (HPD_19.out.below hq HPD_19.out.lt)
 clear hq HT_19 HB_19 HAA_19 HPA_19 HMA_19 HAB_19 HPB_19 HMB_19 HAC_19 HPC_19 HMC_19 HAD_19 HPD_19 p0 p1 p2 p3 p4 p5 p6 p7 kq0 kq1 kq2 kq3 kq4 kq5 kq6 kq7
 obtain ⟨p0,p1,p2,p3,p4,p5,p6,p7⟩:=HPC_20.out.h8
 go_wp2_with fail
 refine (HLNC.out _ _ _ HMC_20.out).mono ?_
 rintro e w21 ⟨rfl,hq⟩
 have HT_21:=Lib.hid (HT_20.out.below hq)
 have HB_21:Hid (Bw w _):=Lib.hid (chain HB_20.out hq)
 have HAA_21:=Lib.hid (rdBo hq HAA_20.out)
 have HPA_21:=Lib.hid (HPA_20.out.below hq HPA_20.out.lt)
 have HMA_21:=Lib.hid (rdMv hq HMA_20.out)
 have HAB_21:=Lib.hid (rdBo hq HAB_20.out)
 have HPB_21:=Lib.hid (HPB_20.out.below hq HPB_20.out.lt)
 have HMB_21:=Lib.hid (rdMv hq HMB_20.out)
 have HAC_21:=Lib.hid (rdBo hq HAC_20.out)
 have HPC_21:=Lib.hid (HPC_20.out.below hq HPC_20.out.lt)
 have HMC_21:=Lib.hid (rdMv hq HMC_20.out)
 have HAD_21:=Lib.hid (rdBo hq HAD_20.out)
 have HPD_21:=Lib.hid (HPD_20.out.below hq HPD_20.out.lt)
 clear hq HT_20 HB_20 HAA_20 HPA_20 HMA_20 HAB_20 HPB_20 HMB_20 HAC_20 HPC_20 HMC_20 HAD_20 HPD_20 p0 p1 p2 p3 p4 p5 p6 p7
 go_wp2
 go_ret
 exact ⟨rfl,HB_21.out⟩
end Go.Proofs.YtbccbgonlmkpkaaGreatDoor
