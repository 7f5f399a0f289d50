/- What the theorem needs, piece Zb14. -/
import Derived.Test.YtbccbgonlmkpkaaGreatDoorZb11
import Derived.Test.YtbccbgonlmkpkaaGreatDoorZb02
import Derived.Lib.QuietBelow
import Derived.Test.YtbccbgonlmkpkaaGreatDoorZb04
import Derived.Test.YtbccbgonlmkpkaaGreatDoorZb05
import Derived.Test.YtbccbgonlmkpkaaGreatDoorZb13
set_option linter.unusedSimpArgs false
set_option linter.unusedVariables false
set_option maxRecDepth 100000
set_option maxHeartbeats 16000000
namespace Go.Proofs.YtbccbgonlmkpkaaGreatDoor
open Go.RowKit Go.Shelf
attribute [local go_sem] Oper.semAt_some
def RdS (w:World) (B:Nat) (A:Option Addr) (l:List (Int × Int)):Prop :=
 0<l.length->∃ ad,A=some ad/\ad.block<B/\∀ k,k<l.length->w.cell? (ad.add (k * 2))=some (.int .i64 (l[k]?.getD (0,0)).1)/\w.cell? ⟨(ad.add (k * 2)).block,(ad.add (k * 2)).off+1,none⟩=some (.int .i64 (l[k]?.getD (0,0)).2)
theorem RdS.at_ {w:World} {B:Nat} {A:Option Addr} {l:List (Int × Int)} (h:RdS w B A l) {k:Nat} (hk:k<l.length):∃ ad,A=some ad/\ad.block<B/\w.cell? (ad.add (k * 2))=some (.int .i64 (l[k]?.getD (0,0)).1)/\w.cell? ⟨(ad.add (k * 2)).block,(ad.add (k * 2)).off+1,none⟩=some (.int .i64 (l[k]?.getD (0,0)).2):=by
 obtain ⟨ad,e,hb,h⟩:=h (by omega)
 exact ⟨ad,e,hb,h k hk⟩
theorem RdS.but {w w':World} {B S:Nat} {A:Option Addr} {l:List (Int × Int)} (h:RdS w B A l) (hb:ButS S w w') (hS:B<=S):RdS w' B A l:=fun hl=>by
 obtain ⟨ad,e,hB,h⟩:=h hl
 exact ⟨ad,e,hB,fun k hk=>⟨hb.cell (h k hk).1 (by rw [blk_add];omega),hb.cell (h k hk).2 (by show (ad.add (k * 2)).block≠S;rw [blk_add];omega)⟩⟩
theorem slide_in (F R a:Int) (ha:vat F R a) (X:Nat) (hX:X<18446744073709551616) (ds:List (Int × Int)) (hds:∀ d∈ds,(-2<=d.1/\d.1<=2/\-2<=d.2/\d.2<=2)/\¬ (d.1=0/\d.2=0)) (hl8:ds.length<=8) (A:Option Addr) (c:Nat) (w:World) (hA:RdS w w.heap.size A ds) :
  CallsIn Fence.wide 6 Tryz.prog 166 #[.agg #[.int .i64 F,.int .i64 R],.int .i64 a,.int .u64 X,.slice A ds.length c] w fun e w'=>e=.returned (.int .u64 (ofL (slideL F R a ds X):Int))/\Below w.heap.size w w':=by
 have hv:=ha.1
 have HD:=Lib.hid hds
 have HA:=Lib.hid hA
 have HAT:=Lib.hid ha
 clear hds hA ha
 refine callsIn_of_wp_marks Tryz.func166 rfl trivial ?_ rfl
 simp only [Tryz.ntmps166,List.size_toArray,List.length_cons,List.length_nil,Nat.reduceAdd,Nat.reduceSub,Array.replicate_succ,Array.replicate_zero,List.push_toArray,List.append_toArray,List.nil_append,List.cons_append]
 gi_wp2
 obtain ⟨V0,hV0⟩:∃ V0,((w.alloc (.cells #[.int .i64 F,.int .i64 R] 23)).alloc (.cells #[.int .u64 X] 85)).alloc (.cells #[.int .u64 0] 85)=V0:=⟨_,rfl⟩
 have hB0:Below w.heap.size w V0:=by
  rw [<- hV0]
  refine (((Below.refl _ _).alloc (by simp) _).alloc (by simp) _).alloc (by simp;omega) _
 have hs0:V0.heap.size=w.heap.size+3:=by rw [<- hV0];simp
 have k0:V0.cell? ⟨w.heap.size,0,none⟩=some (.int .i64 F):=by rw [<- hV0];exact alive _ (alive _ (by simp [go_sem]))
 have k1:V0.cell? ⟨w.heap.size,1,none⟩=some (.int .i64 R):=by rw [<- hV0];exact alive _ (alive _ (by simp [go_sem]))
 have k2:V0.cell? ⟨w.heap.size+1,0,none⟩=some (.int .u64 X):=by rw [<- hV0];exact alive _ (by simp [go_sem])
 have k3:V0.cell? ⟨w.heap.size+1+1,0,none⟩=some (.int .u64 ((ofL (slideL F R a (ds.take 0) X):Nat):Int)):=by rw [<- hV0];simp [go_sem,slideL,ofL]
 have k4:V0.frozen? ⟨w.heap.size+1+1,0,none⟩=false:=by rw [<- hV0];simp [go_sem]
 rw [hV0]
 clear hV0
 have HA0:=Lib.hid (RdS.but (S:=w.heap.size+1+1) (HA.out) (ButS.of hB0) (by omega))
 refine wpIn_loop (fun a' w'=>∃ (k:Nat) (Ds:List Nat) (u11 u16 u17 u18 u19 u20 u21 u22 u23 u24 u25 u34:Value),k<=ds.length/\(w'.cell? ⟨w.heap.size+1+1,0,none⟩=some (.int .u64 ((ofL (slideL F R a (ds.take k) X):Nat):Int))/\w'.frozen? ⟨w.heap.size+1+1,0,none⟩=false)/\ButS (w.heap.size+1+1) V0 w'/\MarksAt (w.heap.size+1+1+1) Ds w' /\
   a'={ tmps:=#[Value.agg #[Value.int IntKind.i64 F,Value.int IntKind.i64 R],Value.int IntKind.i64 a,Value.int IntKind.u64 X,Value.slice A ds.length c,Value.pointer (some ⟨w.heap.size,0,none⟩),undef,Value.pointer (some ⟨w.heap.size+1,0,none⟩),undef,Value.int IntKind.u64 0,
     Value.pointer (some ⟨w.heap.size+1+1,0,none⟩),undef,u11,undef,Value.slice A ds.length c,Value.int IntKind.i64 ds.length,Value.int IntKind.i64 k,u16,u17,u18,u19,u20,u21,u22,u23,u24,u25,undef,undef,undef,undef,undef,undef,undef,undef,u34,undef],defers:=marks Ds })
  (fun a' _=>ds.length - (intOf (a'.tmps.getD 15 undef)).toNat) ?start ?round
 case start=>exact ⟨0,[],_,_,_,_,_,_,_,_,_,_,_,_,Nat.zero_le _,⟨k3,k4⟩,ButS.refl _ _,MarksAt.nil _ _,rfl⟩
 case round =>
  rintro _ wr ⟨k,Ds,u11,u16,u17,u18,u19,u20,u21,u22,u23,u24,u25,u34,hk,⟨hS,hSf⟩,hB,hM,rfl⟩
  have e0:=hB.cell k0 (by simp;omega)
  have e1:=hB.cell k1 (by simp;omega)
  have e2:=hB.cell k2 (by simp)
  have hsz:=hB.size
  clear k0 k1 k2 k3 k4
  have hkl:ds.length<=8:=hl8
  by_cases hlt:k<ds.length
  ·obtain ⟨ad,rfl,hbl,hc0,hc1⟩:=(HA0.out.but hB (by omega)).at_ hlt
   have hdm:ds[k]?.getD (0,0)=ds[k]:=by rw [List.getElem?_eq_getElem hlt];rfl
   have hdk:=HD.out ds[k] (List.getElem_mem hlt)
   have HTK:Hid (ds.take (k+1)=ds.take k ++ [ds[k]]):=Lib.hid (by rw [List.take_succ_eq_append_getElem hlt])
   rw [hdm] at hc0 hc1
   generalize ds[k]=d at *
   obtain ⟨f,r⟩:=d
   simp only at hc0 hc1 hdk
   obtain ⟨⟨f0,f1,r0,r1⟩,hfr⟩:=hdk
   clear hdm
   have g0:=alive (.cells #[.int .i64 f,.int .i64 r] 197) e0
   have g1:=alive (.cells #[.int .i64 f,.int .i64 r] 197) e1
   have g2:=alive (.cells #[.int .i64 f,.int .i64 r] 197) e2
   have g3:=alive (.cells #[.int .i64 f,.int .i64 r] 197) hS
   have HFR:=Lib.hid hfr
   clear hfr
   gi_wp2_with fail
   refine ⟨trivial,callsIn_wide.2 ((pRay_any F R a f r _).mono ?_)⟩
   rintro e w2 ⟨rfl,rfl⟩
   gi_wp2_with fail
   obtain ⟨V,hV⟩:∃ V,((((wr.alloc (.cells #[.int .i64 f,.int .i64 r] 197)).alloc (.cells #[.int .i64 F,.int .i64 R] 23)).alloc (.cells #[.int .i64 a] 3)).alloc (.cells #[.int .i64 f] 3)).alloc (.cells #[.int .i64 r] 3)=V:=⟨_,rfl⟩
   have v0:V.cell? ⟨w.heap.size+1+1,0,none⟩=some (.int .u64 ((ofL (slideL F R a (ds.take k) X ++ vl ([]:List (El (rayL F R (a % F) (a / F) f r)))):Nat):Int)):=by rw [<- hV,vl_nil,List.append_nil];exact alive _ (alive _ (alive _ (alive _ g3)))
   have v2:V.cell? ⟨w.heap.size+1,0,none⟩=some (.int .u64 X):=by rw [<- hV];exact alive _ (alive _ (alive _ (alive _ g2)))
   have x0:V.cell? ⟨wr.heap.size+1,0,none⟩=some (.int .i64 F):=by rw [<- hV];simp [go_sem]
   have x1:V.cell? ⟨wr.heap.size+1,1,none⟩=some (.int .i64 R):=by rw [<- hV];simp [go_sem]
   have x2:V.cell? ⟨wr.heap.size+1+1,0,none⟩=some (.int .i64 a):=by rw [<- hV];simp [go_sem]
   have x3:V.cell? ⟨wr.heap.size+1+1+1,0,none⟩=some (.int .i64 f):=by rw [<- hV];simp [go_sem]
   have x4:V.cell? ⟨wr.heap.size+1+1+1+1,0,none⟩=some (.int .i64 r):=by rw [<- hV];simp [go_sem]
   have hVs:V.heap.size=wr.heap.size+5:=by rw [<- hV];simp
   have hVB:Below wr.heap.size wr V:=by
    rw [<- hV]
    refine (((((Below.refl _ _).alloc (by simp) _).alloc (by simp) _).alloc (by simp;omega) _).alloc (by simp;omega) _).alloc (by simp;omega) _
   have v1:V.frozen? ⟨w.heap.size+1+1,0,none⟩=false:=(hVB.frozen (p:=⟨w.heap.size+1+1,0,none⟩) (by simp;omega)).trans hSf
   have hVU:ButS (w.heap.size+1+1) wr V:=ButS.of hVB
   rw [hV]
   clear hV g0 g1 g2 g3 e0 e1 e2 hc0 hc1
   have HT64:=Lib.hid (fun (pre:List (El (rayL F R (a % F) (a / F) f r)))=>el_64 hv (T:=slideL F R a (ds.take k) X ++ vl pre) (fun i hi=>by
    rcases List.mem_append.1 hi with h | h
    ·exact slide_lt hv h
    ·exact vl_lt hv i h))
   have HLT:=Lib.hid (fun i hi=>rayL_lt (F:=F) (R:=R) (x:=a % F) (y:=a / F) (f:=f) (r:=r) hv i hi)
   have hRI:RayIs F R a f r (rayL F R (a % F) (a / F) f r):=.inl ⟨HAT.out,HFR.out,rfl⟩
   have HSN:=Lib.hid (slide_snoc F R a (ds.take k) (f,r) X)
   simp only at HSN
   rw [<- HTK.out] at HSN
   generalize rayL F R (a % F) (a / F) f r=L at *
   generalize slideL F R a (ds.take k) X=T at *
   obtain ⟨T2,hT2⟩:∃ T2,slideL F R a (ds.take (k+1)) X=T2:=⟨_,rfl⟩
   have HT2:=Lib.hid hT2
   rw [hT2] at HSN
   clear hT2
   apply range_ray hRI (by omega) (by omega) (by omega) (by omega) (by omega) rfl (wr.heap.size+1) (w.heap.size+1+1) (.inl (by omega)) (by omega) rfl x0 x1 x2 x3 x4
    (fun pre=>.int .u64 ((ofL (T ++ vl pre):Nat):Int)) (fun pre=>∀ i∈vl pre,X.testBit i=false) (fun pre=>.int .u64 ((ofL (T ++ vl pre):Nat):Int)) (fun cc pre=>cc=.exit 2/\∃ q x,pre=q ++ [x]/\(∀ i∈vl q,X.testBit i=false)/\X.testBit x.1=true)
    v0 v1 (fun i hi=>by cases hi)
   case hassign =>
    intro l x W K hK
    gi_wp2
    exact hK
   case hbody =>
    intro l pre x W hS hSf hB hp hlen
    have HP0:=Lib.hid hp
    clear hp hlen
    have hx64:x.1<64:=by have:=HLT.out x.1 x.2;have:=(vsz_mul hv).2;omega
    have HP:=Lib.hid (or_bitN (ofL (T ++ vl pre)) x.1 (HT64.out pre) hx64)
    have hocc:=hB.cell v2 (by simp)
    obtain ⟨W1,hW1⟩:∃ W1,(W.setCell ⟨w.heap.size+1+1,0,none⟩ (.int .u64 (bits .or .u64 (ofL (T ++ vl pre)) (bitN x.1)))).drew=W1:=⟨_,rfl⟩
    have y0:W1.cell? ⟨w.heap.size+1+1,0,none⟩=some (.int .u64 ((ofL (T ++ vl (pre ++ [x])):Nat):Int)):=by
     rw [<- hW1,vl_snoc,<- List.append_assoc,ofL_snoc,<- HP.out]
     exact World.cell?_setCell_same W ⟨w.heap.size+1+1,0,none⟩ _ hS
    have y1:W1.frozen? ⟨w.heap.size+1+1,0,none⟩=false:=by rw [<- hW1];exact (World.frozen?_setCell ..).trans hSf
    have y2:ButS (w.heap.size+1+1) W W1:=by rw [<- hW1];exact (ButS.set _ _ _).drew
    have y3:W1.cell? ⟨w.heap.size+1,0,none⟩=some (.int .u64 X):=y2.cell hocc (by simp)
    have HW1:=Lib.hid hW1
    have HBI:=Lib.hid (has_in X x.1 hX (by omega) (by omega))
    have hmx:Tryz.prog.follows .mixedOrders=true:=by kernel_rfl
    clear hW1 HP
    gi_wp2
    gi_region_with_o (refine ⟨trivial,?_⟩;gi_at_call 196;refine (CallsIn.inRound l (callsIn_wide.2 (pSingle_any _ (by omega) (by omega) _))).mono ?_;rintro e w4 ⟨rfl,rfl⟩)
    all_goals
     simp only [Int.toNat_natCast] at *
     rw [HW1.out]
     have hb2:=HBI.out
     cases hbit:X.testBit x.1
     ·rw [hbit] at hb2
      have HB2:=Lib.hid hb2
      have HBT:=Lib.hid hbit
      clear hb2 hbit
      gi_wp2_with fail
      refine ⟨trivial,CallsIn.inRound l (callsIn_wide.2 ((HB2.out _).mono ?_))⟩
      rintro e w5 ⟨rfl,rfl⟩
      gi_wp2
      refine ⟨⟨y0,y1⟩,y2,fun i hi=>?_⟩
      rw [vl_snoc] at hi
      rcases List.mem_append.1 hi with h | h
      ·exact HP0.out i h
      ·rw [List.mem_singleton.1 h];exact HBT.out
     ·rw [hbit] at hb2
      have HB2:=Lib.hid hb2
      have HBT:=Lib.hid hbit
      clear hb2 hbit
      gi_wp2_with fail
      refine ⟨trivial,CallsIn.inRound l (callsIn_wide.2 ((HB2.out _).mono ?_))⟩
      rintro e w5 ⟨rfl,rfl⟩
      gi_wp2
      exact ⟨⟨y0,y1⟩,y2,rfl,pre,x,rfl,HP0.out,HBT.out⟩
   case hdone =>
    intro D ys W hD hys hS hSf hW hp hK
    have HE:Hid (T ++ vl ys=T2):=Lib.hid (by rw [HSN.out,hys,stop_done (by rw [<- hys];exact hp)])
    rw [HE.out] at hS
    have hM2:=hM.cons (hVU.trans hW) (by omega) (D:=D) (by omega) (by omega) hK
    have hB2:ButS (w.heap.size+1+1) V0 W:=hB.trans (hVU.trans hW)
    clear hp hK hM
    gi_wp2
    refine ⟨?_,?_⟩
    ·refine ⟨k+1,D :: Ds,?_⟩
     repeat apply Exists.intro
     exact ⟨by omega,⟨by rw [HT2.out];exact hS,hSf⟩,hB2,hM2,rfl⟩
    ·simp [intOf];omega
   case hstop =>
    rintro D cc pre W hD hpre hS hSf hW ⟨rfl,q,x,rfl,hq,hx⟩ hK
    have HE:Hid (T ++ vl (q ++ [x])=T2):=Lib.hid (by
     rw [vl_snoc] at hpre ⊢
     rw [HSN.out,stop_pre hpre hq hx])
    rw [HE.out] at hS
    have hM2:=hM.cons (hVU.trans hW) (by omega) (D:=D) (by omega) (by omega) hK
    have hB2:ButS (w.heap.size+1+1) V0 W:=hB.trans (hVU.trans hW)
    clear hpre hK hM hq hx
    gi_wp2
    refine ⟨?_,?_⟩
    ·refine ⟨k+1,D :: Ds,?_⟩
     repeat apply Exists.intro
     exact ⟨by omega,⟨by rw [HT2.out];exact hS,hSf⟩,hB2,hM2,rfl⟩
    ·simp [intOf];omega
  ·have hkl:k=ds.length:=by omega
   have HE:Hid (slideL F R a (ds.take k) X=slideL F R a ds X):=Lib.hid (by rw [hkl,List.take_length])
   rw [HE.out] at hS
   clear hkl
   gi_wp2
   refine leaves_marks Ds _ hM (fun w' hw=>?_)
   refine ⟨_,results_tmp rfl _ _ _,rfl,?_⟩
   exact (hB0.trans (hB.below (by omega) (by omega))).trans (hw.mono (by omega))
end Go.Proofs.YtbccbgonlmkpkaaGreatDoor
namespace Go.Proofs.YtbccbgonlmkpkaaGreatDoor
open Go.RowKit
theorem x64 {F R:Int} {X:Nat} (hv:vsz F R) (hX:X<2 ^ (F * R).toNat):X<18446744073709551616:=by
 have h:=(vsz_mul hv).2
 have:2 ^ (F * R).toNat<=2 ^ 64:=Nat.pow_le_pow_right (by decide) (by omega)
 simp at this
 omega
end Go.Proofs.YtbccbgonlmkpkaaGreatDoor
namespace Go.Proofs.YtbccbgonlmkpkaaGreatDoor
open Go.RowKit Go.Shelf Go.Sort
def linesL:List Int:=[0,1,1,0,0,-1,-1,0,1,1,1,-1,-1,-1,-1,1]
def jumpsL:List Int:=[1,2,2,1,2,-1,1,-2,-1,-2,-2,-1,-2,1,-1,2]
def Tb (w:World):Prop:=(∀ j,j<16->w.cell? ⟨1,j,none⟩=some (.int .i64 (linesL[j]?.getD 0)))/\(∀ j,j<16->w.cell? ⟨2,j,none⟩=some (.int .i64 (jumpsL[j]?.getD 0)))
theorem Tb.below {w w':World} (h:Tb w) (hb:Below w.heap.size w w'):Tb w' :=
 ⟨fun j hj=>(hb.cell (p:=⟨1,j,none⟩) (World.block_lt_of_cell? _ _ (h.1 j hj))).trans (h.1 j hj),fun j hj=>(hb.cell (p:=⟨2,j,none⟩) (World.block_lt_of_cell? _ _ (h.2 j hj))).trans (h.2 j hj)⟩
theorem slide_any (F R a:Int) (ha:vat F R a) (X:Nat) (hX:X<18446744073709551616) (ds:List (Int × Int)) (hds:∀ d∈ds,(-2<=d.1/\d.1<=2/\-2<=d.2/\d.2<=2)/\¬ (d.1=0/\d.2=0)) (hl8:ds.length<=8) (A:Option Addr) (c:Nat) (w:World) (hA:RdS w w.heap.size A ds) :
  Calls Tryz.prog 166 #[.agg #[.int .i64 F,.int .i64 R],.int .i64 a,.int .u64 X,.slice A ds.length c] w fun e w'=>e=.returned (.int .u64 (ofL (slideL F R a ds X):Int))/\Below w.heap.size w w' :=
 callsIn_wide.1 (slide_in F R a ha X hX ds hds hl8 A c w hA)
def ones:Nat:=18446744073709551615
theorem leap_any (F R a:Int) (ha:vat F R a) (ds:List (Int × Int)) (hds:∀ d∈ds,(-2<=d.1/\d.1<=2/\-2<=d.2/\d.2<=2)/\¬ (d.1=0/\d.2=0)) (hl8:ds.length<=8) (A:Option Addr) (c:Nat) (w:World) (hA:RdS w w.heap.size A ds) :
  Calls Tryz.prog 165 #[.agg #[.int .i64 F,.int .i64 R],.int .i64 a,.slice A ds.length c] w fun e w'=>e=.returned (.int .u64 (ofL (slideL F R a ds ones):Int))/\Below w.heap.size w w':=by
 have HS:=Lib.hid (slide_any F R a ha ones (by decide) ds hds hl8 A c (w.alloc (.cells #[.int .i64 F,.int .i64 R] 23)) (fun hl=>by
  obtain ⟨ad,e,hb,h⟩:=hA hl
  exact ⟨ad,e,by simp;omega,fun k hk=>⟨alive _ (h k hk).1,alive _ (h k hk).2⟩⟩))
 clear hA hds
 go_enter Tryz.func165,Tryz.ntmps165
 go_wp2_with fail
 refine (HS.out).mono ?_
 rintro e w1 ⟨rfl,hb⟩
 go_wp2
 go_ret
 exact ⟨rfl,after1 hb⟩
theorem add_off (B o n:Nat):(⟨B,o,none⟩:Addr).add n=⟨B,o+n,none⟩:=by
 unfold Addr.add
 by_cases h:n=0
 ·rw [if_pos h,h];rfl
 ·rw [if_neg h]
theorem rds_of {W:World} {n B o:Nat} {l:List Int} {ds:List (Int × Int)} (h:∀ j,j<16->W.cell? ⟨B,j,none⟩=some (.int .i64 (l[j]?.getD 0))) (hB:B<n) (hd:∀ k,k<ds.length->o+k * 2+1<16/\(l[o+k * 2]?.getD 0)=(ds[k]?.getD (0,0)).1/\(l[o+k * 2+1]?.getD 0)=(ds[k]?.getD (0,0)).2):RdS W n (some ⟨B,o,none⟩) ds:=fun _=>by
 refine ⟨_,rfl,hB,fun k hk=>?_⟩
 obtain ⟨h1,h2,h3⟩:=hd k hk
 rw [add_off,<- h2,<- h3]
 exact ⟨h _ (by omega),h _ (by omega)⟩
def rookD:List (Int × Int):=[(0,1),(1,0),(0,-1),(-1,0)]
def bishopD:List (Int × Int):=[(1,1),(1,-1),(-1,-1),(-1,1)]
def knightD:List (Int × Int):=[(1,2),(2,1),(2,-1),(1,-2),(-1,-2),(-2,-1),(-2,1),(-1,2)]
def dirsOf (k:Int):List (Int × Int):=if k=2 then knightD else if k=3 then bishopD else if k=4 then rookD else rookD ++ bishopD
def stopOf (k:Int) (X:Nat):Nat:=if k=2\/k=6 then ones else X
theorem pReach_sl (F R a k:Int) (hk:k=2\/k=3\/k=4\/k=5\/k=6) (ha:vat F R a) (X:Nat) (hX:X<2 ^ (F * R).toNat) (w:World) (hT:Tb w) :
  Calls Tryz.prog 110 #[.agg #[.int .i64 F,.int .i64 R],.int .i8 k,.int .i64 a,.int .u64 X] w fun e w'=>e=.returned (.tuple #[.int .u64 (ofL (slideL F R a (dirsOf k) (stopOf k X)):Int),.int .i64 0])/\Below w.heap.size w w':=by
 have hX64:=x64 ha.1 hX
 have HS:=Lib.hid (pIsSet_yes F R X hX64 ha.1)
 have HV:=Lib.hid (valid_yes F R a ha)
 have HB:decide (X<2 ^ (F * R).toNat)=true:=by simp [hX]
 rw [HB] at HS
 go_enter Tryz.func110,Tryz.ntmps110
 go_wp2_with fail
 refine (HV.out _).mono ?_
 rintro e w1 ⟨rfl,hb1⟩
 have s1:=hb1.size
 simp at s1
 have c0:=hb1.cell (p:=⟨w.heap.size,0,none⟩) (by simp)
 have c1:=hb1.cell (p:=⟨w.heap.size,1,none⟩) (by simp)
 simp [go_sem] at c0 c1
 have hB1:=after1 hb1
 go_wp2_with fail
 refine (HS.out _).mono ?_
 rintro e w2 ⟨rfl,hb2⟩
 have d0:=(hb2.cell (p:=⟨w.heap.size,0,none⟩) (by simp;omega)).trans c0
 have d1:=(hb2.cell (p:=⟨w.heap.size,1,none⟩) (by simp;omega)).trans c1
 have hB2:=chain hB1 hb2
 have hT2:=hT.below hB2
 clear hb1 hb2 c0 c1 hB1
 have l0:=hT2.1 0 (by omega)
 have l1:=hT2.1 1 (by omega)
 have l2:=hT2.1 2 (by omega)
 have l3:=hT2.1 3 (by omega)
 have l4:=hT2.1 4 (by omega)
 have l5:=hT2.1 5 (by omega)
 have l6:=hT2.1 6 (by omega)
 have l7:=hT2.1 7 (by omega)
 have l8:=hT2.1 8 (by omega)
 have l9:=hT2.1 9 (by omega)
 have l10:=hT2.1 10 (by omega)
 have l11:=hT2.1 11 (by omega)
 have l12:=hT2.1 12 (by omega)
 have l13:=hT2.1 13 (by omega)
 have l14:=hT2.1 14 (by omega)
 have l15:=hT2.1 15 (by omega)
 have j0:=hT2.2 0 (by omega)
 have j1:=hT2.2 1 (by omega)
 have j2:=hT2.2 2 (by omega)
 have j3:=hT2.2 3 (by omega)
 have j4:=hT2.2 4 (by omega)
 have j5:=hT2.2 5 (by omega)
 have j6:=hT2.2 6 (by omega)
 have j7:=hT2.2 7 (by omega)
 have j8:=hT2.2 8 (by omega)
 have j9:=hT2.2 9 (by omega)
 have j10:=hT2.2 10 (by omega)
 have j11:=hT2.2 11 (by omega)
 have j12:=hT2.2 12 (by omega)
 have j13:=hT2.2 13 (by omega)
 have j14:=hT2.2 14 (by omega)
 have j15:=hT2.2 15 (by omega)
 simp [linesL] at l0 l1 l2 l3 l4 l5 l6 l7 l8 l9 l10 l11 l12 l13 l14 l15
 simp [jumpsL] at j0 j1 j2 j3 j4 j5 j6 j7 j8 j9 j10 j11 j12 j13 j14 j15
 go_upto_region 5 with fail
 obtain ⟨V,hV⟩:∃ V,(w2.alloc (.cells #[.int .i64 0,.int .i64 1,.int .i64 1,.int .i64 0,.int .i64 0,.int .i64 (-1),.int .i64 (-1),.int .i64 0,.int .i64 1,.int .i64 1,.int .i64 1,.int .i64 (-1),.int .i64 (-1),.int .i64 (-1),.int .i64 (-1),.int .i64 1] 198)).alloc (.cells #[.int .i64 1,.int .i64 2,.int .i64 2,.int .i64 1,.int .i64 2,.int .i64 (-1),.int .i64 1,.int .i64 (-2),.int .i64 (-1),.int .i64 (-2),.int .i64 (-2),.int .i64 (-1),.int .i64 (-2),.int .i64 1,.int .i64 (-1),.int .i64 2] 198)=V:=⟨_,rfl⟩
 have k0:V.cell? ⟨w.heap.size,0,none⟩=some (.int .i64 F):=by rw [<- hV];exact alive _ (alive _ d0)
 have k1:V.cell? ⟨w.heap.size,1,none⟩=some (.int .i64 R):=by rw [<- hV];exact alive _ (alive _ d1)
 have hB3:Below w.heap.size w V:=by rw [<- hV];exact (hB2.alloc hB2.size _).alloc (by have:=hB2.size;simp;omega) _
 have hl:∀ j,j<16->V.cell? ⟨w2.heap.size,j,none⟩=some (.int .i64 (linesL[j]?.getD 0)):=by
  intro j hj
  rw [<- hV]
  refine alive _ ?_
  have:j=0\/j=1\/j=2\/j=3\/j=4\/j=5\/j=6\/j=7\/j=8\/j=9\/j=10\/j=11\/j=12\/j=13\/j=14\/j=15:=by omega
  rcases this with rfl | rfl | rfl | rfl | rfl | rfl | rfl | rfl | rfl | rfl | rfl | rfl | rfl | rfl | rfl | rfl <;> rw [World.cell?_alloc_new] <;> rfl
 have hj:∀ j,j<16->V.cell? ⟨w2.heap.size+1,j,none⟩=some (.int .i64 (jumpsL[j]?.getD 0)):=by
  intro j hj
  rw [<- hV]
  have e:w2.heap.size+1=(w2.alloc (.cells #[.int .i64 0,.int .i64 1,.int .i64 1,.int .i64 0,.int .i64 0,.int .i64 (-1),.int .i64 (-1),.int .i64 0,.int .i64 1,.int .i64 1,.int .i64 1,.int .i64 (-1),.int .i64 (-1),.int .i64 (-1),.int .i64 (-1),.int .i64 1] 198)).heap.size:=by simp
  rw [e]
  have:j=0\/j=1\/j=2\/j=3\/j=4\/j=5\/j=6\/j=7\/j=8\/j=9\/j=10\/j=11\/j=12\/j=13\/j=14\/j=15:=by omega
  rcases this with rfl | rfl | rfl | rfl | rfl | rfl | rfl | rfl | rfl | rfl | rfl | rfl | rfl | rfl | rfl | rfl <;> rw [World.cell?_alloc_new] <;> rfl
 have hVs:V.heap.size=w2.heap.size+2:=by rw [<- hV];simp
 rw [hV]
 clear hV l0 l1 l2 l3 l4 l5 l6 l7 l8 l9 l10 l11 l12 l13 l14 l15 j0 j1 j2 j3 j4 j5 j6 j7 j8 j9 j10 j11 j12 j13 j14 j15 d0 d1 hB2 hT hT2
 have q0:=cell_regrown k0
 have q1:=cell_regrown k1
 rcases hk with rfl | rfl | rfl | rfl | rfl
 ·have HC:Hid (∀ d os,Calls Tryz.prog 165 #[.agg #[.int .i64 F,.int .i64 R],.int .i64 a,.slice (some ⟨w2.heap.size+1,0,none⟩) 8 8] (grow (redrawn V d) os) fun e w''=>e=.returned (.int .u64 (ofL (slideL F R a (dirsOf 2) (stopOf 2 X)):Int))/\∃ p:Regrown,w''=grow (redrawn V p.d) p.os):=Lib.hid (fun d os=>Calls.regrown_of (leap_any F R a ha (dirsOf 2) (by decide) (by decide) _ 8 _ (rds_of (o:=0) (fun j hj2=>cell_regrown (hj j hj2) d os) (by simp [grow,redrawn];omega) (by decide))))
  clear hl hj
  go_wp2
  refine wp_region_quiet_below (by kernel_rfl) (by kernel_rfl) ?_
  repeat (go_big_quiet_step ((go_at_call 165;exact HC.out _ _)))
  refine wpQuiet_nil ?_
  rintro _ ⟨⟨dq,osq⟩,rfl⟩
  go_wp2
  go_ret2
  exact ⟨rfl,chain hB3 (below_regrown V dq osq)⟩
 ·have HC:Hid (∀ d os,Calls Tryz.prog 166 #[.agg #[.int .i64 F,.int .i64 R],.int .i64 a,.int .u64 X,.slice (some ⟨w2.heap.size,8,none⟩) 4 4] (grow (redrawn V d) os) fun e w''=>e=.returned (.int .u64 (ofL (slideL F R a (dirsOf 3) (stopOf 3 X)):Int))/\∃ p:Regrown,w''=grow (redrawn V p.d) p.os):=Lib.hid (fun d os=>Calls.regrown_of (slide_any F R a ha X hX64 (dirsOf 3) (by decide) (by decide) _ 4 _ (rds_of (o:=8) (fun j hj2=>cell_regrown (hl j hj2) d os) (by simp [grow,redrawn];omega) (by decide))))
  clear hl hj
  go_wp2
  refine wp_region_quiet_below (by kernel_rfl) (by kernel_rfl) ?_
  repeat (go_big_quiet_step ((go_at_call 166;exact HC.out _ _)))
  refine wpQuiet_nil ?_
  rintro _ ⟨⟨dq,osq⟩,rfl⟩
  go_wp2
  go_ret2
  exact ⟨rfl,chain hB3 (below_regrown V dq osq)⟩
 ·have HC:Hid (∀ d os,Calls Tryz.prog 166 #[.agg #[.int .i64 F,.int .i64 R],.int .i64 a,.int .u64 X,.slice (some ⟨w2.heap.size,0,none⟩) 4 8] (grow (redrawn V d) os) fun e w''=>e=.returned (.int .u64 (ofL (slideL F R a (dirsOf 4) (stopOf 4 X)):Int))/\∃ p:Regrown,w''=grow (redrawn V p.d) p.os):=Lib.hid (fun d os=>Calls.regrown_of (slide_any F R a ha X hX64 (dirsOf 4) (by decide) (by decide) _ 8 _ (rds_of (o:=0) (fun j hj2=>cell_regrown (hl j hj2) d os) (by simp [grow,redrawn];omega) (by decide))))
  clear hl hj
  go_wp2
  refine wp_region_quiet_below (by kernel_rfl) (by kernel_rfl) ?_
  repeat (go_big_quiet_step ((go_at_call 166;exact HC.out _ _)))
  refine wpQuiet_nil ?_
  rintro _ ⟨⟨dq,osq⟩,rfl⟩
  go_wp2
  go_ret2
  exact ⟨rfl,chain hB3 (below_regrown V dq osq)⟩
 ·have HC:Hid (∀ d os,Calls Tryz.prog 166 #[.agg #[.int .i64 F,.int .i64 R],.int .i64 a,.int .u64 X,.slice (some ⟨w2.heap.size,0,none⟩) 8 8] (grow (redrawn V d) os) fun e w''=>e=.returned (.int .u64 (ofL (slideL F R a (dirsOf 5) (stopOf 5 X)):Int))/\∃ p:Regrown,w''=grow (redrawn V p.d) p.os):=Lib.hid (fun d os=>Calls.regrown_of (slide_any F R a ha X hX64 (dirsOf 5) (by decide) (by decide) _ 8 _ (rds_of (o:=0) (fun j hj2=>cell_regrown (hl j hj2) d os) (by simp [grow,redrawn];omega) (by decide))))
  clear hl hj
  go_wp2
  refine wp_region_quiet_below (by kernel_rfl) (by kernel_rfl) ?_
  repeat (go_big_quiet_step ((go_at_call 166;exact HC.out _ _)))
  refine wpQuiet_nil ?_
  rintro _ ⟨⟨dq,osq⟩,rfl⟩
  go_wp2
  go_ret2
  exact ⟨rfl,chain hB3 (below_regrown V dq osq)⟩
 ·have HC:Hid (∀ d os,Calls Tryz.prog 165 #[.agg #[.int .i64 F,.int .i64 R],.int .i64 a,.slice (some ⟨w2.heap.size,0,none⟩) 8 8] (grow (redrawn V d) os) fun e w''=>e=.returned (.int .u64 (ofL (slideL F R a (dirsOf 6) (stopOf 6 X)):Int))/\∃ p:Regrown,w''=grow (redrawn V p.d) p.os):=Lib.hid (fun d os=>Calls.regrown_of (leap_any F R a ha (dirsOf 6) (by decide) (by decide) _ 8 _ (rds_of (o:=0) (fun j hj2=>cell_regrown (hl j hj2) d os) (by simp [grow,redrawn];omega) (by decide))))
  clear hl hj
  go_wp2
  refine wp_region_quiet_below (by kernel_rfl) (by kernel_rfl) ?_
  repeat (go_big_quiet_step ((go_at_call 165;exact HC.out _ _)))
  refine wpQuiet_nil ?_
  rintro _ ⟨⟨dq,osq⟩,rfl⟩
  go_wp2
  go_ret2
  exact ⟨rfl,chain hB3 (below_regrown V dq osq)⟩
end Go.Proofs.YtbccbgonlmkpkaaGreatDoor
namespace Go.Proofs.YtbccbgonlmkpkaaGreatDoor
open Go.RowKit Go.Shelf Go.Sort
theorem ones_bit {i:Nat} (h:i<64):ones.testBit i=true:=by
 have:ones=2 ^ 64 - 1:=by decide
 rw [this,Nat.testBit_two_pow_sub_one]
 simp [h]
theorem stop_ones {L:List Nat} (h:∀ i∈L,i<64):stopL L ones=L.take 1:=by
 cases L with
 | nil=>rfl
 | cons a L=>rw [stop_cons_yes (ones_bit (h a (by simp)))];rfl
theorem ofL_ext {l m:List Nat} (h:∀ i,i∈l ↔ i∈m):ofL l=ofL m:=by
 apply Nat.eq_of_testBit_eq
 intro i
 rw [ofL_bit,ofL_bit]
 simp [h i]
theorem mem_pick {P:Nat->Bool} {k n:Nat}:n∈pickTo P k ↔ n<k/\P n=true:=by unfold pickTo;simp
theorem slideL_ones {F R a:Int} (hv:vsz F R) (ds:List (Int × Int)):∀ n,n∈slideL F R a ds ones ↔ ∃ d∈ds,n∈(rayL F R (a % F) (a / F) d.1 d.2).take 1:=by
 intro n
 unfold slideL
 rw [List.mem_flatMap]
 constructor
 ·rintro ⟨d,hd,h⟩
  rw [stop_ones (fun i hi=>by have:=rayL_lt hv i hi;have:=(vsz_mul hv).2;omega)] at h
  exact ⟨d,hd,h⟩
 ·rintro ⟨d,hd,h⟩
  refine ⟨d,hd,?_⟩
  rw [stop_ones (fun i hi=>by have:=rayL_lt hv i hi;have:=(vsz_mul hv).2;omega)]
  exact h
theorem knight_dec:∀ i:Fin 15,∀ j:Fin 15,(((i.1:Int) - 7,(j.1:Int) - 7)∈knightD)=((((i.1:Int) - 7) * ((i.1:Int) - 7)+((j.1:Int) - 7) * ((j.1:Int) - 7) == 5)=true):=by
 have:∀ i:Fin 15,∀ j:Fin 15,decide (((i.1:Int) - 7,(j.1:Int) - 7)∈knightD)=(((i.1:Int) - 7) * ((i.1:Int) - 7)+((j.1:Int) - 7) * ((j.1:Int) - 7) == 5):=by decide +kernel
 intro i j
 rw [<- this i j]
 simp
theorem king_dec:∀ i:Fin 15,∀ j:Fin 15,(((i.1:Int) - 7,(j.1:Int) - 7)∈rookD ++ bishopD)=((cheb ((i.1:Int) - 7) ((j.1:Int) - 7) == 1)=true):=by
 have:∀ i:Fin 15,∀ j:Fin 15,decide (((i.1:Int) - 7,(j.1:Int) - 7)∈rookD ++ bishopD)=(cheb ((i.1:Int) - 7) ((j.1:Int) - 7) == 1):=by decide +kernel
 intro i j
 rw [<- this i j]
 simp
theorem diff_bd {F R a b:Int} (ha:vat F R a) (hb:vat F R b):(-7<=b % F - a % F/\b % F - a % F<=7)/\(-7<=b / F - a / F/\b / F - a / F<=7):=by
 obtain ⟨p0,p1,p2,p3⟩:=place_bd ha.1 ha.2.1 ha.2.2
 obtain ⟨q0,q1,q2,q3⟩:=place_bd hb.1 hb.2.1 hb.2.2
 have f2:=ha.1.2.1
 have r2:=ha.1.2.2.2
 omega
theorem slides_mem {F R a b:Int} {n X:Nat} (hn:(n:Int)=b) (ha:vat F R a) (hb:vat F R b) (ds:List (Int × Int)) (hds:∀ d∈ds,(-1<=d.1/\d.1<=1/\-1<=d.2/\d.2<=1)/\¬ (d.1=0/\d.2=0)) :
  n∈slideL F R a ds X ↔ (lineB F a b=true/\(sg (b % F - a % F),sg (b / F - a / F))∈ds/\freeB ((betL F R a b).map fun i:Nat=>(i:Int)) X=true):=by
 unfold slideL
 rw [List.mem_flatMap]
 constructor
 ·rintro ⟨d,hd,h⟩
  obtain ⟨⟨f0,f1,r0,r1⟩,h0⟩:=hds d hd
  obtain ⟨h1,h2,h3,h4⟩:=(slide_mem hn ha hb f0 f1 r0 r1 h0).1 h
  exact ⟨h1,by rw [h2,h3];exact hd,h4⟩
 ·rintro ⟨h1,h2,h3⟩
  refine ⟨_,h2,?_⟩
  obtain ⟨⟨f0,f1,r0,r1⟩,h0⟩:=hds _ h2
  exact (slide_mem hn ha hb f0 f1 r0 r1 h0).2 ⟨h1,rfl,rfl,h3⟩
theorem sg_dec:∀ i:Fin 15,∀ j:Fin 15,lineD ((i.1:Int) - 7) ((j.1:Int) - 7)=true->¬ (((i.1:Int) - 7)=0/\((j.1:Int) - 7)=0) ->
  (((sg ((i.1:Int) - 7),sg ((j.1:Int) - 7))∈rookD ↔ ((((i.1:Int) - 7) == 0) || (((j.1:Int) - 7) == 0))=true)/\((sg ((i.1:Int) - 7),sg ((j.1:Int) - 7))∈bishopD ↔ ((((i.1:Int) - 7) == 0) || (((j.1:Int) - 7) == 0))=false)):=by decide +kernel
theorem sg_dirs {d q:Int} (d0:-7<=d/\d<=7) (q0:-7<=q/\q<=7) (hl:lineD d q=true) (h:¬ (d=0/\q=0)):((sg d,sg q)∈rookD ↔ ((d == 0) || (q == 0))=true)/\((sg d,sg q)∈bishopD ↔ ((d == 0) || (q == 0))=false):=by
 have:=sg_dec ⟨(d+7).toNat,by omega⟩ ⟨(q+7).toNat,by omega⟩
 simp only [show (((d+7).toNat:Nat):Int) - 7=d by omega,show (((q+7).toNat:Nat):Int) - 7=q by omega] at this
 exact this hl h
theorem reach_eq {F R k a:Int} (hk:k=2\/k=3\/k=4\/k=5\/k=6) (ha:vat F R a) (X:Nat):ofL (slideL F R a (dirsOf k) (stopOf k X))=ofL (reachL F R k a X):=by
 apply ofL_ext
 intro n
 unfold reachL
 rw [mem_pick]
 by_cases hlt:(n:Int)<F * R
 ·have hb:vat F R (n:Int):=⟨ha.1,by omega,hlt⟩
  have hlt2:n<(F * R).toNat:=by omega
  obtain ⟨d0,q0⟩:=diff_bd ha hb
  have hline:lineB F a (n:Int)=true->lineD ((n:Int) % F - a % F) ((n:Int) / F - a / F)=true/\¬ ((n:Int) % F - a % F=0/\(n:Int) / F - a / F=0):=by
   intro h
   unfold lineB at h
   simp only [Bool.and_eq_true] at h
   refine ⟨h.2,fun e=>?_⟩
   have:a=(n:Int):=place_inj ha hb (by omega) (by omega)
   rw [this] at h
   simp at h
  have leap:∀ ds:List (Int × Int),n∈slideL F R a ds ones ↔ (((n:Int) % F - a % F),((n:Int) / F - a / F))∈ds:=by
   intro ds
   rw [slideL_ones ha.1]
   constructor
   ·rintro ⟨d,hd,h⟩
    obtain ⟨e1,e2⟩:=(leap_mem rfl ha hb).1 h
    rw [e1,e2]
    exact hd
   ·intro h
    exact ⟨_,h,(leap_mem rfl ha hb).2 ⟨rfl,rfl⟩⟩
  rcases hk with rfl | rfl | rfl | rfl | rfl
  ·rw [show stopOf 2 X=ones by simp [stopOf],show dirsOf 2=knightD by simp [dirsOf],leap]
   have:=knight_dec ⟨((n:Int) % F - a % F+7).toNat,by omega⟩ ⟨((n:Int) / F - a / F+7).toNat,by omega⟩
   simp only [show ((((n:Int) % F - a % F+7).toNat:Nat):Int) - 7=(n:Int) % F - a % F by omega,show ((((n:Int) / F - a / F+7).toNat:Nat):Int) - 7=(n:Int) / F - a / F by omega] at this
   rw [this]
   simp [reachB,hlt2]
  ·rw [show stopOf 3 X=X by simp [stopOf],show dirsOf 3=bishopD by simp [dirsOf],slides_mem rfl ha hb _ (by decide)]
   simp only [reachB,hlt2,true_and]
   constructor
   ·rintro ⟨h1,h2,h3⟩
    obtain ⟨l1,l2⟩:=hline h1
    have:=(sg_dirs d0 q0 l1 l2).2.1 h2
    simp [h1,h3,this]
   ·intro h
    simp at h
    obtain ⟨⟨h1,h2⟩,h3⟩:=h
    obtain ⟨l1,l2⟩:=hline h1
    exact ⟨h1,(sg_dirs d0 q0 l1 l2).2.2 (by simp;omega),h3⟩
  ·rw [show stopOf 4 X=X by simp [stopOf],show dirsOf 4=rookD by simp [dirsOf],slides_mem rfl ha hb _ (by decide)]
   simp only [reachB,hlt2,true_and]
   constructor
   ·rintro ⟨h1,h2,h3⟩
    obtain ⟨l1,l2⟩:=hline h1
    have:=(sg_dirs d0 q0 l1 l2).1.1 h2
    simp [h1,h3,this]
   ·intro h
    simp at h
    obtain ⟨⟨h1,h2⟩,h3⟩:=h
    obtain ⟨l1,l2⟩:=hline h1
    exact ⟨h1,(sg_dirs d0 q0 l1 l2).1.2 (by simp;omega),h3⟩
  ·rw [show stopOf 5 X=X by simp [stopOf],show dirsOf 5=rookD ++ bishopD by simp [dirsOf],slides_mem rfl ha hb _ (by decide)]
   simp only [reachB,hlt2,true_and]
   constructor
   ·rintro ⟨h1,h2,h3⟩
    simp [h1,h3]
   ·intro h
    simp at h
    obtain ⟨h1,h3⟩:=h
    obtain ⟨l1,l2⟩:=hline h1
    refine ⟨h1,?_,h3⟩
    rw [List.mem_append]
    have hs:=sg_dirs d0 q0 l1 l2
    cases hz:(((n:Int) % F - a % F == 0) || ((n:Int) / F - a / F == 0))
    ·exact .inr (hs.2.2 hz)
    ·exact .inl (hs.1.2 hz)
  ·rw [show stopOf 6 X=ones by simp [stopOf],show dirsOf 6=rookD ++ bishopD by simp [dirsOf],leap]
   have:=king_dec ⟨((n:Int) % F - a % F+7).toNat,by omega⟩ ⟨((n:Int) / F - a / F+7).toNat,by omega⟩
   simp only [show ((((n:Int) % F - a % F+7).toNat:Nat):Int) - 7=(n:Int) % F - a % F by omega,show ((((n:Int) / F - a / F+7).toNat:Nat):Int) - 7=(n:Int) / F - a / F by omega] at this
   rw [this,<- dist_cheb]
   simp [reachB,hlt2]
 ·constructor
  ·intro h
   exact absurd (slide_lt ha.1 h) hlt
  ·rintro ⟨h,_⟩
   have:=(vsz_mul ha.1).1
   omega
end Go.Proofs.YtbccbgonlmkpkaaGreatDoor
namespace Go.Proofs.YtbccbgonlmkpkaaGreatDoor
open Go.RowKit Go.Shelf Go.Sort
theorem pReach_yes (F R a k:Int) (hk:k=2\/k=3\/k=4\/k=5\/k=6) (ha:vat F R a) (X:Nat) (hX:X<2 ^ (F * R).toNat) (w:World) (hT:Tb w) :
  Calls Tryz.prog 110 #[.agg #[.int .i64 F,.int .i64 R],.int .i8 k,.int .i64 a,.int .u64 X] w fun e w'=>e=.returned (.tuple #[.int .u64 (ofL (reachL F R k a X):Int),.int .i64 0])/\Below w.heap.size w w':=by
 rw [<- reach_eq hk ha X]
 exact pReach_sl F R a k hk ha X hX w hT
end Go.Proofs.YtbccbgonlmkpkaaGreatDoor
namespace Go.Proofs.YtbccbgonlmkpkaaGreatDoor
open Go.RowKit Go.Shelf Go.Sort
theorem fwd_bd (bl:Bool):fwd bl=1\/fwd bl=-1:=by cases bl <;> simp [fwd]
def pawnD (bl:Bool):List (Int × Int):=[(-1,fwd bl),(1,fwd bl)]
theorem pPawn_sl (F R a:Int) (bl:Bool) (ha:vat F R a) (w:World) :
  Calls Tryz.prog 163 #[.agg #[.int .i64 F,.int .i64 R],.bool bl,.int .i64 a] w fun e w'=>e=.returned (.tuple #[.int .u64 (ofL (slideL F R a (pawnD bl) ones):Int),.int .i64 0])/\Below w.heap.size w w':=by
 have HV:=Lib.hid (valid_yes F R a ha)
 have HF:=Lib.hid (pForward_any bl)
 have hu:=fwd_bd bl
 unfold pawnD
 obtain ⟨up,hup⟩:∃ up,fwd bl=up:=⟨_,rfl⟩
 rw [hup] at HF hu ⊢
 clear hup
 have HL:=Lib.hid (fun c A w hA=>leap_any F R a ha [(-1,up),(1,up)] (by
  intro d hd
  simp at hd
  rcases hd with rfl | rfl <;> simp <;> omega) (by simp) A c w hA)
 clear hu ha
 go_enter Tryz.func163,Tryz.ntmps163
 go_wp2_with fail
 refine (HV.out _).mono ?_
 rintro e w1 ⟨rfl,hb1⟩
 have s1:=hb1.size
 simp at s1
 have c0:=hb1.cell (p:=⟨w.heap.size,0,none⟩) (by simp)
 have c1:=hb1.cell (p:=⟨w.heap.size,1,none⟩) (by simp)
 simp [go_sem] at c0 c1
 have hB1:=after1 hb1
 clear hb1
 go_wp2_with fail
 refine (HF.out _).mono ?_
 rintro e w2 ⟨rfl,rfl⟩
 go_wp2_with fail
 refine (HL.out 2 (some ⟨w1.heap.size,0,none⟩) _ (fun _=>⟨_,rfl,by simp,fun k hk=>?_⟩)).mono ?_
 ·have:k=0\/k=1:=by simp at hk;omega
  rcases this with rfl | rfl
  ·simp [go_sem,Addr.add]
  ·simp [go_sem,Addr.add]
 rintro e w2 ⟨rfl,hb2⟩
 go_wp2
 go_ret2
 exact ⟨rfl,chain (hB1.alloc hB1.size _) (hb2)⟩
theorem pawn_eq {F R a:Int} (bl:Bool) (ha:vat F R a):ofL (slideL F R a (pawnD bl) ones)=ofL (pawnL F R a bl):=by
 apply ofL_ext
 intro n
 unfold pawnL
 rw [mem_pick,slideL_ones ha.1]
 by_cases hlt:(n:Int)<F * R
 ·have hb:vat F R (n:Int):=⟨ha.1,by omega,hlt⟩
  have hlt2:n<(F * R).toNat:=by omega
  simp only [hlt2,true_and,pawnB,pawnD]
  constructor
  ·rintro ⟨d,hd,h⟩
   obtain ⟨e1,e2⟩:=(leap_mem rfl ha hb).1 h
   simp at hd
   rcases hd with rfl | rfl <;> simp at e1 e2 ⊢ <;> omega
  ·intro h
   simp at h
   obtain ⟨h1,h2⟩:=h
   by_cases h3:(n:Int) % F - a % F=1
   ·exact ⟨(1,fwd bl),by simp,(leap_mem rfl ha hb).2 ⟨h3,h1⟩⟩
   ·exact ⟨(-1,fwd bl),by simp,(leap_mem rfl ha hb).2 ⟨by simp;omega,h1⟩⟩
 ·constructor
  ·rintro ⟨d,hd,h⟩
   exact absurd (rayL_lt ha.1 n (List.mem_of_mem_take h)) hlt
  ·rintro ⟨h,_⟩
   have:=(vsz_mul ha.1).1
   omega
theorem pPawn_yes (F R a:Int) (bl:Bool) (ha:vat F R a) (w:World) :
  Calls Tryz.prog 163 #[.agg #[.int .i64 F,.int .i64 R],.bool bl,.int .i64 a] w fun e w'=>e=.returned (.tuple #[.int .u64 (ofL (pawnL F R a bl):Int),.int .i64 0])/\Below w.heap.size w w':=by
 rw [<- pawn_eq bl ha]
 exact pPawn_sl F R a bl ha w
end Go.Proofs.YtbccbgonlmkpkaaGreatDoor
namespace Go.Proofs.YtbccbgonlmkpkaaGreatDoor
open Go.RowKit
def kgA (X:Nat):Value:=if cntB 64 X=1 then .tuple #[.int .i64 (Lib.ctz 64 X:Nat),.int .i64 0] else .tuple #[.int .i64 0,.int .i64 9]
theorem aKing_any (B X:Nat) (bl:Bool) (hX:X<18446744073709551616) (w:World) (hT:Tab w) (hc:w.cell? ⟨B,offN bl+1+6,none⟩=some (.int .u64 (X:Nat))) :
  Calls Tryz.prog 169 #[.pointer (some ⟨B,0,none⟩),.bool bl] w fun e w'=>e=.returned (kgA X)/\w'=w:=by
 have HS:=Lib.hid (aSide_any B bl)
 have HO:=Lib.hid (ones_any X hX)
 have HG:=fun h=>tz_any X h hX w hT
 unfold kgA
 have hle:=cntB_le 64 X
 by_cases h1:cntB 64 X=1
 ·rw [if_pos h1]
  have hX0:X≠0:=by rintro rfl;revert h1;decide
  have HG2:=Lib.hid (HG hX0)
  rw [h1] at HO
  clear h1 hle HG hX0
  go_enter Tryz.func169,Tryz.ntmps169
  go_wp2_with fail
  refine (HS.out _).mono ?_
  rintro e w1 ⟨rfl,rfl⟩
  go_wp2_with fail
  refine (HO.out _).mono ?_
  rintro e w1 ⟨rfl,rfl⟩
  go_wp2_with fail
  refine (HG2.out).mono ?_
  rintro e w1 ⟨rfl,rfl⟩
  go_wp2
  go_ret2
  exact ⟨rfl,rfl⟩
 ·rw [if_neg h1]
  have hne:(((cntB 64 X:Nat):Int) != 1)=true:=by rw [bne_iff_ne];omega
  generalize cntB 64 X=n at *
  clear h1 HG
  go_enter Tryz.func169,Tryz.ntmps169
  go_wp2_with fail
  refine (HS.out _).mono ?_
  rintro e w1 ⟨rfl,rfl⟩
  go_wp2_with fail
  refine (HO.out _).mono ?_
  rintro e w1 ⟨rfl,rfl⟩
  go_wp2
  go_ret2
  exact ⟨rfl,rfl⟩
def attL (F R:Int) (k:Nat) (bl:Bool) (a:Int) (X:Nat):List Nat:=if k=1 then pawnL F R a bl else reachL F R k a X
theorem aAtt_any (F R a:Int) (k:Nat) (bl:Bool) (B X:Nat) (hk:1<=k) (hk6:k<=6) (ha:vat F R a) (hX:X<2 ^ (F * R).toNat) (w:World) (hT:Tb w) (h0:w.cell? ⟨B,0,none⟩=some (.int .i64 F)) (h1:w.cell? ⟨B,1,none⟩=some (.int .i64 R)) :
  Calls Tryz.prog 203 #[.pointer (some ⟨B,0,none⟩),.int .i8 k,.bool bl,.int .i64 a,.int .u64 X] w fun e w'=>e=.returned (.int .u64 (ofL (attL F R k bl a X):Int))/\Below w.heap.size w w':=by
 unfold attL
 by_cases h:k=1
 ·subst h
  rw [if_pos rfl]
  have HP:=Lib.hid (fun w=>pPawn_yes F R a bl ha w)
  clear ha hX hk hk6
  go_enter Tryz.func203,Tryz.ntmps203
  go_wp2_with fail
  refine (HP.out _).mono ?_
  rintro e w1 ⟨rfl,hb⟩
  go_wp2
  go_ret
  exact ⟨rfl,hb⟩
 ·rw [if_neg h]
  have HR:=Lib.hid (fun w hT=>pReach_yes F R a k (by omega) ha X hX w hT)
  have hz:(((k:Nat):Int) == 1)=false:=beq_eq_false_iff_ne.2 (by omega)
  clear ha hX hk hk6 h
  go_enter Tryz.func203,Tryz.ntmps203
  go_wp2_with fail
  refine (HR.out _ hT).mono ?_
  rintro e w1 ⟨rfl,hb⟩
  go_wp2
  go_ret
  exact ⟨rfl,hb⟩
end Go.Proofs.YtbccbgonlmkpkaaGreatDoor
