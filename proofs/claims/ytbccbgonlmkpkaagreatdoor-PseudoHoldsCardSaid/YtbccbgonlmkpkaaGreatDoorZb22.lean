/- What the theorem needs, piece Zb22. -/
import Derived.Sort.CutIn
import Derived.Test.YtbccbgonlmkpkaaGreatDoorZb14
import Derived.Test.YtbccbgonlmkpkaaGreatDoorZb19
import Derived.RangeFuncFrom
import Derived.Test.YtbccbgonlmkpkaaGreatDoorZb11
import Derived.Test.YtbccbgonlmkpkaaGreatDoorZb21
set_option linter.unusedSimpArgs false
set_option linter.unusedVariables false
set_option maxRecDepth 100000
set_option maxHeartbeats 16000000
namespace Go.Proofs.YtbccbgonlmkpkaaGreatDoor
open Go.RowKit Go.Shelf Go.Sort
attribute [local go_sem] Oper.semAt_some
def stepsR (L:List Nat) (X left:Nat):List Nat:=(L.takeWhile (fun i=>!X.testBit i)).take left
theorem stepsR_done {L:List Nat} {X left:Nat} (h:∀ i∈L,X.testBit i=false) (hl:L.length<=left):stepsR L X left=L:=by
 unfold stepsR
 have e:L.takeWhile (fun i=>!X.testBit i)=L:=by
  have:=List.takeWhile_append_of_pos (p:=fun i=>!X.testBit i) (l₁:=L) (l₂:=[]) (by intro i hi;simp [h i hi])
  simpa using this
 rw [e,List.take_of_length_le hl]
theorem stepsR_stop {l L:List Nat} {x X left:Nat} (hp:l ++ [x] <+: L) (h:∀ i∈l,X.testBit i=false) (hl:l.length<=left) (hx:l.length=left\/X.testBit x=true):stepsR L X left=l:=by
 obtain ⟨t,rfl⟩:=hp
 unfold stepsR
 rw [List.append_assoc,List.takeWhile_append_of_pos (by intro i hi;simp [h i hi])]
 rcases hx with hx | hx
 ·rw [List.take_left' hx]
 ·rw [List.singleton_append,List.takeWhile_cons,if_neg (by simp [hx]),List.append_nil,List.take_of_length_le hl]
theorem wpIn_only {Fe:Fence} {n:Nat} {P:Program} {c:Code} {K:Act->World->Prop} {Q':Exit->Act->World->Prop} {a:Act} {w:World} (h:c.wpIn Fe n P (Exit.then K (fun _ _ _=>False)) a w):c.wpIn Fe n P (Exit.then K Q') a w:=by
 refine wpIn_mono h ?_
 intro e a w h
 cases e <;> first | exact h | exact h.elim
def leftOf (R y:Int) (bl:Bool):Nat:=if 6<=R/\y=scd R bl then 2 else 1
theorem pSteps_in (F R a:Int) (bl:Bool) (ha:vat F R a) (X:Nat) (hX:X<2 ^ (F * R).toNat) (w:World) :
  CallsIn Fence.wide 6 Tryz.prog 162 #[.agg #[.int .i64 F,.int .i64 R],.bool bl,.int .i64 a,.int .u64 X] w fun e w'=>e=.returned (.tuple #[.int .u64 (ofL (stepsR (rayL F R (a % F) (a / F) 0 (fwd bl)) X (leftOf R (a / F) bl)):Int),.int .i64 0])/\Below w.heap.size w w':=by
 have hv:=ha.1
 have hX64:=x64 hv hX
 have HSE:=Lib.hid (pIsSet_yes F R X hX64 hv)
 have HB:decide (X<2 ^ (F * R).toNat)=true:=by simp [hX]
 rw [HB] at HSE
 have HPL:=Lib.hid (placeX_yes F R a ha)
 have HSC:=Lib.hid (pSecond_any F R bl ⟨hv.2.2.1,hv.2.2.2⟩)
 have HFW:=Lib.hid (pForward_any bl)
 have hu:=fwd_bd bl
 have hr3:=hv.2.2.1
 have hr8:=hv.2.2.2
 have hRI:RayIs F R a 0 (fwd bl) (rayL F R (a % F) (a / F) 0 (fwd bl)):=.inl ⟨ha,fun h=>by omega,rfl⟩
 have H64:=Lib.hid (fun pre:List (El (rayL F R (a % F) (a / F) 0 (fwd bl)))=>vl_64 hv (pre:=pre))
 have HLT:=Lib.hid (fun i hi=>rayL_lt (F:=F) (R:=R) (x:=a % F) (y:=a / F) (f:=0) (r:=fwd bl) hv i hi)
 obtain ⟨m0,m1⟩:=vsz_mul hv
 generalize rayL F R (a % F) (a / F) 0 (fwd bl)=L at *
 generalize fwd bl=up at *
 obtain ⟨x,hx⟩:∃ x,a % F=x:=⟨_,rfl⟩
 obtain ⟨y,hy⟩:∃ y,a / F=y:=⟨_,rfl⟩
 rw [hx,hy] at HPL
 rw [hy]
 obtain ⟨lf,hlf⟩:∃ lf,leftOf R y bl=lf:=⟨_,rfl⟩
 rw [hlf]
 unfold leftOf at hlf
 generalize scd R bl=sc at *
 have HLF:=Lib.hid hlf
 clear hlf hx hy ha HB hX
 obtain ⟨tb,htb⟩:∃ tb,(decide (6<=R) && (y == sc))=tb:=⟨_,rfl⟩
 have hl2:lf=if tb=true then 2 else 1:=by
  rw [<- htb,<- HLF.out]
  simp
 have HL2:=Lib.hid hl2
 have hlf2:lf<=2:=by rw [hl2];split <;> omega
 clear hl2
 have H3:((R ≥ 6)/\((y == sc)=tb))\/(R<6/\Hid (tb=false)):=by
  by_cases h6:6<=R
  ·exact .inl ⟨h6,by rw [<- htb];simp [h6]⟩
  ·exact .inr ⟨by omega,Lib.hid (by rw [<- htb];simp [h6])⟩
 clear htb HLF
 refine callsIn_of_wp_marks Tryz.func162 rfl trivial ?_ rfl
 simp only [Tryz.ntmps162,List.size_toArray,List.length_cons,List.length_nil,Nat.reduceAdd,Nat.reduceSub,Array.replicate_succ,Array.replicate_zero,List.push_toArray,List.append_toArray,List.nil_append,List.cons_append]
 gi_wp2_with fail
 refine ⟨trivial,callsIn_wide.2 ((HPL.out _).mono ?_)⟩
 rintro e w1 ⟨rfl,hb1⟩
 have s1:=hb1.size
 simp at s1
 have a0:=hb1.cell (p:=⟨w.heap.size,0,none⟩) (by simp;omega)
 have a1:=hb1.cell (p:=⟨w.heap.size,1,none⟩) (by simp;omega)
 have a2:=hb1.cell (p:=⟨w.heap.size+1,0,none⟩) (by simp)
 simp [go_sem] at a0 a1 a2
 have hB1:Below w.heap.size w w1:=by
  refine Below.trans ?_ (hb1.mono (by simp;omega))
  go_grown
 clear hb1
 gi_wp2_with fail
 refine ⟨trivial,callsIn_wide.2 ((HSE.out _).mono ?_)⟩
 rintro e w2 ⟨rfl,hb1⟩
 have s2:=hb1.size
 have b0:=(hb1.cell (p:=⟨w.heap.size,0,none⟩) (by simp;omega)).trans a0
 have b1:=(hb1.cell (p:=⟨w.heap.size,1,none⟩) (by simp;omega)).trans a1
 have b2:=(hb1.cell (p:=⟨w.heap.size+1,0,none⟩) (by simp;omega)).trans a2
 have hB2:=chain hB1 hb1
 clear hb1 a0 a1 a2 hB1
 have e0:=alive (.cells #[.int .i64 1] 3) b0
 have e1:=alive (.cells #[.int .i64 1] 3) b1
 have e2:=alive (.cells #[.int .i64 1] 3) b2
 gi_upto_region 5 with fail
 gi_cut [13,40] from 31 (fun s13 s40 wx=>s13=.pointer (some ⟨w2.heap.size,0,none⟩)/\s40=.bool tb/\wx.cell? ⟨w2.heap.size,0,none⟩=some (.int .i64 1)/\wx.frozen? ⟨w2.heap.size,0,none⟩=false/\wx.cell? ⟨w.heap.size,0,none⟩=some (.int .i64 F)/\wx.cell? ⟨w.heap.size,1,none⟩=some (.int .i64 R)/\wx.cell? ⟨w.heap.size+1,0,none⟩=some (.int .u64 X)/\Below w.heap.size w wx/\w2.heap.size<wx.heap.size)
 case first =>
  have e3:(w2.alloc (.cells #[.int .i64 1] 3)).cell? ⟨w2.heap.size,0,none⟩=some (.int .i64 1):=by simp [go_sem]
  have e4:(w2.alloc (.cells #[.int .i64 1] 3)).frozen? ⟨w2.heap.size,0,none⟩=false:=by simp [go_sem]
  have hs3:(w2.alloc (.cells #[.int .i64 1] 3)).heap.size=w2.heap.size+1:=by simp
  have hB3:Below w.heap.size w (w2.alloc (.cells #[.int .i64 1] 3)):=hB2.alloc hB2.size _
  have hsz:=hB2.size
  rcases H3 with ⟨h6,hys⟩ | ⟨h6,htb⟩
  ·gi_wp2_with fail
   refine ⟨trivial,callsIn_wide.2 ((HSC.out _).mono ?_)⟩
   rintro e w3 ⟨rfl,hb3⟩
   rw [hs3] at hb3
   gi_wp2_with fail
   gi_meet
   exact ⟨rfl,rfl,(hb3.cell (p:=⟨w2.heap.size,0,none⟩) (by simp)).trans e3,(hb3.frozen (p:=⟨w2.heap.size,0,none⟩) (by simp)).trans e4,(hb3.cell (p:=⟨w.heap.size,0,none⟩) (by simp;omega)).trans e0,(hb3.cell (p:=⟨w.heap.size,1,none⟩) (by simp;omega)).trans e1,(hb3.cell (p:=⟨w.heap.size+1,0,none⟩) (by simp;omega)).trans e2,hB3.trans (hb3.mono (by omega)),by have:=hb3.size;omega⟩
  ·gi_wp2_with fail
   refine ⟨trivial,?_⟩
   gi_wp2_with fail
   gi_meet
   exact ⟨rfl,by rw [htb.out],e3,e4,e0,e1,e2,hB3,by omega⟩
 case rest =>
  obtain ⟨rfl,rfl,c3,c4,c0,c1,c2,hB3,hs3⟩:=hcut
  gi_upto_if 40 with fail
  gi_cut [13] from 41 (fun s13 wx=>s13=.pointer (some ⟨w2.heap.size,0,none⟩)/\wx.cell? ⟨w2.heap.size,0,none⟩=some (.int .i64 (lf:Nat))/\wx.frozen? ⟨w2.heap.size,0,none⟩=false/\wx.cell? ⟨w.heap.size,0,none⟩=some (.int .i64 F)/\wx.cell? ⟨w.heap.size,1,none⟩=some (.int .i64 R)/\wx.cell? ⟨w.heap.size+1,0,none⟩=some (.int .u64 X)/\Below w.heap.size w wx/\w2.heap.size<wx.heap.size)
  case first =>
   cases tb
   ·gi_wp2_with fail
    gi_meet
    exact ⟨rfl,by rw [HL2.out];simpa using c3,c4,c0,c1,c2,hB3,hs3⟩
   ·gi_wp2_with fail
    gi_meet
    have hn2:=hB2.size
    exact ⟨rfl,by rw [World.cell?_setCell_same _ _ _ c3,HL2.out];rfl,(World.frozen?_setCell ..).trans c4,(World.cell?_setCell_far _ _ _ _ (by simp;omega)).trans c0,(World.cell?_setCell_far _ _ _ _ (by simp;omega)).trans c1,(World.cell?_setCell_far _ _ _ _ (by simp;omega)).trans c2,hB3.setCell (p:=⟨w2.heap.size,0,none⟩) hn2 _,by simp;omega⟩
  case rest =>
   obtain ⟨rfl,d3,d4,d0,d1,d2,hB4,hs4⟩:=hcut
   gi_wp2_with fail
   have z0:=alive (.cells #[.int .u64 0] 85) d0
   have z1:=alive (.cells #[.int .u64 0] 85) d1
   have z2:=alive (.cells #[.int .u64 0] 85) d2
   have z3:=alive (.cells #[.int .u64 0] 85) d3
   have z4:(wc.alloc (.cells #[.int .u64 0] 85)).frozen? ⟨w2.heap.size,0,none⟩=false:=by
    have:=(box1 wc (.cells #[.int .u64 0] 85)).frozen (p:=⟨w2.heap.size,0,none⟩) hs4
    exact this.trans d4
   have z5:(wc.alloc (.cells #[.int .u64 0] 85)).cell? ⟨wc.heap.size,0,none⟩=some (.int .u64 ((ofL []:Nat):Int)):=by simp [go_sem];rfl
   have z6:(wc.alloc (.cells #[.int .u64 0] 85)).frozen? ⟨wc.heap.size,0,none⟩=false:=by simp [go_sem]
   have hBz:Below w.heap.size w (wc.alloc (.cells #[.int .u64 0] 85)):=hB4.alloc hB4.size _
   have hsz:(wc.alloc (.cells #[.int .u64 0] 85)).heap.size=wc.heap.size+1:=by simp
   generalize wc.alloc (.cells #[.int .u64 0] 85)=Z at *
   have hs5:w2.heap.size<wc.heap.size:=hs4
   generalize wc.heap.size=S2 at *
   have hmx:Tryz.prog.follows .mixedOrders=true:=by kernel_rfl
   clear d0 d1 d2 d3 d4
   gi_cut [45] from 41 (fun s45 wx=>s45=.func (.func 212) #[] #[.pointer (some ⟨S2+1,0,none⟩),.pointer (some ⟨S2+1+1,0,none⟩),.pointer (some ⟨S2+1+1+1,0,none⟩),.pointer (some ⟨S2+1+1+1+1,0,none⟩)] /\
    wx=((((Z.alloc (.cells #[.int .i64 F,.int .i64 R] 23)).alloc (.cells #[.int .i64 a] 3)).alloc (.cells #[.int .i64 0] 3)).alloc (.cells #[.int .i64 up] 3)).drew)
   case first =>
    refine wpIn_only ?_
    gi_region_with_o (first
     | (refine ⟨trivial,?_⟩;gi_at_call 195;refine (callsIn_wide.2 (HFW.out _)).mono ?_;rintro e w5 ⟨rfl,rfl⟩)
     | (refine ⟨trivial,?_⟩;gi_at_call 194;refine (callsIn_wide.2 (pRay_any F R a 0 up _)).mono ?_;rintro e w5 ⟨rfl,rfl⟩))
    all_goals
     gi_wp2_with fail
     gi_meet
     exact ⟨rfl,rfl⟩
   case rest =>
    obtain ⟨rfl,hV⟩:=hcut
    generalize wc=V at *
    have hn2:=hB2.size
    have v0:V.cell? ⟨S2,0,none⟩=some (.int .u64 ((ofL (vl ([]:List (El L))):Nat):Int)):=by rw [hV];exact alive _ (alive _ (alive _ (alive _ z5)))
    have v2:V.cell? ⟨w.heap.size+1,0,none⟩=some (.int .u64 X):=by rw [hV];exact alive _ (alive _ (alive _ (alive _ z2)))
    have v3:V.cell? ⟨w2.heap.size,0,none⟩=some (.int .i64 ((lf - ([]:List (El L)).length:Nat):Int)):=by rw [hV];exact alive _ (alive _ (alive _ (alive _ z3)))
    have hZV:Below Z.heap.size Z V:=by
     rw [hV]
     refine (((((Below.refl _ _).alloc (by simp) _).alloc (by simp) _).alloc (by simp;omega) _).alloc (by simp;omega) _).drew
    have v1:V.frozen? ⟨S2,0,none⟩=false:=(hZV.frozen (p:=⟨S2,0,none⟩) (by simp;omega)).trans z6
    have v4:V.frozen? ⟨w2.heap.size,0,none⟩=false:=(hZV.frozen (p:=⟨w2.heap.size,0,none⟩) (by simp;omega)).trans z4
    have hb1:S2+1=Z.heap.size:=by omega
    have x0:V.cell? ⟨S2+1,0,none⟩=some (.int .i64 F):=by rw [hV,hb1];simp [go_sem]
    have x1:V.cell? ⟨S2+1,1,none⟩=some (.int .i64 R):=by rw [hV,hb1];simp [go_sem]
    have x2:V.cell? ⟨S2+1+1,0,none⟩=some (.int .i64 a):=by rw [hV,hb1];simp [go_sem]
    have x3:V.cell? ⟨S2+1+1+1,0,none⟩=some (.int .i64 0):=by rw [hV,hb1];simp [go_sem]
    have x4:V.cell? ⟨S2+1+1+1+1,0,none⟩=some (.int .i64 up):=by rw [hV,hb1];simp [go_sem]
    have hVs:V.heap.size=S2+5:=by rw [hV];simp;omega
    have hVB:Below w.heap.size w V:=hBz.trans (hZV.mono (by have:=hBz.size;omega))
    clear hV z0 z1 z2 z3 z4 z5 z6 hZV hBz hb1
    gi_wp2_with fail
    apply wpIn_rangeFunc_ownF rfl (by omega) (gf:=212) (lb:=#[.pointer (some ⟨S2+1,0,none⟩),.pointer (some ⟨S2+1+1,0,none⟩),.pointer (some ⟨S2+1+1+1,0,none⟩),.pointer (some ⟨S2+1+1+1+1,0,none⟩)]) rfl trivial (enters_of Tryz.func212 (by kernel_rfl) rfl)
     (ray_stops (6 - 1) (S2+1) w.heap.size F R a 0 up L hRI (by omega) (by omega) (by omega) (by omega) (by omega) V (by omega) (by omega) x0 x1 x2 x3 x4) kpR_t (kpR_b (by omega) (by omega)) (Below.refl _ _) (fun _=>rfl)
     (fun pre W=>((W.cell? ⟨S2,0,none⟩=some (.int .u64 (ofL (vl pre):Int))/\W.frozen? ⟨S2,0,none⟩=false)/\(W.cell? ⟨w2.heap.size,0,none⟩=some (.int .i64 ((lf - pre.length:Nat):Int))/\W.frozen? ⟨w2.heap.size,0,none⟩=false)/\W.cell? ⟨w.heap.size+1,0,none⟩=some (.int .u64 X))/\(S2<W.heap.size/\Below w.heap.size w W)/\((∀ i∈vl pre,X.testBit i=false)/\pre.length<=lf))
     (fun cc pre W=>(W.cell? ⟨S2,0,none⟩=some (.int .u64 (ofL (vl pre.dropLast):Int))/\(S2<W.heap.size/\Below w.heap.size w W))/\(cc=.exit 0/\∃ q x,pre=q ++ [x]/\(∀ i∈vl q,X.testBit i=false)/\q.length<=lf/\(q.length=lf\/X.testBit x.1=true)))
     (OwnFrom.and (OwnFrom.and (ownFrom_box _ _) (OwnFrom.and (ownFrom_box _ _) (ownFrom_cell _ (fun _=>.int .u64 X)))) (OwnFrom.and (OwnFrom.and (Own.from (fun s A B row hs hg hr=>Nat.lt_of_lt_of_le hs hg.size) _) (ownFrom_below (Nat.le_refl _) (by omega))) (ownFrom_pure _ _)))
     (fun cc=>OwnFrom.and (OwnFrom.and (ownFrom_cell _ _) (OwnFrom.and (Own.from (fun s A B row hs hg hr=>Nat.lt_of_lt_of_le hs hg.size) _) (ownFrom_below (Nat.le_refl _) (by omega)))) (ownFrom_pure _ _))
     ⟨⟨⟨v0,v1⟩,⟨v3,v4⟩,v2⟩,⟨by omega,hVB⟩,fun i hi=>by simp [vl] at hi,by simp⟩
    case hassign =>
     intro l x W K hK
     gi_wp2
     exact hK
    case hbody =>
     rintro l pre x W ⟨⟨⟨hS,hSf⟩,⟨hL,hLf⟩,ho⟩,⟨hsz,hB⟩,hfree,hlen2⟩ hlen
     have HFR:=Lib.hid hfree
     clear hfree hlen v0 v1 v2 v3 v4 x0 x1 x2 x3 x4 hVB
     have hx64:x.1<64:=by have:=HLT.out x.1 x.2;omega
     have EX:∀ W',W'.cell? ⟨S2,0,none⟩=some (.int .u64 (ofL (vl pre):Int))->(S2<W'.heap.size/\Below w.heap.size w W')->(pre.length=lf\/X.testBit x.1=true)->(W'.cell? ⟨S2,0,none⟩=some (.int .u64 (ofL (vl (pre ++ [x]).dropLast):Int))/\(S2<W'.heap.size/\Below w.heap.size w W'))/\(∃ q y,pre ++ [x]=q ++ [y]/\(∀ i∈vl q,X.testBit i=false)/\q.length<=lf/\(q.length=lf\/X.testBit y.1=true)):=fun W' h1 h2 h3 =>
      ⟨⟨by rw [List.dropLast_concat];exact h1,h2⟩,pre,x,rfl,HFR.out,hlen2,h3⟩
     have HEX:=Lib.hid EX
     clear EX
     by_cases hz:lf - pre.length=0
     ·have hpl:pre.length=lf:=by omega
      rw [hz] at hL
      gi_wp2_with fail
      refine ⟨trivial,?_⟩
      gi_wp2_with fail
      have hq:=HEX.out W hS ⟨hsz,hB⟩ (.inl hpl)
      exact ⟨keeps_below (Below.refl _ _),hq.1,rfl,hq.2⟩
     ·have hzb:(((lf - pre.length:Nat):Int) == 0)=false:=beq_eq_false_iff_ne.2 (by omega)
      have hb2:=has_in X x.1 hX64 (by omega) (by omega)
      simp only [Int.toNat_natCast] at hb2
      cases hbit:X.testBit x.1
      ·rw [hbit] at hb2
       have HB2:=Lib.hid hb2
       have HBT:=Lib.hid hbit
       clear hb2 hbit
       gi_wp2_with fail
       refine ⟨trivial,CallsIn.inRound l (callsIn_wide.2 ((HB2.out _).mono ?_))⟩
       rintro e w5 ⟨rfl,rfl⟩
       have HP:=Lib.hid (or_bitN (ofL (vl pre)) x.1 (H64.out pre) hx64)
       obtain ⟨W1,hW1⟩:∃ W1,(W.setCell ⟨S2,0,none⟩ (.int .u64 (bits .or .u64 (ofL (vl pre)) (bitN x.1)))).drew=W1:=⟨_,rfl⟩
       have y0:W1.cell? ⟨S2,0,none⟩=some (.int .u64 ((ofL (vl (pre ++ [x])):Nat):Int)):=by
        rw [<- hW1,vl_snoc,ofL_snoc,<- HP.out]
        exact World.cell?_setCell_same W ⟨S2,0,none⟩ _ hS
       have y1:W1.frozen? ⟨S2,0,none⟩=false:=by rw [<- hW1];exact (World.frozen?_setCell ..).trans hSf
       have y3:W1.cell? ⟨w2.heap.size,0,none⟩=some (.int .i64 ((lf - pre.length:Nat):Int)):=by rw [<- hW1];exact (World.cell?_setCell_far _ _ _ _ (by simp;omega)).trans hL
       have y4:W1.frozen? ⟨w2.heap.size,0,none⟩=false:=by rw [<- hW1];exact (World.frozen?_setCell ..).trans hLf
       have y5:W1.cell? ⟨w.heap.size+1,0,none⟩=some (.int .u64 X):=by rw [<- hW1];exact (World.cell?_setCell_far _ _ _ _ (by simp;omega)).trans ho
       have y6:W1.heap.size=W.heap.size:=by rw [<- hW1];show (W.setCell _ _).heap.size=_;simp
       have y7:Below w.heap.size w W1:=by rw [<- hW1];exact (hB.setCell (p:=⟨S2,0,none⟩) (by simp;omega) _).drew
       have y8:KeepsOthers W W1:=by rw [<- hW1];exact (KeepsOthers.setCell _ _ _).trans (KeepsOthers.drew _)
       have y9:KpR w.heap.size (S2+1) W W1:=by rw [<- hW1];exact ⟨((Below.refl _ _).setCell (p:=⟨S2,0,none⟩) (by simp;omega) _).drew,fun k h0 h1=>Below.heap_setCell _ _ _ _ (by simp;omega)⟩
       have HW1:=Lib.hid hW1
       have hwr:IntKind.i64.wrap (((lf - pre.length:Nat):Int) - 1)=((lf - (pre.length+1):Nat):Int):=by rw [IntWalk.i64_in _ (by omega)];omega
       have HSV:=Lib.hid (World.cell?_setCell_same W1 ⟨w2.heap.size,0,none⟩ (.int .i64 ((lf - (pre.length+1):Nat):Int)) y3)
       have HSF:=Lib.hid (fun v=>(World.frozen?_setCell (w:=W1) (a:=⟨w2.heap.size,0,none⟩) (v:=v) (b:=⟨w2.heap.size,0,none⟩)).trans y4)
       clear hW1 HP
       gi_wp2
       gi_region_with_o (refine ⟨trivial,?_⟩;gi_at_call 196;refine (CallsIn.inRound l (callsIn_wide.2 (pSingle_any _ (by omega) (by omega) _))).mono ?_;rintro e w4 ⟨rfl,rfl⟩)
       all_goals
        try simp only [Int.toNat_natCast] at *
        rw [HW1.out]
        gi_wp2
        refine ⟨y8.trans (KeepsOthers.setCell _ _ _),y9.trans ⟨(Below.refl _ _).setCell (p:=⟨w2.heap.size,0,none⟩) (by simp;omega) _,fun k h0 h1=>Below.heap_setCell _ _ _ _ (by simp;omega)⟩,⟨⟨(World.cell?_setCell_far _ _ _ _ (by simp;omega)).trans y0,(World.frozen?_setCell ..).trans y1⟩,⟨?_,HSF.out _⟩,(World.cell?_setCell_far _ _ _ _ (by simp;omega)).trans y5⟩,⟨?_,y7.setCell (p:=⟨w2.heap.size,0,none⟩) (by simp;omega) _⟩,?_,?_⟩
        ·rw [List.length_append];exact HSV.out
        ·show S2<(W1.setCell _ _).heap.size
         simp;omega
        ·rw [vl_snoc]
         intro i hi
         rcases List.mem_append.1 hi with h | h
         ·exact HFR.out i h
         ·rw [List.mem_singleton.1 h];exact HBT.out
        ·simp;omega
      ·rw [hbit] at hb2
       have HB2:=Lib.hid hb2
       have HBT:=Lib.hid hbit
       clear hb2 hbit
       gi_wp2_with fail
       refine ⟨trivial,CallsIn.inRound l (callsIn_wide.2 ((HB2.out _).mono ?_))⟩
       rintro e w5 ⟨rfl,rfl⟩
       gi_wp2
       have hq:=HEX.out W hS ⟨hsz,hB⟩ (.inr HBT.out)
       exact ⟨keeps_below (Below.refl _ _),hq.1,rfl,hq.2⟩
    case hdone =>
     rintro D ys W hD hys ⟨⟨⟨hS,hSf⟩,⟨hL,hLf⟩,ho⟩,⟨hsz,hB⟩,hfree,hlen2⟩ hK
     have HE:Hid (stepsR L X lf=L):=Lib.hid (stepsR_done (fun i hi=>hfree i (by rw [hys];exact hi)) (by have:=congrArg List.length hys;rw [vl_len] at this;omega))
     clear hfree
     gi_wp2
     refine ⟨by simp,.inl ⟨_,_,rfl,run_takeDeferred hK,?_⟩⟩
     exact ⟨_,results_tmp2 rfl _ _ _,by rw [HE.out];rfl,hB.trans (belowK_b (Nat.le_refl _) W D _ _ (by omega) hK rfl rfl)⟩
    case hstop =>
     rintro D cc pre W hD hpre ⟨⟨hS,hsz,hB⟩,rfl,q,x,rfl,hfree,hlen2,hx⟩ hK
     rw [List.dropLast_concat] at hS
     have HE:Hid (stepsR L X lf=vl q):=Lib.hid (by
      rw [vl_snoc] at hpre
      exact stepsR_stop hpre hfree (by rw [vl_len];exact hlen2) (by rw [vl_len];exact hx))
     clear hfree hpre hx
     gi_wp2
     refine ⟨by simp,.inl ⟨_,_,rfl,run_takeDeferred hK,?_⟩⟩
     exact ⟨_,results_tmp2 rfl _ _ _,by rw [HE.out];rfl,hB.trans (belowK_b (Nat.le_refl _) W D _ _ (by omega) hK rfl rfl)⟩
end Go.Proofs.YtbccbgonlmkpkaaGreatDoor
namespace Go.Proofs.YtbccbgonlmkpkaaGreatDoor
open Go.RowKit Go.Shelf Go.Sort
theorem ray_cons {F R x y f r:Int}:rayL F R x y f r=if rayP F R x y f r 0=true then rayNum F x y f r 0 :: (if rayP F R x y f r 1=true then rayNum F x y f r 1 :: ((List.range' 2 6).takeWhile (rayP F R x y f r)).map (rayNum F x y f r) else []) else []:=by
 unfold rayL
 have e:List.range 8=0 :: 1 :: List.range' 2 6:=by decide
 rw [e,List.takeWhile_cons,List.takeWhile_cons]
 cases rayP F R x y f r 0 <;> cases rayP F R x y f r 1 <;> simp
theorem num_ray {F R x y f r x' y':Int} {j:Nat} (hv:vsz F R) (hx:x+((j:Int)+1) * f=x') (hy:y+((j:Int)+1) * r=y') (h:onB F R x' y'=true):((rayNum F x y f r j:Nat):Int)=numV F R x' y'/\rayNum F x y f r j<64/\rayNum F x y f r j<(F * R).toNat:=by
 have hP:rayP F R x y f r j=true:=by unfold rayP;rw [hx,hy];exact h
 obtain ⟨h1,h2,h3⟩:=ray_place hv hP
 obtain ⟨m0,m1⟩:=vsz_mul hv
 have hb:=h3.2.2
 refine ⟨?_,by omega,by omega⟩
 unfold numV
 rw [if_pos h,<- hx,<- hy,<- h1,<- h2]
 have:=place_eq (a:=((rayNum F x y f r j:Nat):Int)) hv
 omega
theorem has_v {X N:Nat} (h:N<64):hasV X (N:Int)=X.testBit N:=by
 unfold hasV
 rw [if_pos (by omega)]
 simp
theorem steps_eq {F R a:Int} (bl:Bool) (ha:vat F R a) (X:Nat):ofL (stepsR (rayL F R (a % F) (a / F) 0 (fwd bl)) X (leftOf R (a / F) bl))=ofL (stepL F R a bl X):=by
 apply ofL_ext
 intro n
 unfold stepL
 rw [mem_pick]
 obtain ⟨p0,p1,p2,p3⟩:=place_bd ha.1 ha.2.1 ha.2.2
 have f1:=ha.1.1
 have f2:=ha.1.2.1
 have r1:=ha.1.2.2.1
 have r2:=ha.1.2.2.2
 have hu:=fwd_bd bl
 have hv:=ha.1
 obtain ⟨m0,m1⟩:=vsz_mul hv
 have hs:scd R bl=if fwd bl=1 then 1 else R - 2:=by cases bl <;> simp [scd,fwd]
 unfold leftOf stepB
 generalize scd R bl=sc at *
 generalize a % F=x at *
 generalize a / F=y at *
 generalize fwd bl=u at *
 have q0:rayP F R x y 0 u 0=onB F R x (y+u):=by unfold rayP;congr 1 <;> simp
 have q1:rayP F R x y 0 u 1=onB F R x (y+2 * u):=by unfold rayP;congr 1;simp
 have k0:onB F R x (y+u)=true->_:=num_ray (x:=x) (y:=y) (f:=0) (r:=u) (j:=0) hv (by simp) (by simp)
 have k1:onB F R x (y+2 * u)=true->_:=num_ray (x:=x) (y:=y) (f:=0) (r:=u) (j:=1) hv (by simp) (by simp)
 rw [ray_cons,q0,q1]
 generalize rayNum F x y 0 u 0=N0 at *
 generalize rayNum F x y 0 u 1=N1 at *
 generalize ((List.range' 2 6).takeWhile (rayP F R x y 0 u)).map (rayNum F x y 0 u)=T at *
 cases e0:onB F R x (y+u)
 ·have e1:onB F R x (y+2 * u)=false:=by
   cases e1:onB F R x (y+2 * u)
   ·rfl
   ·rw [<- Bool.not_eq_true,onB_iff] at e0
    rw [onB_iff] at e1
    exact absurd (show onb F R x (y+u) from ⟨e1.1,e1.2.1,by have:=e1.2.2.1;omega,by have:=e1.2.2.2;omega⟩) e0
  have z1:numV F R x (y+u)=-1:=by unfold numV;simp [e0]
  have z2:numV F R x (y+2 * u)=-1:=by unfold numV;simp [e1]
  rw [z1,z2]
  have z3:((n:Int) == -1)=false:=beq_eq_false_iff_ne.2 (by omega)
  simp [stepsR,z3]
 ·obtain ⟨w0,l0,b0⟩:=k0 e0
  rw [if_pos rfl,<- w0,has_v l0]
  cases t0:X.testBit N0
  ·cases e1:onB F R x (y+2 * u)
   ·have hl:¬ (6<=R/\y=sc):=by
     rintro ⟨h1,h2⟩
     rw [<- Bool.not_eq_true,onB_iff] at e1
     apply e1
     rw [hs] at h2
     refine ⟨by omega,by omega,?_,?_⟩ <;> rcases hu with rfl | rfl <;> simp at h2 <;> omega
    have z2:numV F R x (y+2 * u)=-1:=by unfold numV;simp [e1]
    have z3:((n:Int) == -1)=false:=beq_eq_false_iff_ne.2 (by omega)
    rw [if_neg (by simp),if_neg hl,z2,z3]
    simp [stepsR,t0]
    omega
   ·obtain ⟨w1,l1,b1⟩:=k1 e1
    rw [if_pos rfl,<- w1,has_v l1]
    by_cases hl:6<=R/\y=sc
    ·rw [if_pos hl]
     simp [stepsR,t0,hl.1,hl.2]
     cases t1:X.testBit N1
     ·simp [t1]
      omega
     ·simp [t1]
      omega
    ·rw [if_neg hl]
     have hl2:(decide (6<=R) && (y == sc))=false:=by
      by_cases h6:6<=R
      ·have:y≠sc:=fun e=>hl ⟨h6,e⟩
       simp [this]
      ·simp [h6]
     simp [stepsR,t0]
     constructor
     ·rintro rfl
      exact ⟨by omega,.inl rfl⟩
     ·rintro ⟨_,h | h⟩
      ·omega
      ·exact absurd ⟨h.1.1.2,h.1.2⟩ hl
  ·simp [stepsR,t0]
theorem pSteps_yes (F R a:Int) (bl:Bool) (ha:vat F R a) (X:Nat) (hX:X<2 ^ (F * R).toNat) (w:World) :
  Calls Tryz.prog 162 #[.agg #[.int .i64 F,.int .i64 R],.bool bl,.int .i64 a,.int .u64 X] w fun e w'=>e=.returned (.tuple #[.int .u64 (ofL (stepL F R a bl X):Int),.int .i64 0])/\Below w.heap.size w w':=by
 rw [<- steps_eq bl ha X]
 exact callsIn_wide.1 (pSteps_in F R a bl ha X hX w)
end Go.Proofs.YtbccbgonlmkpkaaGreatDoor
namespace Go.Proofs.YtbccbgonlmkpkaaGreatDoor
open Go.RowKit Go.Shelf
attribute [local go_sem] Oper.semAt_some
theorem setCell_heap (w:World) (p:Addr) (v:Value) {k:Nat} (h:p.block≠k):(w.setCell p v).heap[k]?=w.heap[k]?:=by
 exact Below.heap_setCell _ _ _ _ (fun e=>h e.symm)
theorem bef_pre {L l:List Nat} {x:Nat} {b:Int} (h:l ++ [x] <+: L) (hne:∀ i∈l,(i:Int)≠b) (hx:(x:Int)=b):befL L b=l:=by
 obtain ⟨t,rfl⟩:=h
 rw [bef_hit (k:=l.length) (by simp) (fun j hj=>by
  rw [List.getElem_append_left (by simp;omega),List.getElem_append_left hj]
  exact hne _ (List.getElem_mem hj)) (by simpa using hx)]
 rw [List.append_assoc,List.take_left' rfl]
theorem pBet_in (F R a b:Int) (ha:vat F R a) (hb:vat F R b) (hl:lineB F a b=true) (w:World) :
  CallsIn Fence.wide 6 Tryz.prog 167 #[.agg #[.int .i64 F,.int .i64 R],.int .i64 a,.int .i64 b] w fun e w'=>e=.returned (.tuple #[.int .u64 (ofL (betL F R a b):Int),.int .i64 0])/\Below w.heap.size w w':=by
 have hv:=ha.1
 have hD:=pDir_yes F R a b ha hb
 rw [if_pos hl] at hD
 have HD:=Lib.hid hD
 have hab:a≠b:=by
  intro e
  unfold lineB at hl
  rw [e] at hl
  simp at hl
 have hdir:=Lib.hid (dir_ne ha hb hab)
 have s0:=sg_bd (b % F - a % F)
 have s1:=sg_bd (b / F - a / F)
 have hbet:betL F R a b=befL (rayL F R (a % F) (a / F) (sg (b % F - a % F)) (sg (b / F - a / F))) b:=rfl
 have hmem:b.toNat∈rayL F R (a % F) (a / F) (sg (b % F - a % F)) (sg (b / F - a / F)):=by
  obtain ⟨m,m8,hm,hP,hNb,_⟩:=line_ray ha hb hl
  obtain ⟨h1,h2⟩:=rayL_has m8 hP
  have:b.toNat=rayNum F (a % F) (a / F) (sg (b % F - a % F)) (sg (b / F - a / F)) m:=by omega
  rw [this,<- h2]
  exact List.getElem_mem h1
 rw [hbet]
 generalize sg (b % F - a % F)=f at *
 generalize sg (b / F - a / F)=r at *
 have hRI:RayIs F R a f r (rayL F R (a % F) (a / F) f r):=.inl ⟨ha,hdir.out,rfl⟩
 have hb0:=hb.2.1
 have H64:=Lib.hid (fun pre:List (El (rayL F R (a % F) (a / F) f r))=>vl_64 hv (pre:=pre))
 have HLT:=Lib.hid (fun i hi=>rayL_lt (F:=F) (R:=R) (x:=a % F) (y:=a / F) (f:=f) (r:=r) hv i hi)
 obtain ⟨m0,m1⟩:=vsz_mul hv
 generalize rayL F R (a % F) (a / F) f r=L at *
 have HM:=Lib.hid hmem
 clear hbet hD ha hb hl hab hmem
 refine callsIn_of_wp_marks Tryz.func167 rfl trivial ?_ rfl
 simp only [Tryz.ntmps167,List.size_toArray,List.length_cons,List.length_nil,Nat.reduceAdd,Nat.reduceSub,Array.replicate_succ,Array.replicate_zero,List.push_toArray,List.append_toArray,List.nil_append,List.cons_append]
 gi_wp2_with fail
 refine ⟨trivial,callsIn_wide.2 ((HD.out _).mono ?_)⟩
 rintro e w1 ⟨rfl,hb1⟩
 have z1:=hb1.size
 simp at z1
 have a0:=hb1.cell (p:=⟨w.heap.size,0,none⟩) (by simp;omega)
 have a1:=hb1.cell (p:=⟨w.heap.size,1,none⟩) (by simp;omega)
 have a2:=hb1.cell (p:=⟨w.heap.size+1,0,none⟩) (by simp)
 simp [go_sem] at a0 a1 a2
 have hB1:Below w.heap.size w w1:=by
  refine Below.trans ?_ (hb1.mono (by simp;omega))
  go_grown
 clear hb1
 have e0:=alive (.cells #[.int .u64 0] 85) a0
 have e1:=alive (.cells #[.int .u64 0] 85) a1
 have e2:=alive (.cells #[.int .u64 0] 85) a2
 have hB2:Below w.heap.size w (w1.alloc (.cells #[.int .u64 0] 85)):=hB1.alloc hB1.size _
 gi_wp2_with fail
 refine ⟨trivial,callsIn_wide.2 ((pRay_any F R a f r _).mono ?_)⟩
 rintro e w2 ⟨rfl,rfl⟩
 gi_wp2_with fail
 obtain ⟨V,hV⟩:∃ V,((((w1.alloc (.cells #[.int .u64 0] 85)).alloc (.cells #[.int .i64 F,.int .i64 R] 23)).alloc (.cells #[.int .i64 a] 3)).alloc (.cells #[.int .i64 f] 3)).alloc (.cells #[.int .i64 r] 3)=V:=⟨_,rfl⟩
 have v0:V.cell? ⟨w1.heap.size,0,none⟩=some (.int .u64 ((ofL []:Nat):Int)):=by rw [<- hV];exact alive _ (alive _ (alive _ (alive _ (by simp [go_sem];rfl))))
 have v1:V.frozen? ⟨w1.heap.size,0,none⟩=false:=by rw [<- hV];simp [go_sem]
 have v2:V.cell? ⟨w.heap.size+1,0,none⟩=some (.int .i64 b):=by rw [<- hV];exact alive _ (alive _ (alive _ (alive _ e2)))
 have x0:V.cell? ⟨w1.heap.size+1,0,none⟩=some (.int .i64 F):=by rw [<- hV];simp [go_sem]
 have x1:V.cell? ⟨w1.heap.size+1,1,none⟩=some (.int .i64 R):=by rw [<- hV];simp [go_sem]
 have x2:V.cell? ⟨w1.heap.size+1+1,0,none⟩=some (.int .i64 a):=by rw [<- hV];simp [go_sem]
 have x3:V.cell? ⟨w1.heap.size+1+1+1,0,none⟩=some (.int .i64 f):=by rw [<- hV];simp [go_sem]
 have x4:V.cell? ⟨w1.heap.size+1+1+1+1,0,none⟩=some (.int .i64 r):=by rw [<- hV];simp [go_sem]
 have hVs:V.heap.size=w1.heap.size+5:=by rw [<- hV];simp
 have hVB:Below w.heap.size w V:=by
  rw [<- hV]
  refine (((hB2.alloc (by simp;omega) _).alloc (by simp;omega) _).alloc (by simp;omega) _).alloc (by simp;omega) _
 rw [hV]
 clear hV e0 e1 e2 hB2 a0 a1 a2
 apply wpIn_rangeFunc_ownF rfl (by omega) (gf:=212) (lb:=#[.pointer (some ⟨w1.heap.size+1,0,none⟩),.pointer (some ⟨w1.heap.size+1+1,0,none⟩),.pointer (some ⟨w1.heap.size+1+1+1,0,none⟩),.pointer (some ⟨w1.heap.size+1+1+1+1,0,none⟩)]) rfl trivial (enters_of Tryz.func212 (by kernel_rfl) rfl)
  (ray_stops (6 - 1) (w1.heap.size+1) w.heap.size F R a f r L hRI (by omega) (by omega) (by omega) (by omega) (by omega) V (by omega) (by omega) x0 x1 x2 x3 x4) kpR_t (kpR_b (by omega) (by omega)) (Below.refl _ _) (fun _=>rfl)
  (fun pre W=>((W.cell? ⟨w1.heap.size,0,none⟩=some (.int .u64 (ofL (vl pre):Int))/\W.frozen? ⟨w1.heap.size,0,none⟩=false/\W.cell? ⟨w.heap.size+1,0,none⟩=some (.int .i64 b))/\(w1.heap.size<W.heap.size/\Below w.heap.size w W))/\(∀ i∈vl pre,(i:Int)≠b))
  (fun cc pre W=>(W.cell? ⟨w1.heap.size,0,none⟩=some (.int .u64 (ofL (vl pre.dropLast):Int))/\(w1.heap.size<W.heap.size/\Below w.heap.size w W))/\(cc=.exit 0/\(∀ i∈vl pre.dropLast,(i:Int)≠b)/\∃ q x,pre=q ++ [x]/\(x.1:Int)=b))
  (OwnFrom.and (OwnFrom.and (Own.from (fun s A B row hs hg hr=>⟨cell_kept hs.1 hg hr,(frozen_kept hs.1 hg hr).trans hs.2.1,cell_kept hs.2.2 hg hr⟩) _) (OwnFrom.and (Own.from (fun s A B row hs hg hr=>Nat.lt_of_lt_of_le hs hg.size) _) (ownFrom_below (Nat.le_refl _) (by omega)))) (ownFrom_pure _ _))
  (fun cc=>OwnFrom.and (OwnFrom.and (ownFrom_cell _ _) (OwnFrom.and (Own.from (fun s A B row hs hg hr=>Nat.lt_of_lt_of_le hs hg.size) _) (ownFrom_below (Nat.le_refl _) (by omega)))) (ownFrom_pure _ _))
  ⟨⟨⟨v0,v1,v2⟩,by omega,hVB⟩,fun i hi=>by simp [vl] at hi⟩
 case hassign =>
  intro l x W K hK
  gi_wp2
  exact hK
 case hbody =>
  rintro l pre x W ⟨⟨⟨hS,hSf,hb⟩,hsz,hB⟩,hne⟩ hlen
  have HNE:=Lib.hid hne
  clear hne hlen v0 v1 v2 x0 x1 x2 x3 x4 hVB
  have hx64:x.1<64:=by have:=HLT.out x.1 x.2;omega
  by_cases hxb:(x.1:Int)=b
  ·have t1:((x.1:Int) == b)=true:=by simp [hxb]
   gi_wp2
   exact ⟨keeps_below (Below.refl _ _),⟨by rw [List.dropLast_concat];exact hS,hsz,hB⟩,rfl,by rw [List.dropLast_concat];exact HNE.out,pre,x,rfl,hxb⟩
  ·have t1:((x.1:Int) == b)=false:=beq_eq_false_iff_ne.2 hxb
   have HX:=Lib.hid hxb
   have HP:=Lib.hid (or_bitN (ofL (vl pre)) x.1 (H64.out pre) hx64)
   have STEP:Hid (ownPostK (KpR w.heap.size (w1.heap.size+1))
     (fun pre W=>((W.cell? ⟨w1.heap.size,0,none⟩=some (.int .u64 (ofL (vl pre):Int))/\W.frozen? ⟨w1.heap.size,0,none⟩=false/\W.cell? ⟨w.heap.size+1,0,none⟩=some (.int .i64 b))/\(w1.heap.size<W.heap.size/\Below w.heap.size w W))/\(∀ i∈vl pre,(i:Int)≠b))
     (fun cc pre W=>(W.cell? ⟨w1.heap.size,0,none⟩=some (.int .u64 (ofL (vl pre.dropLast):Int))/\(w1.heap.size<W.heap.size/\Below w.heap.size w W))/\(cc=.exit 0/\(∀ i∈vl pre.dropLast,(i:Int)≠b)/\∃ q x,pre=q ++ [x]/\(x.1:Int)=b))
     (pre ++ [x]) W .normal { tmps:=#[],defers:=[] }
     (W.setCell ⟨w1.heap.size,0,none⟩ (.int .u64 (bits .or .u64 (ofL (vl pre)) (bitN x.1)))).drew):=by
    refine ⟨(KeepsOthers.setCell _ _ _).trans (KeepsOthers.drew _),?_,⟨⟨?_,?_,?_⟩,?_,?_⟩,?_⟩
    ·exact ⟨((Below.refl _ _).setCell (p:=⟨w1.heap.size,0,none⟩) hB1.size _).drew,fun k h0 h1=>setCell_heap _ _ _ (by simp;omega)⟩
    ·rw [vl_snoc,ofL_snoc,<- HP.out]
     exact World.cell?_setCell_same W ⟨w1.heap.size,0,none⟩ _ hS
    ·exact (World.frozen?_setCell ..).trans hSf
    ·exact (World.cell?_setCell_other W ⟨w1.heap.size,0,none⟩ ⟨w.heap.size+1,0,none⟩ _ (fun e=>by injection e;omega)).trans hb
    ·show w1.heap.size<(W.setCell _ _).heap.size
     simp
     omega
    ·exact (hB.setCell (p:=⟨w1.heap.size,0,none⟩) hB1.size _).drew
    ·rw [vl_snoc]
     intro i hi
     rcases List.mem_append.1 hi with h | h
     ·exact HNE.out i h
     ·rw [List.mem_singleton.1 h];exact HX.out
   clear HP hxb
   have hmx:Tryz.prog.follows .mixedOrders=true:=by kernel_rfl
   gi_wp2
   gi_region_with_o (refine ⟨trivial,?_⟩;gi_at_call 196;refine (CallsIn.inRound l (callsIn_wide.2 (pSingle_any _ (by omega) (by omega) _))).mono ?_;rintro e w4 ⟨rfl,rfl⟩)
   all_goals gi_wp2
   all_goals exact STEP.out
 case hdone =>
  rintro D ys W hD hys ⟨⟨⟨hS,_⟩,hsz,hB⟩,hne⟩ hK
  exfalso
  rw [<- hys] at HM
  exact hne _ HM.out (by omega)
 case hstop =>
  rintro D cc pre W hD hpre ⟨⟨hS,hsz,hB⟩,rfl,hne,q,x,rfl,hxb⟩ hK
  rw [List.dropLast_concat] at hS hne
  have HE:Hid (befL L b=vl q):=Lib.hid (by
   rw [vl_snoc] at hpre
   exact bef_pre hpre hne hxb)
  clear hne hpre
  gi_wp2
  refine ⟨by simp,.inl ⟨_,_,rfl,run_takeDeferred hK,?_⟩⟩
  exact ⟨_,results_tmp2 rfl _ _ _,by rw [HE.out];rfl,hB.trans (belowK_b (Nat.le_refl _) W D _ _ (by omega) hK rfl rfl)⟩
theorem pBet_yes (F R a b:Int) (ha:vat F R a) (hb:vat F R b) (hl:lineB F a b=true) (w:World) :
  Calls Tryz.prog 167 #[.agg #[.int .i64 F,.int .i64 R],.int .i64 a,.int .i64 b] w fun e w'=>e=.returned (.tuple #[.int .u64 (ofL (betL F R a b):Int),.int .i64 0])/\Below w.heap.size w w' :=
 callsIn_wide.1 (pBet_in F R a b ha hb hl w)
end Go.Proofs.YtbccbgonlmkpkaaGreatDoor
namespace Go.Proofs.YtbccbgonlmkpkaaGreatDoor
open Go.RowKit Go.Sort
theorem pOfS_any (q:Int) (h0:-100<=q) (h1:q<=100) (b:Bool) (w:World) :
  Calls Tryz.prog 116 #[.int .i8 q,.bool b] w fun e w'=>e=.returned (.int .i8 (if b then -q else q))/\w=w':=by
 cases b
 all_goals
  go_enter Tryz.func116,Tryz.ntmps116
  go_wp2
  go_ret
  exact ⟨rfl,rfl⟩
theorem pCarry_any (g n c a b:Nat) (u v:Int) (w:World) (ha:a<n) (hb:b<n) (hn:n<=100000) (hne:a≠b) (hca:w.cell? ⟨g,a,none⟩=some (.int .i8 u)) (hcb:w.cell? ⟨g,b,none⟩=some (.int .i8 v)) (hfa:w.frozen? ⟨g,a,none⟩=false) (hfb:w.frozen? ⟨g,b,none⟩=false) :
  Calls Tryz.prog 115 #[.slice (some ⟨g,0,none⟩) n c,.int .i64 (a:Int),.int .i64 (b:Int)] w fun e w'=>e=.returned (.tuple #[])/\w'=(w.setCell ⟨g,b,none⟩ (.int .i8 u)).setCell ⟨g,a,none⟩ (.int .i8 0):=by
 have hne2:b≠a:=Ne.symm hne
 go_enter Tryz.func115,Tryz.ntmps115
 go_wp2
 go_end0
 exact ⟨rfl,rfl⟩
theorem pBrdM_any (F R:Int) (l:List Int) (A:Option Addr) (c:Nat) (bl:Bool) (ca:Nat) (ps ha fu:Int) (w:World) :
  Calls Tryz.prog 107 #[.agg #[.int .i64 F,.int .i64 R,.slice A l.length c,.bool bl,.int .u8 (ca:Int),.int .i64 ps,.int .i64 ha,.int .i64 fu]] w fun e w'=>e=.returned (.agg #[.int .i64 F,.int .i64 R,.slice A l.length c])/\Below w.heap.size w w':=by
 go_enter Tryz.func107,Tryz.ntmps107
 go_wp2
 refine bodyPost_ret (v:=.agg #[.int .i64 F,.int .i64 R,.slice A l.length c]) ?_ rfl ⟨rfl,?_⟩
 ·simp [results,Tryz.results107,go_sem]
 ·exact after1 (box1 _ _)
theorem tOcc_any (B x y:Nat) (hx:x<18446744073709551616) (hy:y<18446744073709551616) (w:World) (h1:w.cell? ⟨B,12,none⟩=some (.int .u64 (x:Nat))) (h2:w.cell? ⟨B,13,none⟩=some (.int .u64 (y:Nat))) :
  Calls Tryz.prog 111 #[.pointer (some ⟨B,0,none⟩)] w fun e w'=>e=.returned (.int .u64 ((x ||| y:Nat):Int))/\Below w.heap.size w w':=by
 have E:=Lib.hid (u64_or_nat x y hx hy)
 go_enter Tryz.func111,Tryz.ntmps111
 go_wp2
 go_quiet (fail)
 go_wp2
 go_ret
 exact ⟨ret_int E.out,drawn (Below.refl _ _) _⟩
theorem pLast_any (F R:Int) (l:List Int) (A:Option Addr) (c:Nat) (bl:Bool) (ca:Nat) (ps ha fu:Int) (y:Int) (hy:vat F R y) (w:World) :
  Calls Tryz.prog 161 #[.agg #[.int .i64 F,.int .i64 R,.slice A l.length c,.bool bl,.int .u8 (ca:Int),.int .i64 ps,.int .i64 ha,.int .i64 fu],.int .i64 y] w fun e w'=>e=.returned (.bool (y / F == lastR R bl))/\Below w.heap.size w w':=by
 obtain ⟨hv,y0,y1⟩:=id hy
 obtain ⟨f1,f2,r1,r2⟩:=hv
 have HP:=Lib.hid (placeX_yes F R y hy)
 have HX0:=Lib.hid (box8 w F R (.slice A l.length c) bl ca ps ha fu)
 have hB0:=box1 w (.cells #[.int .i64 F,.int .i64 R,.slice A l.length c,.bool bl,.int .u8 (ca:Int),.int .i64 ps,.int .i64 ha,.int .i64 fu] 26)
 clear hy y0 y1
 generalize y / F=r at *
 go_enter Tryz.func161,Tryz.ntmps161
 obtain ⟨⟨z0,z1,z2,z3,z4,z5,z6,z7⟩,zf⟩:=HX0.out
 clear zf
 go_wp2_with fail
 refine (HP.out _).mono ?_
 rintro e w1 ⟨rfl,hq⟩
 have HX1:=Lib.hid (HX0.out.below hq HX0.out.lt)
 have hB1:=chain hB0 hq
 clear hB0 hq HX0 z0 z1 z2 z3 z4 z5 z6 z7
 obtain ⟨⟨z0,z1,z2,z3,z4,z5,z6,z7⟩,zf⟩:=HX1.out
 clear zf
 cases bl
 all_goals
  go_wp2
  go_ret
  exact ⟨rfl,hB1⟩
theorem pBes_any (F R x y t:Int) (hx:vat F R x) (hy:vat F R y) (w:World) :
  Calls Tryz.prog 113 #[.agg #[.int .i64 F,.int .i64 R],.agg #[.int .i64 x,.int .i64 y,.int .i8 t]] w fun e w'=>e=.returned (.int .i64 (numV F R (y % F) (x / F)))/\Below w.heap.size w w':=by
 obtain ⟨hv,x0,x1⟩:=id hx
 obtain ⟨_,y0,y1⟩:=id hy
 have hon:onb F R (y % F) (x / F):=by
  obtain ⟨a1,a2,a3,a4⟩:=place_bd (F:=F) (R:=R) (a:=y) hv y0 y1
  obtain ⟨b1,b2,b3,b4⟩:=place_bd (F:=F) (R:=R) (a:=x) hv x0 x1
  exact ⟨a1,a2,b3,b4⟩
 have HN:Hid (numV F R (y % F) (x / F)=y % F+x / F * F):=Lib.hid (by
  rw [numV_on hon,Int.add_comm])
 have HP1:=Lib.hid (placeX_yes F R x hx)
 have HP2:=Lib.hid (placeX_yes F R y hy)
 have HA:=Lib.hid (at_yes F R (y % F) (x / F) hv hon)
 have hs:=box2 w F R
 have hm:=box3 (w.alloc (.cells #[.int .i64 F,.int .i64 R] 23)) x y t
 rw [World.size_alloc] at hm
 have b0:=box1 w (.cells #[.int .i64 F,.int .i64 R] 23)
 have b1:=box1 (w.alloc (.cells #[.int .i64 F,.int .i64 R] 23)) (.cells #[.int .i64 x,.int .i64 y,.int .i8 t] 30)
 replace hs:=Lib.hid (hs.below b1 hs.lt)
 replace hm:=Lib.hid hm
 have hB:=chain b0 b1
 clear b0 b1 hx hy x0 x1 y0 y1 hon
 generalize y % F+x / F * F=nn at *
 generalize y % F=yf at *
 generalize x / F=xr at *
 generalize y / F=yr at *
 generalize x % F=xf at *
 go_enter Tryz.func113,Tryz.ntmps113
 obtain ⟨s0,s1⟩:=id hs.out
 obtain ⟨⟨m0,m1,m2⟩,mf⟩:=id hm.out
 go_wp2_with fail
 refine (HP1.out _).mono ?_
 rintro e w1 ⟨rfl,b1⟩
 clear s0 s1 m0 m1 m2 mf
 replace hs:=Lib.hid (hs.out.below b1 hs.out.lt)
 replace hm:=Lib.hid (hm.out.below b1 hm.out.lt)
 replace hB:=chain hB b1
 clear b1
 obtain ⟨s0,s1⟩:=id hs.out
 obtain ⟨⟨m0,m1,m2⟩,mf⟩:=id hm.out
 go_wp2_with fail
 refine (HP2.out _).mono ?_
 rintro e w2 ⟨rfl,b1⟩
 clear s0 s1 m0 m1 m2 mf
 replace hs:=Lib.hid (hs.out.below b1 hs.out.lt)
 replace hB:=chain hB b1
 clear b1 hm
 obtain ⟨s0,s1⟩:=id hs.out
 go_wp2_with fail
 refine (HA.out _).mono ?_
 rintro e w3 ⟨rfl,b1⟩
 replace hB:=chain hB b1
 clear b1
 go_wp2
 go_ret
 exact ⟨ret_int HN.out.symm,hB⟩
theorem pInC_any (F R:Int) (l:List Int) (A:Option Addr) (c:Nat) (bl:Bool) (ca:Nat) (ps ha fu:Int) (b:Bool) (w:World) (hb:vbd F R l) (ho:orA l=true) (hA:RdP w w.heap.size A l c) (hT:T5 w) (hk:0<=kingV l b) :
  Calls Tryz.prog 52 #[.agg #[.int .i64 F,.int .i64 R,.slice A l.length c,.bool bl,.int .u8 (ca:Int),.int .i64 ps,.int .i64 ha,.int .i64 fu],.bool b] w fun e w'=>e=.returned (.bool (chkB F R l b))/\Below w.heap.size w w':=by
 have HZ:Hid (((ofL (atkL F R l (kingV l b) (!b)):Int) != 0)=chkB F R l b):=Lib.hid (by
  unfold chkB
  have:=ofL_z (atkL F R l (kingV l b) (!b))
  rw [bne,this]
  cases (atkL F R l (kingV l b) (!b)) <;> simp)
 have HC:=Lib.hid (fun w hA hT=>gChk F R l A c b w hb ho hA hT hk)
 have HPl:=Lib.hid (pBrdM_any F R l A c bl ca ps ha fu)
 have HX0:=Lib.hid (box8 w F R (.slice A l.length c) bl ca ps ha fu)
 have hB0:=box1 w (.cells #[.int .i64 F,.int .i64 R,.slice A l.length c,.bool bl,.int .u8 (ca:Int),.int .i64 ps,.int .i64 ha,.int .i64 fu] 26)
 have HA:=Lib.hid (rdBo hB0 hA)
 have HT:=Lib.hid (hT.below hB0)
 clear hA hT hb ho hk
 generalize ofL (atkL F R l (kingV l b) (!b))=X at *
 go_enter Tryz.func52,Tryz.ntmps52
 obtain ⟨⟨z0,z1,z2,z3,z4,z5,z6,z7⟩,zf⟩:=HX0.out
 clear zf
 go_wp2_with fail
 refine (HPl.out _).mono ?_
 rintro e w1 ⟨rfl,hq⟩
 have hB1:=chain hB0 hq
 replace HA:=Lib.hid (rdBo hq HA.out)
 replace HT:=Lib.hid (HT.out.below hq)
 clear hB0 hq HX0 z0 z1 z2 z3 z4 z5 z6 z7
 go_wp2_with fail
 refine (HC.out _ HA.out HT.out).mono ?_
 rintro e w2 ⟨rfl,hq⟩
 have hB2:=chain hB1 hq
 clear hB1 hq
 go_wp2
 go_ret
 exact ⟨by rw [HZ.out];rfl,hB2⟩
end Go.Proofs.YtbccbgonlmkpkaaGreatDoor
