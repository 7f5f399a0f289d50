/- What the theorem needs, piece Zb24. -/
import Derived.Test.YtbccbgonlmkpkaaGreatDoorZb23
set_option linter.unusedSimpArgs false
set_option linter.unusedVariables false
set_option maxRecDepth 100000
set_option maxHeartbeats 16000000
namespace Go.Proofs.YtbccbgonlmkpkaaGreatDoor
open Go.RowKit Go.Sort
theorem has_bel {X:Nat} {n:Int} {v:Bool} (hX:X<18446744073709551616) (h0:0<=n) (h1:n<64) (hv:X.testBit n.toNat=v) (w:World) :
  Calls Tryz.prog 48 #[.int .u64 X,.int .i64 n] w fun e w'=>e=.returned (.bool v)/\Below w.heap.size w w' :=
 (has_in X n hX h0 h1 w).mono (by
  rintro e w' ⟨rfl,rfl⟩
  exact ⟨by rw [hv],Below.refl _ _⟩)
theorem tPwn_any (F R:Int) (l:List Int) (A:Option Addr) (c:Nat) (bl:Bool) (ca:Nat) (ps ha fu:Int) (x y t kd:Int) (ow fo:Nat) (b:Nat) (hbd:vbd F R l) (hx:vat F R x) (hy:vat F R y) (how:ow<18446744073709551616) (hfo:fo<18446744073709551616) (hoc:ow ||| fo=occX l) (hfe:fo=ownS l (!bl)) (hfr:ownB (pc l y) bl=false) (w:World) (hX:Bxs w b [.int .i64 F,.int .i64 R,.slice A l.length c,.bool bl,.int .u8 (ca:Int),.int .i64 ps,.int .i64 ha,.int .i64 fu,.int .i64 x,.int .i64 y,.int .i8 t,.int .i8 kd,.int .u64 (ow:Int),.int .u64 (fo:Int)]) :
  Calls Tryz.prog 109 #[.pointer (some ⟨b,0,none⟩)] w fun e w'=>e=.returned (.bool (pwnM ⟨F,R,l,bl,ca,ps,ha,fu⟩ ⟨x,y,t⟩))/\Below w.heap.size w w':=by
 have hl:=hbd.2.1
 have h64:F * R<=64:=(vsz_mul hbd.1).2
 have y0:=hy.2.1
 have y1:y<64:=by have:=hy.2.2;omega
 have hst:ofL (stepL F R x bl (occX l))<18446744073709551616:=by
  have:=ofL_lt (l:=stepL F R x bl (occX l)) (n:=64) (fun i hi=>by
   unfold stepL pickTo at hi
   have:=List.mem_range.1 (List.mem_filter.1 hi).1
   omega)
  simpa using this
 have hpa:ofL (pawnL F R x bl)<18446744073709551616:=by
  have:=ofL_lt (l:=pawnL F R x bl) (n:=64) (fun i hi=>by
   unfold pawnL pickTo at hi
   have:=List.mem_range.1 (List.mem_filter.1 hi).1
   omega)
  simpa using this
 have HS:=Lib.hid (fun w=>has_bel hst y0 y1 (hasO y0) w)
 have HP:=Lib.hid (fun w=>has_bel hpa y0 y1 (hasO y0) w)
 have HF:=Lib.hid (fun w=>has_bel (v:=decide (pc l y≠0)) hfo y0 y1 (by rw [hfe,ownS_bit (!bl) y0 (by have:=hy.2.2;omega),own_other hfr]) w)
 have HLA:=Lib.hid (pLast_any F R l A c bl ca ps ha fu y hy)
 have HOC:=Lib.hid (tOcc_any b ow fo how hfo)
 have HST:=Lib.hid (pSteps_yes F R x bl hx (occX l) (occX_in hl))
 have HPA:=Lib.hid (pPawn_yes F R x bl hx)
 have HX:=Lib.hid hX
 have e0:pwnM ⟨F,R,l,bl,ca,ps,ha,fu⟩ ⟨x,y,t⟩=(((y / F == lastR R bl) == (t != 0)) && (hasL ((stepL F R x bl (occX l)).map fun i:Nat=>(i:Int)) y || (hasL ((pawnL F R x bl).map fun i:Nat=>(i:Int)) y && (decide (pc l y≠0) || y == ps)))):=by
  unfold pwnM
  simp only
  rw [show decide (t≠0)=(t != 0) by by_cases h:t=0 <;> simp [h]]
 generalize pwnM ⟨F,R,l,bl,ca,ps,ha,fu⟩ ⟨x,y,t⟩=r at *
 have HR:=Lib.hid e0
 rw [hoc] at HOC
 clear hX how hfo hoc hfe hfr hst hpa e0 hbd hx hy h64 y0 y1 hl
 generalize hasL ((stepL F R x bl (occX l)).map fun i:Nat=>(i:Int)) y=sb at *
 generalize hasL ((pawnL F R x bl).map fun i:Nat=>(i:Int)) y=pb at *
 generalize decide (pc l y≠0)=fb at *
 generalize (y / F == lastR R bl)=la at *
 generalize ofL (stepL F R x bl (occX l))=st at *
 generalize ofL (pawnL F R x bl)=pa at *
 generalize occX l=oc at *
 go_enter Tryz.func109,Tryz.ntmps109
 obtain ⟨z0,z1,z2,z3,z4,z5,z6,z7,z8,z9,z10⟩:=HX.out.h11
 have hb0:=HX.out.lt
 have hb1:¬ b=w.heap.size:=by omega
 have hb2:¬ b=w.heap.size+1:=by omega
 have hb3:b<w.heap.size+1:=by omega
 go_upto_region 1 with fail
 go_cut [3,4] (fun s3 s4 wx=>∃ g g':Nat,s3=.pointer (some ⟨g,0,none⟩)/\s4=.pointer (some ⟨g',0,none⟩)/\Bxs wx g [.int .i64 F,.int .i64 R,.slice A l.length c,.bool bl,.int .u8 (ca:Int),.int .i64 ps,.int .i64 ha,.int .i64 fu]/\Bxs wx g' [.int .i64 x,.int .i64 y,.int .i8 t]/\Bw w wx)
 case first =>
  go_region
  all_goals
   go_wp2_with fail
   (conv=>arg 2;simp [Act.put])
   go_meet
   case rel =>
    first
    | exact ⟨_,_,rfl,rfl,(tb2 w _ _ _ _ ⟨_,_,rfl⟩).1,(tb2 w _ _ _ _ ⟨_,_,rfl⟩).2.1,(tb2 w _ _ _ _ ⟨_,_,rfl⟩).2.2⟩
    | exact ⟨_,_,rfl,rfl,(tb2 w _ _ _ _ ⟨_,_,rfl⟩).2.1,(tb2 w _ _ _ _ ⟨_,_,rfl⟩).1,(tb2 w _ _ _ _ ⟨_,_,rfl⟩).2.2⟩
 case rest =>
  obtain ⟨g,g',rfl,rfl,hP,hM,hW⟩:=hcut
  have HX1:=Lib.hid (HX.out.below hW HX.out.lt)
  have HP1:=Lib.hid hP
  have HM1:=Lib.hid hM
  have HB1:=Lib.hid hW
  clear hP hM hW HX hb0 hb1 hb2 hb3 z0 z1 z2 z3 z4 z5 z6 z7 z8 z9 z10
  obtain ⟨p0,p1,p2,p3,p4,p5,p6,p7⟩:=HP1.out.h8
  have m1:=HM1.out.c 1 rfl
  have m2:=HM1.out.c 2 rfl
  go_wp2_with fail
  have kq0:=cell_regrown p0
  have kq1:=cell_regrown p1
  have kq2:=cell_regrown p2
  have kq3:=cell_regrown p3
  have kq4:=cell_regrown p4
  have kq5:=cell_regrown p5
  have kq6:=cell_regrown p6
  have kq7:=cell_regrown p7
  have kq8:=cell_regrown m1
  have kq9:=cell_regrown m2
  refine wp_region_quiet_below (by kernel_rfl) (by kernel_rfl) ?_
  repeat (go_big_quiet_step (first | (go_at_call 161;exact Calls.regrown_of (HLA.out _))))
  refine wpQuiet_nil ?_
  rintro _ ⟨⟨dq,osq⟩,rfl⟩
  have hq:=below_regrown wc dq osq
  clear p0 p1 p2 p3 p4 p5 p6 p7 m1 m2
  clear kq0 kq1 kq2 kq3 kq4 kq5 kq6 kq7 kq8 kq9
  generalize grow (redrawn wc dq) osq=w1 at *
  have HX2:=Lib.hid (HX1.out.below hq HX1.out.lt)
  have HP2:=Lib.hid (HP1.out.below hq HP1.out.lt)
  have HM2:=Lib.hid (HM1.out.below hq HM1.out.lt)
  have HB2:=Lib.hid (chain HB1.out hq)
  clear hq HB1 HX1 HP1 HM1
  cases htb:(t != 0) <;> cases la
  case false.true =>
   rw [htb] at HR
   go_wp2
   go_ret
   exact ⟨by rw [HR.out];rfl,HB2.out⟩
  case true.false =>
   rw [htb] at HR
   go_wp2
   go_ret
   exact ⟨by rw [HR.out];rfl,HB2.out⟩
  case false.false =>
   rw [htb] at HR
   obtain ⟨p0,p1⟩:=HP2.out.h2
   have p3:=HP2.out.c 3 rfl
   have m0:=HM2.out.c 0 rfl
   have z12:=HX2.out.c 12 rfl
   have z13:=HX2.out.c 13 rfl
   go_wp2_with fail
   have kq0:=cell_regrown p0
   have kq1:=cell_regrown p1
   have kq2:=cell_regrown p3
   have kq3:=cell_regrown m0
   have kq4:=cell_regrown z12
   have kq5:=cell_regrown z13
   refine wp_region_quiet_below (by kernel_rfl) (by kernel_rfl) ?_
   repeat (go_big_quiet_step (first | (go_at_call 111;exact Calls.regrown_of (HOC.out _ (kq4 _ _) (kq5 _ _))) | (go_at_call 162;exact Calls.regrown_of (HST.out _))))
   refine wpQuiet_nil ?_
   rintro _ ⟨⟨dq,osq⟩,rfl⟩
   have hq:=below_regrown w1 dq osq
   clear p0 p1 p3 m0 z12 z13
   clear kq0 kq1 kq2 kq3 kq4 kq5
   generalize grow (redrawn w1 dq) osq=w2 at *
   have HX3:=Lib.hid (HX2.out.below hq HX2.out.lt)
   have HP3:=Lib.hid (HP2.out.below hq HP2.out.lt)
   have HM3:=Lib.hid (HM2.out.below hq HM2.out.lt)
   have HB3:=Lib.hid (chain HB2.out hq)
   clear hq HB2 HX2 HP2 HM2
   obtain ⟨p0,p1⟩:=HP3.out.h2
   have p3:=HP3.out.c 3 rfl
   have m0:=HM3.out.c 0 rfl
   go_wp2_with fail
   refine (HPA.out _).mono ?_
   rintro e w3 ⟨rfl,hq⟩
   clear p0 p1 p3 m0
   have HX4:=Lib.hid (HX3.out.below hq HX3.out.lt)
   have HP4:=Lib.hid (HP3.out.below hq HP3.out.lt)
   have HM4:=Lib.hid (HM3.out.below hq HM3.out.lt)
   have HB4:=Lib.hid (chain HB3.out hq)
   clear hq HB3 HX3 HP3 HM3
   have p5:=HP4.out.c 5 rfl
   have m1:=HM4.out.c 1 rfl
   have z13:=HX4.out.c 13 rfl
   cases sb
   case true =>
    go_wp2_with fail
    have kq0:=cell_regrown p5
    have kq1:=cell_regrown m1
    have kq2:=cell_regrown z13
    refine wp_region_quiet_below (by kernel_rfl) (by kernel_rfl) ?_
    repeat (go_big_quiet_step (first | (go_at_call_has 48 (Value.int .u64 (st:Int));exact Calls.regrown_of (HS.out _)) | (go_at_call_has 48 (Value.int .u64 (pa:Int));exact Calls.regrown_of (HP.out _)) | (go_at_call_has 48 (Value.int .u64 (fo:Int));exact Calls.regrown_of (HF.out _))))
    refine wpQuiet_nil ?_
    rintro _ ⟨⟨dq,osq⟩,rfl⟩
    have hq:=below_regrown w3 dq osq
    clear kq0 kq1 kq2
    go_wp2
    go_ret
    exact ⟨by rw [HR.out];rfl,chain HB4.out hq⟩
   case false =>
    cases pb
    case false =>
     go_wp2_with fail
     have kq0:=cell_regrown p5
     have kq1:=cell_regrown m1
     have kq2:=cell_regrown z13
     refine wp_region_quiet_below (by kernel_rfl) (by kernel_rfl) ?_
     repeat (go_big_quiet_step (first | (go_at_call_has 48 (Value.int .u64 (st:Int));exact Calls.regrown_of (HS.out _)) | (go_at_call_has 48 (Value.int .u64 (pa:Int));exact Calls.regrown_of (HP.out _)) | (go_at_call_has 48 (Value.int .u64 (fo:Int));exact Calls.regrown_of (HF.out _))))
     refine wpQuiet_nil ?_
     rintro _ ⟨⟨dq,osq⟩,rfl⟩
     have hq:=below_regrown w3 dq osq
     clear kq0 kq1 kq2
     go_wp2
     go_ret
     exact ⟨by rw [HR.out];rfl,chain HB4.out hq⟩
    case true =>
     cases fb
     case true =>
      go_wp2_with fail
      have kq0:=cell_regrown p5
      have kq1:=cell_regrown m1
      have kq2:=cell_regrown z13
      refine wp_region_quiet_below (by kernel_rfl) (by kernel_rfl) ?_
      repeat (go_big_quiet_step (first | (go_at_call_has 48 (Value.int .u64 (st:Int));exact Calls.regrown_of (HS.out _)) | (go_at_call_has 48 (Value.int .u64 (pa:Int));exact Calls.regrown_of (HP.out _)) | (go_at_call_has 48 (Value.int .u64 (fo:Int));exact Calls.regrown_of (HF.out _))))
      refine wpQuiet_nil ?_
      rintro _ ⟨⟨dq,osq⟩,rfl⟩
      have hq:=below_regrown w3 dq osq
      clear kq0 kq1 kq2
      go_wp2
      go_ret
      exact ⟨by rw [HR.out];rfl,chain HB4.out hq⟩
     case false =>
      go_wp2_with fail
      have kq0:=cell_regrown p5
      have kq1:=cell_regrown m1
      have kq2:=cell_regrown z13
      refine wp_region_quiet_below (by kernel_rfl) (by kernel_rfl) ?_
      repeat (go_big_quiet_step (first | (go_at_call_has 48 (Value.int .u64 (st:Int));exact Calls.regrown_of (HS.out _)) | (go_at_call_has 48 (Value.int .u64 (pa:Int));exact Calls.regrown_of (HP.out _)) | (go_at_call_has 48 (Value.int .u64 (fo:Int));exact Calls.regrown_of (HF.out _))))
      refine wpQuiet_nil ?_
      rintro _ ⟨⟨dq,osq⟩,rfl⟩
      have hq:=below_regrown w3 dq osq
      clear kq0 kq1 kq2
      go_wp2
      go_ret
      exact ⟨by rw [HR.out];rfl,chain HB4.out hq⟩
  case true.true =>
   rw [htb] at HR
   obtain ⟨p0,p1⟩:=HP2.out.h2
   have p3:=HP2.out.c 3 rfl
   have m0:=HM2.out.c 0 rfl
   have z12:=HX2.out.c 12 rfl
   have z13:=HX2.out.c 13 rfl
   go_wp2_with fail
   have kq0:=cell_regrown p0
   have kq1:=cell_regrown p1
   have kq2:=cell_regrown p3
   have kq3:=cell_regrown m0
   have kq4:=cell_regrown z12
   have kq5:=cell_regrown z13
   refine wp_region_quiet_below (by kernel_rfl) (by kernel_rfl) ?_
   repeat (go_big_quiet_step (first | (go_at_call 111;exact Calls.regrown_of (HOC.out _ (kq4 _ _) (kq5 _ _))) | (go_at_call 162;exact Calls.regrown_of (HST.out _))))
   refine wpQuiet_nil ?_
   rintro _ ⟨⟨dq,osq⟩,rfl⟩
   have hq:=below_regrown w1 dq osq
   clear p0 p1 p3 m0 z12 z13
   clear kq0 kq1 kq2 kq3 kq4 kq5
   generalize grow (redrawn w1 dq) osq=w2 at *
   have HX3:=Lib.hid (HX2.out.below hq HX2.out.lt)
   have HP3:=Lib.hid (HP2.out.below hq HP2.out.lt)
   have HM3:=Lib.hid (HM2.out.below hq HM2.out.lt)
   have HB3:=Lib.hid (chain HB2.out hq)
   clear hq HB2 HX2 HP2 HM2
   obtain ⟨p0,p1⟩:=HP3.out.h2
   have p3:=HP3.out.c 3 rfl
   have m0:=HM3.out.c 0 rfl
   go_wp2_with fail
   refine (HPA.out _).mono ?_
   rintro e w3 ⟨rfl,hq⟩
   clear p0 p1 p3 m0
   have HX4:=Lib.hid (HX3.out.below hq HX3.out.lt)
   have HP4:=Lib.hid (HP3.out.below hq HP3.out.lt)
   have HM4:=Lib.hid (HM3.out.below hq HM3.out.lt)
   have HB4:=Lib.hid (chain HB3.out hq)
   clear hq HB3 HX3 HP3 HM3
   have p5:=HP4.out.c 5 rfl
   have m1:=HM4.out.c 1 rfl
   have z13:=HX4.out.c 13 rfl
   cases sb
   case true =>
    go_wp2_with fail
    have kq0:=cell_regrown p5
    have kq1:=cell_regrown m1
    have kq2:=cell_regrown z13
    refine wp_region_quiet_below (by kernel_rfl) (by kernel_rfl) ?_
    repeat (go_big_quiet_step (first | (go_at_call_has 48 (Value.int .u64 (st:Int));exact Calls.regrown_of (HS.out _)) | (go_at_call_has 48 (Value.int .u64 (pa:Int));exact Calls.regrown_of (HP.out _)) | (go_at_call_has 48 (Value.int .u64 (fo:Int));exact Calls.regrown_of (HF.out _))))
    refine wpQuiet_nil ?_
    rintro _ ⟨⟨dq,osq⟩,rfl⟩
    have hq:=below_regrown w3 dq osq
    clear kq0 kq1 kq2
    go_wp2
    go_ret
    exact ⟨by rw [HR.out];rfl,chain HB4.out hq⟩
   case false =>
    cases pb
    case false =>
     go_wp2_with fail
     have kq0:=cell_regrown p5
     have kq1:=cell_regrown m1
     have kq2:=cell_regrown z13
     refine wp_region_quiet_below (by kernel_rfl) (by kernel_rfl) ?_
     repeat (go_big_quiet_step (first | (go_at_call_has 48 (Value.int .u64 (st:Int));exact Calls.regrown_of (HS.out _)) | (go_at_call_has 48 (Value.int .u64 (pa:Int));exact Calls.regrown_of (HP.out _)) | (go_at_call_has 48 (Value.int .u64 (fo:Int));exact Calls.regrown_of (HF.out _))))
     refine wpQuiet_nil ?_
     rintro _ ⟨⟨dq,osq⟩,rfl⟩
     have hq:=below_regrown w3 dq osq
     clear kq0 kq1 kq2
     go_wp2
     go_ret
     exact ⟨by rw [HR.out];rfl,chain HB4.out hq⟩
    case true =>
     cases fb
     case true =>
      go_wp2_with fail
      have kq0:=cell_regrown p5
      have kq1:=cell_regrown m1
      have kq2:=cell_regrown z13
      refine wp_region_quiet_below (by kernel_rfl) (by kernel_rfl) ?_
      repeat (go_big_quiet_step (first | (go_at_call_has 48 (Value.int .u64 (st:Int));exact Calls.regrown_of (HS.out _)) | (go_at_call_has 48 (Value.int .u64 (pa:Int));exact Calls.regrown_of (HP.out _)) | (go_at_call_has 48 (Value.int .u64 (fo:Int));exact Calls.regrown_of (HF.out _))))
      refine wpQuiet_nil ?_
      rintro _ ⟨⟨dq,osq⟩,rfl⟩
      have hq:=below_regrown w3 dq osq
      clear kq0 kq1 kq2
      go_wp2
      go_ret
      exact ⟨by rw [HR.out];rfl,chain HB4.out hq⟩
     case false =>
      go_wp2_with fail
      have kq0:=cell_regrown p5
      have kq1:=cell_regrown m1
      have kq2:=cell_regrown z13
      refine wp_region_quiet_below (by kernel_rfl) (by kernel_rfl) ?_
      repeat (go_big_quiet_step (first | (go_at_call_has 48 (Value.int .u64 (st:Int));exact Calls.regrown_of (HS.out _)) | (go_at_call_has 48 (Value.int .u64 (pa:Int));exact Calls.regrown_of (HP.out _)) | (go_at_call_has 48 (Value.int .u64 (fo:Int));exact Calls.regrown_of (HF.out _))))
      refine wpQuiet_nil ?_
      rintro _ ⟨⟨dq,osq⟩,rfl⟩
      have hq:=below_regrown w3 dq osq
      clear kq0 kq1 kq2
      go_wp2
      go_ret
      exact ⟨by rw [HR.out];rfl,chain HB4.out hq⟩
end Go.Proofs.YtbccbgonlmkpkaaGreatDoor
namespace Go.Proofs.YtbccbgonlmkpkaaGreatDoor
open Go.RowKit Go.Sort
def innC (zs:Nat->Int) (f f3:Int) (bk c:Nat):Nat->Nat
 | 0=>c
 | j+1=>if (zs j == f || zs j == f3)=true then clrC (innC zs f f3 bk c j) bk else innC zs f f3 bk c j
def zsq (x y:Int) (j:Nat):Int:=if j=0 then x else y
theorem innC_le {zs:Nat->Int} {f f3:Int} {k c:Nat} (hk:k<4) (h:c<=15):∀ j,innC zs f f3 (bitK k) c j<=15
 | 0=>h
 | j+1=>by
  have:=innC_le (zs:=zs) (f:=f) (f3:=f3) hk h j
  unfold innC
  split
  ·exact clr_le hk this
  ·exact this
theorem innC_two {x y t:Int} {k c:Nat} (hk:k<4) (h:c<=15):innC (zsq x y) (cKf (bitK k):Int) (cRf (bitK k):Int) (bitK k) c 2=cutC ⟨x,y,t⟩ c (bitK k):=by
 rw [cut_clr]
 have h2:=clr_two (k:=k) (ca:=c) hk h
 have e:innC (zsq x y) (cKf (bitK k):Int) (cRf (bitK k):Int) (bitK k) c 2=if (y == (cKf (bitK k):Int) || y == (cRf (bitK k):Int))=true then clrC (if (x == (cKf (bitK k):Int) || x == (cRf (bitK k):Int))=true then clrC c (bitK k) else c) (bitK k) else (if (x == (cKf (bitK k):Int) || x == (cRf (bitK k):Int))=true then clrC c (bitK k) else c):=rfl
 have e2:tchB ⟨x,y,t⟩ (bitK k)=((x == (cKf (bitK k):Int) || x == (cRf (bitK k):Int)) || (y == (cKf (bitK k):Int) || y == (cRf (bitK k):Int))):=rfl
 rw [e,e2]
 clear e e2
 generalize (x == (cKf (bitK k):Int) || x == (cRf (bitK k):Int))=a
 generalize (y == (cKf (bitK k):Int) || y == (cRf (bitK k):Int))=b
 cases a <;> cases b <;> simp [h2]
theorem two_0 (x y:Int) (w:World):(Instr.index 204 (.agg #[.int .i64 x,.int .i64 y]) (.int .i64 0)).run Tryz.prog w=.ok (.int .i64 x) w:=by kernel_rfl
theorem two_1 (x y:Int) (w:World):(Instr.index 204 (.agg #[.int .i64 x,.int .i64 y]) (.int .i64 1)).run Tryz.prog w=.ok (.int .i64 y) w:=by kernel_rfl
theorem two_ix (x y:Int):∀ j:Nat,j<2->∀ w:World,(Instr.index 204 (.agg #[.int .i64 x,.int .i64 y]) (.int .i64 (j:Int))).run Tryz.prog w=.ok (.int .i64 (zsq x y j)) w:=by
 intro j hj w
 match j,hj with
 | 0,_=>exact two_0 x y w
 | 1,_=>exact two_1 x y w
theorem pRts_any (ca:Nat) (x y t:Int) (hca:ca<=15) (w:World) (hT:Cst w) :
  Calls Tryz.prog 117 #[.int .u8 (ca:Int),.agg #[.int .i64 x,.int .i64 y,.int .i8 t]] w fun e w'=>e=.returned (.int .u8 (cutK ⟨x,y,t⟩ ca 4:Int))/\Below w.heap.size w w':=by
 have HLE:=Lib.hid (fun k (hk:k<=4)=>cutK_le ⟨x,y,t⟩ hca k hk)
 have HAN:=Lib.hid (fun k (hk:k<4) c (hc:c<=15)=>clr_bits (k:=k) (ca:=c) hk hc)
 have HIN:=Lib.hid (fun k (hk:k<4) c (hc:c<=15) j=>innC_le (zs:=zsq x y) (f:=(cKf (bitK k):Int)) (f3:=(cRf (bitK k):Int)) (k:=k) (c:=c) hk hc j)
 have HTW:=Lib.hid (fun k (hk:k<4) c (hc:c<=15)=>innC_two (x:=x) (y:=y) (t:=t) (k:=k) (c:=c) hk hc)
 have HZI:=Lib.hid (two_ix x y)
 have HST:Hid (∀ k,cutK ⟨x,y,t⟩ ca (k+1)=cutC ⟨x,y,t⟩ (cutK ⟨x,y,t⟩ ca k) (bitK k)):=Lib.hid (fun k=>rfl)
 have HS0:Hid (cutK ⟨x,y,t⟩ ca 0=ca):=Lib.hid rfl
 have hB:=box1 w (.cells #[.int .i64 x,.int .i64 y,.int .i8 t] 30)
 have HM:=Lib.hid (box3 w x y t)
 have hT1:=hT.below hB
 obtain ⟨X,hld,hix⟩:=ctShut
 have hld:=hld _ hT1
 have HI:=Lib.hid hix
 clear hix hT hT1 hca
 go_enter Tryz.func117,Tryz.ntmps117
 go_upto_region 1 with fail
 refine wp_region_lit ?_
 refine BigFrame.wpList_want (by kernel_rfl) ?_
 intro K1 hK1
 refine wp_load rfl hld ?_
 refine hK1 _ _ ?_
 refine BigFrame.wpList_want (by kernel_rfl) ?_
 intro K2 hK2
 refine wp_move rfl ?_
 refine hK2 _ _ ?_
 refine wpList_nil ?_
 simp [Act.put,Act.eval]
 clear hK1 hK2 hld
 generalize (w.alloc (.cells #[.int .i64 x,.int .i64 y,.int .i8 t] 30))=W at *
 have HB:=Lib.hid hB
 clear hB
 go_wp2
 go_loopw [0,6,8,10] (fun c _ _ i wr=>∃ k:Nat,k<=4/\i=.int .i64 k/\c=.int .u8 (cutK ⟨x,y,t⟩ ca k:Int)/\Below W.heap.size W wr) (fun _ _ _ i _=>4 - (intOf i).toNat)
 case atStart=>exact ⟨0,by omega,rfl,by rw [HS0.out],Below.refl _ _⟩
 case round =>
  obtain ⟨k,hk,rfl,rfl,hq⟩:=hrel
  have HM1:=Lib.hid (HM.out.below hq HM.out.lt)
  have HB1:=Lib.hid (chain HB.out hq)
  have HQ:=Lib.hid hq
  clear HM HB hq
  by_cases hlt:k<4
  ·have hi:=HI.out k hlt wr
   have hc15:=HLE.out k hk
   have HAk:=Lib.hid (fun c hc=>HAN.out k hlt c hc)
   have HIk:=Lib.hid (fun j=>HIN.out k hlt _ hc15 j)
   obtain ⟨cn,hcn⟩:∃ cn,cutK ⟨x,y,t⟩ ca (k+1)=cn:=⟨_,rfl⟩
   have hTk:=(HTW.out k hlt _ hc15).trans (HST.out k).symm
   rw [hcn] at hTk
   have HTk:=Lib.hid hTk
   have HCN:=Lib.hid hcn
   clear hTk hcn
   clear HAN HIN HTW HST HS0 HLE HI hc15
   have HV:=Lib.hid (Bxs.new wr (wayV (bitK k)) 146)
   have hVB:=box1 wr (.cells (wayV (bitK k)).toArray 146)
   obtain ⟨V,hV⟩:∃ V,wr.alloc (.cells (wayV (bitK k)).toArray 146)=V:=⟨_,rfl⟩
   rw [hV] at HV hVB
   have HM2:=Lib.hid (HM1.out.below hVB HM1.out.lt)
   have HQV:=Lib.hid (chain HQ.out hVB)
   have HVV:=Lib.hid hV
   have s1:=HV.out.c 1 rfl
   have s3:=HV.out.c 3 rfl
   have s0:=HV.out.c 0 rfl
   clear HM1 HQ hVB hV HV
   unfold wayV at hi HVV
   generalize cutK ⟨x,y,t⟩ ca k=c0 at *
   generalize (cKf (bitK k):Int)=f at *
   generalize (cKt (bitK k):Int)=f2 at *
   generalize (cRf (bitK k):Int)=f3 at *
   generalize (cRt (bitK k):Int)=f4 at *
   generalize bitK k=bk at *
   obtain ⟨⟨m0,m1,m2⟩,mf⟩:=HM2.out
   clear mf
   go_upto_region 4 with fail
   rw [HVV.out]
   go_wp2
   go_loop [0,8,18] (fun c _ i=>∃ j:Nat,j<=2/\i=.int .i64 j/\c=.int .u8 (innC (zsq x y) f f3 bk c0 j:Int)) (fun _ _ i=>2 - (intOf i).toNat)
   case atStart=>exact ⟨0,by omega,rfl,rfl⟩
   case round =>
    obtain ⟨j,hj,rfl,rfl⟩:=hrel
    by_cases hj2:j<2
    ·have hz:=HZI.out j hj2 V
     have han:=HAk.out _ (HIk.out j)
     have HNX:Hid (innC (zsq x y) f f3 bk c0 (j+1)=if (zsq x y j == f || zsq x y j == f3)=true then clrC (innC (zsq x y) f f3 bk c0 j) bk else innC (zsq x y) f f3 bk c0 j):=Lib.hid rfl
     clear HTk HM2 HQV HVV HIk HAk hi
     generalize innC (zsq x y) f f3 bk c0 j=nw at *
     generalize zsq x y j=z at *
     generalize clrC nw bk=cl at *
     cases h1:(z == f)
     case true =>
      rw [h1] at HNX
      go_wp2
      go_round
      case rel=>exact ⟨j+1,by omega,by go_num,by rw [HNX.out];rfl⟩
      case measure=>simp [intOf];omega
     case false =>
      rw [h1] at HNX
      cases h3:(z == f3)
      case true =>
       rw [h3] at HNX
       go_wp2
       go_round
       case rel=>exact ⟨j+1,by omega,by go_num,by rw [HNX.out];rfl⟩
       case measure=>simp [intOf];omega
      case false =>
       rw [h3] at HNX
       go_wp2
       go_round
       case rel=>exact ⟨j+1,by omega,by go_num,by rw [HNX.out];rfl⟩
       case measure=>simp [intOf];omega
    ·have hj3:j=2:=by omega
     subst hj3
     rw [HTk.out]
     go_wp2
     go_roundw
     case rel=>exact ⟨k+1,by omega,by go_num,by rw [HCN.out],HQV.out⟩
     case measure=>simp [intOf];omega
  ·have hk4:k=4:=by omega
   subst hk4
   go_wp2
   go_ret
   exact ⟨rfl,HB1.out⟩
end Go.Proofs.YtbccbgonlmkpkaaGreatDoor
namespace Go.Proofs.YtbccbgonlmkpkaaGreatDoor
open Go.RowKit Go.Sort
def T8 (w:World):Prop:=T5 w/\Rts w/\Cst w
theorem T8.below {w w':World} (h:T8 w) (hb:Below w.heap.size w w'):T8 w':=⟨h.1.below hb,h.2.1.below hb,h.2.2.below hb⟩
theorem has_reach {F R k x y:Int} {X:Nat} (h0:0<=y) (h1:y<F * R):(ofL (reachL F R k x X)).testBit y.toNat=reachB F R k x y X:=by
 rw [ofL_bit]
 unfold reachL pickTo
 have e:((y.toNat:Nat):Int)=y:=by omega
 cases h:reachB F R k x y X with
 | true=>exact decide_eq_true (List.mem_filter.2 ⟨List.mem_range.2 (by omega),by rw [e];exact h⟩)
 | false=>exact decide_eq_false (fun hm=>by have:=(List.mem_filter.1 hm).2;rw [e,h] at this;cases this)
theorem tSo_any (F R:Int) (l:List Int) (A:Option Addr) (c:Nat) (bl:Bool) (ca:Nat) (ps ha fu:Int) (x y t:Int) (b:Nat) (hp:OkP ⟨F,R,l,bl,ca,ps,ha,fu⟩) (hm:okM F R ⟨x,y,t⟩) (hown:ownB (pc l x) bl=true) (hca:ca<256) (w:World) (hT:T8 w) (hX:Bxs w b [.int .i64 F,.int .i64 R,.slice A l.length c,.bool bl,.int .u8 (ca:Int),.int .i64 ps,.int .i64 ha,.int .i64 fu,.int .i64 x,.int .i64 y,.int .i8 t,.int .i8 (kdP (pc l x)),.int .u64 (ownS l bl:Int),.int .u64 (ownS l (!bl):Int)]) :
  Calls Tryz.prog 49 #[.pointer (some ⟨b,0,none⟩)] w fun e w'=>e=.returned (.bool (soM ⟨F,R,l,bl,ca,ps,ha,fu⟩ ⟨x,y,t⟩))/\Below w.heap.size w w':=by
 have hl:(l.length:Int)=F * R:=hp.len
 have hv:vsz F R:=hp.hv
 have h64:F * R<=64:=(vsz_mul hv).2
 have hx:vat F R x:=hm.1
 have hy:vat F R y:=hm.2.1
 have y0:=hy.2.1
 have y1:y<64:=by have:=hy.2.2;omega
 have hl64:l.length<=64:=by omega
 have hbd:vbd F R l:=⟨hv,hl,fun j hj=>by
  have:=hp.orth (j:Int)
  rw [pc_nat] at this
  unfold okP
  rcases this with h | h
  ·rw [h];omega
  ·unfold orthB at h
   simp at h
   omega⟩
 have ho:orthB (pc l x)=true:=(hp.orth x).resolve_left (ownB_iff.1 hown).1
 have hok:=kdP_or ho
 have how:=ownS_lt bl hl64
 have hfo:=ownS_lt (!bl) hl64
 have hoc:=ownS_or l bl
 have hre:ofL (reachL F R (kdP (pc l x)) x (occX l))<18446744073709551616:=by
  have:=ofL_lt (l:=reachL F R (kdP (pc l x)) x (occX l)) (n:=64) (fun i hi=>by
   unfold reachL pickTo at hi
   have:=List.mem_range.1 (List.mem_filter.1 hi).1
   omega)
  simpa using this
 have HO:=Lib.hid (fun w=>has_bel (v:=ownB (pc l y) bl) how y0 y1 (ownS_bit bl y0 (by have:=hy.2.2;omega)) w)
 have HRH:=Lib.hid (fun w=>has_bel hre y0 y1 (has_reach y0 hy.2.2) w)
 have HOC:=Lib.hid (tOcc_any b (ownS l bl) (ownS l (!bl)) how hfo)
 rw [hoc] at HOC
 have HPW:Hid (ownB (pc l y) bl=false->_):=Lib.hid (fun h=>tPwn_any F R l A c bl ca ps ha fu x y t (kdP (pc l x)) (ownS l bl) (ownS l (!bl)) b hbd hx hy how hfo hoc rfl h)
 have HCS:=Lib.hid (tCso_any F R l A c bl ca ps ha fu x y t (kdP (pc l x)) (ownS l bl) (ownS l (!bl)) b hca hl hl64 (fun hne=>by
  rcases pcA_or ca ⟨x,y,t⟩ with hz | ⟨hor,hh⟩
  ·exact absurd hz hne
  ·have:=hit_of (m:=⟨x,y,t⟩) hp hown hor hh
   exact ⟨this.f8,this.r8⟩) how hfo hoc)
 have HRE:Hid (kdP (pc l x)≠1->_):=Lib.hid (fun h=>pReach_yes F R x (kdP (pc l x)) (hok.resolve_left h) hx (occX l) (occX_in hl))
 have e0:=so_prog (p:=⟨F,R,l,bl,ca,ps,ha,fu⟩) (m:=⟨x,y,t⟩) hp hown
 simp only at e0
 have HT:=Lib.hid hT
 have HX:=Lib.hid hX
 generalize soM ⟨F,R,l,bl,ca,ps,ha,fu⟩ ⟨x,y,t⟩=r at *
 have HR:=Lib.hid e0
 clear e0 hX hT hp hm hown hca hl hv h64 hx hy y0 y1 hl64 hbd ho hok how hfo hoc hre
 generalize (decide (pcA ca ⟨x,y,t⟩≠0) && allE l (betL F R (cKf (pcA ca ⟨x,y,t⟩):Int) (cRf (pcA ca ⟨x,y,t⟩):Int)))=cs at *
 generalize pwnM ⟨F,R,l,bl,ca,ps,ha,fu⟩ ⟨x,y,t⟩=pw at *
 generalize reachB F R (kdP (pc l x)) x y (occX l)=rb at *
 generalize ofL (reachL F R (kdP (pc l x)) x (occX l))=re at *
 generalize occX l=oc at *
 generalize ownB (pc l y) bl=ob at *
 generalize ownS l bl=ow at *
 generalize ownS l (!bl)=fo at *
 generalize kdP (pc l x)=kd at *
 go_enter Tryz.func49,Tryz.ntmps49
 have z9:=HX.out.c 9 rfl
 have z12:=HX.out.c 12 rfl
 go_wp2_with fail
 have kq0:=cell_regrown z9
 have kq1:=cell_regrown z12
 refine wp_region_quiet_below (by kernel_rfl) (by kernel_rfl) ?_
 repeat (go_big_quiet_step (first | (go_at_call 48;exact Calls.regrown_of (HO.out _))))
 refine wpQuiet_nil ?_
 rintro _ ⟨⟨dq,osq⟩,rfl⟩
 have hq:=below_regrown w dq osq
 clear z9 z12 kq0 kq1
 generalize grow (redrawn w dq) osq=w1 at *
 have HX1:=Lib.hid (HX.out.below hq HX.out.lt)
 have HT1:=Lib.hid (HT.out.below hq)
 have HB1:=Lib.hid hq
 clear hq HX HT HO
 cases ob
 case true =>
  go_wp2
  go_ret
  exact ⟨by rw [HR.out];rfl,HB1.out⟩
 case false =>
  have z11:=HX1.out.c 11 rfl
  by_cases hk:kd=1
  ·have e1:(kd == 1)=true:=by simp [hk]
   have HP:=Lib.hid (HPW.out rfl)
   have HV:=HR.out
   rw [if_pos hk] at HV
   replace HV:=Lib.hid HV
   clear hk HR HPW HRE HCS
   go_wp2_with fail
   refine (HP.out _ HX1.out).mono ?_
   rintro e w2 ⟨rfl,hq⟩
   go_wp2
   go_ret
   exact ⟨by rw [HV.out];rfl,chain HB1.out hq⟩
  ·have e1:(kd == 1)=false:=by simp [hk]
   have HRX:=Lib.hid (HRE.out hk)
   have HV:=HR.out
   rw [if_neg hk] at HV
   replace HV:=Lib.hid HV
   clear hk HR HPW HRE
   have z10:=HX1.out.c 10 rfl
   cases ht:(t == 0)
   case false =>
    have e2:(t != 0)=true:=by simpa using ht
    rw [ht] at HV
    clear ht
    go_wp2
    go_ret
    exact ⟨by rw [HV.out];rfl,HB1.out⟩
   case true =>
    have e2:(t != 0)=false:=by simpa using ht
    rw [ht] at HV
    clear ht
    obtain ⟨z0,z1⟩:=HX1.out.h2
    have z8:=HX1.out.c 8 rfl
    have z12:=HX1.out.c 12 rfl
    have z13:=HX1.out.c 13 rfl
    go_wp2_with fail
    have kq0:=cell_regrown z0
    have kq1:=cell_regrown z1
    have kq2:=cell_regrown z8
    have kq3:=cell_regrown z11
    have kq4:=cell_regrown z12
    have kq5:=cell_regrown z13
    refine wp_region_quiet_below (by kernel_rfl) (by kernel_rfl) ?_
    repeat (go_big_quiet_step (first | (go_at_call 111;exact Calls.regrown_of (HOC.out _ (kq4 _ _) (kq5 _ _))) | (go_at_call 110;exact Calls.regrown_of (HRX.out _ (HT1.out.below (below_regrown _ _ _)).1.2))))
    refine wpQuiet_nil ?_
    rintro _ ⟨⟨dq,osq⟩,rfl⟩
    have hq:=below_regrown w1 dq osq
    clear z0 z1 z8 z10 z11 z12 z13 kq0 kq1 kq2 kq3 kq4 kq5
    generalize grow (redrawn w1 dq) osq=w2 at *
    have HX2:=Lib.hid (HX1.out.below hq HX1.out.lt)
    have HT2:=Lib.hid (HT1.out.below hq)
    have HB2:=Lib.hid (chain HB1.out hq)
    clear hq HX1 HT1 HB1 HOC HRX
    have z9:=HX2.out.c 9 rfl
    go_wp2_with fail
    refine (HRH.out _).mono ?_
    rintro e w3 ⟨rfl,hq⟩
    have HX3:=Lib.hid (HX2.out.below hq HX2.out.lt)
    have HT3:=Lib.hid (HT2.out.below hq)
    have HB3:=Lib.hid (chain HB2.out hq)
    clear hq HX2 HT2 HB2 HRH z9
    cases rb
    case true =>
     go_wp2
     go_ret
     exact ⟨by rw [HV.out];rfl,HB3.out⟩
    case false =>
     go_wp2_with fail
     refine (HCS.out _ HT3.out.2.2 HX3.out).mono ?_
     rintro e w4 ⟨rfl,hq⟩
     go_wp2
     go_ret
     exact ⟨by rw [HV.out];rfl,chain HB3.out hq⟩
end Go.Proofs.YtbccbgonlmkpkaaGreatDoor
