/- What the theorem needs, piece Zb40. -/
import Derived.Test.YtbccbgonlmkpkaaGreatDoorZb39
set_option linter.unusedSimpArgs false
set_option linter.unusedVariables false
set_option maxRecDepth 100000
set_option maxHeartbeats 16000000
namespace Go.Proofs.YtbccbgonlmkpkaaGreatDoor
open Go.RowKit Go.Sort
theorem rPwnM_any (F R:Int) (l:List Int) (A:Option Addr) (c:Nat) (bl:Bool) (ca:Nat) (ps ha fu:Int) (x y t:Int) (hbd:vbd F R l) (hx:vat F R x) (hy:vat F R y) (w:World) (hA:RdP w w.heap.size A l c) :
  Calls Tryz.prog 121 #[.agg #[.int .i64 F,.int .i64 R,.slice A l.length c,.bool bl,.int .u8 (ca:Int),.int .i64 ps,.int .i64 ha,.int .i64 fu],.agg #[.int .i64 x,.int .i64 y,.int .i8 t]] w fun e w'=>e=.returned (.bool (pwnM ⟨F,R,l,bl,ca,ps,ha,fu⟩ ⟨x,y,t⟩))/\Below w.heap.size w w':=by
 have hl:=hbd.2.1
 have hl64:l.length<=64:=by have:=(vsz_mul hbd.1).2;omega
 have HP2:=Lib.hid (refPlace_any F R y hy)
 have HLA:=Lib.hid (rLast_any F R hbd.1 bl)
 have HOC:=Lib.hid (fun w hA=>rOcc_any F R l A c w hl64 hbd.2.2 hA)
 have HOF:=Lib.hid (rOf_any F R l A c bl ca ps ha fu)
 have hX:occX l<18446744073709551616:=by
  have:=ofL_lt (l:=occL l) (n:=64) (fun i hi=>by
   unfold occL at hi
   rcases List.mem_append.1 hi with h | h <;> have:=idx_lt h <;> omega)
  simpa [occX] using this
 have HST:=Lib.hid (rSteps_any F R x bl hx (occX l) hX)
 have HPA:=Lib.hid (rPawn_any F R x bl hx)
 have sl1:(stepL F R x bl (occX l)).length<=64:=by have:=pickTo_le (fun b=>stepB R (x / F) (numV F R (x % F) (x / F+fwd bl)) (numV F R (x % F) (x / F+2 * fwd bl)) bl (occX l) (b:Int)) (F * R).toNat;unfold stepL;omega
 have sl2:(pawnL F R x bl).length<=64:=by have:=pickTo_le (fun b:Nat=>pawnB F x bl (b:Int)) (F * R).toNat;unfold pawnL;omega
 have HCV:Hid (pwnM ⟨F,R,l,bl,ca,ps,ha,fu⟩ ⟨x,y,t⟩=(((y / F == lastR R bl) == decide (t≠0)) && (hasL ((stepL F R x bl (occX l)).map fun i:Nat=>(i:Int)) y || (hasL ((pawnL F R x bl).map fun i:Nat=>(i:Int)) y && (decide (pc l y≠0) || y == ps))))):=Lib.hid rfl
 have HH1:=Lib.hid (fun A c w hA=>rHas8_any ((stepL F R x bl (occX l)).map fun i:Nat=>(i:Int)) y A c w (by rw [List.length_map];omega) hA)
 have HH2:=Lib.hid (fun A c w hA=>rHas8_any ((pawnL F R x bl).map fun i:Nat=>(i:Int)) y A c w (by rw [List.length_map];omega) hA)
 rw [List.length_map] at HH1 HH2
 have eX:occX l=ofL (occL l):=rfl
 rw [<- eX] at HOC
 obtain ⟨n,rfl⟩:∃ n:Nat,x=(n:Int):=⟨x.toNat,by have:=hx.2.1;omega⟩
 obtain ⟨k,rfl⟩:∃ k:Nat,y=(k:Int):=⟨y.toNat,by have:=hy.2.1;omega⟩
 have hn:n<l.length:=by have:=hx.2.2;omega
 have hk:k<l.length:=by have:=hy.2.2;omega
 obtain ⟨ad,rfl,hb,hc⟩:=hA.at_ hk
 rw [<- pc_nat] at hc
 clear hx hy hbd hl hX eX
 have B1:=box1 w (.cells #[.int .i64 F,.int .i64 R,.slice (some ad) l.length c,.bool bl,.int .u8 (ca:Int),.int .i64 ps,.int .i64 ha,.int .i64 fu] 26)
 have B2:=box1 (w.alloc (.cells #[.int .i64 F,.int .i64 R,.slice (some ad) l.length c,.bool bl,.int .u8 (ca:Int),.int .i64 ps,.int .i64 ha,.int .i64 fu] 26)) (.cells #[.int .i64 (n:Int),.int .i64 (k:Int),.int .i8 t] 30)
 have HX:=Lib.hid ((box8 w F R (.slice (some ad) l.length c) bl ca ps ha fu).below B2 (by simp))
 have HM:=(box3 (w.alloc (.cells #[.int .i64 F,.int .i64 R,.slice (some ad) l.length c,.bool bl,.int .u8 (ca:Int),.int .i64 ps,.int .i64 ha,.int .i64 fu] 26)) (n:Int) (k:Int) t)
 rw [World.size_alloc] at HM
 replace HM:=Lib.hid HM
 have hcc:=Lib.hid (cBo B2 (cBo B1 hc))
 have HA:=Lib.hid (rdBo B2 (rdBo B1 hA))
 have hB:=chain B1 B2
 clear hc B1 B2 hA
 generalize occX l=X at *
 generalize hgs:stepL F R (n:Int) bl X=zs at *
 generalize hgp:pawnL F R (n:Int) bl=zp at *
 clear hgs hgp
 generalize pc l (k:Int)=r at *
 generalize lastR R bl=la at *
 generalize (k:Int) / F=yr at *
 generalize (k:Int) % F=yf at *
 go_enter Tryz.func121,Tryz.ntmps121
 go_wp2_with fail
 refine (HOF.out _).mono ?_
 rintro e w1 ⟨rfl,hq1⟩
 have HX1:=Lib.hid (HX.out.below hq1 (by simp;omega))
 have HM1:=Lib.hid (HM.out.below hq1 (by simp))
 have HA1:=Lib.hid (rdBo hq1 HA.out)
 have hcc1:=Lib.hid (cBo hq1 hcc.out)
 have hB1:=chain hB hq1
 clear hB hq1 HX HM HA hcc
 go_wp2_with fail
 refine (HOC.out _ HA1.out).mono ?_
 rintro e w2 ⟨rfl,hq2⟩
 have HX2:=Lib.hid (HX1.out.below hq2 (by have:=HX1.out.lt;omega))
 have HM2:=Lib.hid (HM1.out.below hq2 (by have:=HM1.out.lt;omega))
 have hcc2:=Lib.hid (cBo hq2 hcc1.out)
 have hB2:=chain hB1 hq2
 clear hB1 hq2 HX1 HM1 HA1 hcc1
 obtain ⟨⟨z0,z1,z2,z3,z4,z5,z6,z7⟩,zf⟩:=HX2.out
 obtain ⟨⟨m0,m1,m2⟩,mf⟩:=HM2.out
 clear zf mf
 have hf1:=fun w'=>fld1 yf yr w'
 go_wp2_with fail
 have kq0:=cell_regrown z0
 have kq1:=cell_regrown z1
 have kq2:=cell_regrown z3
 have kq3:=cell_regrown m1
 refine wp_region_quiet_below (by kernel_rfl) (by kernel_rfl) ?_
 repeat (go_big_quiet_step (first | (go_at_call 66;exact Calls.regrown_of (HP2.out _)) | (go_at_call 67;exact Calls.regrown_of (HLA.out _))))
 refine wpQuiet_nil ?_
 rintro _ ⟨⟨dq,osq⟩,rfl⟩
 have hQ:=below_regrown w2 dq osq
 have HX3:=Lib.hid (HX2.out.below hQ (by have:=HX2.out.lt;omega))
 have HM3:=Lib.hid (HM2.out.below hQ (by have:=HM2.out.lt;omega))
 have hcc3:=Lib.hid (cBo hQ hcc2.out)
 have hB3:=chain hB2 hQ
 clear hB2 HX2 HM2 hcc2 z0 z1 z2 z3 z4 z5 z6 z7 m0 m1 m2 kq0 kq1 kq2 kq3 hQ
 generalize grow (redrawn w2 dq) osq=w3 at *
 obtain ⟨⟨z0,z1,z2,z3,z4,z5,z6,z7⟩,zf⟩:=HX3.out
 obtain ⟨⟨m0,m1,m2⟩,mf⟩:=HM3.out
 clear zf mf
 generalize (yr == la)=yl at *
 obtain ⟨tz,htz⟩:∃ tz,(t != 0)=tz:=⟨_,rfl⟩
 have htd:decide (t≠0)=tz:=by rw [<- htz];by_cases h:t=0 <;> simp [h]
 rw [htd] at HCV
 clear htd
 cases yl <;> cases tz
 case false.true =>
  go_wp2
  go_ret
  exact ⟨by rw [HCV.out];rfl,hB3⟩
 case true.false =>
  go_wp2
  go_ret
  exact ⟨by rw [HCV.out];rfl,hB3⟩
 all_goals
  rw [show ∀ b:Bool,((b == b) && (hasL (zs.map fun i:Nat=>(i:Int)) (k:Int) || (hasL (zp.map fun i:Nat=>(i:Int)) (k:Int) && (decide (r≠0) || (k:Int) == ps))))=(hasL (zs.map fun i:Nat=>(i:Int)) (k:Int) || (hasL (zp.map fun i:Nat=>(i:Int)) (k:Int) && (decide (r≠0) || (k:Int) == ps))) from fun b=>by cases b <;> rfl] at HCV
  go_wp2_with fail
  clear HP2 HLA HOC HOF
  have KB:∀ W':World,Bw w3 W'->(W'.cell? ⟨w.heap.size,0,none⟩=some (.int .i64 F)/\W'.cell? ⟨w.heap.size,1,none⟩=some (.int .i64 R)/\W'.cell? ⟨w.heap.size,3,none⟩=some (.bool bl)/\W'.cell? ⟨w.heap.size+1,0,none⟩=some (.int .i64 (n:Int))/\W'.cell? ⟨w.heap.size+1,1,none⟩=some (.int .i64 (k:Int)))/\Bw w3 W':=fun W' hW=>⟨⟨cBo hW (by assumption),cBo hW (by assumption),cBo hW (by assumption),cBo hW (by assumption),cBo hW (by assumption)⟩,hW⟩
  replace KB:=Lib.hid KB
  have hS0:=KB.out w3 (Below.refl _ _)
  (go_region_held3 (fun w'=>(w'.cell? ⟨w.heap.size,0,none⟩=some (.int .i64 F)/\w'.cell? ⟨w.heap.size,1,none⟩=some (.int .i64 R)/\w'.cell? ⟨w.heap.size,3,none⟩=some (.bool bl)/\w'.cell? ⟨w.heap.size+1,0,none⟩=some (.int .i64 (n:Int))/\w'.cell? ⟨w.heap.size+1,1,none⟩=some (.int .i64 (k:Int)))/\Bw w3 w')
   (first | assumption | exact KB.out _ (Bw.step (And.right (by assumption)) (by assumption)) | exact KB.out _ (Bw.step (And.right (by assumption)) ((Below.refl _ _).drew)))
   (first
    | (go_at_call 171;refine (HST.out _).mono ?_;rintro e w4 ⟨v4,rfl,hown4,hb4⟩;obtain ⟨Az,dz,rfl,hAz⟩:=RdI.own hown4)
    | (go_at_call 126;refine (HH1.out _ _ _ hAz).mono ?_;rintro e wh ⟨rfl,rfl⟩)))
  have hQ4:Below w3.heap.size w3 w4:=And.right (by assumption:_/\Bw w3 w4)
  have HX4:=Lib.hid (HX3.out.below hQ4 (by have:=HX3.out.lt;omega))
  have HM4:=Lib.hid (HM3.out.below hQ4 (by have:=HM3.out.lt;omega))
  have hcc4:=Lib.hid (cBo hQ4 hcc3.out)
  have hB4:=chain hB3 hQ4
  clear hB3 HX3 HM3 hcc3 z0 z1 z2 z3 z4 z5 z6 z7 m0 m1 m2 hQ4 KB hS0 hown4 hb4 hAz HST HH1
  generalize hasL (zs.map fun i:Nat=>(i:Int)) (k:Int)=b1 at *
  cases b1
  case true =>
   go_wp2
   go_ret
   exact ⟨by rw [HCV.out];rfl,hB4⟩
  case false =>
   obtain ⟨⟨z0,z1,z2,z3,z4,z5,z6,z7⟩,zf⟩:=HX4.out
   obtain ⟨⟨m0,m1,m2⟩,mf⟩:=HM4.out
   have hcr:=hcc4.out
   clear zf mf
   generalize hasL (zp.map fun i:Nat=>(i:Int)) (k:Int)=b2 at *
   cases b2
   case false =>
    go_wp2_with fail
    have KB:∀ W':World,Bw w4 W'->(W'.cell? ⟨w.heap.size,0,none⟩=some (.int .i64 F)/\W'.cell? ⟨w.heap.size,1,none⟩=some (.int .i64 R)/\W'.cell? ⟨w.heap.size,3,none⟩=some (.bool bl)/\W'.cell? ⟨w.heap.size+1,0,none⟩=some (.int .i64 (n:Int))/\W'.cell? ⟨w.heap.size+1,1,none⟩=some (.int .i64 (k:Int))/\W'.cell? ⟨w.heap.size,2,none⟩=some (.slice (some ad) l.length c)/\W'.cell? ⟨w.heap.size,5,none⟩=some (.int .i64 ps)/\W'.cell? (ad.add k)=some (.int .i8 r))/\Bw w4 W':=fun W' hW=>⟨⟨cBo hW (by assumption),cBo hW (by assumption),cBo hW (by assumption),cBo hW (by assumption),cBo hW (by assumption),cBo hW (by assumption),cBo hW (by assumption),cBo hW (by assumption)⟩,hW⟩
    replace KB:=Lib.hid KB
    have hS0:=KB.out w4 (Below.refl _ _)
    refine wp_region_held_drew (S:=fun w'=>(w'.cell? ⟨w.heap.size,0,none⟩=some (.int .i64 F)/\w'.cell? ⟨w.heap.size,1,none⟩=some (.int .i64 R)/\w'.cell? ⟨w.heap.size,3,none⟩=some (.bool bl)/\w'.cell? ⟨w.heap.size+1,0,none⟩=some (.int .i64 (n:Int))/\w'.cell? ⟨w.heap.size+1,1,none⟩=some (.int .i64 (k:Int))/\w'.cell? ⟨w.heap.size,2,none⟩=some (.slice (some ad) l.length c)/\w'.cell? ⟨w.heap.size,5,none⟩=some (.int .i64 ps)/\w'.cell? (ad.add k)=some (.int .i8 r))/\Bw w4 w') (by kernel_rfl) (KB.out _ (Bw.step (And.right hS0) ((Below.refl _ _).drew))) (fun hHeld=>?_)
    refine wpAnyH_take (i:=0) (v:=?_) rfl (by kernel_rfl) (by kernel_rfl) (by kernel_rfl) (fun _ _ _ h=>h) (Or.inl ⟨by kernel_rfl,?_⟩) (by assumption) ?_
    rotate_left
    ·intro w' hSw
     (try dsimp only at hSw)
     go_simp
     all_goals (with_reducible rfl)
    (try simp only [Act.put,List.getElem_toArray,List.getElem_cons_succ,List.getElem_cons_zero,List.setIfInBounds_toArray,List.set_cons_zero,List.set_cons_succ])
    refine wpAnyH_take (i:=1) (v:=?_) rfl (by kernel_rfl) (by kernel_rfl) (by kernel_rfl) (fun _ _ _ h=>h) (Or.inl ⟨by kernel_rfl,?_⟩) (by assumption) ?_
    rotate_left
    ·intro w' hSw
     (try dsimp only at hSw)
     go_simp
     all_goals (with_reducible rfl)
    (try simp only [Act.put,List.getElem_toArray,List.getElem_cons_succ,List.getElem_cons_zero,List.setIfInBounds_toArray,List.set_cons_zero,List.set_cons_succ])
    refine wpAnyH_take (i:=2) (v:=?_) rfl (by kernel_rfl) (by kernel_rfl) (by kernel_rfl) (fun _ _ _ h=>h) (Or.inl ⟨by kernel_rfl,?_⟩) (by assumption) ?_
    rotate_left
    ·intro w' hSw
     (try dsimp only at hSw)
     go_simp
     all_goals (with_reducible rfl)
    (try simp only [Act.put,List.getElem_toArray,List.getElem_cons_succ,List.getElem_cons_zero,List.setIfInBounds_toArray,List.set_cons_zero,List.set_cons_succ])
    refine wpAnyH_take (i:=3) (v:=?_) rfl (by kernel_rfl) (by kernel_rfl) (by kernel_rfl) (fun _ _ _ h=>h) (Or.inl ⟨by kernel_rfl,?_⟩) (by assumption) ?_
    rotate_left
    ·intro w' hSw
     (try dsimp only at hSw)
     go_simp
     all_goals (with_reducible rfl)
    (try simp only [Act.put,List.getElem_toArray,List.getElem_cons_succ,List.getElem_cons_zero,List.setIfInBounds_toArray,List.set_cons_zero,List.set_cons_succ])
    refine wpAnyH_take (i:=4) (v:=?_) rfl (by kernel_rfl) (by kernel_rfl) (by kernel_rfl) (fun _ _ _ h=>h) (Or.inl ⟨by kernel_rfl,?_⟩) (by assumption) ?_
    rotate_left
    ·intro w' hSw
     (try dsimp only at hSw)
     go_simp
     all_goals (with_reducible rfl)
    (try simp only [Act.put,List.getElem_toArray,List.getElem_cons_succ,List.getElem_cons_zero,List.setIfInBounds_toArray,List.set_cons_zero,List.set_cons_succ])
    refine wpAnyH_take (i:=5) (v:=?_) rfl (by kernel_rfl) (by kernel_rfl) (by kernel_rfl) (fun _ _ _ h=>h) (Or.inl ⟨by kernel_rfl,?_⟩) (by assumption) ?_
    rotate_left
    ·intro w' hSw
     (try dsimp only at hSw)
     go_simp
     all_goals (with_reducible rfl)
    (try simp only [Act.put,List.getElem_toArray,List.getElem_cons_succ,List.getElem_cons_zero,List.setIfInBounds_toArray,List.set_cons_zero,List.set_cons_succ])
    refine wpAnyH_take (i:=7) (v:=?_) rfl (by kernel_rfl) (by kernel_rfl) (by kernel_rfl) (fun _ _ _ h=>h) (Or.inl ⟨by kernel_rfl,?_⟩) (by assumption) ?_
    rotate_left
    ·intro w' hSw
     (try dsimp only at hSw)
     go_simp
     all_goals (with_reducible rfl)
    (try simp only [Act.put,List.getElem_toArray,List.getElem_cons_succ,List.getElem_cons_zero,List.setIfInBounds_toArray,List.set_cons_zero,List.set_cons_succ])
    refine wpAnyH_take (i:=8) (v:=?_) rfl (by kernel_rfl) (by kernel_rfl) (by kernel_rfl) (fun _ _ _ h=>h) (Or.inl ⟨by kernel_rfl,?_⟩) (by assumption) ?_
    rotate_left
    ·intro w' hSw
     (try dsimp only at hSw)
     go_simp
     all_goals (with_reducible rfl)
    (try simp only [Act.put,List.getElem_toArray,List.getElem_cons_succ,List.getElem_cons_zero,List.setIfInBounds_toArray,List.set_cons_zero,List.set_cons_succ])
    refine wpAnyH_ready (rs:=[6]) (by kernel_rfl) (by simp) ?_
    refine AllReadyH.cons rfl (fun K hK=>?_) AllReadyH.nil
    go_simp
    (go_at_call 172;refine (HPA.out _).mono ?_;rintro e w5 ⟨v5,rfl,hown5,hb5⟩;obtain ⟨Az,dz,rfl,hAz⟩:=RdI.own hown5)
    go_wp2_with fail
    refine hK.out _ _ ?_ (fun hHeld=>?_)
    ·(try dsimp only)
     (first | assumption | exact KB.out _ (Bw.step (And.right (by assumption)) (by assumption)) | exact KB.out _ (Bw.step (And.right (by assumption)) ((Below.refl _ _).drew)))
    clear hK K
    (try simp only [Act.put,List.getElem_toArray,List.getElem_cons_succ,List.getElem_cons_zero,List.setIfInBounds_toArray,List.set_cons_zero,List.set_cons_succ])
    refine wpAnyH_ready (rs:=[9]) (by kernel_rfl) (by simp) ?_
    refine AllReadyH.cons rfl (fun K hK=>?_) AllReadyH.nil
    go_simp
    (go_at_call 126;refine (HH2.out _ _ _ hAz).mono ?_;rintro e wh ⟨rfl,rfl⟩)
    go_wp2_with fail
    refine hK.out _ _ ?_ (fun hHeld=>?_)
    ·(try dsimp only)
     (first | assumption | exact KB.out _ (Bw.step (And.right (by assumption)) (by assumption)) | exact KB.out _ (Bw.step (And.right (by assumption)) ((Below.refl _ _).drew)))
    clear hK K
    (try simp only [Act.put,List.getElem_toArray,List.getElem_cons_succ,List.getElem_cons_zero,List.setIfInBounds_toArray,List.set_cons_zero,List.set_cons_succ])
    refine wpAnyH_take (i:=10) (v:=?_) rfl (by kernel_rfl) (by kernel_rfl) (by kernel_rfl) (fun _ _ _ h=>h) (Or.inl ⟨by kernel_rfl,?_⟩) (by assumption) ?_
    rotate_left
    ·intro w' hSw
     (try dsimp only at hSw)
     go_simp
     all_goals (with_reducible rfl)
    (try simp only [Act.put,List.getElem_toArray,List.getElem_cons_succ,List.getElem_cons_zero,List.setIfInBounds_toArray,List.set_cons_zero,List.set_cons_succ])
    refine wpAnyH_take (i:=11) (v:=undef) rfl (by kernel_rfl) (by kernel_rfl) (by kernel_rfl) (fun _ _ _ h=>h) (Or.inr ⟨by kernel_rfl,rfl⟩) (by assumption) ?_
    (try simp only [Act.put,List.getElem_toArray,List.getElem_cons_succ,List.getElem_cons_zero,List.setIfInBounds_toArray,List.set_cons_zero,List.set_cons_succ])
    refine wpAnyH_take (i:=12) (v:=undef) rfl (by kernel_rfl) (by kernel_rfl) (by kernel_rfl) (fun _ _ _ h=>h) (Or.inr ⟨by kernel_rfl,rfl⟩) (by assumption) ?_
    (try simp only [Act.put,List.getElem_toArray,List.getElem_cons_succ,List.getElem_cons_zero,List.setIfInBounds_toArray,List.set_cons_zero,List.set_cons_succ])
    refine wpAnyH_take (i:=13) (v:=undef) rfl (by kernel_rfl) (by kernel_rfl) (by kernel_rfl) (fun _ _ _ h=>h) (Or.inr ⟨by kernel_rfl,rfl⟩) (by assumption) ?_
    (try simp only [Act.put,List.getElem_toArray,List.getElem_cons_succ,List.getElem_cons_zero,List.setIfInBounds_toArray,List.set_cons_zero,List.set_cons_succ])
    refine wpAnyH_take (i:=14) (v:=undef) rfl (by kernel_rfl) (by kernel_rfl) (by kernel_rfl) (fun _ _ _ h=>h) (Or.inr ⟨by kernel_rfl,rfl⟩) (by assumption) ?_
    (try simp only [Act.put,List.getElem_toArray,List.getElem_cons_succ,List.getElem_cons_zero,List.setIfInBounds_toArray,List.set_cons_zero,List.set_cons_succ])
    refine wpAnyH_take (i:=15) (v:=undef) rfl (by kernel_rfl) (by kernel_rfl) (by kernel_rfl) (fun _ _ _ h=>h) (Or.inr ⟨by kernel_rfl,rfl⟩) (by assumption) ?_
    (try simp only [Act.put,List.getElem_toArray,List.getElem_cons_succ,List.getElem_cons_zero,List.setIfInBounds_toArray,List.set_cons_zero,List.set_cons_succ])
    refine wpAnyH_take (i:=16) (v:=undef) rfl (by kernel_rfl) (by kernel_rfl) (by kernel_rfl) (fun _ _ _ h=>h) (Or.inr ⟨by kernel_rfl,rfl⟩) (by assumption) ?_
    (try simp only [Act.put,List.getElem_toArray,List.getElem_cons_succ,List.getElem_cons_zero,List.setIfInBounds_toArray,List.set_cons_zero,List.set_cons_succ])
    refine wpAnyH_take (i:=17) (v:=undef) rfl (by kernel_rfl) (by kernel_rfl) (by kernel_rfl) (fun _ _ _ h=>h) (Or.inr ⟨by kernel_rfl,rfl⟩) (by assumption) ?_
    (try simp only [Act.put,List.getElem_toArray,List.getElem_cons_succ,List.getElem_cons_zero,List.setIfInBounds_toArray,List.set_cons_zero,List.set_cons_succ])
    refine wpAnyH_take (i:=18) (v:=undef) rfl (by kernel_rfl) (by kernel_rfl) (by kernel_rfl) (fun _ _ _ h=>h) (Or.inr ⟨by kernel_rfl,rfl⟩) (by assumption) ?_
    (try simp only [Act.put,List.getElem_toArray,List.getElem_cons_succ,List.getElem_cons_zero,List.setIfInBounds_toArray,List.set_cons_zero,List.set_cons_succ])
    refine wpAnyH_take (i:=19) (v:=undef) rfl (by kernel_rfl) (by kernel_rfl) (by kernel_rfl) (fun _ _ _ h=>h) (Or.inr ⟨by kernel_rfl,rfl⟩) (by assumption) ?_
    (try simp only [Act.put,List.getElem_toArray,List.getElem_cons_succ,List.getElem_cons_zero,List.setIfInBounds_toArray,List.set_cons_zero,List.set_cons_succ])
    refine wpAnyH_take (i:=20) (v:=undef) rfl (by kernel_rfl) (by kernel_rfl) (by kernel_rfl) (fun _ _ _ h=>h) (Or.inr ⟨by kernel_rfl,rfl⟩) (by assumption) ?_
    (try simp only [Act.put,List.getElem_toArray,List.getElem_cons_succ,List.getElem_cons_zero,List.setIfInBounds_toArray,List.set_cons_zero,List.set_cons_succ])
    refine wpAnyH_take (i:=21) (v:=undef) rfl (by kernel_rfl) (by kernel_rfl) (by kernel_rfl) (fun _ _ _ h=>h) (Or.inr ⟨by kernel_rfl,rfl⟩) (by assumption) ?_
    (try simp only [Act.put,List.getElem_toArray,List.getElem_cons_succ,List.getElem_cons_zero,List.setIfInBounds_toArray,List.set_cons_zero,List.set_cons_succ])
    refine wpAnyH_take (i:=22) (v:=undef) rfl (by kernel_rfl) (by kernel_rfl) (by kernel_rfl) (fun _ _ _ h=>h) (Or.inr ⟨by kernel_rfl,rfl⟩) (by assumption) ?_
    (try simp only [Act.put,List.getElem_toArray,List.getElem_cons_succ,List.getElem_cons_zero,List.setIfInBounds_toArray,List.set_cons_zero,List.set_cons_succ])
    refine wpAnyH_take (i:=23) (v:=undef) rfl (by kernel_rfl) (by kernel_rfl) (by kernel_rfl) (fun _ _ _ h=>h) (Or.inr ⟨by kernel_rfl,rfl⟩) (by assumption) ?_
    (try simp only [Act.put,List.getElem_toArray,List.getElem_cons_succ,List.getElem_cons_zero,List.setIfInBounds_toArray,List.set_cons_zero,List.set_cons_succ])
    refine wpAnyH_take (i:=24) (v:=undef) rfl (by kernel_rfl) (by kernel_rfl) (by kernel_rfl) (fun _ _ _ h=>h) (Or.inr ⟨by kernel_rfl,rfl⟩) (by assumption) ?_
    (try simp only [Act.put,List.getElem_toArray,List.getElem_cons_succ,List.getElem_cons_zero,List.setIfInBounds_toArray,List.set_cons_zero,List.set_cons_succ])
    refine wpAnyH_take (i:=25) (v:=?_) rfl (by kernel_rfl) (by kernel_rfl) (by kernel_rfl) (fun _ _ _ h=>h) (Or.inl ⟨by kernel_rfl,?_⟩) (by assumption) ?_
    rotate_left
    ·intro w' hSw
     (try dsimp only at hSw)
     go_simp
     all_goals (with_reducible rfl)
    (try simp only [Act.put,List.getElem_toArray,List.getElem_cons_succ,List.getElem_cons_zero,List.setIfInBounds_toArray,List.set_cons_zero,List.set_cons_succ])
    refine wpAnyH_take (i:=26) (v:=?_) rfl (by kernel_rfl) (by kernel_rfl) (by kernel_rfl) (fun _ _ _ h=>h) (Or.inl ⟨by kernel_rfl,?_⟩) (by assumption) ?_
    rotate_left
    ·intro w' hSw
     (try dsimp only at hSw)
     go_simp
     all_goals (with_reducible rfl)
    (try simp only [Act.put,List.getElem_toArray,List.getElem_cons_succ,List.getElem_cons_zero,List.setIfInBounds_toArray,List.set_cons_zero,List.set_cons_succ])
    refine wpAnyH_done (by kernel_rfl) ?_ _
    have hQ5:Below w4.heap.size w4 w5:=And.right (by assumption:_/\Bw w4 w5)
    go_wp2
    go_ret
    exact ⟨by rw [HCV.out];rfl,chain hB4 hQ5⟩
   case true =>
    have hk0:(0:Int)<=(k:Int):=by omega
    have hk1:(k:Int)<(l.length:Int):=by omega
    by_cases hr:r=0
    ·have er:(r != 0)=false:=by simp [hr]
     have ed:decide (r≠0)=false:=by simp [hr]
     rw [ed] at HCV
     clear ed hr
     obtain ⟨ek,hek⟩:∃ ek,((k:Int) == ps)=ek:=⟨_,rfl⟩
     rw [hek] at HCV
     go_wp2_with fail
     have KB:∀ W':World,Bw w4 W'->(W'.cell? ⟨w.heap.size,0,none⟩=some (.int .i64 F)/\W'.cell? ⟨w.heap.size,1,none⟩=some (.int .i64 R)/\W'.cell? ⟨w.heap.size,3,none⟩=some (.bool bl)/\W'.cell? ⟨w.heap.size+1,0,none⟩=some (.int .i64 (n:Int))/\W'.cell? ⟨w.heap.size+1,1,none⟩=some (.int .i64 (k:Int))/\W'.cell? ⟨w.heap.size,2,none⟩=some (.slice (some ad) l.length c)/\W'.cell? ⟨w.heap.size,5,none⟩=some (.int .i64 ps)/\W'.cell? (ad.add k)=some (.int .i8 r))/\Bw w4 W':=fun W' hW=>⟨⟨cBo hW (by assumption),cBo hW (by assumption),cBo hW (by assumption),cBo hW (by assumption),cBo hW (by assumption),cBo hW (by assumption),cBo hW (by assumption),cBo hW (by assumption)⟩,hW⟩
     replace KB:=Lib.hid KB
     have hS0:=KB.out w4 (Below.refl _ _)
     refine wp_region_held_drew (S:=fun w'=>(w'.cell? ⟨w.heap.size,0,none⟩=some (.int .i64 F)/\w'.cell? ⟨w.heap.size,1,none⟩=some (.int .i64 R)/\w'.cell? ⟨w.heap.size,3,none⟩=some (.bool bl)/\w'.cell? ⟨w.heap.size+1,0,none⟩=some (.int .i64 (n:Int))/\w'.cell? ⟨w.heap.size+1,1,none⟩=some (.int .i64 (k:Int))/\w'.cell? ⟨w.heap.size,2,none⟩=some (.slice (some ad) l.length c)/\w'.cell? ⟨w.heap.size,5,none⟩=some (.int .i64 ps)/\w'.cell? (ad.add k)=some (.int .i8 r))/\Bw w4 w') (by kernel_rfl) (KB.out _ (Bw.step (And.right hS0) ((Below.refl _ _).drew))) (fun hHeld=>?_)
     refine wpAnyH_take (i:=0) (v:=?_) rfl (by kernel_rfl) (by kernel_rfl) (by kernel_rfl) (fun _ _ _ h=>h) (Or.inl ⟨by kernel_rfl,?_⟩) (by assumption) ?_
     rotate_left
     ·intro w' hSw
      (try dsimp only at hSw)
      go_simp
      all_goals (with_reducible rfl)
     (try simp only [Act.put,List.getElem_toArray,List.getElem_cons_succ,List.getElem_cons_zero,List.setIfInBounds_toArray,List.set_cons_zero,List.set_cons_succ])
     refine wpAnyH_take (i:=1) (v:=?_) rfl (by kernel_rfl) (by kernel_rfl) (by kernel_rfl) (fun _ _ _ h=>h) (Or.inl ⟨by kernel_rfl,?_⟩) (by assumption) ?_
     rotate_left
     ·intro w' hSw
      (try dsimp only at hSw)
      go_simp
      all_goals (with_reducible rfl)
     (try simp only [Act.put,List.getElem_toArray,List.getElem_cons_succ,List.getElem_cons_zero,List.setIfInBounds_toArray,List.set_cons_zero,List.set_cons_succ])
     refine wpAnyH_take (i:=2) (v:=?_) rfl (by kernel_rfl) (by kernel_rfl) (by kernel_rfl) (fun _ _ _ h=>h) (Or.inl ⟨by kernel_rfl,?_⟩) (by assumption) ?_
     rotate_left
     ·intro w' hSw
      (try dsimp only at hSw)
      go_simp
      all_goals (with_reducible rfl)
     (try simp only [Act.put,List.getElem_toArray,List.getElem_cons_succ,List.getElem_cons_zero,List.setIfInBounds_toArray,List.set_cons_zero,List.set_cons_succ])
     refine wpAnyH_take (i:=3) (v:=?_) rfl (by kernel_rfl) (by kernel_rfl) (by kernel_rfl) (fun _ _ _ h=>h) (Or.inl ⟨by kernel_rfl,?_⟩) (by assumption) ?_
     rotate_left
     ·intro w' hSw
      (try dsimp only at hSw)
      go_simp
      all_goals (with_reducible rfl)
     (try simp only [Act.put,List.getElem_toArray,List.getElem_cons_succ,List.getElem_cons_zero,List.setIfInBounds_toArray,List.set_cons_zero,List.set_cons_succ])
     refine wpAnyH_take (i:=4) (v:=?_) rfl (by kernel_rfl) (by kernel_rfl) (by kernel_rfl) (fun _ _ _ h=>h) (Or.inl ⟨by kernel_rfl,?_⟩) (by assumption) ?_
     rotate_left
     ·intro w' hSw
      (try dsimp only at hSw)
      go_simp
      all_goals (with_reducible rfl)
     (try simp only [Act.put,List.getElem_toArray,List.getElem_cons_succ,List.getElem_cons_zero,List.setIfInBounds_toArray,List.set_cons_zero,List.set_cons_succ])
     refine wpAnyH_take (i:=5) (v:=?_) rfl (by kernel_rfl) (by kernel_rfl) (by kernel_rfl) (fun _ _ _ h=>h) (Or.inl ⟨by kernel_rfl,?_⟩) (by assumption) ?_
     rotate_left
     ·intro w' hSw
      (try dsimp only at hSw)
      go_simp
      all_goals (with_reducible rfl)
     (try simp only [Act.put,List.getElem_toArray,List.getElem_cons_succ,List.getElem_cons_zero,List.setIfInBounds_toArray,List.set_cons_zero,List.set_cons_succ])
     refine wpAnyH_take (i:=7) (v:=?_) rfl (by kernel_rfl) (by kernel_rfl) (by kernel_rfl) (fun _ _ _ h=>h) (Or.inl ⟨by kernel_rfl,?_⟩) (by assumption) ?_
     rotate_left
     ·intro w' hSw
      (try dsimp only at hSw)
      go_simp
      all_goals (with_reducible rfl)
     (try simp only [Act.put,List.getElem_toArray,List.getElem_cons_succ,List.getElem_cons_zero,List.setIfInBounds_toArray,List.set_cons_zero,List.set_cons_succ])
     refine wpAnyH_take (i:=8) (v:=?_) rfl (by kernel_rfl) (by kernel_rfl) (by kernel_rfl) (fun _ _ _ h=>h) (Or.inl ⟨by kernel_rfl,?_⟩) (by assumption) ?_
     rotate_left
     ·intro w' hSw
      (try dsimp only at hSw)
      go_simp
      all_goals (with_reducible rfl)
     (try simp only [Act.put,List.getElem_toArray,List.getElem_cons_succ,List.getElem_cons_zero,List.setIfInBounds_toArray,List.set_cons_zero,List.set_cons_succ])
     refine wpAnyH_ready (rs:=[6]) (by kernel_rfl) (by simp) ?_
     refine AllReadyH.cons rfl (fun K hK=>?_) AllReadyH.nil
     go_simp
     (go_at_call 172;refine (HPA.out _).mono ?_;rintro e w5 ⟨v5,rfl,hown5,hb5⟩;obtain ⟨Az,dz,rfl,hAz⟩:=RdI.own hown5)
     go_wp2_with fail
     refine hK.out _ _ ?_ (fun hHeld=>?_)
     ·(try dsimp only)
      (first | assumption | exact KB.out _ (Bw.step (And.right (by assumption)) (by assumption)) | exact KB.out _ (Bw.step (And.right (by assumption)) ((Below.refl _ _).drew)))
     clear hK K
     (try simp only [Act.put,List.getElem_toArray,List.getElem_cons_succ,List.getElem_cons_zero,List.setIfInBounds_toArray,List.set_cons_zero,List.set_cons_succ])
     refine wpAnyH_ready (rs:=[9]) (by kernel_rfl) (by simp) ?_
     refine AllReadyH.cons rfl (fun K hK=>?_) AllReadyH.nil
     go_simp
     (go_at_call 126;refine (HH2.out _ _ _ hAz).mono ?_;rintro e wh ⟨rfl,rfl⟩)
     go_wp2_with fail
     refine hK.out _ _ ?_ (fun hHeld=>?_)
     ·(try dsimp only)
      (first | assumption | exact KB.out _ (Bw.step (And.right (by assumption)) (by assumption)) | exact KB.out _ (Bw.step (And.right (by assumption)) ((Below.refl _ _).drew)))
     clear hK K
     (try simp only [Act.put,List.getElem_toArray,List.getElem_cons_succ,List.getElem_cons_zero,List.setIfInBounds_toArray,List.set_cons_zero,List.set_cons_succ])
     refine wpAnyH_take (i:=10) (v:=?_) rfl (by kernel_rfl) (by kernel_rfl) (by kernel_rfl) (fun _ _ _ h=>h) (Or.inl ⟨by kernel_rfl,?_⟩) (by assumption) ?_
     rotate_left
     ·intro w' hSw
      (try dsimp only at hSw)
      go_simp
      all_goals (with_reducible rfl)
     (try simp only [Act.put,List.getElem_toArray,List.getElem_cons_succ,List.getElem_cons_zero,List.setIfInBounds_toArray,List.set_cons_zero,List.set_cons_succ])
     refine wpAnyH_take (i:=11) (v:=?_) rfl (by kernel_rfl) (by kernel_rfl) (by kernel_rfl) (fun _ _ _ h=>h) (Or.inl ⟨by kernel_rfl,?_⟩) (by assumption) ?_
     rotate_left
     ·intro w' hSw
      (try dsimp only at hSw)
      go_simp
      all_goals (with_reducible rfl)
     (try simp only [Act.put,List.getElem_toArray,List.getElem_cons_succ,List.getElem_cons_zero,List.setIfInBounds_toArray,List.set_cons_zero,List.set_cons_succ])
     refine wpAnyH_take (i:=12) (v:=?_) rfl (by kernel_rfl) (by kernel_rfl) (by kernel_rfl) (fun _ _ _ h=>h) (Or.inl ⟨by kernel_rfl,?_⟩) (by assumption) ?_
     rotate_left
     ·intro w' hSw
      (try dsimp only at hSw)
      go_simp
      all_goals (with_reducible rfl)
     (try simp only [Act.put,List.getElem_toArray,List.getElem_cons_succ,List.getElem_cons_zero,List.setIfInBounds_toArray,List.set_cons_zero,List.set_cons_succ])
     refine wpAnyH_take (i:=13) (v:=?_) rfl (by kernel_rfl) (by kernel_rfl) (by kernel_rfl) (fun _ _ _ h=>h) (Or.inl ⟨by kernel_rfl,?_⟩) (by assumption) ?_
     rotate_left
     ·intro w' hSw
      (try dsimp only at hSw)
      go_simp
      all_goals (with_reducible rfl)
     (try simp only [Act.put,List.getElem_toArray,List.getElem_cons_succ,List.getElem_cons_zero,List.setIfInBounds_toArray,List.set_cons_zero,List.set_cons_succ])
     refine wpAnyH_take (i:=14) (v:=?_) rfl (by kernel_rfl) (by kernel_rfl) (by kernel_rfl) (fun _ _ _ h=>h) (Or.inl ⟨by kernel_rfl,?_⟩) (by assumption) ?_
     rotate_left
     ·intro w' hSw
      (try dsimp only at hSw)
      go_simp
      all_goals (with_reducible rfl)
     (try simp only [Act.put,List.getElem_toArray,List.getElem_cons_succ,List.getElem_cons_zero,List.setIfInBounds_toArray,List.set_cons_zero,List.set_cons_succ])
     refine wpAnyH_take (i:=15) (v:=?_) rfl (by kernel_rfl) (by kernel_rfl) (by kernel_rfl) (fun _ _ _ h=>h) (Or.inl ⟨by kernel_rfl,?_⟩) (by assumption) ?_
     rotate_left
     ·intro w' hSw
      (try dsimp only at hSw)
      go_simp
      all_goals (with_reducible rfl)
     (try simp only [Act.put,List.getElem_toArray,List.getElem_cons_succ,List.getElem_cons_zero,List.setIfInBounds_toArray,List.set_cons_zero,List.set_cons_succ])
     refine wpAnyH_take (i:=16) (v:=?_) rfl (by kernel_rfl) (by kernel_rfl) (by kernel_rfl) (fun _ _ _ h=>h) (Or.inl ⟨by kernel_rfl,?_⟩) (by assumption) ?_
     rotate_left
     ·intro w' hSw
      (try dsimp only at hSw)
      go_simp
      all_goals (with_reducible rfl)
     (try simp only [Act.put,List.getElem_toArray,List.getElem_cons_succ,List.getElem_cons_zero,List.setIfInBounds_toArray,List.set_cons_zero,List.set_cons_succ])
     refine wpAnyH_take (i:=17) (v:=?_) rfl (by kernel_rfl) (by kernel_rfl) (by kernel_rfl) (fun _ _ _ h=>h) (Or.inl ⟨by kernel_rfl,?_⟩) (by assumption) ?_
     rotate_left
     ·intro w' hSw
      (try dsimp only at hSw)
      go_simp
      all_goals (with_reducible rfl)
     (try simp only [Act.put,List.getElem_toArray,List.getElem_cons_succ,List.getElem_cons_zero,List.setIfInBounds_toArray,List.set_cons_zero,List.set_cons_succ])
     refine wpAnyH_take (i:=18) (v:=?_) rfl (by kernel_rfl) (by kernel_rfl) (by kernel_rfl) (fun _ _ _ h=>h) (Or.inl ⟨by kernel_rfl,?_⟩) (by assumption) ?_
     rotate_left
     ·intro w' hSw
      (try dsimp only at hSw)
      go_simp
      all_goals (with_reducible rfl)
     (try simp only [Act.put,List.getElem_toArray,List.getElem_cons_succ,List.getElem_cons_zero,List.setIfInBounds_toArray,List.set_cons_zero,List.set_cons_succ])
     refine wpAnyH_take (i:=19) (v:=?_) rfl (by kernel_rfl) (by kernel_rfl) (by kernel_rfl) (fun _ _ _ h=>h) (Or.inl ⟨by kernel_rfl,?_⟩) (by assumption) ?_
     rotate_left
     ·intro w' hSw
      (try dsimp only at hSw)
      go_simp
      all_goals (with_reducible rfl)
     (try simp only [Act.put,List.getElem_toArray,List.getElem_cons_succ,List.getElem_cons_zero,List.setIfInBounds_toArray,List.set_cons_zero,List.set_cons_succ])
     refine wpAnyH_take (i:=20) (v:=?_) rfl (by kernel_rfl) (by kernel_rfl) (by kernel_rfl) (fun _ _ _ h=>h) (Or.inl ⟨by kernel_rfl,?_⟩) (by assumption) ?_
     rotate_left
     ·intro w' hSw
      (try dsimp only at hSw)
      go_simp
      all_goals (with_reducible rfl)
     (try simp only [Act.put,List.getElem_toArray,List.getElem_cons_succ,List.getElem_cons_zero,List.setIfInBounds_toArray,List.set_cons_zero,List.set_cons_succ])
     refine wpAnyH_take (i:=21) (v:=?_) rfl (by kernel_rfl) (by kernel_rfl) (by kernel_rfl) (fun _ _ _ h=>h) (Or.inl ⟨by kernel_rfl,?_⟩) (by assumption) ?_
     rotate_left
     ·intro w' hSw
      (try dsimp only at hSw)
      go_simp
      all_goals (with_reducible rfl)
     (try simp only [Act.put,List.getElem_toArray,List.getElem_cons_succ,List.getElem_cons_zero,List.setIfInBounds_toArray,List.set_cons_zero,List.set_cons_succ])
     refine wpAnyH_take (i:=22) (v:=?_) rfl (by kernel_rfl) (by kernel_rfl) (by kernel_rfl) (fun _ _ _ h=>h) (Or.inl ⟨by kernel_rfl,?_⟩) (by assumption) ?_
     rotate_left
     ·intro w' hSw
      (try dsimp only at hSw)
      go_simp
      all_goals (with_reducible rfl)
     (try simp only [Act.put,List.getElem_toArray,List.getElem_cons_succ,List.getElem_cons_zero,List.setIfInBounds_toArray,List.set_cons_zero,List.set_cons_succ])
     refine wpAnyH_take (i:=23) (v:=?_) rfl (by kernel_rfl) (by kernel_rfl) (by kernel_rfl) (fun _ _ _ h=>h) (Or.inl ⟨by kernel_rfl,?_⟩) (by assumption) ?_
     rotate_left
     ·intro w' hSw
      (try dsimp only at hSw)
      go_simp
      all_goals (with_reducible rfl)
     (try simp only [Act.put,List.getElem_toArray,List.getElem_cons_succ,List.getElem_cons_zero,List.setIfInBounds_toArray,List.set_cons_zero,List.set_cons_succ])
     refine wpAnyH_take (i:=24) (v:=?_) rfl (by kernel_rfl) (by kernel_rfl) (by kernel_rfl) (fun _ _ _ h=>h) (Or.inl ⟨by kernel_rfl,?_⟩) (by assumption) ?_
     rotate_left
     ·intro w' hSw
      (try dsimp only at hSw)
      go_simp
      all_goals (with_reducible rfl)
     (try simp only [Act.put,List.getElem_toArray,List.getElem_cons_succ,List.getElem_cons_zero,List.setIfInBounds_toArray,List.set_cons_zero,List.set_cons_succ])
     refine wpAnyH_take (i:=25) (v:=?_) rfl (by kernel_rfl) (by kernel_rfl) (by kernel_rfl) (fun _ _ _ h=>h) (Or.inl ⟨by kernel_rfl,?_⟩) (by assumption) ?_
     rotate_left
     ·intro w' hSw
      (try dsimp only at hSw)
      go_simp
      all_goals (with_reducible rfl)
     (try simp only [Act.put,List.getElem_toArray,List.getElem_cons_succ,List.getElem_cons_zero,List.setIfInBounds_toArray,List.set_cons_zero,List.set_cons_succ])
     refine wpAnyH_take (i:=26) (v:=?_) rfl (by kernel_rfl) (by kernel_rfl) (by kernel_rfl) (fun _ _ _ h=>h) (Or.inl ⟨by kernel_rfl,?_⟩) (by assumption) ?_
     rotate_left
     ·intro w' hSw
      (try dsimp only at hSw)
      go_simp
      all_goals (with_reducible rfl)
     (try simp only [Act.put,List.getElem_toArray,List.getElem_cons_succ,List.getElem_cons_zero,List.setIfInBounds_toArray,List.set_cons_zero,List.set_cons_succ])
     refine wpAnyH_done (by kernel_rfl) ?_ _
     have hQ5:Below w4.heap.size w4 w5:=And.right (by assumption:_/\Bw w4 w5)
     go_wp2
     go_ret
     exact ⟨by rw [HCV.out];cases ek <;> rfl,chain hB4 hQ5⟩
    ·have er:(r != 0)=true:=by simp [hr]
     have ed:decide (r≠0)=true:=by simp [hr]
     rw [ed] at HCV
     clear ed hr
     go_wp2_with fail
     have KB:∀ W':World,Bw w4 W'->(W'.cell? ⟨w.heap.size,0,none⟩=some (.int .i64 F)/\W'.cell? ⟨w.heap.size,1,none⟩=some (.int .i64 R)/\W'.cell? ⟨w.heap.size,3,none⟩=some (.bool bl)/\W'.cell? ⟨w.heap.size+1,0,none⟩=some (.int .i64 (n:Int))/\W'.cell? ⟨w.heap.size+1,1,none⟩=some (.int .i64 (k:Int))/\W'.cell? ⟨w.heap.size,2,none⟩=some (.slice (some ad) l.length c)/\W'.cell? ⟨w.heap.size,5,none⟩=some (.int .i64 ps)/\W'.cell? (ad.add k)=some (.int .i8 r))/\Bw w4 W':=fun W' hW=>⟨⟨cBo hW (by assumption),cBo hW (by assumption),cBo hW (by assumption),cBo hW (by assumption),cBo hW (by assumption),cBo hW (by assumption),cBo hW (by assumption),cBo hW (by assumption)⟩,hW⟩
     replace KB:=Lib.hid KB
     have hS0:=KB.out w4 (Below.refl _ _)
     refine wp_region_held_drew (S:=fun w'=>(w'.cell? ⟨w.heap.size,0,none⟩=some (.int .i64 F)/\w'.cell? ⟨w.heap.size,1,none⟩=some (.int .i64 R)/\w'.cell? ⟨w.heap.size,3,none⟩=some (.bool bl)/\w'.cell? ⟨w.heap.size+1,0,none⟩=some (.int .i64 (n:Int))/\w'.cell? ⟨w.heap.size+1,1,none⟩=some (.int .i64 (k:Int))/\w'.cell? ⟨w.heap.size,2,none⟩=some (.slice (some ad) l.length c)/\w'.cell? ⟨w.heap.size,5,none⟩=some (.int .i64 ps)/\w'.cell? (ad.add k)=some (.int .i8 r))/\Bw w4 w') (by kernel_rfl) (KB.out _ (Bw.step (And.right hS0) ((Below.refl _ _).drew))) (fun hHeld=>?_)
     refine wpAnyH_take (i:=0) (v:=?_) rfl (by kernel_rfl) (by kernel_rfl) (by kernel_rfl) (fun _ _ _ h=>h) (Or.inl ⟨by kernel_rfl,?_⟩) (by assumption) ?_
     rotate_left
     ·intro w' hSw
      (try dsimp only at hSw)
      go_simp
      all_goals (with_reducible rfl)
     (try simp only [Act.put,List.getElem_toArray,List.getElem_cons_succ,List.getElem_cons_zero,List.setIfInBounds_toArray,List.set_cons_zero,List.set_cons_succ])
     refine wpAnyH_take (i:=1) (v:=?_) rfl (by kernel_rfl) (by kernel_rfl) (by kernel_rfl) (fun _ _ _ h=>h) (Or.inl ⟨by kernel_rfl,?_⟩) (by assumption) ?_
     rotate_left
     ·intro w' hSw
      (try dsimp only at hSw)
      go_simp
      all_goals (with_reducible rfl)
     (try simp only [Act.put,List.getElem_toArray,List.getElem_cons_succ,List.getElem_cons_zero,List.setIfInBounds_toArray,List.set_cons_zero,List.set_cons_succ])
     refine wpAnyH_take (i:=2) (v:=?_) rfl (by kernel_rfl) (by kernel_rfl) (by kernel_rfl) (fun _ _ _ h=>h) (Or.inl ⟨by kernel_rfl,?_⟩) (by assumption) ?_
     rotate_left
     ·intro w' hSw
      (try dsimp only at hSw)
      go_simp
      all_goals (with_reducible rfl)
     (try simp only [Act.put,List.getElem_toArray,List.getElem_cons_succ,List.getElem_cons_zero,List.setIfInBounds_toArray,List.set_cons_zero,List.set_cons_succ])
     refine wpAnyH_take (i:=3) (v:=?_) rfl (by kernel_rfl) (by kernel_rfl) (by kernel_rfl) (fun _ _ _ h=>h) (Or.inl ⟨by kernel_rfl,?_⟩) (by assumption) ?_
     rotate_left
     ·intro w' hSw
      (try dsimp only at hSw)
      go_simp
      all_goals (with_reducible rfl)
     (try simp only [Act.put,List.getElem_toArray,List.getElem_cons_succ,List.getElem_cons_zero,List.setIfInBounds_toArray,List.set_cons_zero,List.set_cons_succ])
     refine wpAnyH_take (i:=4) (v:=?_) rfl (by kernel_rfl) (by kernel_rfl) (by kernel_rfl) (fun _ _ _ h=>h) (Or.inl ⟨by kernel_rfl,?_⟩) (by assumption) ?_
     rotate_left
     ·intro w' hSw
      (try dsimp only at hSw)
      go_simp
      all_goals (with_reducible rfl)
     (try simp only [Act.put,List.getElem_toArray,List.getElem_cons_succ,List.getElem_cons_zero,List.setIfInBounds_toArray,List.set_cons_zero,List.set_cons_succ])
     refine wpAnyH_take (i:=5) (v:=?_) rfl (by kernel_rfl) (by kernel_rfl) (by kernel_rfl) (fun _ _ _ h=>h) (Or.inl ⟨by kernel_rfl,?_⟩) (by assumption) ?_
     rotate_left
     ·intro w' hSw
      (try dsimp only at hSw)
      go_simp
      all_goals (with_reducible rfl)
     (try simp only [Act.put,List.getElem_toArray,List.getElem_cons_succ,List.getElem_cons_zero,List.setIfInBounds_toArray,List.set_cons_zero,List.set_cons_succ])
     refine wpAnyH_take (i:=7) (v:=?_) rfl (by kernel_rfl) (by kernel_rfl) (by kernel_rfl) (fun _ _ _ h=>h) (Or.inl ⟨by kernel_rfl,?_⟩) (by assumption) ?_
     rotate_left
     ·intro w' hSw
      (try dsimp only at hSw)
      go_simp
      all_goals (with_reducible rfl)
     (try simp only [Act.put,List.getElem_toArray,List.getElem_cons_succ,List.getElem_cons_zero,List.setIfInBounds_toArray,List.set_cons_zero,List.set_cons_succ])
     refine wpAnyH_take (i:=8) (v:=?_) rfl (by kernel_rfl) (by kernel_rfl) (by kernel_rfl) (fun _ _ _ h=>h) (Or.inl ⟨by kernel_rfl,?_⟩) (by assumption) ?_
     rotate_left
     ·intro w' hSw
      (try dsimp only at hSw)
      go_simp
      all_goals (with_reducible rfl)
     (try simp only [Act.put,List.getElem_toArray,List.getElem_cons_succ,List.getElem_cons_zero,List.setIfInBounds_toArray,List.set_cons_zero,List.set_cons_succ])
     refine wpAnyH_ready (rs:=[6]) (by kernel_rfl) (by simp) ?_
     refine AllReadyH.cons rfl (fun K hK=>?_) AllReadyH.nil
     go_simp
     (go_at_call 172;refine (HPA.out _).mono ?_;rintro e w5 ⟨v5,rfl,hown5,hb5⟩;obtain ⟨Az,dz,rfl,hAz⟩:=RdI.own hown5)
     go_wp2_with fail
     refine hK.out _ _ ?_ (fun hHeld=>?_)
     ·(try dsimp only)
      (first | assumption | exact KB.out _ (Bw.step (And.right (by assumption)) (by assumption)) | exact KB.out _ (Bw.step (And.right (by assumption)) ((Below.refl _ _).drew)))
     clear hK K
     (try simp only [Act.put,List.getElem_toArray,List.getElem_cons_succ,List.getElem_cons_zero,List.setIfInBounds_toArray,List.set_cons_zero,List.set_cons_succ])
     refine wpAnyH_ready (rs:=[9]) (by kernel_rfl) (by simp) ?_
     refine AllReadyH.cons rfl (fun K hK=>?_) AllReadyH.nil
     go_simp
     (go_at_call 126;refine (HH2.out _ _ _ hAz).mono ?_;rintro e wh ⟨rfl,rfl⟩)
     go_wp2_with fail
     refine hK.out _ _ ?_ (fun hHeld=>?_)
     ·(try dsimp only)
      (first | assumption | exact KB.out _ (Bw.step (And.right (by assumption)) (by assumption)) | exact KB.out _ (Bw.step (And.right (by assumption)) ((Below.refl _ _).drew)))
     clear hK K
     (try simp only [Act.put,List.getElem_toArray,List.getElem_cons_succ,List.getElem_cons_zero,List.setIfInBounds_toArray,List.set_cons_zero,List.set_cons_succ])
     refine wpAnyH_take (i:=10) (v:=?_) rfl (by kernel_rfl) (by kernel_rfl) (by kernel_rfl) (fun _ _ _ h=>h) (Or.inl ⟨by kernel_rfl,?_⟩) (by assumption) ?_
     rotate_left
     ·intro w' hSw
      (try dsimp only at hSw)
      go_simp
      all_goals (with_reducible rfl)
     (try simp only [Act.put,List.getElem_toArray,List.getElem_cons_succ,List.getElem_cons_zero,List.setIfInBounds_toArray,List.set_cons_zero,List.set_cons_succ])
     refine wpAnyH_take (i:=11) (v:=?_) rfl (by kernel_rfl) (by kernel_rfl) (by kernel_rfl) (fun _ _ _ h=>h) (Or.inl ⟨by kernel_rfl,?_⟩) (by assumption) ?_
     rotate_left
     ·intro w' hSw
      (try dsimp only at hSw)
      go_simp
      all_goals (with_reducible rfl)
     (try simp only [Act.put,List.getElem_toArray,List.getElem_cons_succ,List.getElem_cons_zero,List.setIfInBounds_toArray,List.set_cons_zero,List.set_cons_succ])
     refine wpAnyH_take (i:=12) (v:=?_) rfl (by kernel_rfl) (by kernel_rfl) (by kernel_rfl) (fun _ _ _ h=>h) (Or.inl ⟨by kernel_rfl,?_⟩) (by assumption) ?_
     rotate_left
     ·intro w' hSw
      (try dsimp only at hSw)
      go_simp
      all_goals (with_reducible rfl)
     (try simp only [Act.put,List.getElem_toArray,List.getElem_cons_succ,List.getElem_cons_zero,List.setIfInBounds_toArray,List.set_cons_zero,List.set_cons_succ])
     refine wpAnyH_take (i:=13) (v:=?_) rfl (by kernel_rfl) (by kernel_rfl) (by kernel_rfl) (fun _ _ _ h=>h) (Or.inl ⟨by kernel_rfl,?_⟩) (by assumption) ?_
     rotate_left
     ·intro w' hSw
      (try dsimp only at hSw)
      go_simp
      all_goals (with_reducible rfl)
     (try simp only [Act.put,List.getElem_toArray,List.getElem_cons_succ,List.getElem_cons_zero,List.setIfInBounds_toArray,List.set_cons_zero,List.set_cons_succ])
     refine wpAnyH_take (i:=14) (v:=?_) rfl (by kernel_rfl) (by kernel_rfl) (by kernel_rfl) (fun _ _ _ h=>h) (Or.inl ⟨by kernel_rfl,?_⟩) (by assumption) ?_
     rotate_left
     ·intro w' hSw
      (try dsimp only at hSw)
      go_simp
      all_goals (with_reducible rfl)
     (try simp only [Act.put,List.getElem_toArray,List.getElem_cons_succ,List.getElem_cons_zero,List.setIfInBounds_toArray,List.set_cons_zero,List.set_cons_succ])
     refine wpAnyH_take (i:=15) (v:=?_) rfl (by kernel_rfl) (by kernel_rfl) (by kernel_rfl) (fun _ _ _ h=>h) (Or.inl ⟨by kernel_rfl,?_⟩) (by assumption) ?_
     rotate_left
     ·intro w' hSw
      (try dsimp only at hSw)
      go_simp
      all_goals (with_reducible rfl)
     (try simp only [Act.put,List.getElem_toArray,List.getElem_cons_succ,List.getElem_cons_zero,List.setIfInBounds_toArray,List.set_cons_zero,List.set_cons_succ])
     refine wpAnyH_take (i:=16) (v:=?_) rfl (by kernel_rfl) (by kernel_rfl) (by kernel_rfl) (fun _ _ _ h=>h) (Or.inl ⟨by kernel_rfl,?_⟩) (by assumption) ?_
     rotate_left
     ·intro w' hSw
      (try dsimp only at hSw)
      go_simp
      all_goals (with_reducible rfl)
     (try simp only [Act.put,List.getElem_toArray,List.getElem_cons_succ,List.getElem_cons_zero,List.setIfInBounds_toArray,List.set_cons_zero,List.set_cons_succ])
     refine wpAnyH_take (i:=17) (v:=?_) rfl (by kernel_rfl) (by kernel_rfl) (by kernel_rfl) (fun _ _ _ h=>h) (Or.inl ⟨by kernel_rfl,?_⟩) (by assumption) ?_
     rotate_left
     ·intro w' hSw
      (try dsimp only at hSw)
      go_simp
      all_goals (with_reducible rfl)
     (try simp only [Act.put,List.getElem_toArray,List.getElem_cons_succ,List.getElem_cons_zero,List.setIfInBounds_toArray,List.set_cons_zero,List.set_cons_succ])
     refine wpAnyH_take (i:=18) (v:=?_) rfl (by kernel_rfl) (by kernel_rfl) (by kernel_rfl) (fun _ _ _ h=>h) (Or.inl ⟨by kernel_rfl,?_⟩) (by assumption) ?_
     rotate_left
     ·intro w' hSw
      (try dsimp only at hSw)
      go_simp
      all_goals (with_reducible rfl)
     (try simp only [Act.put,List.getElem_toArray,List.getElem_cons_succ,List.getElem_cons_zero,List.setIfInBounds_toArray,List.set_cons_zero,List.set_cons_succ])
     refine wpAnyH_take (i:=19) (v:=undef) rfl (by kernel_rfl) (by kernel_rfl) (by kernel_rfl) (fun _ _ _ h=>h) (Or.inr ⟨by kernel_rfl,rfl⟩) (by assumption) ?_
     (try simp only [Act.put,List.getElem_toArray,List.getElem_cons_succ,List.getElem_cons_zero,List.setIfInBounds_toArray,List.set_cons_zero,List.set_cons_succ])
     refine wpAnyH_take (i:=20) (v:=undef) rfl (by kernel_rfl) (by kernel_rfl) (by kernel_rfl) (fun _ _ _ h=>h) (Or.inr ⟨by kernel_rfl,rfl⟩) (by assumption) ?_
     (try simp only [Act.put,List.getElem_toArray,List.getElem_cons_succ,List.getElem_cons_zero,List.setIfInBounds_toArray,List.set_cons_zero,List.set_cons_succ])
     refine wpAnyH_take (i:=21) (v:=undef) rfl (by kernel_rfl) (by kernel_rfl) (by kernel_rfl) (fun _ _ _ h=>h) (Or.inr ⟨by kernel_rfl,rfl⟩) (by assumption) ?_
     (try simp only [Act.put,List.getElem_toArray,List.getElem_cons_succ,List.getElem_cons_zero,List.setIfInBounds_toArray,List.set_cons_zero,List.set_cons_succ])
     refine wpAnyH_take (i:=22) (v:=undef) rfl (by kernel_rfl) (by kernel_rfl) (by kernel_rfl) (fun _ _ _ h=>h) (Or.inr ⟨by kernel_rfl,rfl⟩) (by assumption) ?_
     (try simp only [Act.put,List.getElem_toArray,List.getElem_cons_succ,List.getElem_cons_zero,List.setIfInBounds_toArray,List.set_cons_zero,List.set_cons_succ])
     refine wpAnyH_take (i:=23) (v:=undef) rfl (by kernel_rfl) (by kernel_rfl) (by kernel_rfl) (fun _ _ _ h=>h) (Or.inr ⟨by kernel_rfl,rfl⟩) (by assumption) ?_
     (try simp only [Act.put,List.getElem_toArray,List.getElem_cons_succ,List.getElem_cons_zero,List.setIfInBounds_toArray,List.set_cons_zero,List.set_cons_succ])
     refine wpAnyH_take (i:=24) (v:=?_) rfl (by kernel_rfl) (by kernel_rfl) (by kernel_rfl) (fun _ _ _ h=>h) (Or.inl ⟨by kernel_rfl,?_⟩) (by assumption) ?_
     rotate_left
     ·intro w' hSw
      (try dsimp only at hSw)
      go_simp
      all_goals (with_reducible rfl)
     (try simp only [Act.put,List.getElem_toArray,List.getElem_cons_succ,List.getElem_cons_zero,List.setIfInBounds_toArray,List.set_cons_zero,List.set_cons_succ])
     refine wpAnyH_take (i:=25) (v:=?_) rfl (by kernel_rfl) (by kernel_rfl) (by kernel_rfl) (fun _ _ _ h=>h) (Or.inl ⟨by kernel_rfl,?_⟩) (by assumption) ?_
     rotate_left
     ·intro w' hSw
      (try dsimp only at hSw)
      go_simp
      all_goals (with_reducible rfl)
     (try simp only [Act.put,List.getElem_toArray,List.getElem_cons_succ,List.getElem_cons_zero,List.setIfInBounds_toArray,List.set_cons_zero,List.set_cons_succ])
     refine wpAnyH_take (i:=26) (v:=?_) rfl (by kernel_rfl) (by kernel_rfl) (by kernel_rfl) (fun _ _ _ h=>h) (Or.inl ⟨by kernel_rfl,?_⟩) (by assumption) ?_
     rotate_left
     ·intro w' hSw
      (try dsimp only at hSw)
      go_simp
      all_goals (with_reducible rfl)
     (try simp only [Act.put,List.getElem_toArray,List.getElem_cons_succ,List.getElem_cons_zero,List.setIfInBounds_toArray,List.set_cons_zero,List.set_cons_succ])
     refine wpAnyH_done (by kernel_rfl) ?_ _
     have hQ5:Below w4.heap.size w4 w5:=And.right (by assumption:_/\Bw w4 w5)
     go_wp2
     go_ret
     exact ⟨by rw [HCV.out];rfl,chain hB4 hQ5⟩
end Go.Proofs.YtbccbgonlmkpkaaGreatDoor
