/- What the theorem needs, piece Zb04. -/
import Derived.Test.YtbccbgonlmkpkaaGreatDoorZb03
import Derived.Deep.LoopGhost
set_option linter.unusedSimpArgs false
set_option linter.unusedVariables false
set_option maxRecDepth 100000
set_option maxHeartbeats 16000000
namespace Go.Proofs.YtbccbgonlmkpkaaGreatDoor
open Go.RowKit
theorem sq_bd {d:Int} (h0:-8<=d) (h1:d<=8):0<=d * d/\d * d<=64:=by
 have:d=-8\/d=-7\/d=-6\/d=-5\/d=-4\/d=-3\/d=-2\/d=-1\/d=0\/d=1\/d=2\/d=3\/d=4\/d=5\/d=6\/d=7\/d=8:=by omega
 rcases this with rfl | rfl | rfl | rfl | rfl | rfl | rfl | rfl | rfl | rfl | rfl | rfl | rfl | rfl | rfl | rfl | rfl <;> omega
theorem tw_mem {α:Type} (p:α->Bool) (l:List α) {x:α} (h:x∈l.takeWhile p):p x=true:=by
 induction l with
 | nil=>simp at h
 | cons a l ih =>
  rw [List.takeWhile_cons] at h
  split at h
  ·rename_i ha
   rcases List.mem_cons.1 h with rfl | h
   ·exact ha
   ·exact ih h
  ·simp at h
theorem rayL_lt {F R x y f r:Int} (hv:vsz F R):∀ i∈rayL F R x y f r,(i:Int)<F * R:=by
 intro i hi
 unfold rayL at hi
 obtain ⟨j,hj,rfl⟩:=List.mem_map.1 hi
 have hp:=tw_mem _ _ hj
 obtain ⟨n0,n1,n2,n3⟩:=onB_iff.1 hp
 obtain ⟨m0,m1,m2,m3,m4⟩:=number_bd hv n0 n1 n2 n3
 unfold rayNum
 omega
theorem befL_mem {l:List Nat} {b:Int}:∀ i∈befL l b,i∈l:=by
 intro i hi
 unfold befL at hi
 split at hi
 ·exact List.IsPrefix.mem hi (List.takeWhile_prefix _)
 ·simp at hi
theorem betL_lt {F R:Int} (hv:vsz F R) (a b:Int):∀ i∈betL F R a b,i<64:=by
 intro i hi
 have h1:=rayL_lt hv i (befL_mem i hi)
 have h2:=vsz_mul hv
 omega
theorem betL_len (F R a b:Int):(betL F R a b).length<=8:=by
 unfold betL befL
 split
 ·exact Nat.le_trans (List.takeWhile_prefix _).length_le (rayL_len _ _ _ _ _ _)
 ·simp
def reachB (F R k a b:Int) (X:Nat):Bool :=
 if k=2 then (b % F - a % F) * (b % F - a % F)+(b / F - a / F) * (b / F - a / F) == 5
 else if k=6 then dist F a b == 1
 else lineB F a b && (k == 5 || (((b % F - a % F == 0) || (b / F - a / F == 0)) == (k == 4))) && freeB ((betL F R a b).map fun i:Nat=>(i:Int)) X
theorem reaches_any (F R k a b:Int) (hk:k=2\/k=3\/k=4\/k=5\/k=6) (ha:vat F R a) (hb:vat F R b) (X:Nat) (hX:X<18446744073709551616) (w:World) :
  Calls Tryz.prog 122 #[.agg #[.int .i64 F,.int .i64 R],.int .i8 k,.int .i64 a,.int .i64 b,.int .u64 X] w fun e w'=>e=.returned (.bool (reachB F R k a b X))/\Below w.heap.size w w':=by
 obtain ⟨p0,p1,p2,p3⟩:=place_bd ha.1 ha.2.1 ha.2.2
 obtain ⟨q0,q1,q2,q3⟩:=place_bd hb.1 hb.2.1 hb.2.2
 have f2:=ha.1.2.1
 have r2:=ha.1.2.2.2
 obtain ⟨V,hV⟩:∃ V,reachB F R k a b X=V:=⟨_,rfl⟩
 rw [hV]
 have HV0:=Lib.hid hV
 clear hV
 go_enter Tryz.func122,Tryz.ntmps122
 go_upto_region 1 with fail
 go_cut [11,12] (fun s7 s8 wx=>∃ g h:Nat,s7=.pointer (some ⟨g,0,none⟩)/\s8=.pointer (some ⟨h,0,none⟩)/\wx.cell? ⟨g,0,none⟩=some (.int .i64 (a % F))/\wx.cell? ⟨g,1,none⟩=some (.int .i64 (a / F))/\wx.cell? ⟨h,0,none⟩=some (.int .i64 (b % F))/\wx.cell? ⟨h,1,none⟩=some (.int .i64 (b / F))/\wx.cell? ⟨w.heap.size,0,none⟩=some (.int .i64 F)/\wx.cell? ⟨w.heap.size,1,none⟩=some (.int .i64 R)/\Below w.heap.size w wx)
 case first =>
  go_region_held3 (fun w'=>w'.cell? ⟨w.heap.size,0,none⟩=some (.int .i64 F)/\w'.cell? ⟨w.heap.size,1,none⟩=some (.int .i64 R)) (((try dsimp only);refine ⟨?_,?_⟩ <;> ((try simp only [World.cell?_drew]);(repeat (first | assumption | (rw [World.cell?_alloc_new];rfl) | (exact (by assumption:_/\_).1) | (exact (by assumption:_/\_).2) | (refine alive _ ?_))))))
  (first
   | (go_at_call_of 66 (Value.int .i64 a);refine (refPlace_ex _ _ _ ha _).mono ?_;rintro e w1 ⟨rfl,rfl⟩)
   | (go_at_call_of 66 (Value.int .i64 b);refine (refPlace_ex _ _ _ hb _).mono ?_;rintro e w2 ⟨rfl,rfl⟩))
  all_goals
   go_wp2_with fail
   go_meet
   refine ⟨_,_,rfl,rfl,?_,?_,?_,?_,?_,?_,?_⟩
   ·simp [go_sem]
   ·simp [go_sem]
   ·simp [go_sem]
   ·simp [go_sem]
   ·simp [go_sem]
   ·simp [go_sem]
   ·go_grown
 case rest =>
  obtain ⟨g,h,rfl,rfl,g0,g1,h0,h1,m0,m1,hB⟩:=hcut
  have hV:=HV0.out
  unfold reachB at hV
  have HCL:=Lib.hid (line_any F R a b ha hb)
  have HDI:=Lib.hid (refDistance_any F R a b ha hb)
  have hbt:=fun h=>between_any F R a b ha hb h
  have hlt:=betL_lt ha.1 a b
  obtain ⟨L,hL⟩:∃ L,betL F R a b=L:=⟨_,rfl⟩
  rw [hL] at hV hbt hlt
  have hL8:Hid ((L.map fun i:Nat=>(i:Int)).length<=100000):=Lib.hid (by rw [<- hL];have:=betL_len F R a b;simp;omega)
  have HLT:Hid (∀ j,j<(L.map fun i:Nat=>(i:Int)).length->0<=(L.map fun i:Nat=>(i:Int))[j]?.getD 0/\(L.map fun i:Nat=>(i:Int))[j]?.getD 0<64):=Lib.hid (fun j hj=>by
   have hj':j<L.length:=by simpa using hj
   rw [List.getElem?_map,List.getElem?_eq_getElem hj']
   have:=hlt _ (List.getElem_mem hj')
   simp;omega)
  clear hL hlt
  have HBT0:=Lib.hid hbt
  obtain ⟨ln,hln⟩:∃ ln,lineB F a b=ln:=⟨_,rfl⟩
  unfold lineV at HCL
  rw [hln] at hV HCL HBT0
  obtain ⟨ds,hds⟩:∃ ds,dist F a b=ds:=⟨_,rfl⟩
  rw [hds] at hV HDI
  obtain ⟨x,hx⟩:∃ x,a % F=x:=⟨_,rfl⟩
  obtain ⟨y,hy⟩:∃ y,a / F=y:=⟨_,rfl⟩
  obtain ⟨u,hu⟩:∃ u,b % F=u:=⟨_,rfl⟩
  obtain ⟨v,hv⟩:∃ v,b / F=v:=⟨_,rfl⟩
  rw [hx] at g0 p0 p1
  rw [hy] at g1 p2 p3
  rw [hu] at h0 q0 q1
  rw [hv] at h1 q2 q3
  rw [hx,hy,hu,hv] at hV HCL
  have HVV:=Lib.hid hV
  clear hx hy hu hv hV ha hb hln hds hbt
  have hw1:IntKind.i64.wrap (u - x)=u - x:=IntWalk.i64_in _ (by omega)
  have hw2:IntKind.i64.wrap (v - y)=v - y:=IntWalk.i64_in _ (by omega)
  go_wp2
  go_quiet (fail)
  clear hw1 hw2
  have hB3:=fun n=>drawn hB n
  obtain ⟨d,hd⟩:∃ d,u - x=d:=⟨_,rfl⟩
  obtain ⟨q,hq⟩:∃ q,v - y=q:=⟨_,rfl⟩
  rw [hd,hq] at HVV HCL ⊢
  have d0:-8<=d/\d<=8:=by omega
  have e0:-8<=q/\q<=8:=by omega
  obtain ⟨d1,d2⟩:=d0
  obtain ⟨e1,e2⟩:=e0
  clear hd hq
  generalize sg d=sd at *
  generalize sg q=sq at *
  rcases hk with rfl | rfl | rfl | rfl | rfl
  ·have HV:Hid ((d * d+q * q == 5)=V):=Lib.hid (by rw [<- HVV.out];simp)
   have hdd:0<=d * d/\d * d<=64:=sq_bd d1 d2
   have hqq:0<=q * q/\q * q<=64:=sq_bd e1 e2
   obtain ⟨dd0,dd1⟩:=hdd
   obtain ⟨qq0,qq1⟩:=hqq
   clear HVV HCL HDI
   go_wp2
   go_ret
   exact ⟨ret_bool HV.out,hB3 _⟩
  ·cases ln
   ·have HV:Hid (false=V):=Lib.hid (by rw [<- HVV.out];simp)
    rw [if_neg (by simp)] at HCL
    clear HVV HDI
    go_wp2_with fail
    refine (HCL.out _).mono ?_
    rintro e w1 ⟨rfl,hb1⟩
    have c0:=(hb1.cell (p:=⟨w.heap.size,0,none⟩) (World.block_lt_of_cell? _ _ m0)).trans m0
    have c1:=(hb1.cell (p:=⟨w.heap.size,1,none⟩) (World.block_lt_of_cell? _ _ m1)).trans m1
    have hB4:=chain (hB3 _) hb1
    clear hb1 m0 m1 hB3 g0 g1 h0 h1
    go_wp2
    all_goals
     go_ret
     exact ⟨ret_bool HV.out,hB4⟩
   ·rw [if_pos rfl] at HCL
    have HBT:=Lib.hid (HBT0.out rfl)
    clear HBT0
    by_cases z1:d=0
    ·have t1:(d == 0)=true:=by simp [z1]
     have HV:Hid (false=V):=Lib.hid (by rw [<- HVV.out];simp [z1])
     clear HVV HDI z1
     go_wp2_with fail
     refine (HCL.out _).mono ?_
     rintro e w1 ⟨rfl,hb1⟩
     have c0:=(hb1.cell (p:=⟨w.heap.size,0,none⟩) (World.block_lt_of_cell? _ _ m0)).trans m0
     have c1:=(hb1.cell (p:=⟨w.heap.size,1,none⟩) (World.block_lt_of_cell? _ _ m1)).trans m1
     have hB4:=chain (hB3 _) hb1
     clear hb1 m0 m1 hB3 g0 g1 h0 h1
     go_wp2
     all_goals
      go_ret
      exact ⟨ret_bool HV.out,hB4⟩
    ·have t1:(d == 0)=false:=beq_eq_false_iff_ne.2 z1
     by_cases z2:q=0
     ·have t2:(q == 0)=true:=by simp [z2]
      have HV:Hid (false=V):=Lib.hid (by rw [<- HVV.out];simp [z2])
      clear HVV HDI z1 z2
      go_wp2_with fail
      refine (HCL.out _).mono ?_
      rintro e w1 ⟨rfl,hb1⟩
      have c0:=(hb1.cell (p:=⟨w.heap.size,0,none⟩) (World.block_lt_of_cell? _ _ m0)).trans m0
      have c1:=(hb1.cell (p:=⟨w.heap.size,1,none⟩) (World.block_lt_of_cell? _ _ m1)).trans m1
      have hB4:=chain (hB3 _) hb1
      clear hb1 m0 m1 hB3 g0 g1 h0 h1
      go_wp2
      all_goals
       go_ret
       exact ⟨ret_bool HV.out,hB4⟩
     ·have t2:(q == 0)=false:=beq_eq_false_iff_ne.2 z2
      have HV:Hid (freeB (L.map fun i:Nat=>(i:Int)) X=V):=Lib.hid (by rw [<- HVV.out];simp [z1,z2])
      clear HVV HDI z1 z2
      go_wp2_with fail
      refine (HCL.out _).mono ?_
      rintro e w1 ⟨rfl,hb1⟩
      have c0:=(hb1.cell (p:=⟨w.heap.size,0,none⟩) (World.block_lt_of_cell? _ _ m0)).trans m0
      have c1:=(hb1.cell (p:=⟨w.heap.size,1,none⟩) (World.block_lt_of_cell? _ _ m1)).trans m1
      have hB4:=chain (hB3 _) hb1
      clear hb1 m0 m1 hB3 g0 g1 h0 h1
      go_wp2_with fail
      refine (HBT.out _).mono ?_
      rintro e w5 ⟨A5,c5,rfl,hA5,hb5⟩
      go_wp2_with fail
      rw [show L.length=(L.map fun i:Nat=>(i:Int)).length by simp]
      refine (free_any _ A5 c5 X hX _ hL8.out HLT.out hA5).mono ?_
      rintro e w6 ⟨rfl,rfl⟩
      go_wp2
      go_ret
      exact ⟨ret_bool HV.out,chain hB4 hb5⟩
  ·cases ln
   ·have HV:Hid (false=V):=Lib.hid (by rw [<- HVV.out];simp)
    rw [if_neg (by simp)] at HCL
    clear HVV HDI
    go_wp2_with fail
    refine (HCL.out _).mono ?_
    rintro e w1 ⟨rfl,hb1⟩
    have c0:=(hb1.cell (p:=⟨w.heap.size,0,none⟩) (World.block_lt_of_cell? _ _ m0)).trans m0
    have c1:=(hb1.cell (p:=⟨w.heap.size,1,none⟩) (World.block_lt_of_cell? _ _ m1)).trans m1
    have hB4:=chain (hB3 _) hb1
    clear hb1 m0 m1 hB3 g0 g1 h0 h1
    go_wp2
    all_goals
     go_ret
     exact ⟨ret_bool HV.out,hB4⟩
   ·rw [if_pos rfl] at HCL
    have HBT:=Lib.hid (HBT0.out rfl)
    clear HBT0
    by_cases z1:d=0
    ·have t1:(d == 0)=true:=by simp [z1]
     have HV:Hid (freeB (L.map fun i:Nat=>(i:Int)) X=V):=Lib.hid (by rw [<- HVV.out];simp [z1])
     clear HVV HDI z1
     go_wp2_with fail
     refine (HCL.out _).mono ?_
     rintro e w1 ⟨rfl,hb1⟩
     have c0:=(hb1.cell (p:=⟨w.heap.size,0,none⟩) (World.block_lt_of_cell? _ _ m0)).trans m0
     have c1:=(hb1.cell (p:=⟨w.heap.size,1,none⟩) (World.block_lt_of_cell? _ _ m1)).trans m1
     have hB4:=chain (hB3 _) hb1
     clear hb1 m0 m1 hB3 g0 g1 h0 h1
     go_wp2_with fail
     refine (HBT.out _).mono ?_
     rintro e w5 ⟨A5,c5,rfl,hA5,hb5⟩
     go_wp2_with fail
     rw [show L.length=(L.map fun i:Nat=>(i:Int)).length by simp]
     refine (free_any _ A5 c5 X hX _ hL8.out HLT.out hA5).mono ?_
     rintro e w6 ⟨rfl,rfl⟩
     go_wp2
     go_ret
     exact ⟨ret_bool HV.out,chain hB4 hb5⟩
    ·have t1:(d == 0)=false:=beq_eq_false_iff_ne.2 z1
     by_cases z2:q=0
     ·have t2:(q == 0)=true:=by simp [z2]
      have HV:Hid (freeB (L.map fun i:Nat=>(i:Int)) X=V):=Lib.hid (by rw [<- HVV.out];simp [z2])
      clear HVV HDI z1 z2
      go_wp2_with fail
      refine (HCL.out _).mono ?_
      rintro e w1 ⟨rfl,hb1⟩
      have c0:=(hb1.cell (p:=⟨w.heap.size,0,none⟩) (World.block_lt_of_cell? _ _ m0)).trans m0
      have c1:=(hb1.cell (p:=⟨w.heap.size,1,none⟩) (World.block_lt_of_cell? _ _ m1)).trans m1
      have hB4:=chain (hB3 _) hb1
      clear hb1 m0 m1 hB3 g0 g1 h0 h1
      go_wp2_with fail
      refine (HBT.out _).mono ?_
      rintro e w5 ⟨A5,c5,rfl,hA5,hb5⟩
      go_wp2_with fail
      rw [show L.length=(L.map fun i:Nat=>(i:Int)).length by simp]
      refine (free_any _ A5 c5 X hX _ hL8.out HLT.out hA5).mono ?_
      rintro e w6 ⟨rfl,rfl⟩
      go_wp2
      go_ret
      exact ⟨ret_bool HV.out,chain hB4 hb5⟩
     ·have t2:(q == 0)=false:=beq_eq_false_iff_ne.2 z2
      have HV:Hid (false=V):=Lib.hid (by rw [<- HVV.out];simp [z1,z2])
      clear HVV HDI z1 z2
      go_wp2_with fail
      refine (HCL.out _).mono ?_
      rintro e w1 ⟨rfl,hb1⟩
      have c0:=(hb1.cell (p:=⟨w.heap.size,0,none⟩) (World.block_lt_of_cell? _ _ m0)).trans m0
      have c1:=(hb1.cell (p:=⟨w.heap.size,1,none⟩) (World.block_lt_of_cell? _ _ m1)).trans m1
      have hB4:=chain (hB3 _) hb1
      clear hb1 m0 m1 hB3 g0 g1 h0 h1
      go_wp2
      all_goals
       go_ret
       exact ⟨ret_bool HV.out,hB4⟩
  ·cases ln
   ·have HV:Hid (false=V):=Lib.hid (by rw [<- HVV.out];simp)
    rw [if_neg (by simp)] at HCL
    clear HVV HDI
    go_wp2_with fail
    refine (HCL.out _).mono ?_
    rintro e w1 ⟨rfl,hb1⟩
    have c0:=(hb1.cell (p:=⟨w.heap.size,0,none⟩) (World.block_lt_of_cell? _ _ m0)).trans m0
    have c1:=(hb1.cell (p:=⟨w.heap.size,1,none⟩) (World.block_lt_of_cell? _ _ m1)).trans m1
    have hB4:=chain (hB3 _) hb1
    clear hb1 m0 m1 hB3 g0 g1 h0 h1
    go_wp2
    all_goals
     go_ret
     exact ⟨ret_bool HV.out,hB4⟩
   ·rw [if_pos rfl] at HCL
    have HBT:=Lib.hid (HBT0.out rfl)
    clear HBT0
    have HV:Hid (freeB (L.map fun i:Nat=>(i:Int)) X=V):=Lib.hid (by rw [<- HVV.out];simp)
    clear HVV HDI
    go_wp2_with fail
    refine (HCL.out _).mono ?_
    rintro e w1 ⟨rfl,hb1⟩
    have c0:=(hb1.cell (p:=⟨w.heap.size,0,none⟩) (World.block_lt_of_cell? _ _ m0)).trans m0
    have c1:=(hb1.cell (p:=⟨w.heap.size,1,none⟩) (World.block_lt_of_cell? _ _ m1)).trans m1
    have hB4:=chain (hB3 _) hb1
    clear hb1 m0 m1 hB3 g0 g1 h0 h1
    by_cases z1:d=0
    ·have t1:(d == 0)=true:=by simp [z1]
     clear z1
     go_wp2_with fail
     refine (HBT.out _).mono ?_
     rintro e w5 ⟨A5,c5,rfl,hA5,hb5⟩
     go_wp2_with fail
     rw [show L.length=(L.map fun i:Nat=>(i:Int)).length by simp]
     refine (free_any _ A5 c5 X hX _ hL8.out HLT.out hA5).mono ?_
     rintro e w6 ⟨rfl,rfl⟩
     go_wp2
     go_ret
     exact ⟨ret_bool HV.out,chain hB4 hb5⟩
    ·have t1:(d == 0)=false:=beq_eq_false_iff_ne.2 z1
     clear z1
     by_cases z2:q=0
     ·have t2:(q == 0)=true:=by simp [z2]
      clear z2
      go_wp2_with fail
      refine (HBT.out _).mono ?_
      rintro e w5 ⟨A5,c5,rfl,hA5,hb5⟩
      go_wp2_with fail
      rw [show L.length=(L.map fun i:Nat=>(i:Int)).length by simp]
      refine (free_any _ A5 c5 X hX _ hL8.out HLT.out hA5).mono ?_
      rintro e w6 ⟨rfl,rfl⟩
      go_wp2
      go_ret
      exact ⟨ret_bool HV.out,chain hB4 hb5⟩
     ·have t2:(q == 0)=false:=beq_eq_false_iff_ne.2 z2
      clear z2
      go_wp2_with fail
      refine (HBT.out _).mono ?_
      rintro e w5 ⟨A5,c5,rfl,hA5,hb5⟩
      go_wp2_with fail
      rw [show L.length=(L.map fun i:Nat=>(i:Int)).length by simp]
      refine (free_any _ A5 c5 X hX _ hL8.out HLT.out hA5).mono ?_
      rintro e w6 ⟨rfl,rfl⟩
      go_wp2
      go_ret
      exact ⟨ret_bool HV.out,chain hB4 hb5⟩
  ·have HV:Hid ((ds == 1)=V):=Lib.hid (by rw [<- HVV.out];simp)
   clear HVV HCL
   go_wp2_with fail
   refine (HDI.out _).mono ?_
   rintro e w1 ⟨rfl,hb1⟩
   go_wp2
   go_ret
   exact ⟨ret_bool HV.out,chain (hB3 _) hb1⟩
end Go.Proofs.YtbccbgonlmkpkaaGreatDoor
namespace Go.Proofs.YtbccbgonlmkpkaaGreatDoor
open Go.RowKit
def pickTo (P:Nat->Bool) (k:Nat):List Nat:=(List.range k).filter P
theorem pickTo_yes (P:Nat->Bool) (k:Nat) (h:P k=true):pickTo P (k+1)=pickTo P k ++ [k]:=by
 unfold pickTo;rw [List.range_succ,List.filter_append];simp [h]
theorem pickTo_no (P:Nat->Bool) (k:Nat) (h:P k=false):pickTo P (k+1)=pickTo P k:=by
 unfold pickTo;rw [List.range_succ,List.filter_append];simp [h]
theorem pickTo_le (P:Nat->Bool) (k:Nat):(pickTo P k).length<=k:=by
 unfold pickTo
 have:=List.length_filter_le P (List.range k)
 simpa using this
def reachL (F R k a:Int) (X:Nat):List Nat:=pickTo (fun b=>reachB F R k a (b:Int) X) (F * R).toNat
end Go.Proofs.YtbccbgonlmkpkaaGreatDoor
namespace Go.Proofs.YtbccbgonlmkpkaaGreatDoor
open Go.RowKit
theorem new_cell (w:World) (v:Value) (t:TypeId):(w.alloc (.cells #[v] t)).cell? ⟨w.heap.size,0,none⟩=some v:=by simp [go_sem]
theorem own_drewN {w:World} {base:Nat} {e:TypeId} {size:Nat} {v:Value} {n:Nat} {xs:List Value} (h:w.ownsRow base e size v n xs) (k:Nat):(w.drewN k).ownsRow base e size v n xs:=h
theorem below_dr {B:Nat} {a w:World} (h:Below B a w) (n:Nat):Below B a (w.drewN n):=⟨h.os,h.tape,h.output,h.size,h.block⟩
def pawnB (F a:Int) (bl:Bool) (b:Int):Bool:=(b / F - a / F == fwd bl) && ((b % F - a % F == 1) || (a % F - b % F == 1))
def pawnL (F R a:Int) (bl:Bool):List Nat:=pickTo (fun b=>pawnB F a bl (b:Int)) (F * R).toNat
theorem rPawn_any (F R a:Int) (bl:Bool) (ha:vat F R a) (w:World) :
  Calls Tryz.prog 172 #[.agg #[.int .i64 F,.int .i64 R],.bool bl,.int .i64 a] w fun e w'=>∃ v,e=.returned v/\w'.ownsRow w.heap.size 3 1 v (pawnL F R a bl).length (vnats (pawnL F R a bl))/\Below w.heap.size w w':=by
 obtain ⟨i0,hi,hz0,hz1,hz2⟩:=info_parts ints3
 obtain ⟨m0,m1⟩:=vsz_mul ha.1
 obtain ⟨p0,p1,p2,p3⟩:=place_bd ha.1 ha.2.1 ha.2.2
 have f2:=ha.1.2.1
 have r2:=ha.1.2.2.2
 have HA:=Lib.hid (refPlace_ex F R a ha)
 have hv:=Lib.hid ha.1
 obtain ⟨P,hP⟩:∃ P:Nat->Bool,(fun b:Nat=>pawnB F a bl (b:Int))=P:=⟨_,rfl⟩
 have HP:=Lib.hid hP
 unfold pawnL
 rw [hP]
 clear hP ha
 go_enter Tryz.func172,Tryz.ntmps172
 go_wp2
 go_loopg [7,8] 64 (fun gn v i wr=>∃ b:Nat,gn=64 - b/\(b:Int)<=F * R/\i=.int .i64 b/\wr.ownsRow (w.heap.size+1) 3 1 v (pickTo P b).length (vnats (pickTo P b))/\Below (w.heap.size+1) (w.alloc (.cells #[.int .i64 F,.int .i64 R] 23)) wr)
 case atStart=>exact ⟨0,by omega,by omega,rfl,World.ownsRow_nil _ _ _ _,Below.refl _ _⟩
 case round =>
  obtain ⟨b,hgk,hb,rfl,hown,hB⟩:=hrel
  have s1:=hB.size
  simp at s1
  have hc0:=hB.cell (p:=⟨w.heap.size,0,none⟩) (by simp)
  have hc1:=hB.cell (p:=⟨w.heap.size,1,none⟩) (by simp)
  simp [go_sem] at hc0 hc1
  by_cases hlt:(b:Int)<F * R
  ·have hat:vat F R (b:Int):=⟨hv.out,by omega,hlt⟩
   obtain ⟨q0,q1,q2,q3⟩:=place_bd hat.1 hat.2.1 hat.2.2
   have HBP:=Lib.hid (refPlace_ex F R b hat)
   have e:pawnB F a bl (b:Int)=P b:=congrFun HP.out b
   unfold pawnB at e
   obtain ⟨x,hx⟩:∃ x,a % F=x:=⟨_,rfl⟩
   obtain ⟨y,hy⟩:∃ y,a / F=y:=⟨_,rfl⟩
   obtain ⟨u,hu⟩:∃ u,(b:Int) % F=u:=⟨_,rfl⟩
   obtain ⟨v,hv2⟩:∃ v,(b:Int) / F=v:=⟨_,rfl⟩
   rw [hx,hy,hu,hv2] at e
   have ca:=HA.out
   have cb:=HBP.out
   rw [hx,hy] at ca
   rw [hu,hv2] at cb
   have CA:=Lib.hid ca
   have CB:=Lib.hid cb
   rw [hx] at p0 p1
   rw [hy] at p2 p3
   rw [hu] at q0 q1
   rw [hv2] at q2 q3
   have HE:=Lib.hid e
   have hle:=pickTo_le P b
   clear ca cb hx hy hu hv2 e hat HA HBP
   go_upto_region 5 with fail
   go_cut [9,10] (fun s7 s8 wx=>∃ g h:Nat,s7=.pointer (some ⟨g,0,none⟩)/\s8=.pointer (some ⟨h,0,none⟩)/\wx.cell? ⟨g,0,none⟩=some (.int .i64 x)/\wx.cell? ⟨g,1,none⟩=some (.int .i64 y)/\wx.cell? ⟨h,0,none⟩=some (.int .i64 u)/\wx.cell? ⟨h,1,none⟩=some (.int .i64 v)/\Below wr.heap.size wr wx)
   case first =>
    go_region_held3 (fun w'=>w'.cell? ⟨w.heap.size,0,none⟩=some (.int .i64 F)/\w'.cell? ⟨w.heap.size,1,none⟩=some (.int .i64 R)) (((try dsimp only);refine ⟨?_,?_⟩ <;> ((try simp only [World.cell?_drew]);(repeat (first | assumption | (rw [World.cell?_alloc_new];rfl) | (exact (by assumption:_/\_).1) | (exact (by assumption:_/\_).2) | (refine alive _ ?_))))))
    (first
     | (go_at_call_of 66 (Value.int .i64 a);refine (CA.out _).mono ?_;rintro e w1 ⟨rfl,rfl⟩)
     | (go_at_call_of 66 (Value.int .i64 (b:Int));refine (CB.out _).mono ?_;rintro e w2 ⟨rfl,rfl⟩))
    all_goals
     go_wp2_with fail
     go_meet
     refine ⟨_,_,rfl,rfl,?_,?_,?_,?_,?_⟩
     ·simp [go_sem]
     ·simp [go_sem]
     ·simp [go_sem]
     ·simp [go_sem]
     ·go_grown
   case rest =>
    obtain ⟨g,h,rfl,rfl,g0,g1,h0,h1,hBc⟩:=hcut
    have hown2:=own_below hown hBc
    have hB2:=hB.trans (hBc.mono s1)
    clear hown hB hc0 hc1
    have hsz:=hBc.size
    have hlt':(b:Int)<F * R:=hlt
    have hw1:IntKind.i64.wrap (v - y)=v - y:=IntWalk.i64_in _ (by omega)
    have hw2:IntKind.i64.wrap (u - x)=u - x:=IntWalk.i64_in _ (by omega)
    have hw3:IntKind.i64.wrap (x - u)=x - u:=IntWalk.i64_in _ (by omega)
    clear CA CB hBc
    by_cases z1:v - y=fwd bl
    ·have t1:(v - y == fwd bl)=true:=by simp [z1]
     by_cases z2:u - x=1
     ·have t2:(u - x == 1)=true:=by simp [z2]
      have hbit:P b=true:=by rw [<- HE.out];simp [t1,t2]
      have HS:=Lib.hid (pickTo_yes P b hbit)
      have HL:Hid ((pickTo P (b+1)).length=(pickTo P b).length+1):=Lib.hid (by rw [HS.out];simp)
      clear hbit HE z1 z2
      generalize pickTo P b=q at *
      go_wp2
      go_quiet ((go_at_call 205;exact Calls.quiet_of_same ((forward_any bl _).mono fun _ _ h=>⟨h.1,h.2.symm⟩)))
      clear hw1 hw2 hw3
      go_wp2_with (at_builtin;(refine wpList_append_own _ rfl _ _ 128 rfl (w.heap.size+1) 3 i0 (.int .i64 0) 1 8 Tryz.underlying128 hi hz0 hz1 hz2 rfl (by decide) _ _ _ rfl ((own_drewN hown2 _).alloc _) ⟨wc.heap.size,0,none⟩ 1 1 [.int .i64 (b:Int)] rfl rfl ?c1 ?c2 ?c3 ?c4 ?c5 ?_))
      case c1 =>
       intro j u hj
       match j,hj with
       | 0,hj=>simp at hj;subst hj;simp [Addr.add];exact new_cell (wc.drewN _) _ _
      case c2=>intro u hu;simp at hu;subst hu;rfl
      case c3=>unfold maxLen;omega
      case c4=>omega
      case c5=>simp;omega
      intro v' w3 hown' hgrow _
      go_wp2
      go_roundg (64 - (b+1))
      case measure=>omega
      case rel =>
       refine ⟨b+1,rfl,by omega,by go_num,?_,?_⟩
       ·rw [HL.out,HS.out,vnats_snoc];exact hown'
       ·exact ((below_dr hB2 _).alloc (by simp;omega) _).grown hgrow (by simp;omega) (fun r e=>(World.ownsRow.lt (own_drewN hown2 0) r e).1)
     ·have t2:(u - x == 1)=false:=beq_eq_false_iff_ne.2 z2
      by_cases z3:x - u=1
      ·have t3:(x - u == 1)=true:=by simp [z3]
       have hbit:P b=true:=by rw [<- HE.out];simp [t1,t3]
       have HS:=Lib.hid (pickTo_yes P b hbit)
       have HL:Hid ((pickTo P (b+1)).length=(pickTo P b).length+1):=Lib.hid (by rw [HS.out];simp)
       clear hbit HE z1 z2 z3
       generalize pickTo P b=q at *
       go_wp2
       go_quiet ((go_at_call 205;exact Calls.quiet_of_same ((forward_any bl _).mono fun _ _ h=>⟨h.1,h.2.symm⟩)))
       clear hw1 hw2 hw3
       go_wp2_with (at_builtin;(refine wpList_append_own _ rfl _ _ 128 rfl (w.heap.size+1) 3 i0 (.int .i64 0) 1 8 Tryz.underlying128 hi hz0 hz1 hz2 rfl (by decide) _ _ _ rfl ((own_drewN hown2 _).alloc _) ⟨wc.heap.size,0,none⟩ 1 1 [.int .i64 (b:Int)] rfl rfl ?c1 ?c2 ?c3 ?c4 ?c5 ?_))
       case c1 =>
        intro j u hj
        match j,hj with
        | 0,hj=>simp at hj;subst hj;simp [Addr.add];exact new_cell (wc.drewN _) _ _
       case c2=>intro u hu;simp at hu;subst hu;rfl
       case c3=>unfold maxLen;omega
       case c4=>omega
       case c5=>simp;omega
       intro v' w3 hown' hgrow _
       go_wp2
       go_roundg (64 - (b+1))
       case measure=>omega
       case rel =>
        refine ⟨b+1,rfl,by omega,by go_num,?_,?_⟩
        ·rw [HL.out,HS.out,vnats_snoc];exact hown'
        ·exact ((below_dr hB2 _).alloc (by simp;omega) _).grown hgrow (by simp;omega) (fun r e=>(World.ownsRow.lt (own_drewN hown2 0) r e).1)
      ·have t3:(x - u == 1)=false:=beq_eq_false_iff_ne.2 z3
       have hbit:P b=false:=by rw [<- HE.out];simp [t2,t3]
       have HS:=Lib.hid (pickTo_no P b hbit)
       clear hbit HE z1 z2 z3
       go_wp2
       go_quiet ((go_at_call 205;exact Calls.quiet_of_same ((forward_any bl _).mono fun _ _ h=>⟨h.1,h.2.symm⟩)))
       clear hw1 hw2 hw3
       go_wp2
       go_roundg (64 - (b+1))
       case measure=>omega
       case rel=>exact ⟨b+1,rfl,by omega,by go_num,by rw [HS.out];exact own_drewN hown2 _,below_dr hB2 _⟩
    ·have t1:(v - y == fwd bl)=false:=beq_eq_false_iff_ne.2 z1
     have hbit:P b=false:=by rw [<- HE.out];simp [t1]
     have HS:=Lib.hid (pickTo_no P b hbit)
     clear hbit HE z1
     go_wp2
     go_quiet ((go_at_call 205;exact Calls.quiet_of_same ((forward_any bl _).mono fun _ _ h=>⟨h.1,h.2.symm⟩)))
     clear hw1 hw2 hw3
     go_wp2
     go_roundg (64 - (b+1))
     case measure=>omega
     case rel=>exact ⟨b+1,rfl,by omega,by go_num,by rw [HS.out];exact own_drewN hown2 _,below_dr hB2 _⟩
  ·have hbe:b=(F * R).toNat:=by omega
   have HE:Hid (pickTo P (F * R).toNat=pickTo P b):=Lib.hid (by rw [hbe])
   clear hbe
   go_wp2
   go_ret
   exact ⟨_,rfl,by rw [HE.out];exact World.ownsRow.mono hown (by omega),(box1 _ _).trans (hB.mono (by omega))⟩
end Go.Proofs.YtbccbgonlmkpkaaGreatDoor
