/- What the theorem needs, piece Zb03. -/
import Derived.Deep.DeepCutAuto
import Derived.Deep.RegionHeld3
import Derived.Test.YtbccbgonlmkpkaaGreatDoorZb00
import Derived.Deep.Onto
import Derived.Test.YtbccbgonlmkpkaaGreatDoorZb02
set_option linter.unusedSimpArgs false
set_option linter.unusedVariables false
set_option maxRecDepth 100000
set_option maxHeartbeats 16000000
namespace Go.Proofs.YtbccbgonlmkpkaaGreatDoor
open Go.RowKit
theorem alive {w:World} (o:Obj) {p:Addr} {v:Value} (h:w.cell? p=some v):(w.alloc o).cell? p=some v :=
 (World.cell?_alloc_lt w o p (World.block_lt_of_cell? w p h)).trans h
theorem refPlace_ex (F R a:Int) (h:vat F R a) (w:World) :
  Calls Tryz.prog 66 #[.agg #[.int .i64 F,.int .i64 R],.int .i64 a] w fun e w'=>e=.returned (.agg #[.int .i64 (a % F),.int .i64 (a / F)]) /\
   ((w.alloc (.cells #[.int .i64 F,.int .i64 R] 23)).alloc (.cells #[.int .i64 (a % F),.int .i64 (a / F)] 104)).drew=w':=by
 obtain ⟨hv,h0,h1⟩:=h
 obtain ⟨m0,m1⟩:=vsz_mul hv
 obtain ⟨p0,p1,p2,p3⟩:=place_bd hv h0 h1
 obtain ⟨f1,f2,r1,r2⟩:=hv
 have hne:¬ F=0:=by omega
 go_enter Tryz.func66,Tryz.ntmps66
 go_wp2
 go_region
 all_goals
  go_wp2
  refine bodyPost_ret (v:=.agg #[.int .i64 (a % F),.int .i64 (a / F)]) (by simp [results,Tryz.results66,go_sem]) rfl ⟨rfl,rfl⟩
theorem refDistance_any (F R a b:Int) (ha:vat F R a) (hb:vat F R b) (w:World) :
  Calls Tryz.prog 173 #[.agg #[.int .i64 F,.int .i64 R],.int .i64 a,.int .i64 b] w fun e w'=>e=.returned (.int .i64 (dist F a b))/\Below w.heap.size w w':=by
 obtain ⟨p0,p1,p2,p3⟩:=place_bd ha.1 ha.2.1 ha.2.2
 obtain ⟨q0,q1,q2,q3⟩:=place_bd hb.1 hb.2.1 hb.2.2
 have f2:=ha.1.2.1
 have r2:=ha.1.2.2.2
 go_enter Tryz.func173,Tryz.ntmps173
 go_upto_region 1 with fail
 go_cut [7,8] (fun s7 s8 wx=>∃ g h:Nat,s7=.pointer (some ⟨g,0,none⟩)/\s8=.pointer (some ⟨h,0,none⟩)/\wx.cell? ⟨g,0,none⟩=some (.int .i64 (a % F))/\wx.cell? ⟨g,1,none⟩=some (.int .i64 (a / F))/\wx.cell? ⟨h,0,none⟩=some (.int .i64 (b % F))/\wx.cell? ⟨h,1,none⟩=some (.int .i64 (b / F))/\Below w.heap.size w wx)
 case first =>
  go_region_held3 (fun w'=>w'.cell? ⟨w.heap.size,0,none⟩=some (.int .i64 F)/\w'.cell? ⟨w.heap.size,1,none⟩=some (.int .i64 R)) (((try dsimp only);refine ⟨?_,?_⟩ <;> ((try simp only [World.cell?_drew]);(repeat (first | assumption | (rw [World.cell?_alloc_new];rfl) | (exact (by assumption:_/\_).1) | (exact (by assumption:_/\_).2) | (refine alive _ ?_))))))
  (first
   | (go_at_call_of 66 (Value.int .i64 a);refine (refPlace_ex _ _ _ ha _).mono ?_;rintro e w1 ⟨rfl,rfl⟩)
   | (go_at_call_of 66 (Value.int .i64 b);refine (refPlace_ex _ _ _ hb _).mono ?_;rintro e w2 ⟨rfl,rfl⟩))
  all_goals
   go_wp2_with fail
   go_meet
   refine ⟨_,_,rfl,rfl,?_,?_,?_,?_,?_⟩
   ·simp [go_sem]
   ·simp [go_sem]
   ·simp [go_sem]
   ·simp [go_sem]
   ·go_grown
 case rest =>
  obtain ⟨g,h,rfl,rfl,g0,g1,h0,h1,hB⟩:=hcut
  go_wp2
  go_quiet ((go_at_call 208;exact Calls.quiet_of_same (refAbs_any _ (by omega) (by omega) _)))
  go_wp2_with fail
  all_goals
   refine (refAbs_any _ (by omega) (by omega) _).mono ?_
   rintro e w1 ⟨rfl,rfl⟩
   go_wp2
   go_ret
   exact ⟨ret_int (by unfold dist;omega),drawn hB _⟩
end Go.Proofs.YtbccbgonlmkpkaaGreatDoor
namespace Go.Proofs.YtbccbgonlmkpkaaGreatDoor
open Go.RowKit
def sg (n:Int):Int:=if n<0 then -1 else if 0<n then 1 else 0
theorem sign_any (n:Int) (w:World):Calls Tryz.prog 188 #[.int .i64 n] w fun e w'=>e=.returned (.int .i64 (sg n))/\w=w':=by
 unfold sg
 by_cases h:n<0
 ·rw [if_pos h]
  go_enter Tryz.func188,Tryz.ntmps188
  go_wp2
  go_ret
  exact ⟨rfl,rfl⟩
 ·rw [if_neg h]
  by_cases h2:0<n
  ·rw [if_pos h2]
   go_enter Tryz.func188,Tryz.ntmps188
   go_wp2
   go_ret
   exact ⟨rfl,rfl⟩
  ·rw [if_neg h2]
   go_enter Tryz.func188,Tryz.ntmps188
   go_wp2
   go_ret
   exact ⟨rfl,rfl⟩
def fwd (b:Bool):Int:=if b then -1 else 1
theorem forward_any (b:Bool) (w:World):Calls Tryz.prog 205 #[.bool b] w fun e w'=>e=.returned (.int .i64 (fwd b))/\w=w':=by
 cases b
 all_goals
  go_enter Tryz.func205,Tryz.ntmps205
  go_wp2
  go_ret
  exact ⟨rfl,rfl⟩
def scd (R:Int) (b:Bool):Int:=if b then R - 2 else 1
theorem second_any (F R:Int) (b:Bool) (hR:3<=R/\R<=8) (w:World):Calls Tryz.prog 207 #[.agg #[.int .i64 F,.int .i64 R],.bool b] w fun e w'=>e=.returned (.int .i64 (scd R b))/\Below w.heap.size w w':=by
 obtain ⟨r0,r1⟩:=hR
 cases b
 all_goals
  go_enter Tryz.func207,Tryz.ntmps207
  go_wp2
  go_ret
  exact ⟨rfl,box1 _ _⟩
def freeB (l:List Int) (X:Nat):Bool:=l.all fun n=>!(X.testBit n.toNat)
theorem free_stop {l:List Int} {X k:Nat} (h:k<l.length) (hb:X.testBit (l[k]?.getD 0).toNat=true):freeB l X=false:=by
 unfold freeB
 rw [List.all_eq_false]
 rw [List.getElem?_eq_getElem h] at hb
 exact ⟨l[k],List.getElem_mem h,by simpa using hb⟩
theorem free_all {l:List Int} {X:Nat} (h:∀ j,j<l.length->X.testBit (l[j]?.getD 0).toNat=false):freeB l X=true:=by
 unfold freeB
 rw [List.all_eq_true]
 intro n hn
 obtain ⟨j,hj,rfl⟩:=List.mem_iff_getElem.1 hn
 have:=h j hj
 rw [List.getElem?_eq_getElem hj] at this
 simpa using this
theorem free_any (l:List Int) (A:Option Addr) (c X:Nat) (hX:X<18446744073709551616) (w:World) (hlen:l.length<=100000) (hl:∀ j,j<l.length->0<=l[j]?.getD 0/\l[j]?.getD 0<64) (hA:RdI w w.heap.size A l) :
  Calls Tryz.prog 174 #[.slice A l.length c,.int .u64 X] w fun e w'=>e=.returned (.bool (freeB l X))/\w=w':=by
 have H:=Lib.hid hl
 clear hl
 go_enter Tryz.func174,Tryz.ntmps174
 go_wp2
 go_loop [5] (fun i=>∃ k:Nat,k<=l.length/\i=.int .i64 k/\Hid (∀ j,j<k->X.testBit (l[j]?.getD 0).toNat=false)) (fun i=>l.length - (intOf i).toNat)
 case atStart=>exact ⟨0,by omega,rfl,Lib.hid (fun j hj=>by omega)⟩
 case round =>
  obtain ⟨k,hk,rfl,HF⟩:=hrel
  by_cases hlt:k<l.length
  ·obtain ⟨ad,rfl,hb,hc⟩:=hA.at_ hlt
   obtain ⟨b0,b1⟩:=H.out k hlt
   cases hbit:X.testBit (l[k]?.getD 0).toNat
   ·have HF':Hid (∀ j,j<k+1->X.testBit (l[j]?.getD 0).toNat=false):=Lib.hid (fun j hj=>by
     by_cases e:j=k
     ·rw [e];exact hbit
     ·exact HF.out j (by omega))
    have HB:=Lib.hid hbit
    clear hA hbit
    generalize hn:l[k]?.getD 0=n at *
    clear hn
    go_wp2_with fail
    refine (refHas_in X n hX b0 b1 _).mono ?_
    rintro e w1 ⟨rfl,rfl⟩
    rw [HB.out]
    go_wp2
    go_round
    case rel=>exact ⟨k+1,by omega,by go_num,HF'⟩
    case measure=>simp [intOf];omega
   ·have HE:=Lib.hid (free_stop hlt hbit)
    have HB:=Lib.hid hbit
    clear hA hbit
    generalize hn:l[k]?.getD 0=n at *
    clear hn
    go_wp2_with fail
    refine (refHas_in X n hX b0 b1 _).mono ?_
    rintro e w1 ⟨rfl,rfl⟩
    rw [HB.out]
    go_wp2
    go_ret
    exact ⟨ret_bool HE.out.symm,rfl⟩
  ·have hkl:k=l.length:=by omega
   subst hkl
   have HE:=Lib.hid (free_all HF.out)
   go_wp2
   go_ret
   exact ⟨ret_bool HE.out.symm,rfl⟩
def onB (F R f r:Int):Bool:=decide (0<=f) && decide (f<F) && decide (0<=r) && decide (r<R)
theorem onB_iff {F R f r:Int}:onB F R f r=true ↔ onb F R f r:=by unfold onB onb;simp [and_assoc]
def rayP (F R x y f r:Int) (j:Nat):Bool:=onB F R (x+((j:Int)+1) * f) (y+((j:Int)+1) * r)
def rayNum (F x y f r:Int) (j:Nat):Nat:=((y+((j:Int)+1) * r) * F+(x+((j:Int)+1) * f)).toNat
def rayL (F R x y f r:Int):List Nat:=((List.range 8).takeWhile (rayP F R x y f r)).map (rayNum F x y f r)
theorem tw_all (P:Nat->Bool) (n:Nat):∀ m,(∀ j,j<n->P (m+j)=true)->(List.range' m n).takeWhile P=List.range' m n:=by
 induction n with
 | zero=>intro m _;rfl
 | succ n ih =>
  intro m h
  rw [List.range'_succ,List.takeWhile_cons,if_pos (by have:=h 0 (by omega);simpa using this),ih (m+1) (fun j hj=>by have:=h (j+1) (by omega);rwa [show m+1+j=m+(j+1) by omega])]
theorem tw_stop (P:Nat->Bool) (k n:Nat) (hk:k<n) (h:∀ j,j<k->P j=true) (hs:P k=false):(List.range n).takeWhile P=List.range k:=by
 have e:List.range n=List.range' 0 k ++ List.range' k (n - k):=by
  rw [List.range_eq_range']
  have:=List.range'_append (s:=0) (m:=k) (n:=n - k) (step:=1)
  simp at this
  rw [this]
  congr 1
  omega
 rw [e,List.takeWhile_append,tw_all P k 0 (fun j hj=>by simpa using h j hj)]
 simp
 obtain ⟨m,hm⟩:∃ m,n - k=m+1:=⟨n - k - 1,by omega⟩
 rw [hm,List.range'_succ,List.takeWhile_cons]
 simp [hs,List.range_eq_range']
theorem rayL_stop {F R x y f r:Int} {k:Nat} (hk:k<8) (h:∀ j,j<k->rayP F R x y f r j=true) (hs:rayP F R x y f r k=false):rayL F R x y f r=(List.range k).map (rayNum F x y f r):=by
 unfold rayL;rw [tw_stop _ k 8 hk h hs]
theorem rayL_all {F R x y f r:Int} (h:∀ j,j<8->rayP F R x y f r j=true):rayL F R x y f r=(List.range 8).map (rayNum F x y f r):=by
 unfold rayL
 rw [List.range_eq_range',tw_all _ 8 0 (fun j hj=>by simpa using h j hj)]
end Go.Proofs.YtbccbgonlmkpkaaGreatDoor
namespace Go.Proofs.YtbccbgonlmkpkaaGreatDoor
open Go.RowKit
theorem mul_bd {k f:Int} (h0:0<=k) (h1:k<=9) (f0:-8<=f) (f1:f<=8):-72<=k * f/\k * f<=72:=by
 have:k=0\/k=1\/k=2\/k=3\/k=4\/k=5\/k=6\/k=7\/k=8\/k=9:=by omega
 rcases this with rfl | rfl | rfl | rfl | rfl | rfl | rfl | rfl | rfl | rfl <;> omega
theorem rayP_no {F R x y f r:Int} {k:Nat} (h:rayP F R x y f r k=false):¬ onb F R (x+((k:Int)+1) * f) (y+((k:Int)+1) * r):=fun ho=>by
 have:=onB_iff.2 ho
 unfold rayP at h
 rw [h] at this
 cases this
theorem refRay_any (F R a f r:Int) (ha:vat F R a) (hd:¬ (f=0/\r=0)) (f0:-8<=f) (f1:f<=8) (r0:-8<=r) (r1:r<=8) (w:World) :
  Calls Tryz.prog 149 #[.agg #[.int .i64 F,.int .i64 R],.int .i64 a,.int .i64 f,.int .i64 r] w fun e w'=>∃ v,e=.returned v/\w'.ownsRow w.heap.size 3 1 v (rayL F R (a % F) (a / F) f r).length (vnats (rayL F R (a % F) (a / F) f r))/\Below w.heap.size w w':=by
 obtain ⟨i0,hi,hz0,hz1,hz2⟩:=info_parts ints3
 obtain ⟨p0,p1,p2,p3⟩:=place_bd ha.1 ha.2.1 ha.2.2
 have hv:=ha.1
 have g2:=ha.1.2.1
 have g3:=ha.1.2.2.2
 have hg:((f == 0)=false)\/((f == 0)=true/\(r == 0)=false):=by
  by_cases h:f=0
  ·exact .inr ⟨by simp [h],beq_eq_false_iff_ne.2 (fun e=>hd ⟨h,e⟩)⟩
  ·exact .inl (beq_eq_false_iff_ne.2 h)
 have HG:=Lib.hid hg
 obtain ⟨x,hx⟩:∃ x,a % F=x:=⟨_,rfl⟩
 obtain ⟨y,hy⟩:∃ y,a / F=y:=⟨_,rfl⟩
 rw [hx] at p0 p1 ⊢
 rw [hy] at p2 p3 ⊢
 have hpl:=refPlace_any F R a ha
 rw [hx,hy] at hpl
 have HPL:=Lib.hid hpl
 have HVL:=Lib.hid (refValid_yes F R a ha)
 clear hpl hx hy hg hd ha
 rcases HG.out with h1 | ⟨h1,h2⟩
 all_goals
  go_enter Tryz.func149,Tryz.ntmps149
  go_wp2_with fail
  refine (HVL.out _).mono ?_
  rintro e w1 ⟨rfl,hb⟩
  have s1:=hb.size
  simp at s1
  have hc0:=hb.cell (p:=⟨w.heap.size,0,none⟩) (by simp)
  have hc1:=hb.cell (p:=⟨w.heap.size,1,none⟩) (by simp)
  simp [go_sem] at hc0 hc1
  have hB1:=after1 hb
  clear hb
  go_wp2_with fail
  refine (HPL.out _).mono ?_
  rintro e w2 ⟨rfl,hb⟩
  have hd0:=(hb.cell (p:=⟨w.heap.size,0,none⟩) (by simp;omega)).trans hc0
  have hd1:=(hb.cell (p:=⟨w.heap.size,1,none⟩) (by simp;omega)).trans hc1
  have s2:=hb.size
  have hB2:=chain hB1 hb
  clear hb hB1 hc0 hc1
  have k0:(w2.alloc (.cells #[.int .i64 x,.int .i64 y] 104)).cell? ⟨w.heap.size,0,none⟩=some (.int .i64 F):=alive _ hd0
  have k1:(w2.alloc (.cells #[.int .i64 x,.int .i64 y] 104)).cell? ⟨w.heap.size,1,none⟩=some (.int .i64 R):=alive _ hd1
  have k2:(w2.alloc (.cells #[.int .i64 x,.int .i64 y] 104)).cell? ⟨w2.heap.size,0,none⟩=some (.int .i64 x):=by simp [go_sem]
  have k3:(w2.alloc (.cells #[.int .i64 x,.int .i64 y] 104)).cell? ⟨w2.heap.size,1,none⟩=some (.int .i64 y):=by simp [go_sem]
  have hB3:Below w.heap.size w (w2.alloc (.cells #[.int .i64 x,.int .i64 y] 104)):=hB2.alloc hB2.size _
  go_wp2_with fail
  go_loopw [10,11,12] (fun v i _ wr=>∃ k:Nat,k<=8/\i=.int .i64 ((k:Int)+1)/\Hid (∀ j,j<k->rayP F R x y f r j=true)/\wr.ownsRow (w2.heap.size+1) 3 1 v ((List.range k).map (rayNum F x y f r)).length (vnats ((List.range k).map (rayNum F x y f r)))/\Below (w2.heap.size+1) (w2.alloc (.cells #[.int .i64 x,.int .i64 y] 104)) wr) (fun _ i _ _=>(9 - intOf i).toNat)
  case atStart=>exact ⟨0,by omega,rfl,Lib.hid (fun j hj=>by omega),World.ownsRow_nil _ _ _ _,Below.refl _ _⟩
  case round =>
   obtain ⟨k,hk,rfl,HF,hown,hB⟩:=hrel
   have s3:=hB.size
   simp at s3
   have c0:=(hB.cell (p:=⟨w.heap.size,0,none⟩) (by simp;omega)).trans k0
   have c1:=(hB.cell (p:=⟨w.heap.size,1,none⟩) (by simp;omega)).trans k1
   have c2:=(hB.cell (p:=⟨w2.heap.size,0,none⟩) (by simp)).trans k2
   have c3:=(hB.cell (p:=⟨w2.heap.size,1,none⟩) (by simp)).trans k3
   clear k0 k1 k2 k3
   by_cases hlt:k<8
   ·obtain ⟨a0,a1⟩:=mul_bd (k:=(k:Int)+1) (f:=f) (by omega) (by omega) f0 f1
    obtain ⟨b0,b1⟩:=mul_bd (k:=(k:Int)+1) (f:=r) (by omega) (by omega) r0 r1
    have hlen:((List.range k).map (rayNum F x y f r)).length<=8:=by simp;omega
    cases hp:rayP F R x y f r k
    ·have HE:=Lib.hid (rayL_stop hlt HF.out hp)
     have HN:=Lib.hid (rayP_no hp)
     clear hp
     go_wp2_with fail
     refine (refNumber_no F R _ _ HN.out _).mono ?_
     rintro e w3 ⟨rfl,hb3⟩
     go_wp2
     go_ret
     refine ⟨_,rfl,?_,?_⟩
     ·rw [HE.out];exact World.ownsRow.mono (own_below hown hb3) (by omega)
     ·exact chain (hB3.trans (hB.mono (by omega))) hb3
    ·have HN:=Lib.hid (onB_iff.1 hp)
     have HF2:Hid (∀ j,j<k+1->rayP F R x y f r j=true):=Lib.hid (fun j hj=>by
      by_cases e:j=k
      ·rw [e];exact hp
      ·exact HF.out j (by omega))
     have HV:Hid (vnats ((List.range (k+1)).map (rayNum F x y f r))=vnats ((List.range k).map (rayNum F x y f r)) ++ [.int .i64 ((y+((k:Int)+1) * r) * F+(x+((k:Int)+1) * f))]):=Lib.hid (by
      rw [List.range_succ,List.map_append,List.map_cons,List.map_nil,vnats_snoc]
      congr 2
      unfold rayNum
      obtain ⟨n0,n1,n2,n3⟩:=onB_iff.1 hp
      obtain ⟨m0,m1,m2,m3,m4⟩:=number_bd hv n0 n1 n2 n3
      exact vint (Int.toNat_of_nonneg (by omega)))
     have HL:Hid (((List.range (k+1)).map (rayNum F x y f r)).length=((List.range k).map (rayNum F x y f r)).length+1):=Lib.hid (by simp)
     have hnum:=(fun W=>refNumber_yes F R _ _ hv (onB_iff.1 hp) W:∀ W,_)
     have hnn:0<=(y+((k:Int)+1) * r) * F+(x+((k:Int)+1) * f):=by
      obtain ⟨n0,n1,n2,n3⟩:=onB_iff.1 hp
      obtain ⟨m0,m1,m2,m3,m4⟩:=number_bd hv n0 n1 n2 n3
      omega
     have HNUM:=Lib.hid hnum
     clear hp hnum HN
     generalize (List.map (rayNum F x y f r) (List.range k))=q at *
     go_wp2_with fail
     refine (HNUM.out _).mono ?_
     rintro e w3 ⟨rfl,hb3⟩
     clear HNUM
     generalize (y+((k:Int)+1) * r) * F+(x+((k:Int)+1) * f)=num at *
     have hown3:=own_below hown hb3
     have s4:=hb3.size
     have hB4:=hB.trans (hb3.mono s3)
     clear hown hb3 hB
     go_wp2_with (at_builtin;(refine wpList_append_own _ rfl _ _ 128 rfl (w2.heap.size+1) 3 i0 (.int .i64 0) 1 8 Tryz.underlying128 hi hz0 hz1 hz2 rfl (by decide) _ _ _ rfl (hown3.alloc _) ⟨w3.heap.size,0,none⟩ 1 1 [.int .i64 num] rfl rfl ?c1 ?c2 ?c3 ?c4 ?c5 ?_))
     case c1 =>
      intro j u hj
      match j,hj with
      | 0,hj=>simp at hj;subst hj;simp [Addr.add]
     case c2=>intro u hu;simp at hu;subst hu;rfl
     case c3=>unfold maxLen;omega
     case c4=>omega
     case c5=>simp;omega
     intro v' w4 hown' hgrow _
     go_wp2
     go_roundw
     case rel =>
      refine ⟨k+1,by omega,by go_num,HF2,?_,?_⟩
      ·rw [HV.out,HL.out];exact hown'
      ·exact (hB4.alloc (by omega) _).grown hgrow (by simp;omega) (fun r e=>(World.ownsRow.lt hown3 r e).1)
     case measure=>simp [intOf] <;> omega
   ·obtain rfl:k=8:=by omega
    have HE:=Lib.hid (rayL_all HF.out)
    go_wp2
    go_ret
    refine ⟨_,rfl,?_,?_⟩
    ·rw [HE.out];exact World.ownsRow.mono hown (by omega)
    ·exact hB3.trans (hB.mono (by omega))
end Go.Proofs.YtbccbgonlmkpkaaGreatDoor
namespace Go.Proofs.YtbccbgonlmkpkaaGreatDoor
open Go.RowKit
def lineB (F a b:Int):Bool:=!(a == b) && ((b % F - a % F == 0) || (b / F - a / F == 0) || (b % F - a % F == b / F - a / F) || (b % F - a % F+(b / F - a / F) == 0))
def lineV (F a b:Int):Value:=if lineB F a b=true then .tuple #[.int .i64 (sg (b % F - a % F)),.int .i64 (sg (b / F - a / F)),.bool true] else .tuple #[.int .i64 0,.int .i64 0,.bool false]
theorem line_any (F R a b:Int) (ha:vat F R a) (hb:vat F R b) (w:World) :
  Calls Tryz.prog 148 #[.agg #[.int .i64 F,.int .i64 R],.int .i64 a,.int .i64 b] w fun e w'=>e=.returned (lineV F a b)/\Below w.heap.size w w':=by
 obtain ⟨p0,p1,p2,p3⟩:=place_bd ha.1 ha.2.1 ha.2.2
 obtain ⟨q0,q1,q2,q3⟩:=place_bd hb.1 hb.2.1 hb.2.2
 have f2:=ha.1.2.1
 have r2:=ha.1.2.2.2
 obtain ⟨V,hV⟩:∃ V,lineV F a b=V:=⟨_,rfl⟩
 rw [hV]
 have HV0:=Lib.hid hV
 clear hV
 go_enter Tryz.func148,Tryz.ntmps148
 go_upto_region 1 with fail
 go_cut [9,10] (fun s7 s8 wx=>∃ g h:Nat,s7=.pointer (some ⟨g,0,none⟩)/\s8=.pointer (some ⟨h,0,none⟩)/\wx.cell? ⟨g,0,none⟩=some (.int .i64 (a % F))/\wx.cell? ⟨g,1,none⟩=some (.int .i64 (a / F))/\wx.cell? ⟨h,0,none⟩=some (.int .i64 (b % F))/\wx.cell? ⟨h,1,none⟩=some (.int .i64 (b / F))/\Below w.heap.size w wx)
 case first =>
  go_region_held3 (fun w'=>w'.cell? ⟨w.heap.size,0,none⟩=some (.int .i64 F)/\w'.cell? ⟨w.heap.size,1,none⟩=some (.int .i64 R)) (((try dsimp only);refine ⟨?_,?_⟩ <;> ((try simp only [World.cell?_drew]);(repeat (first | assumption | (rw [World.cell?_alloc_new];rfl) | (exact (by assumption:_/\_).1) | (exact (by assumption:_/\_).2) | (refine alive _ ?_))))))
  (first
   | (go_at_call_of 66 (Value.int .i64 a);refine (refPlace_ex _ _ _ ha _).mono ?_;rintro e w1 ⟨rfl,rfl⟩)
   | (go_at_call_of 66 (Value.int .i64 b);refine (refPlace_ex _ _ _ hb _).mono ?_;rintro e w2 ⟨rfl,rfl⟩))
  all_goals
   go_wp2_with fail
   go_meet
   refine ⟨_,_,rfl,rfl,?_,?_,?_,?_,?_⟩
   ·simp [go_sem]
   ·simp [go_sem]
   ·simp [go_sem]
   ·simp [go_sem]
   ·go_grown
 case rest =>
  obtain ⟨g,h,rfl,rfl,g0,g1,h0,h1,hB⟩:=hcut
  have hV:=HV0.out
  unfold lineV lineB at hV
  obtain ⟨x,hx⟩:∃ x,a % F=x:=⟨_,rfl⟩
  obtain ⟨y,hy⟩:∃ y,a / F=y:=⟨_,rfl⟩
  obtain ⟨u,hu⟩:∃ u,b % F=u:=⟨_,rfl⟩
  obtain ⟨v,hv⟩:∃ v,b / F=v:=⟨_,rfl⟩
  rw [hx] at g0 p0 p1
  rw [hy] at g1 p2 p3
  rw [hu] at h0 q0 q1
  rw [hv] at h1 q2 q3
  rw [hx,hy,hu,hv] at hV
  have HV:=Lib.hid hV
  clear hx hy hu hv hV ha hb
  have hw1:IntKind.i64.wrap (u - x)=u - x:=IntWalk.i64_in _ (by omega)
  have hw2:IntKind.i64.wrap (v - y)=v - y:=IntWalk.i64_in _ (by omega)
  go_wp2
  go_quiet (fail)
  clear hw1 hw2
  have hB2:=drawn hB
  obtain ⟨d,hd⟩:∃ d,u - x=d:=⟨_,rfl⟩
  obtain ⟨q,hq⟩:∃ q,v - y=q:=⟨_,rfl⟩
  rw [hd,hq] at HV ⊢
  have d0:-8<=d/\d<=8:=by omega
  have e0:-8<=q/\q<=8:=by omega
  obtain ⟨d1,d2⟩:=d0
  obtain ⟨e1,e2⟩:=e0
  clear hd hq
  by_cases hab:a=b
  ·have t1:(a == b)=true:=by simp [hab]
   have E:Hid (V=.tuple #[.int .i64 0,.int .i64 0,.bool false]):=Lib.hid (by rw [<- HV.out,t1];simp)
   clear hab
   go_wp2
   go_ret3
   exact ⟨by rw [E.out];rfl,hB2 _⟩
  ·have t1:(a == b)=false:=beq_eq_false_iff_ne.2 hab
   have E:Hid (((d == 0) || (q == 0) || (d == q) || (d+q == 0))=true->V=.tuple #[.int .i64 (sg d),.int .i64 (sg q),.bool true]):=Lib.hid (fun h=>by rw [<- HV.out,t1,h];simp)
   have E0:Hid (((d == 0) || (q == 0) || (d == q) || (d+q == 0))=false->V=.tuple #[.int .i64 0,.int .i64 0,.bool false]):=Lib.hid (fun h=>by rw [<- HV.out,t1,h];simp)
   clear hab HV HV0
   by_cases z1:d=0
   ·have n1:(d != 0)=false:=by simp [z1]
    have E2:=Lib.hid (E.out (by simp [z1]))
    clear E
    clear z1 E0
    go_wp2_with fail
    refine (sign_any _ _).mono ?_
    rintro e w1 ⟨rfl,rfl⟩
    go_wp2_with fail
    refine (sign_any _ _).mono ?_
    rintro e w2 ⟨rfl,rfl⟩
    go_wp2
    go_ret3
    exact ⟨by rw [E2.out];rfl,hB2 _⟩
   ·have n1:(d != 0)=true:=bne_iff_ne.2 z1
    by_cases z2:q=0
    ·have n2:(q != 0)=false:=by simp [z2]
     have E2:=Lib.hid (E.out (by simp [z2]))
     clear E
     clear z1 z2 E0
     go_wp2_with fail
     refine (sign_any _ _).mono ?_
     rintro e w1 ⟨rfl,rfl⟩
     go_wp2_with fail
     refine (sign_any _ _).mono ?_
     rintro e w2 ⟨rfl,rfl⟩
     go_wp2
     go_ret3
     exact ⟨by rw [E2.out];rfl,hB2 _⟩
    ·have n2:(q != 0)=true:=bne_iff_ne.2 z2
     by_cases z3:d=q
     ·have n3:(d != q)=false:=by simp [z3]
      have E2:=Lib.hid (E.out (by simp [z3]))
      clear E
      clear z1 z2 z3 E0
      go_wp2_with fail
      refine (sign_any _ _).mono ?_
      rintro e w1 ⟨rfl,rfl⟩
      go_wp2_with fail
      refine (sign_any _ _).mono ?_
      rintro e w2 ⟨rfl,rfl⟩
      go_wp2
      go_ret3
      exact ⟨by rw [E2.out];rfl,hB2 _⟩
     ·have n3:(d != q)=true:=bne_iff_ne.2 z3
      by_cases z4:d+q=0
      ·have n4:(d+q != 0)=false:=by simp [z4]
       have E2:=Lib.hid (E.out (by simp [z4]))
       clear E
       clear z1 z2 z3 z4 E0
       go_wp2_with fail
       refine (sign_any _ _).mono ?_
       rintro e w1 ⟨rfl,rfl⟩
       go_wp2_with fail
       refine (sign_any _ _).mono ?_
       rintro e w2 ⟨rfl,rfl⟩
       go_wp2
       go_ret3
       exact ⟨by rw [E2.out];rfl,hB2 _⟩
      ·have n4:(d+q != 0)=true:=bne_iff_ne.2 z4
       have E3:=Lib.hid (E0.out (by simp [z1,z2,z3,z4]))
       clear E E0 z1 z2 z3 z4
       go_wp2
       go_ret3
       exact ⟨by rw [E3.out];rfl,hB2 _⟩
end Go.Proofs.YtbccbgonlmkpkaaGreatDoor
namespace Go.Proofs.YtbccbgonlmkpkaaGreatDoor
open Go.RowKit
theorem sg_bd (n:Int):-1<=sg n/\sg n<=1:=by unfold sg;split <;> (try split) <;> omega
theorem sg_zero {n:Int} (h:sg n=0):n=0:=by unfold sg at h;split at h <;> (try split at h) <;> omega
theorem dir_ne {F R a b:Int} (ha:vat F R a) (hb:vat F R b) (h:a≠b):¬ (sg (b % F - a % F)=0/\sg (b / F - a / F)=0):=by
 rintro ⟨h1,h2⟩
 have e1:=sg_zero h1
 have e2:=sg_zero h2
 apply h
 have p1:=place_eq (a:=a) ha.1
 have p2:=place_eq (a:=b) hb.1
 have:b % F=a % F:=by omega
 have:b / F=a / F:=by omega
 rw [<- p1,<- p2,‹b % F=a % F›,‹b / F=a / F›]
def befL (l:List Nat) (b:Int):List Nat:=if b∈l.map (fun i:Nat=>(i:Int)) then l.takeWhile (fun i=>!((i:Int) == b)) else []
def betL (F R a b:Int):List Nat:=befL (rayL F R (a % F) (a / F) (sg (b % F - a % F)) (sg (b / F - a / F))) b
theorem bef_hit {l:List Nat} {b:Int} {k:Nat} (hk:k<l.length) (h:∀ j (hj:j<k),((l[j]'(by omega):Nat):Int)≠b) (he:((l[k]:Nat):Int)=b):befL l b=l.take k:=by
 unfold befL
 rw [if_pos (by rw [List.mem_map];exact ⟨l[k],List.getElem_mem hk,he⟩)]
 have e:l=l.take k ++ l[k] :: l.drop (k+1):=by rw [List.getElem_cons_drop,List.take_append_drop]
 conv=>lhs;rw [e]
 rw [List.takeWhile_append_of_pos,List.takeWhile_cons,if_neg (by simp [he]),List.append_nil]
 intro x hx
 obtain ⟨j,hj,rfl⟩:=List.mem_iff_getElem.1 hx
 rw [List.length_take] at hj
 have:=h j (by omega)
 rw [List.getElem_take]
 simpa using this
theorem bef_miss {l:List Nat} {b:Int} (h:∀ j (hj:j<l.length),((l[j]:Nat):Int)≠b):befL l b=[]:=by
 unfold befL
 rw [if_neg]
 rw [List.mem_map]
 rintro ⟨x,hx,e⟩
 obtain ⟨j,hj,rfl⟩:=List.mem_iff_getElem.1 hx
 exact h j hj e
theorem rayL_len (F R x y f r:Int):(rayL F R x y f r).length<=8:=by
 unfold rayL
 rw [List.length_map]
 exact Nat.le_trans (List.takeWhile_prefix _).length_le (by simp)
def ReadB (w:World) (l:List Nat) (e:Ending) (w':World):Prop:=∃ A c,e=.returned (.slice A l.length c)/\RdI w' w'.heap.size A (l.map fun i:Nat=>(i:Int))/\Below w.heap.size w w'
theorem between_any (F R a b:Int) (ha:vat F R a) (hb:vat F R b) (hl:lineB F a b=true) (w:World) :
  Calls Tryz.prog 88 #[.agg #[.int .i64 F,.int .i64 R],.int .i64 a,.int .i64 b] w (ReadB w (betL F R a b)):=by
 have hab:a≠b:=by
  intro e
  unfold lineB at hl
  rw [e] at hl
  simp at hl
 have hdir:=Lib.hid (dir_ne ha hb hab)
 have s0:=sg_bd (b % F - a % F)
 have s1:=sg_bd (b / F - a / F)
 have hlv:lineV F a b=.tuple #[.int .i64 (sg (b % F - a % F)),.int .i64 (sg (b / F - a / F)),.bool true]:=by unfold lineV;rw [if_pos hl]
 have hcl:=line_any F R a b ha hb
 rw [hlv] at hcl
 have HCL:=Lib.hid hcl
 obtain ⟨L,hL⟩:∃ L,betL F R a b=L:=⟨_,rfl⟩
 rw [hL]
 unfold betL at hL
 have hcr:=fun hd f0 f1 r0 r1=>refRay_any F R a (sg (b % F - a % F)) (sg (b / F - a / F)) ha hd f0 f1 r0 r1
 have hcr2:=hcr hdir.out (by omega) (by omega) (by omega) (by omega)
 have hq8:=rayL_len F R (a % F) (a / F) (sg (b % F - a % F)) (sg (b / F - a / F))
 have HCR:=Lib.hid hcr2
 generalize sg (b % F - a % F)=d at *
 generalize sg (b / F - a / F)=q at *
 generalize hray:rayL F R (a % F) (a / F) d q=l at *
 have HLL:=Lib.hid hL
 clear hL hcr hcr2 hcl hlv hl hab hray s0 s1
 go_enter Tryz.func88,Tryz.ntmps88
 go_wp2_with fail
 refine (HCL.out _).mono ?_
 rintro e w1 ⟨rfl,hb1⟩
 have z0:=hb1.size
 simp at z0
 have hc0:=hb1.cell (p:=⟨w.heap.size,0,none⟩) (by simp)
 have hc1:=hb1.cell (p:=⟨w.heap.size,1,none⟩) (by simp)
 simp [go_sem] at hc0 hc1
 have hB1:=after1 hb1
 go_wp2_with fail
 refine (HCR.out _).mono ?_
 rintro e w2 ⟨v,rfl,hown,hb2⟩
 obtain ⟨A,c,rfl,hlc,hA⟩:=RdI.own' hown
 have hB2:=chain hB1 hb2
 clear hown hb1 hb2 hc0 hc1
 have hll:((l.map fun i:Nat=>(i:Int)).length)=l.length:=by simp
 go_wp2
 go_loop [11] (fun i=>∃ k:Nat,k<=l.length/\i=.int .i64 k/\Hid (∀ j (hj:j<k) (hk:k<=l.length),((l[j]'(by omega):Nat):Int)≠b)) (fun i=>l.length - (intOf i).toNat)
 case atStart=>exact ⟨0,by omega,rfl,Lib.hid (fun j hj _=>by omega)⟩
 case round =>
  obtain ⟨k,hk,rfl,HF⟩:=hrel
  by_cases hlt:k<l.length
  ·obtain ⟨ad,rfl,hbk,hcl⟩:=hA.at_ (k:=k) (by simpa using hlt)
   have e:(l.map fun i:Nat=>(i:Int))[k]?.getD 0=((l[k]:Nat):Int):=by
    rw [List.getElem?_map,List.getElem?_eq_getElem hlt];rfl
   rw [e] at hcl
   clear e
   by_cases hbq:((l[k]:Nat):Int)=b
   ·have t1:(((l[k]:Nat):Int) == b)=true:=by simp [hbq]
    have HE:=Lib.hid (bef_hit hlt (fun j hj=>HF.out j hj hk) hbq)
    have HP:Hid (ReadB w L (.returned (.slice (some ad) k c)) w2):=Lib.hid (by
     rw [<- HLL.out,HE.out]
     have e2:(l.take k).length=k:=by rw [List.length_take];omega
     refine ⟨some ad,c,by rw [e2],?_,hB2⟩
     intro h0
     obtain ⟨ad',e3,h3,h4⟩:=hA (by simp;omega)
     refine ⟨ad',e3,h3,fun j u hu=>h4 j u ?_⟩
     rw [List.getElem?_map,List.getElem?_take] at hu
     split at hu
     ·rw [List.getElem?_map];exact hu
     ·simp at hu)
    clear hbq hA
    generalize hn:l[k]=n at *
    clear hn
    go_wp2
    go_ret
    exact HP.out
   ·have t1:(((l[k]:Nat):Int) == b)=false:=beq_eq_false_iff_ne.2 hbq
    have HF2:Hid (∀ j (hj:j<k+1) (hk:k+1<=l.length),((l[j]'(by omega):Nat):Int)≠b):=Lib.hid (fun j hj hk'=>by
     by_cases e:j=k
     ·subst e;exact hbq
     ·exact HF.out j (by omega) (by omega))
    clear hbq hA
    generalize hn:l[k]=n at *
    clear hn
    go_wp2
    go_round
    case rel=>exact ⟨k+1,by omega,by go_num,HF2⟩
    case measure=>simp [intOf];omega
  ·have hkl:k=l.length:=by omega
   subst hkl
   have HE:=Lib.hid (bef_miss (fun j hj=>HF.out j hj (Nat.le_refl _)))
   have HP:Hid (ReadB w L (.returned (.slice none 0 0)) w2):=Lib.hid (by
    rw [<- HLL.out,HE.out]
    exact ⟨none,0,rfl,fun h=>by simp at h,hB2⟩)
   go_wp2
   go_ret
   exact HP.out
end Go.Proofs.YtbccbgonlmkpkaaGreatDoor
