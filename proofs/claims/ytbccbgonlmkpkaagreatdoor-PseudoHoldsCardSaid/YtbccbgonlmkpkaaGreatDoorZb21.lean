/- What the theorem needs, piece Zb21. -/
import Derived.Test.YtbccbgonlmkpkaaGreatDoorZb20
import Derived.Test.YtbccbgonlmkpkaaGreatDoorZb18
set_option linter.unusedSimpArgs false
set_option linter.unusedVariables false
set_option maxRecDepth 100000
set_option maxHeartbeats 16000000
namespace Go.Proofs.YtbccbgonlmkpkaaGreatDoor
open Go.RowKit Go.Sort
def ctL:List Value:=[.int .u8 1,.int .i64 4,.int .i64 6,.int .i64 7,.int .i64 5,.int .u8 2,.int .i64 4,.int .i64 2,.int .i64 0,.int .i64 3,.int .u8 4,.int .i64 60,.int .i64 62,.int .i64 63,.int .i64 61,.int .u8 8,.int .i64 60,.int .i64 58,.int .i64 56,.int .i64 59]
def Cst (w:World):Prop:=∀ j,j<20->w.cell? ⟨3,j,none⟩=some (ctL.getD j undef)
theorem Cst.lt {w:World} (h:Cst w):3<w.heap.size:=World.block_lt_of_cell? w _ (h 0 (by decide))
theorem Cst.below {w w':World} (h:Cst w) (hb:Below w.heap.size w w'):Cst w':=fun j hj=>(hb.cell (p:=⟨3,j,none⟩) h.lt).trans (h j hj)
def wayV (b:Nat):List Value:=[.int .u8 (b:Int),.int .i64 (cKf b:Int),.int .i64 (cKt b:Int),.int .i64 (cRf b:Int),.int .i64 (cRt b:Int)]
theorem cix_0 (w:World):(Instr.index 203 (.agg ctL.toArray) (.int .i64 0)).run Tryz.prog w=.ok (.agg #[.int .u8 1,.int .i64 4,.int .i64 6,.int .i64 7,.int .i64 5]) w:=by kernel_rfl
theorem cix_1 (w:World):(Instr.index 203 (.agg ctL.toArray) (.int .i64 1)).run Tryz.prog w=.ok (.agg #[.int .u8 2,.int .i64 4,.int .i64 2,.int .i64 0,.int .i64 3]) w:=by kernel_rfl
theorem cix_2 (w:World):(Instr.index 203 (.agg ctL.toArray) (.int .i64 2)).run Tryz.prog w=.ok (.agg #[.int .u8 4,.int .i64 60,.int .i64 62,.int .i64 63,.int .i64 61]) w:=by kernel_rfl
theorem cix_3 (w:World):(Instr.index 203 (.agg ctL.toArray) (.int .i64 3)).run Tryz.prog w=.ok (.agg #[.int .u8 8,.int .i64 60,.int .i64 58,.int .i64 56,.int .i64 59]) w:=by kernel_rfl
theorem szCt (w:World):(sizeOf 203).run Tryz.prog w=.ok 20 w:=by kernel_rfl
theorem agCt (w:World):(isAgg 203).run Tryz.prog w=.ok true w:=by kernel_rfl
theorem ldCt {W:World} (h:Cst W):(Instr.loadAt 203 (.pointer (some ⟨3,0,none⟩))).run Tryz.prog W=.ok (.agg ctL.toArray) W:=by
 have hld:(loadCellsFrom ⟨3,0,none⟩ 0 20 #[]).run Tryz.prog W=.ok ctL.toArray W:=run_loadCells_list (P:=Tryz.prog) (w:=W) ⟨3,0,none⟩ ctL (fun j v hv=>by
  have hj:j<20:=(List.getElem?_eq_some_iff.1 hv).1
  have hc:=h j hj
  have hadd:(⟨3,0,none⟩:Addr).add j=⟨3,j,none⟩:=by unfold Addr.add;split <;> simp_all
  rw [hadd,hc,List.getD,hv]
  rfl)
 simp only [Instr.loadAt,Instr.sureAddr,loadVar,loadCells,Sem.run_bind,Sem.run_pure,Result.andThen,agCt,szCt,if_true,hld]
theorem ctShut:∃ X:Array Value,(∀ W,Cst W->(Instr.loadAt 203 (.pointer (some ⟨3,0,none⟩))).run Tryz.prog W=.ok (.agg X) W) /\
  ∀ k:Nat,k<4->∀ w:World,(Instr.index 203 (.agg X) (.int .i64 (k:Int))).run Tryz.prog w=.ok (.agg (wayV (bitK k)).toArray) w :=
 ⟨ctL.toArray,fun _ h=>ldCt h,fun k hk w=>by
  match k,hk with
  | 0,_=>exact cix_0 w
  | 1,_=>exact cix_1 w
  | 2,_=>exact cix_2 w
  | 3,_=>exact cix_3 w⟩
def Bxs (W:World) (b:Nat) (vs:List Value):Prop:=(∀ j v,vs[j]?=some v->W.cell? ⟨b,j,none⟩=some v)/\∀ o,W.frozen? ⟨b,o,none⟩=false
theorem Bxs.c {W:World} {b:Nat} {vs:List Value} (h:Bxs W b vs) (j:Nat) {v:Value} (hv:vs[j]?=some v):W.cell? ⟨b,j,none⟩=some v:=h.1 j v hv
theorem Bxs.lt {W:World} {b:Nat} {v:Value} {vs:List Value} (h:Bxs W b (v :: vs)):b<W.heap.size:=World.block_lt_of_cell? W _ (h.1 0 v rfl)
theorem Bxs.below {W W':World} {B b:Nat} {vs:List Value} (h:Bxs W b vs) (hb:Below B W W') (hB:b<B):Bxs W' b vs :=
 ⟨fun j v hv=>(hb.cell (p:=⟨b,j,none⟩) hB).trans (h.1 j v hv),fun o=>(hb.frozen (p:=⟨b,o,none⟩) hB).trans (h.2 o)⟩
theorem Bxs.new (w:World) (vs:List Value) (T:TypeId):Bxs (w.alloc (.cells vs.toArray T)) w.heap.size vs:=by
 refine ⟨fun j v hv=>?_,fun o=>?_⟩
 ·have hj:=(List.getElem?_eq_some_iff.1 hv).1
  have:=(List.getElem?_eq_some_iff.1 hv).2
  simp [go_sem,hj,this]
 ·simp [go_sem]
theorem Bxs.set {W:World} {b:Nat} {vs:List Value} (h:Bxs W b vs) (k:Nat) (hk:k<vs.length) (v:Value):Bxs (W.setCell ⟨b,k,none⟩ v) b (vs.set k v):=by
 refine ⟨fun j u hu=>?_,fun o=>(World.frozen?_setCell ..).trans (h.2 o)⟩
 by_cases e:j=k
 ·subst e
  rw [List.getElem?_set_self hk] at hu
  obtain rfl:=Option.some.inj hu
  rw [World.cell?_setCell_same _ _ _ (h.1 j _ (List.getElem?_eq_getElem hk))]
 ·rw [List.getElem?_set_ne (by omega)] at hu
  exact (World.cell?_setCell_other _ _ _ _ (by simp)).trans (h.1 j u hu)
theorem Bxs.but {g:Nat} {W W':World} {b:Nat} {vs:List Value} (h:Bxs W b vs) (hb:But g W W') (hne:b≠g):Bxs W' b vs :=
 ⟨fun j v hv=>hb.cell (h.1 j v hv) hne,fun o=>by rw [<- h.2 o];simp only [World.frozen?,hb.block _ hne]⟩
theorem zbx {X u:World} {vs:List Value} {T:TypeId} (h:Below (X.alloc (.cells vs.toArray T)).heap.size (X.alloc (.cells vs.toArray T)) u):Bxs u X.heap.size vs:=(Bxs.new X vs T).below h (by simp)
theorem zbxd {X u:World} {vs:List Value} {T:TypeId} (h:Below (X.alloc (.cells vs.toArray T)).drew.heap.size (X.alloc (.cells vs.toArray T)).drew u):Bxs u X.heap.size vs:=(show Bxs (X.alloc (.cells vs.toArray T)).drew X.heap.size vs from ⟨fun j v hv=>(Bxs.new X vs T).1 j v hv,fun o=>(Bxs.new X vs T).2 o⟩).below h (by simp)
theorem Bw.size {V W:World} (h:Bw V W):V.heap.size<=W.heap.size:=Below.size h
theorem Bw.drew {V W:World} (h:Bw V W):Bw V W.drew:=Below.drew h
theorem Bw.alloc {V W:World} (h:Bw V W) (o:Obj):Bw V (W.alloc o):=h.step (box1 _ _)
theorem Bw.setCell {V W:World} (h:Bw V W) {b k:Nat} (hb:V.heap.size<=b) (v:Value):Bw V (W.setCell ⟨b,k,none⟩ v):=Below.setCell (p:=⟨b,k,none⟩) h hb v
theorem Bw.set1 {V W:World} (h:Bw V W) {b:Nat} (hb:V.heap.size<=b) (k:Nat) (v:Value):Bw V (W.setCell ⟨b,k,none⟩ v):=h.setCell hb v
theorem Bxs.put3 {W:World} {b:Nat} {u0 u1 u2:Value} (h:Bxs W b [u0,u1,u2]) (v0 v1 v2:Value):Bxs (World.setCell (World.setCell (World.setCell W ⟨b,0,none⟩ v0) ⟨b,1,none⟩ v1) ⟨b,2,none⟩ v2) b [v0,v1,v2]:=(((h.set 0 (by simp) v0).set 1 (by simp) v1).set 2 (by simp) v2)
theorem bw3 {V W:World} (h:Bw V W) {b:Nat} (hb:V.heap.size<=b) (v0 v1 v2:Value):Bw V (World.setCell (World.setCell (World.setCell W ⟨b,0,none⟩ v0) ⟨b,1,none⟩ v1) ⟨b,2,none⟩ v2):=(((h.setCell hb v0).setCell hb v1).setCell hb v2)
theorem Bxs.oth3 {W:World} {b g:Nat} {vs:List Value} (h:Bxs W b vs) (hne:b≠g) (v0 v1 v2:Value):Bxs (World.setCell (World.setCell (World.setCell W ⟨g,0,none⟩ v0) ⟨g,1,none⟩ v1) ⟨g,2,none⟩ v2) b vs:=(((h.but ((But.refl g _).setCell 0 v0) hne).but ((But.refl g _).setCell 1 v1) hne).but ((But.refl g _).setCell 2 v2) hne)
theorem Bxs.put5 {W:World} {b:Nat} {u0 u1 u2 u3 u4:Value} (h:Bxs W b [u0,u1,u2,u3,u4]) (v0 v1 v2 v3 v4:Value):Bxs (World.setCell (World.setCell (World.setCell (World.setCell (World.setCell W ⟨b,0,none⟩ v0) ⟨b,1,none⟩ v1) ⟨b,2,none⟩ v2) ⟨b,3,none⟩ v3) ⟨b,4,none⟩ v4) b [v0,v1,v2,v3,v4]:=(((((h.set 0 (by simp) v0).set 1 (by simp) v1).set 2 (by simp) v2).set 3 (by simp) v3).set 4 (by simp) v4)
theorem bw5 {V W:World} (h:Bw V W) {b:Nat} (hb:V.heap.size<=b) (v0 v1 v2 v3 v4:Value):Bw V (World.setCell (World.setCell (World.setCell (World.setCell (World.setCell W ⟨b,0,none⟩ v0) ⟨b,1,none⟩ v1) ⟨b,2,none⟩ v2) ⟨b,3,none⟩ v3) ⟨b,4,none⟩ v4):=(((((h.setCell hb v0).setCell hb v1).setCell hb v2).setCell hb v3).setCell hb v4)
def Bwm5 (V W:World) (b:Nat) (v0 v1 v2 v3 v4:Value):Prop:=Bw V (World.setCell (World.setCell (World.setCell (World.setCell (World.setCell W ⟨b,0,none⟩ v0) ⟨b,1,none⟩ v1) ⟨b,2,none⟩ v2) ⟨b,3,none⟩ v3) ⟨b,4,none⟩ v4)
theorem Bw.mark5 {V W:World} {b:Nat} {v0 v1 v2 v3 v4:Value}:Bw V (World.setCell (World.setCell (World.setCell (World.setCell (World.setCell W ⟨b,0,none⟩ v0) ⟨b,1,none⟩ v1) ⟨b,2,none⟩ v2) ⟨b,3,none⟩ v3) ⟨b,4,none⟩ v4)=Bwm5 V W b v0 v1 v2 v3 v4:=rfl
theorem Bxs.put8 {W:World} {b:Nat} {u0 u1 u2 u3 u4 u5 u6 u7:Value} (h:Bxs W b [u0,u1,u2,u3,u4,u5,u6,u7]) (v0 v1 v2 v3 v4 v5 v6 v7:Value):Bxs (World.setCell (World.setCell (World.setCell (World.setCell (World.setCell (World.setCell (World.setCell (World.setCell W ⟨b,0,none⟩ v0) ⟨b,1,none⟩ v1) ⟨b,2,none⟩ v2) ⟨b,3,none⟩ v3) ⟨b,4,none⟩ v4) ⟨b,5,none⟩ v5) ⟨b,6,none⟩ v6) ⟨b,7,none⟩ v7) b [v0,v1,v2,v3,v4,v5,v6,v7]:=((((((((h.set 0 (by simp) v0).set 1 (by simp) v1).set 2 (by simp) v2).set 3 (by simp) v3).set 4 (by simp) v4).set 5 (by simp) v5).set 6 (by simp) v6).set 7 (by simp) v7)
theorem bw8 {V W:World} (h:Bw V W) {b:Nat} (hb:V.heap.size<=b) (v0 v1 v2 v3 v4 v5 v6 v7:Value):Bw V (World.setCell (World.setCell (World.setCell (World.setCell (World.setCell (World.setCell (World.setCell (World.setCell W ⟨b,0,none⟩ v0) ⟨b,1,none⟩ v1) ⟨b,2,none⟩ v2) ⟨b,3,none⟩ v3) ⟨b,4,none⟩ v4) ⟨b,5,none⟩ v5) ⟨b,6,none⟩ v6) ⟨b,7,none⟩ v7):=((((((((h.setCell hb v0).setCell hb v1).setCell hb v2).setCell hb v3).setCell hb v4).setCell hb v5).setCell hb v6).setCell hb v7)
theorem Bxs.oth8 {W:World} {b g:Nat} {vs:List Value} (h:Bxs W b vs) (hne:b≠g) (v0 v1 v2 v3 v4 v5 v6 v7:Value):Bxs (World.setCell (World.setCell (World.setCell (World.setCell (World.setCell (World.setCell (World.setCell (World.setCell W ⟨g,0,none⟩ v0) ⟨g,1,none⟩ v1) ⟨g,2,none⟩ v2) ⟨g,3,none⟩ v3) ⟨g,4,none⟩ v4) ⟨g,5,none⟩ v5) ⟨g,6,none⟩ v6) ⟨g,7,none⟩ v7) b vs:=((((((((h.but ((But.refl g _).setCell 0 v0) hne).but ((But.refl g _).setCell 1 v1) hne).but ((But.refl g _).setCell 2 v2) hne).but ((But.refl g _).setCell 3 v3) hne).but ((But.refl g _).setCell 4 v4) hne).but ((But.refl g _).setCell 5 v5) hne).but ((But.refl g _).setCell 6 v6) hne).but ((But.refl g _).setCell 7 v7) hne)
theorem Bxs.put9 {W:World} {b:Nat} {u0 u1 u2 u3 u4 u5 u6 u7 u8:Value} (h:Bxs W b [u0,u1,u2,u3,u4,u5,u6,u7,u8]) (v0 v1 v2 v3 v4 v5 v6 v7 v8:Value):Bxs (World.setCell (World.setCell (World.setCell (World.setCell (World.setCell (World.setCell (World.setCell (World.setCell (World.setCell W ⟨b,0,none⟩ v0) ⟨b,1,none⟩ v1) ⟨b,2,none⟩ v2) ⟨b,3,none⟩ v3) ⟨b,4,none⟩ v4) ⟨b,5,none⟩ v5) ⟨b,6,none⟩ v6) ⟨b,7,none⟩ v7) ⟨b,8,none⟩ v8) b [v0,v1,v2,v3,v4,v5,v6,v7,v8]:=(((((((((h.set 0 (by simp) v0).set 1 (by simp) v1).set 2 (by simp) v2).set 3 (by simp) v3).set 4 (by simp) v4).set 5 (by simp) v5).set 6 (by simp) v6).set 7 (by simp) v7).set 8 (by simp) v8)
theorem bw9 {V W:World} (h:Bw V W) {b:Nat} (hb:V.heap.size<=b) (v0 v1 v2 v3 v4 v5 v6 v7 v8:Value):Bw V (World.setCell (World.setCell (World.setCell (World.setCell (World.setCell (World.setCell (World.setCell (World.setCell (World.setCell W ⟨b,0,none⟩ v0) ⟨b,1,none⟩ v1) ⟨b,2,none⟩ v2) ⟨b,3,none⟩ v3) ⟨b,4,none⟩ v4) ⟨b,5,none⟩ v5) ⟨b,6,none⟩ v6) ⟨b,7,none⟩ v7) ⟨b,8,none⟩ v8):=(((((((((h.setCell hb v0).setCell hb v1).setCell hb v2).setCell hb v3).setCell hb v4).setCell hb v5).setCell hb v6).setCell hb v7).setCell hb v8)
theorem Bxs.oth9 {W:World} {b g:Nat} {vs:List Value} (h:Bxs W b vs) (hne:b≠g) (v0 v1 v2 v3 v4 v5 v6 v7 v8:Value):Bxs (World.setCell (World.setCell (World.setCell (World.setCell (World.setCell (World.setCell (World.setCell (World.setCell (World.setCell W ⟨g,0,none⟩ v0) ⟨g,1,none⟩ v1) ⟨g,2,none⟩ v2) ⟨g,3,none⟩ v3) ⟨g,4,none⟩ v4) ⟨g,5,none⟩ v5) ⟨g,6,none⟩ v6) ⟨g,7,none⟩ v7) ⟨g,8,none⟩ v8) b vs:=(((((((((h.but ((But.refl g _).setCell 0 v0) hne).but ((But.refl g _).setCell 1 v1) hne).but ((But.refl g _).setCell 2 v2) hne).but ((But.refl g _).setCell 3 v3) hne).but ((But.refl g _).setCell 4 v4) hne).but ((But.refl g _).setCell 5 v5) hne).but ((But.refl g _).setCell 6 v6) hne).but ((But.refl g _).setCell 7 v7) hne).but ((But.refl g _).setCell 8 v8) hne)
theorem Bxs.put14 {W:World} {b:Nat} {u0 u1 u2 u3 u4 u5 u6 u7 u8 u9 u10 u11 u12 u13:Value} (h:Bxs W b [u0,u1,u2,u3,u4,u5,u6,u7,u8,u9,u10,u11,u12,u13]) (v0 v1 v2 v3 v4 v5 v6 v7 v8 v9 v10 v11 v12 v13:Value):Bxs (World.setCell (World.setCell (World.setCell (World.setCell (World.setCell (World.setCell (World.setCell (World.setCell (World.setCell (World.setCell (World.setCell (World.setCell (World.setCell (World.setCell W ⟨b,0,none⟩ v0) ⟨b,1,none⟩ v1) ⟨b,2,none⟩ v2) ⟨b,3,none⟩ v3) ⟨b,4,none⟩ v4) ⟨b,5,none⟩ v5) ⟨b,6,none⟩ v6) ⟨b,7,none⟩ v7) ⟨b,8,none⟩ v8) ⟨b,9,none⟩ v9) ⟨b,10,none⟩ v10) ⟨b,11,none⟩ v11) ⟨b,12,none⟩ v12) ⟨b,13,none⟩ v13) b [v0,v1,v2,v3,v4,v5,v6,v7,v8,v9,v10,v11,v12,v13]:=((((((((((((((h.set 0 (by simp) v0).set 1 (by simp) v1).set 2 (by simp) v2).set 3 (by simp) v3).set 4 (by simp) v4).set 5 (by simp) v5).set 6 (by simp) v6).set 7 (by simp) v7).set 8 (by simp) v8).set 9 (by simp) v9).set 10 (by simp) v10).set 11 (by simp) v11).set 12 (by simp) v12).set 13 (by simp) v13)
theorem bw14 {V W:World} (h:Bw V W) {b:Nat} (hb:V.heap.size<=b) (v0 v1 v2 v3 v4 v5 v6 v7 v8 v9 v10 v11 v12 v13:Value):Bw V (World.setCell (World.setCell (World.setCell (World.setCell (World.setCell (World.setCell (World.setCell (World.setCell (World.setCell (World.setCell (World.setCell (World.setCell (World.setCell (World.setCell W ⟨b,0,none⟩ v0) ⟨b,1,none⟩ v1) ⟨b,2,none⟩ v2) ⟨b,3,none⟩ v3) ⟨b,4,none⟩ v4) ⟨b,5,none⟩ v5) ⟨b,6,none⟩ v6) ⟨b,7,none⟩ v7) ⟨b,8,none⟩ v8) ⟨b,9,none⟩ v9) ⟨b,10,none⟩ v10) ⟨b,11,none⟩ v11) ⟨b,12,none⟩ v12) ⟨b,13,none⟩ v13):=((((((((((((((h.setCell hb v0).setCell hb v1).setCell hb v2).setCell hb v3).setCell hb v4).setCell hb v5).setCell hb v6).setCell hb v7).setCell hb v8).setCell hb v9).setCell hb v10).setCell hb v11).setCell hb v12).setCell hb v13)
def Bwm14 (V W:World) (b:Nat) (v0 v1 v2 v3 v4 v5 v6 v7 v8 v9 v10 v11 v12 v13:Value):Prop:=Bw V (World.setCell (World.setCell (World.setCell (World.setCell (World.setCell (World.setCell (World.setCell (World.setCell (World.setCell (World.setCell (World.setCell (World.setCell (World.setCell (World.setCell W ⟨b,0,none⟩ v0) ⟨b,1,none⟩ v1) ⟨b,2,none⟩ v2) ⟨b,3,none⟩ v3) ⟨b,4,none⟩ v4) ⟨b,5,none⟩ v5) ⟨b,6,none⟩ v6) ⟨b,7,none⟩ v7) ⟨b,8,none⟩ v8) ⟨b,9,none⟩ v9) ⟨b,10,none⟩ v10) ⟨b,11,none⟩ v11) ⟨b,12,none⟩ v12) ⟨b,13,none⟩ v13)
theorem Bw.mark14 {V W:World} {b:Nat} {v0 v1 v2 v3 v4 v5 v6 v7 v8 v9 v10 v11 v12 v13:Value}:Bw V (World.setCell (World.setCell (World.setCell (World.setCell (World.setCell (World.setCell (World.setCell (World.setCell (World.setCell (World.setCell (World.setCell (World.setCell (World.setCell (World.setCell W ⟨b,0,none⟩ v0) ⟨b,1,none⟩ v1) ⟨b,2,none⟩ v2) ⟨b,3,none⟩ v3) ⟨b,4,none⟩ v4) ⟨b,5,none⟩ v5) ⟨b,6,none⟩ v6) ⟨b,7,none⟩ v7) ⟨b,8,none⟩ v8) ⟨b,9,none⟩ v9) ⟨b,10,none⟩ v10) ⟨b,11,none⟩ v11) ⟨b,12,none⟩ v12) ⟨b,13,none⟩ v13)=Bwm14 V W b v0 v1 v2 v3 v4 v5 v6 v7 v8 v9 v10 v11 v12 v13:=rfl
theorem Bxs.dr {W:World} {b:Nat} {vs:List Value} (h:Bxs W b vs):Bxs W.drew b vs:=⟨fun j v hv=>h.1 j v hv,fun o=>h.2 o⟩
theorem tb2 (w:World) (vs us:List Value) (T U:TypeId) (h:∃ v r,vs=v :: r):Bxs ((w.alloc (.cells vs.toArray T)).alloc (.cells us.toArray U)).drew w.heap.size vs/\Bxs ((w.alloc (.cells vs.toArray T)).alloc (.cells us.toArray U)).drew (w.heap.size+1) us/\Bw w ((w.alloc (.cells vs.toArray T)).alloc (.cells us.toArray U)).drew:=by
 obtain ⟨v,r,rfl⟩:=h
 refine ⟨((Bxs.new w (v :: r) T).below (box1 _ _) (Bxs.new w (v :: r) T).lt).dr,?_,(((show Bw w w from Below.refl _ _).alloc _).alloc _).drew⟩
 have:=Bxs.new (w.alloc (.cells (v :: r).toArray T)) us U
 rw [World.size_alloc] at this
 exact this.dr
theorem tb1 (w:World) (vs:List Value) (T:TypeId):Bxs (w.alloc (.cells vs.toArray T)).drew w.heap.size vs/\Bw w (w.alloc (.cells vs.toArray T)).drew :=
 ⟨(Bxs.new w vs T).dr,((show Bw w w from Below.refl _ _).alloc _).drew⟩
theorem Bxs.h5 {W : World} {b : Nat} {v0 v1 v2 v3 v4 : Value} {r : List Value} (h : Bxs W b (v0 :: v1 :: v2 :: v3 :: v4 :: r)) : W.cell? ⟨b, 0, none⟩ = some v0 /\ W.cell? ⟨b, 1, none⟩ = some v1 /\ W.cell? ⟨b, 2, none⟩ = some v2 /\ W.cell? ⟨b, 3, none⟩ = some v3 /\ W.cell? ⟨b, 4, none⟩ = some v4 :=
 ⟨h.c 0 rfl, h.c 1 rfl, h.c 2 rfl, h.c 3 rfl, h.c 4 rfl⟩
theorem Bxs.h2 {W : World} {b : Nat} {v0 v1 : Value} {r : List Value} (h : Bxs W b (v0 :: v1 :: r)) : W.cell? ⟨b, 0, none⟩ = some v0 /\ W.cell? ⟨b, 1, none⟩ = some v1 :=
 ⟨h.c 0 rfl, h.c 1 rfl⟩
theorem Bxs.h11 {W : World} {b : Nat} {v0 v1 v2 v3 v4 v5 v6 v7 v8 v9 v10 : Value} {r : List Value} (h : Bxs W b (v0 :: v1 :: v2 :: v3 :: v4 :: v5 :: v6 :: v7 :: v8 :: v9 :: v10 :: r)) : W.cell? ⟨b, 0, none⟩ = some v0 /\ W.cell? ⟨b, 1, none⟩ = some v1 /\ W.cell? ⟨b, 2, none⟩ = some v2 /\ W.cell? ⟨b, 3, none⟩ = some v3 /\ W.cell? ⟨b, 4, none⟩ = some v4 /\ W.cell? ⟨b, 5, none⟩ = some v5 /\ W.cell? ⟨b, 6, none⟩ = some v6 /\ W.cell? ⟨b, 7, none⟩ = some v7 /\ W.cell? ⟨b, 8, none⟩ = some v8 /\ W.cell? ⟨b, 9, none⟩ = some v9 /\ W.cell? ⟨b, 10, none⟩ = some v10 :=
 ⟨h.c 0 rfl, h.c 1 rfl, h.c 2 rfl, h.c 3 rfl, h.c 4 rfl, h.c 5 rfl, h.c 6 rfl, h.c 7 rfl, h.c 8 rfl, h.c 9 rfl, h.c 10 rfl⟩
theorem Bxs.h8 {W : World} {b : Nat} {v0 v1 v2 v3 v4 v5 v6 v7 : Value} {r : List Value} (h : Bxs W b (v0 :: v1 :: v2 :: v3 :: v4 :: v5 :: v6 :: v7 :: r)) : W.cell? ⟨b, 0, none⟩ = some v0 /\ W.cell? ⟨b, 1, none⟩ = some v1 /\ W.cell? ⟨b, 2, none⟩ = some v2 /\ W.cell? ⟨b, 3, none⟩ = some v3 /\ W.cell? ⟨b, 4, none⟩ = some v4 /\ W.cell? ⟨b, 5, none⟩ = some v5 /\ W.cell? ⟨b, 6, none⟩ = some v6 /\ W.cell? ⟨b, 7, none⟩ = some v7 :=
 ⟨h.c 0 rfl, h.c 1 rfl, h.c 2 rfl, h.c 3 rfl, h.c 4 rfl, h.c 5 rfl, h.c 6 rfl, h.c 7 rfl⟩
theorem Bxs.h3 {W : World} {b : Nat} {v0 v1 v2 : Value} {r : List Value} (h : Bxs W b (v0 :: v1 :: v2 :: r)) : W.cell? ⟨b, 0, none⟩ = some v0 /\ W.cell? ⟨b, 1, none⟩ = some v1 /\ W.cell? ⟨b, 2, none⟩ = some v2 :=
 ⟨h.c 0 rfl, h.c 1 rfl, h.c 2 rfl⟩
theorem Bxs.h14 {W : World} {b : Nat} {v0 v1 v2 v3 v4 v5 v6 v7 v8 v9 v10 v11 v12 v13 : Value} {r : List Value} (h : Bxs W b (v0 :: v1 :: v2 :: v3 :: v4 :: v5 :: v6 :: v7 :: v8 :: v9 :: v10 :: v11 :: v12 :: v13 :: r)) : W.cell? ⟨b, 0, none⟩ = some v0 /\ W.cell? ⟨b, 1, none⟩ = some v1 /\ W.cell? ⟨b, 2, none⟩ = some v2 /\ W.cell? ⟨b, 3, none⟩ = some v3 /\ W.cell? ⟨b, 4, none⟩ = some v4 /\ W.cell? ⟨b, 5, none⟩ = some v5 /\ W.cell? ⟨b, 6, none⟩ = some v6 /\ W.cell? ⟨b, 7, none⟩ = some v7 /\ W.cell? ⟨b, 8, none⟩ = some v8 /\ W.cell? ⟨b, 9, none⟩ = some v9 /\ W.cell? ⟨b, 10, none⟩ = some v10 /\ W.cell? ⟨b, 11, none⟩ = some v11 /\ W.cell? ⟨b, 12, none⟩ = some v12 /\ W.cell? ⟨b, 13, none⟩ = some v13 :=
 ⟨h.c 0 rfl, h.c 1 rfl, h.c 2 rfl, h.c 3 rfl, h.c 4 rfl, h.c 5 rfl, h.c 6 rfl, h.c 7 rfl, h.c 8 rfl, h.c 9 rfl, h.c 10 rfl, h.c 11 rfl, h.c 12 rfl, h.c 13 rfl⟩
theorem Bxs.h10 {W : World} {b : Nat} {v0 v1 v2 v3 v4 v5 v6 v7 v8 v9 : Value} {r : List Value} (h : Bxs W b (v0 :: v1 :: v2 :: v3 :: v4 :: v5 :: v6 :: v7 :: v8 :: v9 :: r)) : W.cell? ⟨b, 0, none⟩ = some v0 /\ W.cell? ⟨b, 1, none⟩ = some v1 /\ W.cell? ⟨b, 2, none⟩ = some v2 /\ W.cell? ⟨b, 3, none⟩ = some v3 /\ W.cell? ⟨b, 4, none⟩ = some v4 /\ W.cell? ⟨b, 5, none⟩ = some v5 /\ W.cell? ⟨b, 6, none⟩ = some v6 /\ W.cell? ⟨b, 7, none⟩ = some v7 /\ W.cell? ⟨b, 8, none⟩ = some v8 /\ W.cell? ⟨b, 9, none⟩ = some v9 :=
 ⟨h.c 0 rfl, h.c 1 rfl, h.c 2 rfl, h.c 3 rfl, h.c 4 rfl, h.c 5 rfl, h.c 6 rfl, h.c 7 rfl, h.c 8 rfl, h.c 9 rfl⟩
theorem Bxs.h9 {W : World} {b : Nat} {v0 v1 v2 v3 v4 v5 v6 v7 v8 : Value} {r : List Value} (h : Bxs W b (v0 :: v1 :: v2 :: v3 :: v4 :: v5 :: v6 :: v7 :: v8 :: r)) : W.cell? ⟨b, 0, none⟩ = some v0 /\ W.cell? ⟨b, 1, none⟩ = some v1 /\ W.cell? ⟨b, 2, none⟩ = some v2 /\ W.cell? ⟨b, 3, none⟩ = some v3 /\ W.cell? ⟨b, 4, none⟩ = some v4 /\ W.cell? ⟨b, 5, none⟩ = some v5 /\ W.cell? ⟨b, 6, none⟩ = some v6 /\ W.cell? ⟨b, 7, none⟩ = some v7 /\ W.cell? ⟨b, 8, none⟩ = some v8 :=
 ⟨h.c 0 rfl, h.c 1 rfl, h.c 2 rfl, h.c 3 rfl, h.c 4 rfl, h.c 5 rfl, h.c 6 rfl, h.c 7 rfl, h.c 8 rfl⟩
end Go.Proofs.YtbccbgonlmkpkaaGreatDoor
