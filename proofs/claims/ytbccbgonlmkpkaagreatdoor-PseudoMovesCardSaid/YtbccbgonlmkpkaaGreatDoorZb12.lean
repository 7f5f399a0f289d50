/- What the theorem needs, piece Zb12. -/
import Derived.Laws.IdiomCopy
import Derived.Test.YtbccbgonlmkpkaaGreatDoorZb11
set_option linter.unusedSimpArgs false
set_option linter.unusedVariables false
set_option maxRecDepth 100000
set_option maxHeartbeats 16000000
namespace Go.Proofs.YtbccbgonlmkpkaaGreatDoor
open Go.RowKit
def findR (n:Nat):Code->Option Code
 | .region m o d=>if m=n then some (.region m o d) else none
 | .seq a b=>match findR n a with
  | some c=>some c
  | none=>findR n b
 | .block _ c=>findR n c
 | .loop c=>findR n c
 | .scope c=>findR n c
 | .cond _ a b=>match findR n a with
  | some c=>some c
  | none=>findR n b
 | _=>none
noncomputable def svR (n:Nat):Code:=((Tryz.f168.body.bind (findR n)).getD .skip)
theorem load18 {W:World} {B:Nat} {F R:Int} {S:Bool->Nat} {K:Bool->Nat->Nat} (h:Fld W B F R S K):(loadCellsFrom ⟨B,0,none⟩ 0 18 #[]).run Tryz.prog W=.ok (fieldC F R S K).toArray W:=by
 have:=run_loadCells_list (P:=Tryz.prog) (w:=W) ⟨B,0,none⟩ (fieldC F R S K) (fun j v hv=>by
  have hj:j<18:=(List.getElem?_eq_some_iff.1 hv).1
  have hc:=h.cells j hj
  have hadd:(⟨B,0,none⟩:Addr).add j=⟨B,j,none⟩:=by unfold Addr.add;split <;> simp_all
  rw [hadd,hc]
  rw [<- hv,List.getElem?_eq_getElem hj])
 exact this
theorem store18 {W:World} {T:Nat} {F R:Int} {S:Bool->Nat} {K:Bool->Nat->Nat} (rc:∀ o,o<18->W.cell? ⟨T,o,none⟩=some (zeroF o)) (rf:∀ o,W.frozen? ⟨T,o,none⟩=false):(storeCells ⟨T,0,none⟩ (fieldC F R S K) 0).run Tryz.prog W=.ok () (W.setCells T 0 (fieldC F R S K)):=by
 have:=run_storeCells_cells (P:=Tryz.prog) T 0 (fieldC F R S K) 0 W (fun j hj=>by
  have:=rc j hj
  simp only [Nat.zero_add]
  rw [this];rfl) (fun j _=>rf _) (fun v hv=>by
  unfold fieldC at hv
  simp only [List.mem_cons,List.not_mem_nil,or_false] at hv
  rcases hv with rfl | rfl | rfl | rfl | rfl | rfl | rfl | rfl | rfl | rfl | rfl | rfl | rfl | rfl | rfl | rfl | rfl | rfl <;> rfl)
 exact this
theorem setCells_putL (T:Nat):∀ (vs:List Value) (W:World) (o:Nat),W.setCells T o vs=putL T W o vs:=by
 intro vs
 induction vs with
 | nil=>intro W o;rfl
 | cons v vs ih=>intro W o;exact ih _ _
theorem sz18 (w:World):(sizeOf 209).run Tryz.prog w=.ok 18 w:=by kernel_rfl
theorem ag18 (w:World):(isAgg 209).run Tryz.prog w=.ok true w:=by kernel_rfl
theorem loadAt18 {B:Nat} {C:Array Value} {W:World} (hld:(loadCellsFrom ⟨B,0,none⟩ 0 18 #[]).run Tryz.prog W=.ok C W):(Instr.loadAt 209 (.pointer (some ⟨B,0,none⟩))).run Tryz.prog W=.ok (.agg C) W:=by
 simp only [Instr.loadAt,Instr.sureAddr,loadVar,loadCells,Sem.run_bind,Sem.run_pure,Result.andThen,ag18,sz18,if_true,hld]
theorem storeAt18 {T:Nat} {L:List Value} {W W2:World} (hsz:L.length=18) (hst:(storeCells ⟨T,0,none⟩ L 0).run Tryz.prog W=.ok () W2):(Instr.storeAt 209 (.pointer (some ⟨T,0,none⟩)) (.agg L.toArray)).run Tryz.prog W=.ok () W2:=by
 simp only [List.size_toArray,Instr.storeAt,Instr.sureAddr,storeVar,Value.cells,Sem.run_bind,Sem.run_pure,Result.andThen,sz18,hsz,ne_eq,not_true_eq_false,if_false,hst]
theorem wp_load {P:Program} {o:Oper} {a:Act} {W:World} {K:Act->World->Prop} {Q:Exit->Act->World->Prop} {t:TypeId} {x:Operand} {v:Value} (ho:o.op=.load t x) (h:(Instr.loadAt t (a.eval x)).run P W=.ok v W) (hk:K (a.put o.dst v) W):o.wp P a W K Q:=by
 have e:(execOp a.eval o).run P W=.ok (.value v) W:=by
  unfold execOp
  rw [ho]
  simp only [Sem.run_bind,Sem.run_pure,h,Result.andThen]
 unfold Oper.wp
 rw [e]
 exact hk
theorem wp_build {P:Program} {o:Oper} {a:Act} {W:World} {K:Act->World->Prop} {Q:Exit->Act->World->Prop} {t:TypeId} {v:Value} (ho:o.op=.build t #[]) (h:(Instr.build t #[]).run P W=.ok v W) (hk:K (a.put o.dst v) W):o.wp P a W K Q:=by
 have e:(execOp a.eval o).run P W=.ok (.value v) W:=by
  unfold execOp
  rw [ho]
  simp [h,Result.andThen]
 unfold Oper.wp
 rw [e]
 exact hk
theorem wp_store {P:Program} {o:Oper} {a:Act} {W W2:World} {K:Act->World->Prop} {Q:Exit->Act->World->Prop} {t:TypeId} {x y:Operand} (ho:o.op=.store t x y) (h:(Instr.storeAt t (a.eval x) (a.eval y)).run P W=.ok () W2) (hk:K (a.put o.dst undef) W2):o.wp P a W K Q:=by
 have e:(execOp a.eval o).run P W=.ok .skip W2:=by
  unfold execOp
  rw [ho]
  simp only [Sem.run_bind,Sem.run_pure,h,Result.andThen]
 unfold Oper.wp
 rw [e]
 exact hk
theorem wp_assign {P:Program} {o:Oper} {a:Act} {W:World} {K:Act->World->Prop} {Q:Exit->Act->World->Prop} {x:Operand} (ho:o.op=.assign x) (hk:K (a.put o.dst (a.eval x)) W):o.wp P a W K Q:=by
 have e:(execOp a.eval o).run P W=.ok (.value (a.eval x)) W:=by
  unfold execOp
  rw [ho]
  rfl
 unfold Oper.wp
 rw [e]
 exact hk
theorem build18 (w:World):(Instr.build 209 #[]).run Tryz.prog w=.ok (.agg (fieldC 0 0 (fun _=>0) (fun _ _=>0)).toArray) w:=by kernel_rfl
theorem reg_yes {T B:Nat} {L:List Value} {W W2:World} {x0 x1 x3 x5 x6 x7 x8 x9 x10 x11 x12 x13 x14 x15 x16 x17 x18 x19 x20 x21 x22 x23 x24 x25 x26 x27 x28 x29 x30 x31 x32 x33 x34 x35 x36 x37 x38 x39 x40:Value} (hsz:L.length=18) (hld:(loadCellsFrom ⟨B,0,none⟩ 0 18 #[]).run Tryz.prog W=.ok L.toArray W) (hst:(storeCells ⟨T,0,none⟩ L 0).run Tryz.prog W=.ok () W2) {K':Act->World->Prop} {Q':Exit->Act->World->Prop}
  (hK:K' ⟨#[x0,x1,.pointer (some ⟨T,0,none⟩),.int .i64 0,.pointer (some ⟨B,0,none⟩),x5,x6,x7,x8,x9,x10,x11,x12,x13,x14,x15,x16,x17,x18,x19,x20,x21,x22,x23,x24,x25,x26,x27,x28,x29,x30,x31,x32,x33,x34,x35,x36,x37,x38,x39,.agg L.toArray],[]⟩ W2) :
  Code.wp Tryz.prog (svR 14) (Exit.then K' Q') ⟨#[x0,x1,.pointer (some ⟨T,0,none⟩),x3,.pointer (some ⟨B,0,none⟩),x5,x6,x7,x8,x9,x10,x11,x12,x13,x14,x15,x16,x17,x18,x19,x20,x21,x22,x23,x24,x25,x26,x27,x28,x29,x30,x31,x32,x33,x34,x35,x36,x37,x38,x39,x40],[]⟩ W:=by
 conv=>arg 2;whnf
 refine wp_region_lit ?_
 refine BigFrame.wpList_want (by kernel_rfl) ?_
 intro K1 hK1
 refine wp_load rfl (loadAt18 hld) ?_
 refine hK1 _ _ ?_
 refine BigFrame.wpList_want (by kernel_rfl) ?_
 intro K2 hK2
 refine wp_store rfl (storeAt18 hsz hst) ?_
 refine hK2 _ _ ?_
 refine BigFrame.wpList_want (by kernel_rfl) ?_
 intro K3 hK3
 refine wp_assign rfl ?_
 refine hK3 _ _ ?_
 exact wpList_nil hK
theorem reg_or {T B:Nat} {L:List Value} {W W2:World} {x0 x1 x3 x5 x6 x7 x8 x9 x10 x11 x12 x13 x14 x15 x16 x17 x18 x19 x20 x21 x22 x23 x24 x25 x26 x27 x28 x29 x30 x31 x32 x33 x34 x35 x36 x37 x38 x39 x40:Value} (hsz:L.length=18) (hbd:∀ w,(Instr.build 209 #[]).run Tryz.prog w=.ok (.agg L.toArray) w) (hst:(storeCells ⟨T,0,none⟩ L 0).run Tryz.prog W=.ok () W2) {K':Act->World->Prop} {Q':Exit->Act->World->Prop}
  (hK:K' ⟨#[x0,x1,.pointer (some ⟨T,0,none⟩),.int .i64 2,.pointer (some ⟨B,0,none⟩),x5,x6,x7,x8,x9,x10,x11,x12,x13,x14,x15,x16,x17,x18,x19,x20,x21,x22,x23,x24,x25,x26,.agg L.toArray,x28,x29,x30,x31,x32,x33,x34,x35,x36,x37,x38,x39,x40],[]⟩ W2) :
  Code.wp Tryz.prog (svR 9) (Exit.then K' Q') ⟨#[x0,x1,.pointer (some ⟨T,0,none⟩),x3,.pointer (some ⟨B,0,none⟩),x5,x6,x7,x8,x9,x10,x11,x12,x13,x14,x15,x16,x17,x18,x19,x20,x21,x22,x23,x24,x25,x26,x27,x28,x29,x30,x31,x32,x33,x34,x35,x36,x37,x38,x39,x40],[]⟩ W:=by
 conv=>arg 2;whnf
 refine wp_region_lit ?_
 refine BigFrame.wpList_want (by kernel_rfl) ?_
 intro K1 hK1
 refine wp_build rfl (hbd W) ?_
 refine hK1 _ _ ?_
 refine BigFrame.wpList_want (by kernel_rfl) ?_
 intro K2 hK2
 refine wp_store rfl (storeAt18 hsz hst) ?_
 refine hK2 _ _ ?_
 refine BigFrame.wpList_want (by kernel_rfl) ?_
 intro K3 hK3
 refine wp_assign rfl ?_
 refine hK3 _ _ ?_
 exact wpList_nil hK
theorem reg_no {T:Nat} {L:List Value} {W W2:World} {x0 x1 x3 x4 x5 x6 x7 x8 x9 x10 x11 x12 x13 x14 x15 x16 x17 x18 x19 x20 x21 x22 x23 x24 x25 x26 x27 x28 x29 x30 x31 x32 x33 x34 x35 x36 x37 x38 x39 x40:Value} (hsz:L.length=18) (hbd:∀ w,(Instr.build 209 #[]).run Tryz.prog w=.ok (.agg L.toArray) w) (hst:(storeCells ⟨T,0,none⟩ L 0).run Tryz.prog W=.ok () W2) {K':Act->World->Prop} {Q':Exit->Act->World->Prop}
  (hK:K' ⟨#[x0,x1,.pointer (some ⟨T,0,none⟩),.int .i64 2,x4,x5,x6,x7,x8,x9,.agg L.toArray,x11,x12,x13,x14,x15,x16,x17,x18,x19,x20,x21,x22,x23,x24,x25,x26,x27,x28,x29,x30,x31,x32,x33,x34,x35,x36,x37,x38,x39,x40],[]⟩ W2) :
  Code.wp Tryz.prog (svR 2) (Exit.then K' Q') ⟨#[x0,x1,.pointer (some ⟨T,0,none⟩),x3,x4,x5,x6,x7,x8,x9,x10,x11,x12,x13,x14,x15,x16,x17,x18,x19,x20,x21,x22,x23,x24,x25,x26,x27,x28,x29,x30,x31,x32,x33,x34,x35,x36,x37,x38,x39,x40],[]⟩ W:=by
 conv=>arg 2;whnf
 refine wp_region_lit ?_
 refine BigFrame.wpList_want (by kernel_rfl) ?_
 intro K1 hK1
 refine wp_build rfl (hbd W) ?_
 refine hK1 _ _ ?_
 refine BigFrame.wpList_want (by kernel_rfl) ?_
 intro K2 hK2
 refine wp_store rfl (storeAt18 hsz hst) ?_
 refine hK2 _ _ ?_
 refine BigFrame.wpList_want (by kernel_rfl) ?_
 intro K3 hK3
 refine wp_assign rfl ?_
 refine hK3 _ _ ?_
 exact wpList_nil hK
end Go.Proofs.YtbccbgonlmkpkaaGreatDoor
namespace Go.Proofs.YtbccbgonlmkpkaaGreatDoor
open Go.RowKit
theorem aSurvey_no (F R:Int) (l:List Int) (A:Option Addr) (c:Nat) (h:¬ vbd F R l) (w:World) (hlen:l.length<=100000) (hA:RdP w w.heap.size A l c) :
  Calls Tryz.prog 168 #[.agg #[.int .i64 F,.int .i64 R,.slice A l.length c]] w fun e w'=>e=.returned (.tuple #[fieldV 0 0 zS zK,.int .i64 2])/\Below w.heap.size w w':=by
 have HV:=Lib.hid (fun w hA=>bValid_no F R l A c h w hlen hA)
 clear h
 go_enter Tryz.func168,Tryz.ntmps168
 go_wp2_with fail
 refine (HV.out _ ?_).mono ?_
 ·exact (hA.below (after1 (box1 _ _))).grow (by simp;omega)
 rintro e w1 ⟨rfl,hb⟩
 have hz:=zero_cells (w.alloc (.cells #[.int .i64 F,.int .i64 R,.slice A l.length c] 97))
 have rc:∀ o,o<18->w1.cell? ⟨w.heap.size+1,o,none⟩=some (zeroF o):=fun o ho=>(hb.cell (p:=⟨w.heap.size+1,o,none⟩) (by simp)).trans (by have:=(hz o ho).1;rw [World.size_alloc] at this;exact this)
 have rf:∀ o,w1.frozen? ⟨w.heap.size+1,o,none⟩=false:=fun o=>(hb.frozen (p:=⟨w.heap.size+1,o,none⟩) (by simp)).trans (by simp [go_sem])
 have hB:=after2 hb
 have HST:=Lib.hid (store18 (F:=0) (R:=0) (S:=zS) (K:=zK) rc rf)
 have hF:=fld_put (F:=0) (R:=0) (S:=zS) (K:=zK) (fun j (hj:j<18)=>(⟨_,rc j hj⟩:∃ u,w1.cell? ⟨w.heap.size+1,j,none⟩=some u))
 have hL:=hB.trans ((putL_but (w.heap.size+1) (fieldC 0 0 zS zK) w1 0).below (by omega) hB.size)
 rw [setCells_putL] at HST
 have HF:=Lib.hid hF
 generalize putL (w.heap.size+1) w1 0 (fieldC 0 0 zS zK)=W2 at *
 clear hz hb hA rc rf hB hF
 go_upto_region 2 with fail
 refine reg_no (L:=fieldC 0 0 zS zK) rfl build18 HST.out ?_
 go_wp2
 refine bodyPost_ret (v:=.tuple #[fieldV 0 0 zS zK,.int .i64 2]) ?_ rfl ⟨rfl,hL⟩
 exact res18 (fn:=Tryz.f168) (p:=2) (u:=3) rfl rfl HF.out
end Go.Proofs.YtbccbgonlmkpkaaGreatDoor
namespace Go.Proofs.YtbccbgonlmkpkaaGreatDoor
open Go.RowKit
theorem aSurvey_yes (F R:Int) (l:List Int) (A:Option Addr) (c:Nat) (h:vbd F R l) (hor:orA l=true) (w:World) (hA:RdP w w.heap.size A l c) :
  Calls Tryz.prog 168 #[.agg #[.int .i64 F,.int .i64 R,.slice A l.length c]] w fun e w'=>e=.returned (.tuple #[fieldV F R (sS l) (kS l),.int .i64 0])/\Below w.heap.size w w':=by
 have HV:=Lib.hid (fun w hA=>bValid_yes F R l A c h w hA)
 have hlen:l.length<=64:=by have:=(vsz_mul h.1).2;have:=h.2.1;omega
 have HP:=Lib.hid h.2.2
 have HOR:=Lib.hid hor
 rw [<- Sn_all l,<- Kn_all l]
 clear h hor
 go_enter Tryz.func168,Tryz.ntmps168
 go_wp2_with fail
 refine (HV.out _ ?_).mono ?_
 ·exact (hA.below (after1 (box1 _ _))).grow (by simp;omega)
 rintro e w1 ⟨rfl,hb⟩
 have hz:=zero_cells (w.alloc (.cells #[.int .i64 F,.int .i64 R,.slice A l.length c] 97))
 have hs:=hb.size
 simp only [World.size_alloc] at hs
 obtain ⟨V,hV⟩:∃ V,w1.alloc (.cells #[.int .i64 F,.int .i64 R,.int .u64 0,.int .u64 0,.int .u64 0,.int .u64 0,.int .u64 0,.int .u64 0,.int .u64 0,.int .u64 0,.int .u64 0,.int .u64 0,.int .u64 0,.int .u64 0,.int .u64 0,.int .u64 0,.int .u64 0,.int .u64 0] 209)=V:=⟨_,rfl⟩
 have c0:=hb.cell (p:=⟨w.heap.size,0,none⟩) (by simp;omega)
 have c1:=hb.cell (p:=⟨w.heap.size,1,none⟩) (by simp;omega)
 have c2:=hb.cell (p:=⟨w.heap.size,2,none⟩) (by simp;omega)
 simp [go_sem] at c0 c1 c2
 have d2:=alive (.cells #[.int .i64 F,.int .i64 R,.int .u64 0,.int .u64 0,.int .u64 0,.int .u64 0,.int .u64 0,.int .u64 0,.int .u64 0,.int .u64 0,.int .u64 0,.int .u64 0,.int .u64 0,.int .u64 0,.int .u64 0,.int .u64 0,.int .u64 0,.int .u64 0] 209) c2
 have rc:∀ o,o<18->V.cell? ⟨w.heap.size+1,o,none⟩=some (zeroF o):=fun o ho=>by
  rw [<- hV]
  refine alive _ ((hb.cell (p:=⟨w.heap.size+1,o,none⟩) (by simp)).trans ?_)
  have:=(hz o ho).1
  rw [World.size_alloc] at this
  exact this
 have rf:∀ o,V.frozen? ⟨w.heap.size+1,o,none⟩=false:=fun o=>by
  rw [<- hV]
  exact ((box1 w1 _).frozen (p:=⟨w.heap.size+1,o,none⟩) (by simp;omega)).trans ((hb.frozen (p:=⟨w.heap.size+1,o,none⟩) (by simp)).trans (by simp [go_sem]))
 have hB:Below w.heap.size w V:=by rw [<- hV];exact (after2 hb).alloc (by omega) _
 have hF0:FldF V w1.heap.size F R (Sn l 0) (Kn l 0):=by
  rw [<- hV]
  exact ⟨Fld.new w1 F R zS zK,fun o=>by simp [go_sem]⟩
 have hVs:V.heap.size=w1.heap.size+1:=by rw [<- hV];simp
 have hAV:=hA.below hB
 clear hz hb hA
 have HVV:=Lib.hid hV
 clear hV
 go_wp2_with fail
 rw [HVV.out] at d2 ⊢
 clear HVV
 go_loopw [3,5,6,17] (fun s3 _ _ i wr=>∃ k:Nat,k<=l.length/\i=.int .i64 k/\s3=.int .i64 0/\FldF wr w1.heap.size F R (Sn l k) (Kn l k)/\ButS w1.heap.size V wr/\Hid (∀ j,j<k->orB (l[j]?.getD 0)=true)) (fun _ _ _ i _=>l.length - (intOf i).toNat)
 case atStart=>exact ⟨0,by omega,rfl,rfl,hF0,ButS.refl _ _,Lib.hid (fun j hj=>by omega)⟩
 case round =>
  obtain ⟨k,hk,rfl,rfl,hF,hBu,HO⟩:=hrel
  have rc2:∀ o,o<18->wr.cell? ⟨w.heap.size+1,o,none⟩=some (zeroF o):=fun o ho=>hBu.cell (rc o ho) (by simp;omega)
  have rf2:∀ o,wr.frozen? ⟨w.heap.size+1,o,none⟩=false:=fun o=>by
   have e:=hBu.2.2.2.2 (w.heap.size+1) (by omega) (by omega)
   have:=rf o
   simp only [World.frozen?,e] at this ⊢
   exact this
  have hBw:Below w.heap.size w wr:=hB.trans (hBu.below (by omega) (by omega))
  have HE:=Lib.hid (fun j (hj:j<18)=>(⟨_,rc2 j hj⟩:∃ u,wr.cell? ⟨w.heap.size+1,j,none⟩=some u))
  have hRD:=hAV.below (hBu.below (by omega) (by omega))
  clear rc rf hF0 hAV c0 c1 c2 hB
  by_cases hlt:k<l.length
  ·obtain ⟨ad,rfl,hbl,hc⟩:=hRD.at_ hlt
   have hVk:=HP.out k hlt
   have hno:orB (l[k]?.getD 0)=false->Hid (orA l=false):=fun h=>Lib.hid (orA_no hlt h)
   have hyes:orB (l[k]?.getD 0)=true->Hid (∀ j,j<k+1->orB (l[j]?.getD 0)=true):=fun h=>Lib.hid (fun j hj=>by
    by_cases e:j=k
    ·rw [e];exact h
    ·exact HO.out j (by omega))
   have HNO:=Lib.hid hno
   have HYES:=Lib.hid hyes
   clear hRD hno hyes
   obtain ⟨n,hn⟩:∃ n,l[k]?.getD 0=n:=⟨_,rfl⟩
   rw [hn] at hc hVk HNO HYES
   have HN:=Lib.hid hn
   clear hn
   unfold okP at hVk
   by_cases h0:n=0
   ·have hz:(n == 0)=true:=by simp [h0]
    have HK:=HYES.out (by rw [h0];rfl)
    have hF2:=fld_same hF (HN.out.trans h0)
    clear h0 rc2 rf2
    go_wp2
    go_roundw
    case rel=>exact ⟨k+1,by omega,by go_num,rfl,hF2,hBu,HK⟩
    case measure=>simp [intOf];omega
   ·have hz:(n == 0)=false:=beq_eq_false_iff_ne.2 h0
    have ho:orB n=orthB n:=by unfold orB;simp [h0]
    rw [ho] at HNO HYES
    have HR:=Lib.hid (orth_any n (by omega))
    cases hb:orthB n
    ·rw [hb] at HR
     have HK:=HNO.out hb
     rw [HOR.out] at HK
     cases HK.out
    ·rw [hb] at HR
     have HK:=HYES.out hb
     have hr6:-6<=n/\n<=6:=by unfold orthB at hb;simp at hb;omega
     clear hb ho rc2 rf2
     by_cases hneg:n<0
     ·obtain ⟨j,rfl⟩:∃ j:Nat,n=-(j:Int):=⟨(-n).toNat,by omega⟩
      have hw:IntKind.i8.wrap (j:Int)=(j:Int):=IntWalk.i8_in _ (by omega)
      have HADD:=Lib.hid (fun W h1 h2 f1 f2=>aAdd_any w1.heap.size 10 j k (Sn l k true) (Kn l k true j) (by omega) (by omega) (Sn_lt (by omega) _) (Kn_lt (by omega) _ _) W h1 h2 f1 f2)
      go_wp2_with fail
      refine (HR.out _).mono ?_
      rintro e w2 ⟨rfl,rfl⟩
      go_wp2_with fail
      refine (HADD.out _ (hF.1.2.1 true) (hF.1.2.2 true j (by omega)) (hF.2 _) (hF.2 _)).mono ?_
      rintro e w2 ⟨rfl,ha⟩
      have hF2:=fld_add (j:=j) (bl:=true) hF (by omega) (by omega) (HN.out.trans (by simp [sdN])) ha
      have hBu2:=hBu.trans ha.1
      clear ha
      go_wp2
      go_roundw
      case rel=>exact ⟨k+1,by omega,by go_num,rfl,hF2,hBu2,HK⟩
      case measure=>simp [intOf];omega
     ·obtain ⟨j,rfl⟩:∃ j:Nat,n=(j:Int):=⟨n.toNat,by omega⟩
      have HADD:=Lib.hid (fun W h1 h2 f1 f2=>aAdd_any w1.heap.size 2 j k (Sn l k false) (Kn l k false j) (by omega) (by omega) (Sn_lt (by omega) _) (Kn_lt (by omega) _ _) W h1 h2 f1 f2)
      go_wp2_with fail
      refine (HR.out _).mono ?_
      rintro e w2 ⟨rfl,rfl⟩
      go_wp2_with fail
      refine (HADD.out _ (hF.1.2.1 false) (hF.1.2.2 false j (by omega)) (hF.2 _) (hF.2 _)).mono ?_
      rintro e w2 ⟨rfl,ha⟩
      have hF2:=fld_add (j:=j) (bl:=false) hF (by omega) (by omega) (HN.out.trans (by simp [sdN])) ha
      have hBu2:=hBu.trans ha.1
      clear ha
      go_wp2
      go_roundw
      case rel=>exact ⟨k+1,by omega,by go_num,rfl,hF2,hBu2,HK⟩
      case measure=>simp [intOf];omega
  ·have hkl:k=l.length:=by omega
   subst hkl
   have HLD:=Lib.hid (load18 hF.1)
   have HST:=Lib.hid (store18 (F:=F) (R:=R) (S:=Sn l l.length) (K:=Kn l l.length) rc2 rf2)
   rw [setCells_putL] at HST
   have hF3:=fld_put (F:=F) (R:=R) (S:=Sn l l.length) (K:=Kn l l.length) HE.out
   have hL:=hBw.trans ((putL_but (w.heap.size+1) (fieldC F R (Sn l l.length) (Kn l l.length)) wr 0).below (B:=w.heap.size) (by omega) hBw.size)
   have HF3:=Lib.hid hF3
   generalize putL (w.heap.size+1) wr 0 (fieldC F R (Sn l l.length) (Kn l l.length))=W2 at *
   clear hRD rc2 rf2 hF hF3 hBu
   go_upto_region 14 with fail
   refine reg_yes (L:=fieldC F R (Sn l l.length) (Kn l l.length)) rfl HLD.out HST.out ?_
   go_wp2
   refine bodyPost_ret (v:=.tuple #[fieldV F R (Sn l l.length) (Kn l l.length),.int .i64 0]) ?_ rfl ⟨rfl,hL⟩
   exact res18 (fn:=Tryz.f168) (p:=2) (u:=3) rfl rfl HF3.out
end Go.Proofs.YtbccbgonlmkpkaaGreatDoor
namespace Go.Proofs.YtbccbgonlmkpkaaGreatDoor
open Go.RowKit
theorem aSurvey_or (F R:Int) (l:List Int) (A:Option Addr) (c:Nat) (h:vbd F R l) (hor:orA l=false) (w:World) (hA:RdP w w.heap.size A l c) :
  Calls Tryz.prog 168 #[.agg #[.int .i64 F,.int .i64 R,.slice A l.length c]] w fun e w'=>e=.returned (.tuple #[fieldV 0 0 zS zK,.int .i64 2])/\Below w.heap.size w w':=by
 have HV:=Lib.hid (fun w hA=>bValid_yes F R l A c h w hA)
 have hlen:l.length<=64:=by have:=(vsz_mul h.1).2;have:=h.2.1;omega
 have HP:=Lib.hid h.2.2
 have HOR:=Lib.hid hor
 clear h hor
 go_enter Tryz.func168,Tryz.ntmps168
 go_wp2_with fail
 refine (HV.out _ ?_).mono ?_
 ·exact (hA.below (after1 (box1 _ _))).grow (by simp;omega)
 rintro e w1 ⟨rfl,hb⟩
 have hz:=zero_cells (w.alloc (.cells #[.int .i64 F,.int .i64 R,.slice A l.length c] 97))
 have hs:=hb.size
 simp only [World.size_alloc] at hs
 obtain ⟨V,hV⟩:∃ V,w1.alloc (.cells #[.int .i64 F,.int .i64 R,.int .u64 0,.int .u64 0,.int .u64 0,.int .u64 0,.int .u64 0,.int .u64 0,.int .u64 0,.int .u64 0,.int .u64 0,.int .u64 0,.int .u64 0,.int .u64 0,.int .u64 0,.int .u64 0,.int .u64 0,.int .u64 0] 209)=V:=⟨_,rfl⟩
 have c0:=hb.cell (p:=⟨w.heap.size,0,none⟩) (by simp;omega)
 have c1:=hb.cell (p:=⟨w.heap.size,1,none⟩) (by simp;omega)
 have c2:=hb.cell (p:=⟨w.heap.size,2,none⟩) (by simp;omega)
 simp [go_sem] at c0 c1 c2
 have d2:=alive (.cells #[.int .i64 F,.int .i64 R,.int .u64 0,.int .u64 0,.int .u64 0,.int .u64 0,.int .u64 0,.int .u64 0,.int .u64 0,.int .u64 0,.int .u64 0,.int .u64 0,.int .u64 0,.int .u64 0,.int .u64 0,.int .u64 0,.int .u64 0,.int .u64 0] 209) c2
 have rc:∀ o,o<18->V.cell? ⟨w.heap.size+1,o,none⟩=some (zeroF o):=fun o ho=>by
  rw [<- hV]
  refine alive _ ((hb.cell (p:=⟨w.heap.size+1,o,none⟩) (by simp)).trans ?_)
  have:=(hz o ho).1
  rw [World.size_alloc] at this
  exact this
 have rf:∀ o,V.frozen? ⟨w.heap.size+1,o,none⟩=false:=fun o=>by
  rw [<- hV]
  exact ((box1 w1 _).frozen (p:=⟨w.heap.size+1,o,none⟩) (by simp;omega)).trans ((hb.frozen (p:=⟨w.heap.size+1,o,none⟩) (by simp)).trans (by simp [go_sem]))
 have hB:Below w.heap.size w V:=by rw [<- hV];exact (after2 hb).alloc (by omega) _
 have hF0:FldF V w1.heap.size F R (Sn l 0) (Kn l 0):=by
  rw [<- hV]
  exact ⟨Fld.new w1 F R zS zK,fun o=>by simp [go_sem]⟩
 have hVs:V.heap.size=w1.heap.size+1:=by rw [<- hV];simp
 have hAV:=hA.below hB
 clear hz hb hA
 have HVV:=Lib.hid hV
 clear hV
 go_wp2_with fail
 rw [HVV.out] at d2 ⊢
 clear HVV
 go_loopw [3,5,6,17] (fun s3 _ _ i wr=>∃ k:Nat,k<=l.length/\i=.int .i64 k/\s3=.int .i64 0/\FldF wr w1.heap.size F R (Sn l k) (Kn l k)/\ButS w1.heap.size V wr/\Hid (∀ j,j<k->orB (l[j]?.getD 0)=true)) (fun _ _ _ i _=>l.length - (intOf i).toNat)
 case atStart=>exact ⟨0,by omega,rfl,rfl,hF0,ButS.refl _ _,Lib.hid (fun j hj=>by omega)⟩
 case round =>
  obtain ⟨k,hk,rfl,rfl,hF,hBu,HO⟩:=hrel
  have rc2:∀ o,o<18->wr.cell? ⟨w.heap.size+1,o,none⟩=some (zeroF o):=fun o ho=>hBu.cell (rc o ho) (by simp;omega)
  have rf2:∀ o,wr.frozen? ⟨w.heap.size+1,o,none⟩=false:=fun o=>by
   have e:=hBu.2.2.2.2 (w.heap.size+1) (by omega) (by omega)
   have:=rf o
   simp only [World.frozen?,e] at this ⊢
   exact this
  have hBw:Below w.heap.size w wr:=hB.trans (hBu.below (by omega) (by omega))
  have HE:=Lib.hid (fun j (hj:j<18)=>(⟨_,rc2 j hj⟩:∃ u,wr.cell? ⟨w.heap.size+1,j,none⟩=some u))
  have hRD:=hAV.below (hBu.below (by omega) (by omega))
  clear rc rf hF0 hAV c0 c1 c2 hB
  by_cases hlt:k<l.length
  ·obtain ⟨ad,rfl,hbl,hc⟩:=hRD.at_ hlt
   have hVk:=HP.out k hlt
   have hno:orB (l[k]?.getD 0)=false->Hid (orA l=false):=fun h=>Lib.hid (orA_no hlt h)
   have hyes:orB (l[k]?.getD 0)=true->Hid (∀ j,j<k+1->orB (l[j]?.getD 0)=true):=fun h=>Lib.hid (fun j hj=>by
    by_cases e:j=k
    ·rw [e];exact h
    ·exact HO.out j (by omega))
   have HNO:=Lib.hid hno
   have HYES:=Lib.hid hyes
   clear hRD hno hyes
   obtain ⟨n,hn⟩:∃ n,l[k]?.getD 0=n:=⟨_,rfl⟩
   rw [hn] at hc hVk HNO HYES
   have HN:=Lib.hid hn
   clear hn
   unfold okP at hVk
   by_cases h0:n=0
   ·have hz:(n == 0)=true:=by simp [h0]
    have HK:=HYES.out (by rw [h0];rfl)
    have hF2:=fld_same hF (HN.out.trans h0)
    clear h0 rc2 rf2
    go_wp2
    go_roundw
    case rel=>exact ⟨k+1,by omega,by go_num,rfl,hF2,hBu,HK⟩
    case measure=>simp [intOf];omega
   ·have hz:(n == 0)=false:=beq_eq_false_iff_ne.2 h0
    have ho:orB n=orthB n:=by unfold orB;simp [h0]
    rw [ho] at HNO HYES
    have HR:=Lib.hid (orth_any n (by omega))
    cases hb:orthB n
    ·rw [hb] at HR
     have HK:=HNO.out hb
     clear h0 hb ho HNO HYES HK
     go_wp2_with fail
     refine (HR.out _).mono ?_
     rintro e w2 ⟨rfl,rfl⟩
     have HST:=Lib.hid (store18 (F:=0) (R:=0) (S:=zS) (K:=zK) rc2 rf2)
     rw [setCells_putL] at HST
     have hF3:=fld_put (F:=0) (R:=0) (S:=zS) (K:=zK) HE.out
     have hL:=hBw.trans ((putL_but (w.heap.size+1) (fieldC 0 0 zS zK) wr 0).below (B:=w.heap.size) (by omega) hBw.size)
     have HF3:=Lib.hid hF3
     generalize putL (w.heap.size+1) wr 0 (fieldC 0 0 zS zK)=W2 at *
     clear rc2 rf2 hF hF3 hBu
     go_upto_region 9 with fail
     refine reg_or (L:=fieldC 0 0 zS zK) rfl build18 HST.out ?_
     go_wp2
     refine bodyPost_ret (v:=.tuple #[fieldV 0 0 zS zK,.int .i64 2]) ?_ rfl ⟨rfl,hL⟩
     exact res18 (fn:=Tryz.f168) (p:=2) (u:=3) rfl rfl HF3.out
    ·rw [hb] at HR
     have HK:=HYES.out hb
     have hr6:-6<=n/\n<=6:=by unfold orthB at hb;simp at hb;omega
     clear hb ho rc2 rf2
     by_cases hneg:n<0
     ·obtain ⟨j,rfl⟩:∃ j:Nat,n=-(j:Int):=⟨(-n).toNat,by omega⟩
      have hw:IntKind.i8.wrap (j:Int)=(j:Int):=IntWalk.i8_in _ (by omega)
      have HADD:=Lib.hid (fun W h1 h2 f1 f2=>aAdd_any w1.heap.size 10 j k (Sn l k true) (Kn l k true j) (by omega) (by omega) (Sn_lt (by omega) _) (Kn_lt (by omega) _ _) W h1 h2 f1 f2)
      go_wp2_with fail
      refine (HR.out _).mono ?_
      rintro e w2 ⟨rfl,rfl⟩
      go_wp2_with fail
      refine (HADD.out _ (hF.1.2.1 true) (hF.1.2.2 true j (by omega)) (hF.2 _) (hF.2 _)).mono ?_
      rintro e w2 ⟨rfl,ha⟩
      have hF2:=fld_add (j:=j) (bl:=true) hF (by omega) (by omega) (HN.out.trans (by simp [sdN])) ha
      have hBu2:=hBu.trans ha.1
      clear ha
      go_wp2
      go_roundw
      case rel=>exact ⟨k+1,by omega,by go_num,rfl,hF2,hBu2,HK⟩
      case measure=>simp [intOf];omega
     ·obtain ⟨j,rfl⟩:∃ j:Nat,n=(j:Int):=⟨n.toNat,by omega⟩
      have HADD:=Lib.hid (fun W h1 h2 f1 f2=>aAdd_any w1.heap.size 2 j k (Sn l k false) (Kn l k false j) (by omega) (by omega) (Sn_lt (by omega) _) (Kn_lt (by omega) _ _) W h1 h2 f1 f2)
      go_wp2_with fail
      refine (HR.out _).mono ?_
      rintro e w2 ⟨rfl,rfl⟩
      go_wp2_with fail
      refine (HADD.out _ (hF.1.2.1 false) (hF.1.2.2 false j (by omega)) (hF.2 _) (hF.2 _)).mono ?_
      rintro e w2 ⟨rfl,ha⟩
      have hF2:=fld_add (j:=j) (bl:=false) hF (by omega) (by omega) (HN.out.trans (by simp [sdN])) ha
      have hBu2:=hBu.trans ha.1
      clear ha
      go_wp2
      go_roundw
      case rel=>exact ⟨k+1,by omega,by go_num,rfl,hF2,hBu2,HK⟩
      case measure=>simp [intOf];omega
  ·have hkl:k=l.length:=by omega
   subst hkl
   have HK:=orA_yes HO.out
   rw [HOR.out] at HK
   cases HK
end Go.Proofs.YtbccbgonlmkpkaaGreatDoor
