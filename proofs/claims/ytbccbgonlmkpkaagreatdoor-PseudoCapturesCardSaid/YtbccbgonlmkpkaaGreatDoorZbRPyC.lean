/- The law on what a pseudo-legal move captures, and whether it castles. It holds of every input that the row lets in; the tables that the program's library reads are tied to its text by the card. -/
import Derived.Test.YtbccbgonlmkpkaaGreatDoorZb42
import Derived.Test.YtbccbgonlmkpkaaGreatDoorZbQPyC
set_option linter.unusedSimpArgs false
set_option linter.unusedVariables false
set_option maxRecDepth 100000
set_option maxHeartbeats 16000000
namespace Go.Proofs.YtbccbgonlmkpkaaGreatDoor
open Go.ChangeShapes Go.WideShapes Go.ChangeAt Go.WideMaps Go.WideElems Go.RowKit
open Go.ChangeMaps (setBlock shut_map_nil open_string shut_string keptBut_setBlock frozen?_setBlock heap_setBlock_same)
theorem pseudoCaptures_lifted (os:Os) (started:os.Started) (H:Type) (enc:TypeId × Value->H) :
  ReturnsInHanded {} Tryz.checked os 10 .any (fun w args=>(Rows.pseudoCapturesSpec.pre enc Tryz.prog Tryz.f10 [] false w args/\laidMetH Tryz.prog laid8 w)/\sizedMet enc Tryz.prog Tryz.f10 (OpenSpec.ofChange Rows.pseudoCapturesSpec) false w args)
   (Rows.pseudoCapturesSpec.post enc Tryz.prog Tryz.f10 false true false false):=by
 refine returnsInHanded_of_change_and (C:=Tryz.checked) (X:=fun w _=>laidMetH Tryz.prog laid8 w) (fun _ _ _ hh h=>h.of_heap hh) own started (by kernel_rfl) Tryz.func10
  (ChangeSpec.witness_shaped (enc:=enc) (C:=Tryz.checked) (os:=os) (X:=fun w _=>laidMetH Tryz.prog laid8 w) false (World.laidAll Tryz.prog os laid8) #[.agg #[.int .i64 0,.int .i64 0,.slice none 0 0,.bool false,.int .u8 0,.int .i64 0,.int .i64 0,.int .i64 0],.agg #[.int .i64 0,.int .i64 0,.int .i8 0]] 8 (World.laidAll_os _ _ _) (shaped8 os) (by kernel_rfl) (by kernel_rfl) (by kernel_rfl) (t8_met os _)) ?_
 intro W base args ds gs before hval0 hW _ _ hL _
 have hval:∀ (j:Nat) t v,Tryz.f10.params[j]?=some t->args[j]?=some v->Value.okWide Tryz.prog W .any base t v:=hval0
 have hW':=hW
 obtain ⟨p,q,hA0,hV,rfl,hfz,hnd⟩:=hW
 have hA:DataW.TrodAll enc Tryz.prog W 0 (fun _=>true) true Tryz.f10.params.toList args.toList ds p:=hA0
 obtain ⟨rfl,rfl⟩:=trodVars_none hV
 have hAll:DataW.TrodAll enc Tryz.prog W 0 (fun _=>true) true Tryz.f10.params.toList args.toList ds (p ++ []):=by rw [List.append_nil];exact hA0
 rw [Tryz.params10] at hA hval
 obtain ⟨v0,v1,d0,d1,p0,p1,rfl,rfl,rfl,h0,h1⟩:=trodAll_two hA
 obtain ⟨xm,ym,pm,rfl,lom,him⟩:=open_mv Tryz.underlying30 (by kernel_rfl) rfl (by kernel_rfl) rfl (by kernel_rfl) rfl (by kernel_rfl) Tryz.underlying3 Tryz.underlying3 Tryz.underlying28 (hval 1 30 v1 rfl rfl) h1
 obtain ⟨Fp,Rp,Ap,lp,cp,blp,cap,psp,hap,fup,rfl,hcap,hAp,hcp⟩:=open_pos Tryz.underlying26 (by kernel_rfl) rfl (by kernel_rfl) rfl (by kernel_rfl) rfl (by kernel_rfl) rfl (by kernel_rfl) rfl (by kernel_rfl) rfl (by kernel_rfl) rfl (by kernel_rfl) Tryz.underlying23 rfl (by kernel_rfl) rfl (by kernel_rfl) Tryz.underlying3 Tryz.underlying3 Tryz.underlying24 Tryz.underlying28 (by kernel_rfl) Tryz.underlying4 Tryz.underlying5 Tryz.underlying3 Tryz.underlying3 Tryz.underlying3 (hval 0 26 v0 rfl rfl) h0
 have hT:=t8_of_laid hL
 clear hA0 hval0
 refine (pcap_law Fp Rp lp Ap cp blp cap psp hap fup xm ym pm hcap hcp W hT hAp).mono fun e W' ⟨he,hB⟩=>?_
 subst he
 exact ⟨_,rfl,post_stays (by kernel_rfl) (by kernel_rfl) hAll rfl hW' (fun _ _ _=>trodAll_mk1 (shut_bool Tryz.underlying4 _)) (fun _=>rfl) hB (ok_one (by kernel_rfl) rfl (okWide_bool_mk Tryz.underlying4 _))⟩
theorem pseudoCaptures_row:Rows.PseudoCapturesSaid :=
 OpenClaim.holds_of_wide 10 Tryz.f10 rfl rfl rfl rfl rfl rfl rfl ⟨rfl,rfl,rfl,rfl,rfl⟩ rfl rfl rfl rfl rfl (by kernel_rfl) Tryz.func10 (by kernel_rfl)
  (of_decide_eq_true (by kernel_rfl)) (by unfold Func.isWrapper;first | (rw [if_pos (by decide +kernel)];kernel_rfl) | (rw [if_neg (by decide +kernel)];exact ⟨rfl,rfl⟩))
  (fun os started H enc _=>pseudoCaptures_lifted os started H enc)
theorem pseudoCaptures_holds:Rows.PseudoCapturesCardSaid :=
 Claim7.holds_tied_plain_at .later [] [.data,.data,.data,.data,.data] true Rows.pseudoCapturesCard.stood.harness true
  pseudoCaptures_row (fun _ h=>by cases h) (by kernel_rfl) (fun _ h=>by cases h) pseudoCaptures_row_tie rfl ⟨rfl,rfl⟩ (by kernel_rfl) rfl
  (fun f fn hf hfn=>by
   obtain rfl:f=10:=Option.some.inj ((show Tryz.prog.funcNamed Rows.pseudoCapturesRow.func=some 10 by kernel_rfl).symm.trans hf) |>.symm
   obtain rfl:fn=Tryz.f10:=(Option.some.inj (Tryz.func10.symm.trans hfn)).symm
   exact ⟨by kernel_rfl,fun j t ht=>by
    rw [Tryz.params10] at ht
    have hm:t∈[26,30]:=by simpa using Array.mem_of_getElem? ht
    have hall:([26,30].all fun u=>!Tryz.prog.wantsStandIn u)=true:=by kernel_rfl
    exact (show Tryz.prog.wantsStandIn t=false by simpa using List.all_eq_true.1 hall t hm)⟩)
  (by kernel_rfl)
#print axioms pseudoCaptures_holds
end Go.Proofs.YtbccbgonlmkpkaaGreatDoor
