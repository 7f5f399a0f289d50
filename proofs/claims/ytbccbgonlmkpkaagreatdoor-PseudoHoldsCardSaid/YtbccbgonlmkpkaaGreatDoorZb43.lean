/- What the theorem needs, piece Zb43. -/
import Derived.Test.YtbccbgonlmkpkaaGreatDoorZb20
set_option linter.unusedSimpArgs false
set_option linter.unusedVariables false
set_option maxRecDepth 100000
set_option maxHeartbeats 16000000
namespace Go.Proofs.YtbccbgonlmkpkaaGreatDoor
open Go.RowKit Go.Sort
theorem rmSame_eq (l:List Mv) (A1 A2:Option Addr) (c1 c2:Nat) (hl:l.length<=100000) (w:World) (hA:RdM w w.heap.size A1 l) (hA2:RdM w w.heap.size A2 l) :
  Calls Tryz.prog 30 #[.slice A1 l.length c1,.slice A2 l.length c2] w fun e w'=>e=.returned (.bool true)/\Below w.heap.size w w':=by
 go_enter Tryz.func30,Tryz.ntmps30
 go_wp2
 go_loopw [5] (fun i wr=>∃ k:Nat,k<=l.length/\i=.int .i64 k/\Below w.heap.size w wr) (fun i _=>l.length - (intOf i).toNat)
 case atStart=>exact ⟨0,by omega,rfl,Below.refl _ _⟩
 case round =>
  obtain ⟨k,hk,rfl,hB⟩:=hrel
  have HB:=Lib.hid hB
  by_cases hlt:k<l.length
  ·obtain ⟨m,hm⟩:∃ m,l[k]?=some m:=⟨_,List.getElem?_eq_getElem hlt⟩
   obtain ⟨ad,rfl,had,m0,m1,m2⟩:=(rdMv hB hA).at_ hm
   obtain ⟨ad2,rfl,had2,n0,n1,n2⟩:=(rdMv hB hA2).at_ hm
   obtain ⟨x,y,p⟩:=m
   simp only at m0 m1 m2 n0 n1 n2
   clear hA hA2 hm hB
   go_wp2_with fail
   go_quiet (fail)
   go_wp2
   go_roundw
   case rel=>exact ⟨k+1,by omega,by go_num,drawn HB.out _⟩
   case measure=>simp [intOf];omega
  ·clear hA hA2 hB
   go_wp2
   go_ret
   exact ⟨rfl,HB.out⟩
end Go.Proofs.YtbccbgonlmkpkaaGreatDoor
