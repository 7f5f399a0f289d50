/- What the theorem needs, piece Zb00. -/
import Derived.Test.YtbccbgonlmkpkaaGreatDoorProg
import Derived.WalkKit
import Derived.WalkSpells
import Derived.WalkLawsBesides
import Derived.BigQuiet
import Derived.Deep.QuietTactic
import Derived.Handy
import Derived.Lib.TrailingZeros
import Derived.Laws.BitsAllLaws
import Derived.Laws.Bits64
import Derived.Laws.ShiftsVar
import Derived.Lib.Hide
set_option linter.unusedSimpArgs false
set_option linter.unusedVariables false
set_option maxRecDepth 100000
set_option maxHeartbeats 16000000
namespace Go.Proofs.YtbccbgonlmkpkaaGreatDoor
open Go.RowKit
def vsz (F R:Int):Prop:=3<=F/\F<=8/\3<=R/\R<=8
theorem vsz_mul {F R:Int} (h:vsz F R):9<=F * R/\F * R<=64:=by
 obtain ⟨a,b,c,d⟩:=h
 have:F=3\/F=4\/F=5\/F=6\/F=7\/F=8:=by omega
 rcases this with rfl | rfl | rfl | rfl | rfl | rfl <;> omega
theorem place_bd {F R a:Int} (h:vsz F R) (h0:0<=a) (h1:a<F * R):0<=a % F/\a % F<F/\0<=a / F/\a / F<R:=by
 obtain ⟨p,q,c,d⟩:=h
 have:F=3\/F=4\/F=5\/F=6\/F=7\/F=8:=by omega
 rcases this with rfl | rfl | rfl | rfl | rfl | rfl <;> omega
theorem place_eq {F R a:Int} (h:vsz F R):a % F+a / F * F=a:=by
 obtain ⟨p,q,c,d⟩:=h
 have:F=3\/F=4\/F=5\/F=6\/F=7\/F=8:=by omega
 rcases this with rfl | rfl | rfl | rfl | rfl | rfl <;> omega
theorem number_bd {F R f r:Int} (h:vsz F R) (f0:0<=f) (f1:f<F) (r0:0<=r) (r1:r<R):0<=r * F/\r * F<=56/\f+r * F<F * R/\(f+r * F) % F=f/\(f+r * F) / F=r:=by
 obtain ⟨p,q,c,d⟩:=h
 have:F=3\/F=4\/F=5\/F=6\/F=7\/F=8:=by omega
 rcases this with rfl | rfl | rfl | rfl | rfl | rfl <;> omega
theorem ret_bool {a b:Bool} (h:a=b):Ending.returned (.bool a)=.returned (.bool b):=by rw [h]
theorem ret_int {k:IntKind} {a b:Int} (h:a=b):Ending.returned (.int k a)=.returned (.int k b):=by rw [h]
theorem ret2 {a b c d:Value} (h:a=b) (k:c=d):Ending.returned (.tuple #[a,c])=.returned (.tuple #[b,d]):=by rw [h,k]
theorem vint {k:IntKind} {a b:Int} (h:a=b):Value.int k a=.int k b:=by rw [h]
theorem box1 (w:World) (o:Obj):Below w.heap.size w (w.alloc o):=(Below.refl _ _).alloc (Nat.le_refl _) _
theorem validSide_yes (n:Int) (h:3<=n) (h2:n<=8) (w:World) :
  Calls Tryz.prog 185 #[.int .i64 n] w fun e w'=>e=.returned (.bool true)/\w=w':=by
 go_enter Tryz.func185,Tryz.ntmps185
 go_wp2
 go_ret
 exact ⟨rfl,rfl⟩
theorem validSide_no (n:Int) (h:n<3\/8<n) (w:World) :
  Calls Tryz.prog 185 #[.int .i64 n] w fun e w'=>e=.returned (.bool false)/\w=w':=by
 rcases h with h | h
 ·go_enter Tryz.func185,Tryz.ntmps185
  go_wp2
  go_ret
  exact ⟨rfl,rfl⟩
 ·have h':3<=n:=by omega
  have hd:decide (n<=8)=false:=by simp;omega
  go_enter Tryz.func185,Tryz.ntmps185
  go_wp2
  go_ret
  exact ⟨rfl,rfl⟩
theorem validSize_yes (F R:Int) (h:vsz F R) (w:World) :
  Calls Tryz.prog 143 #[.agg #[.int .i64 F,.int .i64 R]] w fun e w'=>e=.returned (.bool true)/\Below w.heap.size w w':=by
 obtain ⟨f1,f2,r1,r2⟩:=h
 go_enter Tryz.func143,Tryz.ntmps143
 go_wp2_with (go_at_call 185;refine (validSide_yes _ (by omega) (by omega) _).mono ?_;rintro e w' ⟨rfl,rfl⟩)
 go_ret
 exact ⟨rfl,box1 _ _⟩
theorem validSize_no (F R:Int) (h:¬ vsz F R) (w:World) :
  Calls Tryz.prog 143 #[.agg #[.int .i64 F,.int .i64 R]] w fun e w'=>e=.returned (.bool false)/\Below w.heap.size w w':=by
 unfold vsz at h
 by_cases hF:3<=F/\F<=8
 ·have hR:R<3\/8<R:=by omega
  go_enter Tryz.func143,Tryz.ntmps143
  go_wp2_with fail
  refine (validSide_yes _ (by omega) (by omega) _).mono ?_
  rintro e w' ⟨rfl,rfl⟩
  go_wp2_with fail
  refine (validSide_no _ hR _).mono ?_
  rintro e w' ⟨rfl,rfl⟩
  go_wp2
  go_ret
  exact ⟨rfl,box1 _ _⟩
 ·have hF':F<3\/8<F:=by omega
  go_enter Tryz.func143,Tryz.ntmps143
  go_wp2_with fail
  refine (validSide_no _ hF' _).mono ?_
  rintro e w' ⟨rfl,rfl⟩
  go_wp2
  go_ret
  exact ⟨rfl,box1 _ _⟩
theorem refSize_yes (F R:Int) (h:vsz F R) (w:World) :
  Calls Tryz.prog 81 #[.agg #[.int .i64 F,.int .i64 R]] w fun e w'=>e=.returned (.bool true)/\Below w.heap.size w w':=by
 obtain ⟨f1,f2,r1,r2⟩:=h
 go_enter Tryz.func81,Tryz.ntmps81
 go_wp2
 go_ret
 exact ⟨rfl,box1 _ _⟩
theorem refSize_no (F R:Int) (h:¬ vsz F R) (w:World) :
  Calls Tryz.prog 81 #[.agg #[.int .i64 F,.int .i64 R]] w fun e w'=>e=.returned (.bool false)/\Below w.heap.size w w':=by
 unfold vsz at h
 have h4:F<3\/(3<=F/\8<F)\/(3<=F/\F<=8/\R<3)\/(3<=F/\F<=8/\3<=R/\8<R):=by omega
 clear h
 rcases h4 with h | ⟨h,k⟩ | ⟨h,k,l⟩ | ⟨h,k,l,m⟩
 ·go_enter Tryz.func81,Tryz.ntmps81
  go_wp2
  go_ret
  exact ⟨rfl,box1 _ _⟩
 ·have hd:decide (F<=8)=false:=by simp;omega
  go_enter Tryz.func81,Tryz.ntmps81
  go_wp2
  go_ret
  exact ⟨rfl,box1 _ _⟩
 ·go_enter Tryz.func81,Tryz.ntmps81
  go_wp2
  go_ret
  exact ⟨rfl,box1 _ _⟩
 ·have hd:decide (R<=8)=false:=by simp;omega
  go_enter Tryz.func81,Tryz.ntmps81
  go_wp2
  go_ret
  exact ⟨rfl,box1 _ _⟩
end Go.Proofs.YtbccbgonlmkpkaaGreatDoor
namespace Go.Proofs.YtbccbgonlmkpkaaGreatDoor
open Go.RowKit
def vat (F R a:Int):Prop:=vsz F R/\0<=a/\a<F * R
theorem chain {a b c:World} (h:Below a.heap.size a b) (k:Below b.heap.size b c):Below a.heap.size a c:=h.trans (k.mono h.size)
theorem after1 {w w1:World} {o:Obj} (k:Below (w.alloc o).heap.size (w.alloc o) w1):Below w.heap.size w w1:=chain (box1 _ _) k
theorem after2 {w w1:World} {o o2:Obj} (k:Below ((w.alloc o).alloc o2).heap.size ((w.alloc o).alloc o2) w1):Below w.heap.size w w1:=chain (box1 _ _) (after1 k)
theorem drawn {a w:World} (h:Below a.heap.size a w) (n:Nat):Below a.heap.size a (w.drewN n):=⟨h.os,h.tape,h.output,h.size,h.block⟩
theorem valid_yes (F R a:Int) (h:vat F R a) (w:World) :
  Calls Tryz.prog 79 #[.agg #[.int .i64 F,.int .i64 R],.int .i64 a] w fun e w'=>e=.returned (.bool true)/\Below w.heap.size w w':=by
 obtain ⟨hv,h0,h1⟩:=h
 obtain ⟨m0,m1⟩:=vsz_mul hv
 go_enter Tryz.func79,Tryz.ntmps79
 go_wp2_with fail
 refine (validSize_yes _ _ hv _).mono ?_
 rintro e w1 ⟨rfl,hb⟩
 have hc0:=hb.cell (p:=⟨w.heap.size,0,none⟩) (by simp)
 have hc1:=hb.cell (p:=⟨w.heap.size,1,none⟩) (by simp)
 go_wp2
 go_ret
 exact ⟨rfl,after1 hb⟩
theorem valid_no (F R a:Int) (h:¬ vat F R a) (w:World) :
  Calls Tryz.prog 79 #[.agg #[.int .i64 F,.int .i64 R],.int .i64 a] w fun e w'=>e=.returned (.bool false)/\Below w.heap.size w w':=by
 unfold vat at h
 by_cases hv:vsz F R
 ·obtain ⟨m0,m1⟩:=vsz_mul hv
  by_cases h0:0<=a
  ·have h1:F * R<=a:=Int.not_lt.1 fun h1=>h ⟨hv,h0,h1⟩
   have hd:decide (a<F * R)=false:=decide_eq_false (by omega)
   clear h
   go_enter Tryz.func79,Tryz.ntmps79
   go_wp2_with fail
   refine (validSize_yes _ _ hv _).mono ?_
   rintro e w1 ⟨rfl,hb⟩
   have hc0:=hb.cell (p:=⟨w.heap.size,0,none⟩) (by simp)
   have hc1:=hb.cell (p:=⟨w.heap.size,1,none⟩) (by simp)
   go_wp2
   go_ret
   exact ⟨rfl,after1 hb⟩
  ·have h0':a<0:=by omega
   clear h h0
   go_enter Tryz.func79,Tryz.ntmps79
   go_wp2_with fail
   refine (validSize_yes _ _ hv _).mono ?_
   rintro e w1 ⟨rfl,hb⟩
   go_wp2
   go_ret
   exact ⟨rfl,after1 hb⟩
 ·clear h
  go_enter Tryz.func79,Tryz.ntmps79
  go_wp2_with fail
  refine (validSize_no _ _ hv _).mono ?_
  rintro e w1 ⟨rfl,hb⟩
  go_wp2
  go_ret
  exact ⟨rfl,after1 hb⟩
theorem refValid_yes (F R a:Int) (h:vat F R a) (w:World) :
  Calls Tryz.prog 32 #[.agg #[.int .i64 F,.int .i64 R],.int .i64 a] w fun e w'=>e=.returned (.bool true)/\Below w.heap.size w w':=by
 obtain ⟨hv,h0,h1⟩:=h
 obtain ⟨m0,m1⟩:=vsz_mul hv
 go_enter Tryz.func32,Tryz.ntmps32
 go_wp2_with fail
 refine (refSize_yes _ _ hv _).mono ?_
 rintro e w1 ⟨rfl,hb⟩
 have hc0:=hb.cell (p:=⟨w.heap.size,0,none⟩) (by simp)
 have hc1:=hb.cell (p:=⟨w.heap.size,1,none⟩) (by simp)
 go_wp2
 go_ret
 exact ⟨rfl,after1 hb⟩
theorem refValid_no (F R a:Int) (h:¬ vat F R a) (w:World) :
  Calls Tryz.prog 32 #[.agg #[.int .i64 F,.int .i64 R],.int .i64 a] w fun e w'=>e=.returned (.bool false)/\Below w.heap.size w w':=by
 unfold vat at h
 by_cases hv:vsz F R
 ·obtain ⟨m0,m1⟩:=vsz_mul hv
  by_cases h0:0<=a
  ·have h1:F * R<=a:=Int.not_lt.1 fun h1=>h ⟨hv,h0,h1⟩
   have hd:decide (a<F * R)=false:=decide_eq_false (by omega)
   clear h
   go_enter Tryz.func32,Tryz.ntmps32
   go_wp2_with fail
   refine (refSize_yes _ _ hv _).mono ?_
   rintro e w1 ⟨rfl,hb⟩
   have hc0:=hb.cell (p:=⟨w.heap.size,0,none⟩) (by simp)
   have hc1:=hb.cell (p:=⟨w.heap.size,1,none⟩) (by simp)
   go_wp2
   go_ret
   exact ⟨rfl,after1 hb⟩
  ·have h0':a<0:=by omega
   clear h h0
   go_enter Tryz.func32,Tryz.ntmps32
   go_wp2_with fail
   refine (refSize_yes _ _ hv _).mono ?_
   rintro e w1 ⟨rfl,hb⟩
   go_wp2
   go_ret
   exact ⟨rfl,after1 hb⟩
 ·clear h
  go_enter Tryz.func32,Tryz.ntmps32
  go_wp2_with fail
  refine (refSize_no _ _ hv _).mono ?_
  rintro e w1 ⟨rfl,hb⟩
  go_wp2
  go_ret
  exact ⟨rfl,after1 hb⟩
theorem count_yes (F R:Int) (hv:vsz F R) (w:World) :
  Calls Tryz.prog 191 #[.agg #[.int .i64 F,.int .i64 R]] w fun e w'=>e=.returned (.tuple #[.int .i64 (F * R),.int .i64 0])/\Below w.heap.size w w':=by
 obtain ⟨m0,m1⟩:=vsz_mul hv
 go_enter Tryz.func191,Tryz.ntmps191
 go_wp2_with fail
 refine (validSize_yes _ _ hv _).mono ?_
 rintro e w1 ⟨rfl,hb⟩
 have hc0:=hb.cell (p:=⟨w.heap.size,0,none⟩) (by simp)
 have hc1:=hb.cell (p:=⟨w.heap.size,1,none⟩) (by simp)
 go_wp2
 go_ret2
 exact ⟨rfl,after1 hb⟩
theorem count_no (F R:Int) (hv:¬ vsz F R) (w:World) :
  Calls Tryz.prog 191 #[.agg #[.int .i64 F,.int .i64 R]] w fun e w'=>e=.returned (.tuple #[.int .i64 0,.int .i64 2])/\Below w.heap.size w w':=by
 go_enter Tryz.func191,Tryz.ntmps191
 go_wp2_with fail
 refine (validSize_no _ _ hv _).mono ?_
 rintro e w1 ⟨rfl,hb⟩
 go_wp2
 go_ret2
 exact ⟨rfl,after1 hb⟩
def onb (F R f r:Int):Prop:=0<=f/\f<F/\0<=r/\r<R
theorem onBoard_yes (F R f r:Int) (h:onb F R f r) (w:World) :
  Calls Tryz.prog 186 #[.agg #[.int .i64 F,.int .i64 R],.int .i64 f,.int .i64 r] w fun e w'=>e=.returned (.bool true)/\Below w.heap.size w w':=by
 obtain ⟨a,b,c,d⟩:=h
 go_enter Tryz.func186,Tryz.ntmps186
 go_wp2
 go_ret
 exact ⟨rfl,box1 _ _⟩
theorem onBoard_no (F R f r:Int) (h:¬ onb F R f r) (w:World) :
  Calls Tryz.prog 186 #[.agg #[.int .i64 F,.int .i64 R],.int .i64 f,.int .i64 r] w fun e w'=>e=.returned (.bool false)/\Below w.heap.size w w':=by
 unfold onb at h
 have h4:f<0\/(0<=f/\F<=f)\/(0<=f/\f<F/\r<0)\/(0<=f/\f<F/\0<=r/\R<=r):=by omega
 clear h
 rcases h4 with h | ⟨h,k⟩ | ⟨h,k,l⟩ | ⟨h,k,l,m⟩
 ·go_enter Tryz.func186,Tryz.ntmps186
  go_wp2
  go_ret
  exact ⟨rfl,box1 _ _⟩
 ·have hd:decide (f<F)=false:=by simp;omega
  go_enter Tryz.func186,Tryz.ntmps186
  go_wp2
  go_ret
  exact ⟨rfl,box1 _ _⟩
 ·go_enter Tryz.func186,Tryz.ntmps186
  go_wp2
  go_ret
  exact ⟨rfl,box1 _ _⟩
 ·have hd:decide (r<R)=false:=by simp;omega
  go_enter Tryz.func186,Tryz.ntmps186
  go_wp2
  go_ret
  exact ⟨rfl,box1 _ _⟩
theorem number_any (F R f r:Int) (hv:vsz F R) (h:onb F R f r) (w:World) :
  Calls Tryz.prog 187 #[.agg #[.int .i64 F,.int .i64 R],.int .i64 f,.int .i64 r] w fun e w'=>e=.returned (.int .i64 (f+r * F))/\Below w.heap.size w w':=by
 obtain ⟨m0,m1⟩:=vsz_mul hv
 obtain ⟨a,b,c,d⟩:=h
 obtain ⟨n0,n1,n2,n3,n4⟩:=number_bd hv a b c d
 clear n3 n4
 go_enter Tryz.func187,Tryz.ntmps187
 go_wp2
 go_ret
 exact ⟨rfl,box1 _ _⟩
theorem place_any (F R a:Int) (h:vat F R a) (w:World) :
  Calls Tryz.prog 146 #[.agg #[.int .i64 F,.int .i64 R],.int .i64 a] w fun e w'=>e=.returned (.tuple #[.int .i64 (a % F),.int .i64 (a / F)])/\Below w.heap.size w w':=by
 obtain ⟨hv,h0,h1⟩:=h
 obtain ⟨m0,m1⟩:=vsz_mul hv
 obtain ⟨p0,p1,p2,p3⟩:=place_bd hv h0 h1
 obtain ⟨f1,f2,r1,r2⟩:=hv
 have hne:¬ F=0:=by omega
 go_enter Tryz.func146,Tryz.ntmps146
 go_wp2
 go_quiet (fail)
 go_wp2
 go_ret2
 exact ⟨rfl,drawn (box1 _ _) _⟩
end Go.Proofs.YtbccbgonlmkpkaaGreatDoor
namespace Go.Proofs.YtbccbgonlmkpkaaGreatDoor
open Go.RowKit
theorem at_yes (F R f r:Int) (hv:vsz F R) (h:onb F R f r) (w:World) :
  Calls Tryz.prog 145 #[.agg #[.int .i64 F,.int .i64 R],.int .i64 f,.int .i64 r] w fun e w'=>e=.returned (.tuple #[.int .i64 (f+r * F),.int .i64 0])/\Below w.heap.size w w':=by
 go_enter Tryz.func145,Tryz.ntmps145
 go_wp2_with fail
 refine (validSize_yes _ _ hv _).mono ?_
 rintro e w1 ⟨rfl,hb⟩
 have hc0:=hb.cell (p:=⟨w.heap.size,0,none⟩) (by simp)
 have hc1:=hb.cell (p:=⟨w.heap.size,1,none⟩) (by simp)
 go_wp2_with fail
 refine (onBoard_yes _ _ _ _ h _).mono ?_
 rintro e w2 ⟨rfl,hb2⟩
 have hs:=hb.size
 simp at hs
 have hd0:=hb2.cell (p:=⟨w.heap.size,0,none⟩) (by simp;omega)
 have hd1:=hb2.cell (p:=⟨w.heap.size,1,none⟩) (by simp;omega)
 go_wp2_with fail
 refine (number_any _ _ _ _ hv h _).mono ?_
 rintro e w3 ⟨rfl,hb3⟩
 go_wp2
 go_ret2
 exact ⟨rfl,after1 (chain (chain hb hb2) hb3)⟩
theorem at_off (F R f r:Int) (hv:vsz F R) (h:¬ onb F R f r) (w:World) :
  Calls Tryz.prog 145 #[.agg #[.int .i64 F,.int .i64 R],.int .i64 f,.int .i64 r] w fun e w'=>e=.returned (.tuple #[.int .i64 0,.int .i64 3])/\Below w.heap.size w w':=by
 go_enter Tryz.func145,Tryz.ntmps145
 go_wp2_with fail
 refine (validSize_yes _ _ hv _).mono ?_
 rintro e w1 ⟨rfl,hb⟩
 have hc0:=hb.cell (p:=⟨w.heap.size,0,none⟩) (by simp)
 have hc1:=hb.cell (p:=⟨w.heap.size,1,none⟩) (by simp)
 go_wp2_with fail
 refine (onBoard_no _ _ _ _ h _).mono ?_
 rintro e w2 ⟨rfl,hb2⟩
 go_wp2
 go_ret2
 exact ⟨rfl,after1 (chain hb hb2)⟩
theorem placeX_yes (F R a:Int) (h:vat F R a) (w:World) :
  Calls Tryz.prog 144 #[.agg #[.int .i64 F,.int .i64 R],.int .i64 a] w fun e w'=>e=.returned (.tuple #[.int .i64 (a % F),.int .i64 (a / F),.int .i64 0])/\Below w.heap.size w w':=by
 go_enter Tryz.func144,Tryz.ntmps144
 go_wp2_with fail
 refine (valid_yes _ _ _ h _).mono ?_
 rintro e w1 ⟨rfl,hb⟩
 have hc0:=hb.cell (p:=⟨w.heap.size,0,none⟩) (by simp)
 have hc1:=hb.cell (p:=⟨w.heap.size,1,none⟩) (by simp)
 go_wp2_with fail
 refine (place_any _ _ _ h _).mono ?_
 rintro e w2 ⟨rfl,hb2⟩
 go_wp2
 go_ret3
 exact ⟨rfl,after1 (chain hb hb2)⟩
theorem placeX_no (F R a:Int) (h:¬ vat F R a) (w:World) :
  Calls Tryz.prog 144 #[.agg #[.int .i64 F,.int .i64 R],.int .i64 a] w fun e w'=>e=.returned (.tuple #[.int .i64 0,.int .i64 0,.int .i64 2])/\Below w.heap.size w w':=by
 go_enter Tryz.func144,Tryz.ntmps144
 go_wp2_with fail
 refine (valid_no _ _ _ h _).mono ?_
 rintro e w1 ⟨rfl,hb⟩
 go_wp2
 go_ret3
 exact ⟨rfl,after1 hb⟩
theorem apart_any (a b:Int) (h1:-100<=a - b) (h2:a - b<=100) (w:World) :
  Calls Tryz.prog 147 #[.int .i64 a,.int .i64 b] w fun e w'=>e=.returned (.int .i64 (max (a - b) (b - a)))/\w=w':=by
 go_enter Tryz.func147,Tryz.ntmps147
 go_wp2
 all_goals
  go_ret
  exact ⟨ret_int (by omega),rfl⟩
theorem refNumber_yes (F R f r:Int) (hv:vsz F R) (h:onb F R f r) (w:World) :
  Calls Tryz.prog 86 #[.agg #[.int .i64 F,.int .i64 R],.int .i64 f,.int .i64 r] w fun e w'=>e=.returned (.int .i64 (r * F+f))/\Below w.heap.size w w':=by
 obtain ⟨a,b,c,d⟩:=h
 obtain ⟨n0,n1,n2,n3,n4⟩:=number_bd hv a b c d
 obtain ⟨m0,m1⟩:=vsz_mul hv
 clear n3 n4
 go_enter Tryz.func86,Tryz.ntmps86
 go_wp2
 go_ret
 exact ⟨rfl,box1 _ _⟩
theorem refNumber_no (F R f r:Int) (h:¬ onb F R f r) (w:World) :
  Calls Tryz.prog 86 #[.agg #[.int .i64 F,.int .i64 R],.int .i64 f,.int .i64 r] w fun e w'=>e=.returned (.int .i64 (-1))/\Below w.heap.size w w':=by
 unfold onb at h
 have h4:f<0\/(0<=f/\F<=f)\/(0<=f/\f<F/\r<0)\/(0<=f/\f<F/\0<=r/\R<=r):=by omega
 clear h
 rcases h4 with h | ⟨h,k⟩ | ⟨h,k,l⟩ | ⟨h,k,l,m⟩
 all_goals
  go_enter Tryz.func86,Tryz.ntmps86
  go_wp2
  go_ret
  exact ⟨rfl,box1 _ _⟩
theorem refPlace_any (F R a:Int) (h:vat F R a) (w:World) :
  Calls Tryz.prog 66 #[.agg #[.int .i64 F,.int .i64 R],.int .i64 a] w fun e w'=>e=.returned (.agg #[.int .i64 (a % F),.int .i64 (a / F)])/\Below w.heap.size w w':=by
 obtain ⟨hv,h0,h1⟩:=h
 obtain ⟨m0,m1⟩:=vsz_mul hv
 obtain ⟨p0,p1,p2,p3⟩:=place_bd hv h0 h1
 obtain ⟨f1,f2,r1,r2⟩:=hv
 have hne:¬ F=0:=by omega
 go_enter Tryz.func66,Tryz.ntmps66
 go_wp2
 go_region
 all_goals
  go_wp2
  exact bodyPost_ret (v:=.agg #[.int .i64 (a % F),.int .i64 (a / F)]) (by simp [results,Tryz.results66,go_sem]) rfl ⟨rfl,by go_grown⟩
end Go.Proofs.YtbccbgonlmkpkaaGreatDoor
namespace Go.Proofs.YtbccbgonlmkpkaaGreatDoor
open Go
def bitN (i:Nat):Nat:=2 ^ i
def fullN (n:Nat):Nat:=2 ^ n - 1
def ofL (l:List Nat):Nat:=l.foldl (fun X i=>X ||| bitN i) 0
def listOf (X:Nat):List Nat:=(List.range 64).filter (fun i=>X.testBit i)
theorem foldl_or (l:List Nat) (A:Nat) (j:Nat):(l.foldl (fun X i=>X ||| 2 ^ i) A).testBit j=(A.testBit j || decide (j∈l)):=by
 induction l generalizing A with
 | nil=>simp
 | cons a l ih =>
  rw [List.foldl_cons,ih]
  rw [Nat.testBit_or,Nat.testBit_two_pow]
  by_cases h:a=j
  ·subst h;simp
  ·have h':¬ j=a:=fun e=>h e.symm
   simp [h,h']
theorem ofL_bit (l:List Nat) (j:Nat):(ofL l).testBit j=decide (j∈l):=by
 unfold ofL bitN;rw [foldl_or];simp
theorem ofL_snoc (l:List Nat) (i:Nat):ofL (l ++ [i])=ofL l ||| bitN i:=by
 simp [ofL,List.foldl_append]
theorem lt_of_bits {X n:Nat} (h:∀ j,n<=j->X.testBit j=false):X<2 ^ n:=Nat.lt_pow_two_of_testBit X h
theorem bit_high {X n j:Nat} (h:X<2 ^ n) (hj:n<=j):X.testBit j=false:=by
 apply Nat.testBit_lt_two_pow
 exact Nat.lt_of_lt_of_le h (Nat.pow_le_pow_right (by decide) hj)
theorem ofL_lt {l:List Nat} {n:Nat} (h:∀ i∈l,i<n):ofL l<2 ^ n:=by
 apply lt_of_bits
 intro j hj
 rw [ofL_bit]
 simp
 intro hm
 have:=h j hm
 omega
theorem add_bit {X i:Nat} (h:X.testBit i=false):X+2 ^ i=X ||| 2 ^ i:=by
 have hd:X &&& 2 ^ i=0:=by
  apply Nat.eq_of_testBit_eq
  intro j
  rw [Nat.testBit_and,Nat.testBit_two_pow]
  by_cases e:i=j
  ·subst e;simp [h]
  ·simp [e]
 have:=Nat.two_pow_add_eq_or_of_lt (i:=0) (b:=0) (by decide) 0
 have key:X+2 ^ i=(X ||| 2 ^ i)+(X &&& 2 ^ i):=by
  apply Nat.eq_of_testBit_eq
  intro j
  rw [hd,Nat.add_zero]
  -- split X at bit i
  have e1:X=2 ^ (i+1) * (X / 2 ^ (i+1))+X % 2 ^ (i+1):=(Nat.div_add_mod _ _).symm
  have hlow:X % 2 ^ (i+1)<2 ^ i:=by
   apply lt_of_bits
   intro k hk
   rw [Nat.testBit_mod_two_pow]
   by_cases hki:k=i
   ·subst hki;simp [h]
   ·have:¬ k<i+1:=by omega
    simp [this]
  have e2:X+2 ^ i=2 ^ (i+1) * (X / 2 ^ (i+1))+(2 ^ i * 1+X % 2 ^ (i+1)):=by omega
  have hb:2 ^ i * 1+X % 2 ^ (i+1)<2 ^ (i+1):=by rw [Nat.pow_succ] at hlow ⊢;omega
  rw [e2,Nat.testBit_two_pow_mul_add _ hb,Nat.testBit_or,Nat.testBit_two_pow]
  split
  ·rename_i hj
   rw [Nat.testBit_two_pow_mul_add _ hlow]
   split
   ·rename_i hji
    rw [Nat.testBit_mod_two_pow]
    have:¬ i=j:=by omega
    simp [hj,this]
   ·have:i=j:=by omega
    subst this
    simp
  ·rename_i hj
   rw [Nat.testBit_div_two_pow]
   have e3:j - (i+1)+(i+1)=j:=by omega
   have e4:¬ i=j:=by omega
   simp [e3,e4]
 rw [key,hd,Nat.add_zero]
theorem or_bit {X i:Nat} (h:X.testBit i=true):X ||| 2 ^ i=X:=by
 apply Nat.eq_of_testBit_eq
 intro j
 rw [Nat.testBit_or,Nat.testBit_two_pow]
 by_cases e:i=j
 ·subst e;simp [h]
 ·simp [e]
theorem mem_listOf {X i:Nat}:i∈listOf X ↔ i<64/\X.testBit i=true:=by simp [listOf]
theorem listOf_zero:listOf 0=[]:=by simp [listOf]
theorem range_split (k:Nat) (h:k<64):List.range 64=List.range k ++ k :: List.range' (k+1) (63 - k):=by
 rw [List.range_eq_range',List.range_eq_range']
 have e:(64:Nat)=k+(64 - k):=by omega
 conv=>lhs;rw [e]
 rw [<- List.range'_append_1]
 congr 1
 have e2:64 - k=(63 - k)+1:=by omega
 rw [e2,List.range'_succ]
 simp
theorem ctz_bits {x:Nat} (h0:x≠0) (h:x<2 ^ 64):Go.Lib.ctz 64 x<64/\x.testBit (Go.Lib.ctz 64 x)=true/\(∀ j,j<Go.Lib.ctz 64 x->x.testBit j=false) /\
  ∀ j,(x &&& (x - 1)).testBit j=(x.testBit j && decide (j≠Go.Lib.ctz 64 x)):=by
 obtain ⟨m,hm,hk⟩:=Go.Lib.ctzFrom_spec 64 x (by omega) h
 have e:Go.Lib.ctz 64 x=Go.Lib.ctzFrom 64 x:=by simp [Go.Lib.ctz,h0]
 rw [e]
 generalize Go.Lib.ctzFrom 64 x=k at *
 have hx:∀ j,x.testBit j=(decide (k<=j) && (2 * m+1).testBit (j - k)):=by
  intro j;rw [hm,Nat.mul_comm,Nat.testBit_mul_two_pow]
 have hp:0<2 ^ k:=Nat.two_pow_pos k
 have hx1:x - 1=2 ^ k * (2 * m)+(2 ^ k - 1):=by rw [hm,Nat.mul_add];omega
 have hy:∀ j,(x - 1).testBit j=if j<k then true else (2 * m).testBit (j - k):=by
  intro j
  rw [hx1,Nat.testBit_two_pow_mul_add _ (by omega),Nat.testBit_two_pow_sub_one]
  split <;> simp_all
 refine ⟨hk,?_,?_,?_⟩
 ·rw [hx];simp
 ·intro j hj
  rw [hx]
  have:¬ k<=j:=by omega
  simp [this]
 ·intro j
  rw [Nat.testBit_and,hx,hy]
  by_cases h1:j<k
  ·have:¬ k<=j:=by omega
   simp [this]
  ·by_cases h2:j=k
   ·subst h2;simp
   ·obtain ⟨d,rfl⟩:∃ d,j=k+(d+1):=⟨j - k - 1,by omega⟩
    have e3:k+(d+1) - k=d+1:=by omega
    have e4:¬ k+(d+1)<k:=by omega
    have e5:k<=k+(d+1):=by omega
    have d1:(2 * m+1) / 2=m:=by omega
    have d2:(2 * m) / 2=m:=by omega
    simp [e3,Nat.testBit_succ,d1,d2]
    exact fun hh=>Or.inr hh
theorem listOf_step {x:Nat} (h0:x≠0) (h:x<2 ^ 64):listOf x=Go.Lib.ctz 64 x :: listOf (x &&& (x - 1)):=by
 obtain ⟨hk,hb,hlow,hnext⟩:=ctz_bits h0 h
 generalize Go.Lib.ctz 64 x=k at *
 unfold listOf
 rw [range_split k hk,List.filter_append,List.filter_append,List.filter_cons,List.filter_cons]
 have n1:(List.range k).filter (fun i=>x.testBit i)=[]:=by
  rw [List.filter_eq_nil_iff];intro a ha;rw [List.mem_range] at ha;simp [hlow a ha]
 have n2:(List.range k).filter (fun i=>(x &&& (x - 1)).testBit i)=[]:=by
  rw [List.filter_eq_nil_iff];intro a ha;rw [List.mem_range] at ha;rw [hnext];simp [hlow a ha]
 have n3:(List.range' (k+1) (63 - k)).filter (fun i=>(x &&& (x - 1)).testBit i)=(List.range' (k+1) (63 - k)).filter (fun i=>x.testBit i):=by
  apply List.filter_congr
  intro a ha
  rw [List.mem_range'_1] at ha
  have:a≠k:=by omega
  rw [hnext];simp [this]
 rw [n1,n2,n3,hb,hnext]
 simp
theorem and_pred_lt {x:Nat} (h0:x≠0):x &&& (x - 1)<x:=by
 have:=@Nat.and_le_right x (x - 1)
 omega
theorem listOf_len (x:Nat):(listOf x).length<=64:=by
 unfold listOf
 have:=List.length_filter_le (fun i=>x.testBit i) (List.range 64)
 simpa using this
theorem bitN_lt {i:Nat} (h:i<64):bitN i<18446744073709551616:=by
 have:bitN i<2 ^ 64:=Nat.pow_lt_pow_of_lt (by decide) h
 simpa using this
theorem pow_wrap (n:Int) (h1:n<64):IntKind.u64.wrap ((2:Int) ^ n.toNat)=((bitN n.toNat:Nat):Int):=by
 have h:=bitN_lt (i:=n.toNat) (by omega)
 have e:((2:Int) ^ n.toNat)=((bitN n.toNat:Nat):Int):=by simp [bitN]
 rw [e,IntKind.wrap_u64]
 omega
theorem full_wrap (n:Int) (h0:0<n) (h1:n<=64):IntKind.u64.wrap (IntKind.u64.wrap ((2:Int) ^ n.toNat) - 1)=((fullN n.toNat:Nat):Int):=by
 have e:((2:Int) ^ n.toNat)=((2 ^ n.toNat:Nat):Int):=by simp
 have hp:0<2 ^ n.toNat:=Nat.two_pow_pos _
 have hle:2 ^ n.toNat<=2 ^ 64:=Nat.pow_le_pow_right (by decide) (by omega)
 rw [e,IntKind.wrap_u64,IntKind.wrap_u64]
 unfold fullN
 simp at hle
 omega
theorem shr_bit (X k:Nat):(((X:Int) / 2 ^ k).tmod 2 == 1)=X.testBit k:=by
 have e:((X:Int) / 2 ^ k)=((X / 2 ^ k:Nat):Int):=by simp
 rw [e,Int.tmod_eq_emod_of_nonneg (Int.natCast_nonneg _),Nat.testBit_eq_decide_div_mod_eq]
 rw [Bool.eq_iff_iff]
 simp
 omega
theorem and_bit (X k:Nat) (hX:X<18446744073709551616) (hk:k<64):(bits .and .u64 (X:Int) (bitN k:Int) != 0)=X.testBit k:=by
 rw [u64_and_nat X (bitN k) hX (bitN_lt hk)]
 unfold bitN
 rw [nat_bit]
 have hp:0<2 ^ k:=Nat.two_pow_pos k
 rw [Nat.testBit_eq_decide_div_mod_eq,Bool.eq_iff_iff,bne_iff_ne]
 have h2:X / 2 ^ k % 2=0\/X / 2 ^ k % 2=1:=by omega
 generalize 2 ^ k=p at *
 rcases h2 with h2 | h2
 ·rw [h2];simp
 ·rw [h2];simp;omega
theorem or_bitN (X k:Nat) (hX:X<18446744073709551616) (hk:k<64):bits .or .u64 (X:Int) (bitN k:Int)=((X ||| bitN k:Nat):Int) :=
 u64_or_nat X (bitN k) hX (bitN_lt hk)
theorem or_lt (X k:Nat) (hX:X<18446744073709551616) (hk:k<64):X ||| bitN k<18446744073709551616:=by
 have:=Nat.or_lt_two_pow (n:=64) (x:=X) (y:=bitN k) (by simpa using hX) (by simpa using bitN_lt hk)
 simpa using this
end Go.Proofs.YtbccbgonlmkpkaaGreatDoor
namespace Go.Proofs.YtbccbgonlmkpkaaGreatDoor
open Go.RowKit
theorem single_any (n:Int) (h0:0<=n) (h1:n<64) (w:World) :
  Calls Tryz.prog 108 #[.int .i64 n] w fun e w'=>e=.returned (.int .u64 (bitN n.toNat:Int))/\w=w':=by
 have E:=Lib.hid (pow_wrap n h1)
 go_enter Tryz.func108,Tryz.ntmps108
 go_wp2
 go_ret
 exact ⟨ret_int E.out,rfl⟩
theorem refHas_in (X:Nat) (n:Int) (_hX:X<18446744073709551616) (h0:0<=n) (h1:n<64) (w:World) :
  Calls Tryz.prog 206 #[.int .u64 X,.int .i64 n] w fun e w'=>e=.returned (.bool (X.testBit n.toNat))/\w=w':=by
 have E:=Lib.hid (shr_bit X n.toNat)
 go_enter Tryz.func206,Tryz.ntmps206
 go_wp2
 go_ret
 exact ⟨ret_bool E.out,rfl⟩
theorem refHas_out (X:Nat) (n:Int) (h:n<0\/64<=n) (w:World) :
  Calls Tryz.prog 206 #[.int .u64 X,.int .i64 n] w fun e w'=>e=.returned (.bool false)/\w=w':=by
 rcases h with h | h
 ·go_enter Tryz.func206,Tryz.ntmps206
  go_wp2
  go_ret
  exact ⟨rfl,rfl⟩
 ·have h':0<=n:=by omega
  have hd:decide (n<64)=false:=decide_eq_false (by omega)
  go_enter Tryz.func206,Tryz.ntmps206
  go_wp2
  go_ret
  exact ⟨rfl,rfl⟩
theorem has_in (X:Nat) (n:Int) (hX:X<18446744073709551616) (h0:0<=n) (h1:n<64) (w:World) :
  Calls Tryz.prog 48 #[.int .u64 X,.int .i64 n] w fun e w'=>e=.returned (.bool (X.testBit n.toNat))/\w=w':=by
 have E:=Lib.hid (and_bit X n.toNat hX (by omega))
 go_enter Tryz.func48,Tryz.ntmps48
 go_wp2_with fail
 refine (single_any n h0 h1 _).mono ?_
 rintro e w1 ⟨rfl,rfl⟩
 go_wp2
 go_ret
 exact ⟨ret_bool E.out,rfl⟩
theorem all_yes (F R:Int) (hv:vsz F R) (w:World) :
  Calls Tryz.prog 197 #[.agg #[.int .i64 F,.int .i64 R]] w fun e w'=>e=.returned (.tuple #[.int .u64 (fullN (F * R).toNat:Int),.int .i64 0])/\Below w.heap.size w w':=by
 obtain ⟨m0,m1⟩:=vsz_mul hv
 have E:=Lib.hid (full_wrap (F * R) (by omega) m1)
 go_enter Tryz.func197,Tryz.ntmps197
 go_wp2_with fail
 refine (validSize_yes _ _ hv _).mono ?_
 rintro e w1 ⟨rfl,hb⟩
 have hc0:=hb.cell (p:=⟨w.heap.size,0,none⟩) (by simp)
 have hc1:=hb.cell (p:=⟨w.heap.size,1,none⟩) (by simp)
 go_wp2
 go_ret2
 exact ⟨ret2 (vint E.out) rfl,after1 hb⟩
theorem refAbs_any (n:Int) (h0:-100<=n) (h1:n<=100) (w:World) :
  Calls Tryz.prog 208 #[.int .i64 n] w fun e w'=>e=.returned (.int .i64 (max n (-n)))/\w'=w:=by
 go_enter Tryz.func208,Tryz.ntmps208
 go_wp2
 all_goals
  go_ret
  exact ⟨ret_int (by omega),rfl⟩
def dist (F a b:Int):Int:=max (max (a % F - b % F) (b % F - a % F)) (max (a / F - b / F) (b / F - a / F))
theorem distance_yes (F R a b:Int) (ha:vat F R a) (hb:vat F R b) (w:World) :
  Calls Tryz.prog 84 #[.agg #[.int .i64 F,.int .i64 R],.int .i64 a,.int .i64 b] w fun e w'=>e=.returned (.tuple #[.int .i64 (dist F a b),.int .i64 0])/\Below w.heap.size w w':=by
 obtain ⟨p0,p1,p2,p3⟩:=place_bd ha.1 ha.2.1 ha.2.2
 obtain ⟨q0,q1,q2,q3⟩:=place_bd hb.1 hb.2.1 hb.2.2
 have f2:=ha.1.2.1
 have r2:=ha.1.2.2.2
 have E:Hid (∀ x y,x=max (a % F - b % F) (b % F - a % F)->y=max (a / F - b / F) (b / F - a / F)->dist F a b=max x y):=Lib.hid (by intro x y hx hy;rw [hx,hy];rfl)
 go_enter Tryz.func84,Tryz.ntmps84
 go_wp2_with fail
 refine (valid_yes _ _ _ ha _).mono ?_
 rintro e w1 ⟨rfl,b1⟩
 have hc0:=b1.cell (p:=⟨w.heap.size,0,none⟩) (by simp)
 have hc1:=b1.cell (p:=⟨w.heap.size,1,none⟩) (by simp)
 go_wp2_with fail
 refine (valid_yes _ _ _ hb _).mono ?_
 rintro e w2 ⟨rfl,b2⟩
 have s1:=b1.size
 simp at s1
 have hd0:=(b2.cell (p:=⟨w.heap.size,0,none⟩) (by simp;omega)).trans hc0
 have hd1:=(b2.cell (p:=⟨w.heap.size,1,none⟩) (by simp;omega)).trans hc1
 clear hc0 hc1
 go_wp2_with fail
 refine (place_any _ _ _ ha _).mono ?_
 rintro e w3 ⟨rfl,b3⟩
 have s2:=b2.size
 have he0:=(b3.cell (p:=⟨w.heap.size,0,none⟩) (by simp;omega)).trans hd0
 have he1:=(b3.cell (p:=⟨w.heap.size,1,none⟩) (by simp;omega)).trans hd1
 clear hd0 hd1
 go_wp2_with fail
 refine (place_any _ _ _ hb _).mono ?_
 rintro e w4 ⟨rfl,b4⟩
 go_wp2_with fail
 refine (apart_any _ _ (by omega) (by omega) _).mono ?_
 rintro e w5 ⟨rfl,rfl⟩
 go_wp2_with fail
 refine (apart_any _ _ (by omega) (by omega) _).mono ?_
 rintro e w6 ⟨rfl,rfl⟩
 generalize hx:max (a % F - b % F) (b % F - a % F)=x
 generalize hy:max (a / F - b / F) (b / F - a / F)=y
 have E2:=Lib.hid (E.out x y hx.symm hy.symm)
 clear hx hy E
 go_wp2
 all_goals
  go_ret2
  exact ⟨ret2 (vint (by rw [E2.out];omega)) rfl,after1 (chain (chain (chain b1 b2) b3) b4)⟩
end Go.Proofs.YtbccbgonlmkpkaaGreatDoor
namespace Go.Proofs.YtbccbgonlmkpkaaGreatDoor
open Go.RowKit
def ltr (i:Nat):Nat:=[80,78,66,82,81,75,65,67,68,69,70,71,72,73,74].getD i 0
theorem ltr_bd:∀ i,i<15->65<=ltr i/\ltr i<=90:=by decide +kernel
def okP (p:Int):Prop:=-15<=p/\p<=15
theorem pValid_yes (p:Int) (h:okP p) (w:World) :
  Calls Tryz.prog 192 #[.int .i8 p] w fun e w'=>e=.returned (.bool true)/\w=w':=by
 obtain ⟨h0,h1⟩:=h
 go_enter Tryz.func192,Tryz.ntmps192
 go_wp2
 go_ret
 exact ⟨rfl,rfl⟩
theorem pValid_no (p:Int) (h:¬ okP p) (w:World) :
  Calls Tryz.prog 192 #[.int .i8 p] w fun e w'=>e=.returned (.bool false)/\w=w':=by
 by_cases h0:-15<=p
 ·have hd:decide (p<=15)=false:=decide_eq_false fun h1=>h ⟨h0,h1⟩
  clear h
  go_enter Tryz.func192,Tryz.ntmps192
  go_wp2
  go_ret
  exact ⟨rfl,rfl⟩
 ·have hd:decide (-15<=p)=false:=decide_eq_false h0
  clear h
  go_enter Tryz.func192,Tryz.ntmps192
  go_wp2
  go_ret
  exact ⟨rfl,rfl⟩
end Go.Proofs.YtbccbgonlmkpkaaGreatDoor
namespace Go.Proofs.YtbccbgonlmkpkaaGreatDoor
open Go.RowKit
def orthB (p:Int):Bool:=p != 0 && decide (-6<=p) && decide (p<=6)
theorem orth_lo {p:Int} (h:p < -6):orthB p=false:=by unfold orthB;rw [decide_eq_false (by omega:¬ -6<=p)];simp
theorem orth_hi {p:Int} (h:6<p):orthB p=false:=by unfold orthB;rw [decide_eq_false (by omega:¬ p<=6)];simp
theorem orth_in {p:Int} (h:p≠0) (h0:-6<=p) (h1:p<=6):orthB p=true:=by unfold orthB;simp [h,h0,h1]
theorem rpValid_yes (p:Int) (h:okP p) (w:World) :
  Calls Tryz.prog 179 #[.int .i8 p] w fun e w'=>e=.returned (.bool true)/\w=w':=by
 obtain ⟨h0,h1⟩:=h
 go_enter Tryz.func179,Tryz.ntmps179
 go_wp2
 go_ret
 exact ⟨rfl,rfl⟩
theorem rpValid_no (p:Int) (h:¬ okP p) (w:World) :
  Calls Tryz.prog 179 #[.int .i8 p] w fun e w'=>e=.returned (.bool false)/\w=w':=by
 by_cases h0:-15<=p
 ·have hd:decide (p<=15)=false:=decide_eq_false fun h1=>h ⟨h0,h1⟩
  clear h
  go_enter Tryz.func179,Tryz.ntmps179
  go_wp2
  go_ret
  exact ⟨rfl,rfl⟩
 ·have hd:decide (-15<=p)=false:=decide_eq_false h0
  clear h
  go_enter Tryz.func179,Tryz.ntmps179
  go_wp2
  go_ret
  exact ⟨rfl,rfl⟩
theorem orth_any (p:Int) (hp:-128<=p/\p<=127) (w:World) :
  Calls Tryz.prog 199 #[.int .i8 p] w fun e w'=>e=.returned (.bool (orthB p))/\w=w':=by
 by_cases h0:p=0
 ·subst h0
  go_enter Tryz.func199,Tryz.ntmps199
  go_wp2
  go_ret
  exact ⟨rfl,rfl⟩
 ·have hz:(p != 0)=true:=bne_iff_ne.2 h0
  by_cases h1:p < -6
  ·rw [orth_lo h1]
   have hd:decide (-6<=p)=false:=decide_eq_false (by omega)
   go_enter Tryz.func199,Tryz.ntmps199
   go_wp2
   go_ret
   exact ⟨rfl,rfl⟩
  ·by_cases h2:6<p
   ·rw [orth_hi h2]
    have h3:-6<=p:=by omega
    have hd:decide (p<=6)=false:=decide_eq_false (by omega)
    go_enter Tryz.func199,Tryz.ntmps199
    go_wp2
    go_ret
    exact ⟨rfl,rfl⟩
   ·have h3:-6<=p:=by omega
    have h4:p<=6:=by omega
    rw [orth_in h0 h3 h4]
    go_enter Tryz.func199,Tryz.ntmps199
    go_wp2
    go_ret
    exact ⟨rfl,rfl⟩
theorem rorth_any (p:Int) (hp:-128<=p/\p<=127) (w:World) :
  Calls Tryz.prog 130 #[.int .i8 p] w fun e w'=>e=.returned (.bool (orthB p))/\w=w':=by
 by_cases h0:p=0
 ·subst h0
  go_enter Tryz.func130,Tryz.ntmps130
  go_wp2
  go_ret
  exact ⟨rfl,rfl⟩
 ·have hz:(p != 0)=true:=bne_iff_ne.2 h0
  by_cases h1:p < -6
  ·rw [orth_lo h1]
   have hd:decide (-6<=p)=false:=decide_eq_false (by omega)
   go_enter Tryz.func130,Tryz.ntmps130
   go_wp2
   go_ret
   exact ⟨rfl,rfl⟩
  ·by_cases h2:6<p
   ·rw [orth_hi h2]
    have h3:-6<=p:=by omega
    have hd:decide (p<=6)=false:=decide_eq_false (by omega)
    go_enter Tryz.func130,Tryz.ntmps130
    go_wp2
    go_ret
    exact ⟨rfl,rfl⟩
   ·have h3:-6<=p:=by omega
    have h4:p<=6:=by omega
    rw [orth_in h0 h3 h4]
    go_enter Tryz.func130,Tryz.ntmps130
    go_wp2
    go_ret
    exact ⟨rfl,rfl⟩
theorem rKind_pos (i:Nat) (h1:i<=15) (w:World) :
  Calls Tryz.prog 65 #[.int .i8 (i:Int)] w fun e w'=>e=.returned (.int .i8 (i:Int))/\w=w':=by
 have hn:decide ((i:Int)<0)=false:=decide_eq_false (by omega)
 go_enter Tryz.func65,Tryz.ntmps65
 go_wp2
 go_ret
 exact ⟨rfl,rfl⟩
theorem rKind_neg (i:Nat) (h0:1<=i) (h1:i<=15) (w:World) :
  Calls Tryz.prog 65 #[.int .i8 (-(i:Int))] w fun e w'=>e=.returned (.int .i8 (i:Int))/\w=w':=by
 have hn:-(i:Int)<0:=by omega
 go_enter Tryz.func65,Tryz.ntmps65
 go_wp2
 go_ret
 exact ⟨ret_int (by omega),rfl⟩
theorem rSide_pos (i:Nat) (h0:1<=i) (h1:i<=15) (w:World) :
  Calls Tryz.prog 125 #[.int .i8 (i:Int)] w fun e w'=>e=.returned (.int .i64 1)/\w=w':=by
 have hn:decide ((i:Int)<0)=false:=decide_eq_false (by omega)
 have hp:(0:Int)<(i:Int):=by omega
 go_enter Tryz.func125,Tryz.ntmps125
 go_wp2
 go_ret
 exact ⟨rfl,rfl⟩
theorem rSide_neg (i:Nat) (h0:1<=i) (h1:i<=15) (w:World) :
  Calls Tryz.prog 125 #[.int .i8 (-(i:Int))] w fun e w'=>e=.returned (.int .i64 (-1))/\w=w':=by
 have hn:-(i:Int)<0:=by omega
 go_enter Tryz.func125,Tryz.ntmps125
 go_wp2
 go_ret
 exact ⟨rfl,rfl⟩
theorem rSide_zero (w:World) :
  Calls Tryz.prog 125 #[.int .i8 0] w fun e w'=>e=.returned (.int .i64 0)/\w=w':=by
 go_enter Tryz.func125,Tryz.ntmps125
 go_wp2
 go_ret
 exact ⟨rfl,rfl⟩
end Go.Proofs.YtbccbgonlmkpkaaGreatDoor
namespace Go.Proofs.YtbccbgonlmkpkaaGreatDoor
open Go.RowKit
def lt (p:Int):Nat:=if p<0 then ltr (-p - 1).toNat+32 else ltr (p - 1).toNat
def okL (p:Int):Prop:=-15<=p/\p<=15/\p≠0
def piP (c:Nat):Int:=(((List.range 31).map fun i:Nat=>(i:Int) - 15).find? fun p=>decide (p≠0) && decide (lt p=c)).getD 0
theorem piP_no {c:Nat} (h:∀ p,okL p->lt p≠c):piP c=0:=by
 unfold piP
 rw [List.find?_eq_none.2]
 ·rfl
 ·intro p hp hc
  obtain ⟨i,hi,rfl⟩:=List.mem_map.1 hp
  have hi:=List.mem_range.1 hi
  rw [Bool.and_eq_true,decide_eq_true_iff,decide_eq_true_iff] at hc
  exact h _ ⟨by omega,by omega,hc.1⟩ hc.2
theorem piP_lt {p:Int} (h:okL p):piP (lt p)=p:=by
 have key:∀ i:Nat,i<31->(i:Int) - 15≠0->piP (lt ((i:Int) - 15))=(i:Int) - 15:=by decide +kernel
 obtain ⟨h0,h1,h2⟩:=h
 have:=key (p+15).toNat (by omega) (by omega)
 rwa [show (((p+15).toNat:Nat):Int) - 15=p by omega] at this
theorem lt_pos {i:Nat} (h0:1<=i):lt (i:Int)=ltr (i - 1):=by
 unfold lt
 rw [if_neg (by omega)]
 congr 1
 omega
theorem lt_neg {i:Nat} (h0:1<=i):lt (-(i:Int))=ltr (i - 1)+32:=by
 unfold lt
 rw [if_pos (by omega)]
 congr 2
 omega
theorem let_up:∀ j:Fin 15,((ByteArray.mk #[80,78,66,82,81,75,65,67,68,69,70,71,72,73,74])[j.1]'j.2).toNat=ltr j.1:=by decide +kernel
theorem let_lo:∀ j:Fin 15,((ByteArray.mk #[112,110,98,114,113,107,97,99,100,101,102,103,104,105,106])[j.1]'j.2).toNat=ltr j.1+32:=by decide +kernel
theorem rLetter_pos (i:Nat) (h0:1<=i) (h1:i<=15) (w:World) :
  Calls Tryz.prog 154 #[.int .i8 (i:Int)] w fun e w'=>e=.returned (.int .u8 (ltr (i - 1):Int))/\w=w':=by
 have hn:decide ((i:Int)<0)=false:=decide_eq_false (by omega)
 go_enter Tryz.func154,Tryz.ntmps154
 go_wp2
 go_ret
 exact ⟨ret_int (congrArg (fun n:Nat=>(n:Int)) (let_up ⟨i - 1,by omega⟩)),rfl⟩
theorem rLetter_neg (i:Nat) (h0:1<=i) (h1:i<=15) (w:World) :
  Calls Tryz.prog 154 #[.int .i8 (-(i:Int))] w fun e w'=>e=.returned (.int .u8 ((ltr (i - 1)+32:Nat):Int))/\w=w':=by
 have hn:-(i:Int)<0:=by omega
 go_enter Tryz.func154,Tryz.ntmps154
 go_wp2
 go_ret
 exact ⟨ret_int (congrArg (fun n:Nat=>(n:Int)) (let_lo ⟨i - 1,by omega⟩)),rfl⟩
def noneTo (c:Nat) (q:Int):Prop:=∀ p,okL p->p<q->lt p≠c
theorem rParse_any (c:Nat) (w:World) :
  Calls Tryz.prog 189 #[.int .u8 (c:Int)] w fun e w'=>e=.returned (.int .i8 (piP c))/\w=w':=by
 go_enter Tryz.func189,Tryz.ntmps189
 go_wp2
 go_loop [3] (fun i=>∃ q:Int,-15<=q/\q<=16/\i=.int .i8 q/\Hid (noneTo c q)) (fun i=>(16 - intOf i).toNat)
 case atStart=>exact ⟨-15,by omega,by omega,rfl,Lib.hid fun p hp hq=>absurd hq (by have:=hp.1;omega)⟩
 case round =>
  obtain ⟨q,hq0,hq1,rfl,HN⟩:=hrel
  by_cases hle:q<=15
  ·by_cases hz:q=0
   ·subst hz
    have HN':Hid (noneTo c 1):=Lib.hid fun p hp hq=>HN.out p hp (by have:=hp.2.2;omega)
    go_wp2
    go_round
    case rel=>exact ⟨1,by omega,by omega,by go_num,HN'⟩
    case measure=>simp [intOf]
   ·have hnz:(q != 0)=true:=bne_iff_ne.2 hz
    have hok:okL q:=⟨hq0,hle,hz⟩
    by_cases hn:q<0
    ·obtain ⟨i,rfl⟩:∃ i:Nat,q=-(i:Int):=⟨(-q).toNat,by omega⟩
     have hL:=lt_neg (i:=i) (by omega)
     by_cases he:lt (-(i:Int))=c
     ·have hb:(((ltr (i - 1)+32:Nat):Int) == (c:Int))=true:=by rw [<- he,hL];simp
      have E:Hid (piP c=-(i:Int)):=Lib.hid (by rw [<- he];exact piP_lt hok)
      clear he hL hok hz
      go_wp2_with fail
      refine (rLetter_neg i (by omega) (by omega) _).mono ?_
      rintro e w1 ⟨rfl,rfl⟩
      go_wp2
      go_ret
      exact ⟨ret_int E.out.symm,rfl⟩
     ·have hb:(((ltr (i - 1)+32:Nat):Int) == (c:Int))=false:=by rw [beq_eq_false_iff_ne];omega
      have HN':Hid (noneTo c (-(i:Int)+1)):=Lib.hid fun p hp hq=>if e:p=-(i:Int) then by rw [e];exact he else HN.out p hp (by omega)
      clear he hL hok hz
      go_wp2_with fail
      refine (rLetter_neg i (by omega) (by omega) _).mono ?_
      rintro e w1 ⟨rfl,rfl⟩
      go_wp2
      go_round
      case rel=>exact ⟨-(i:Int)+1,by omega,by omega,by go_num,HN'⟩
      case measure=>simp [intOf];omega
    ·obtain ⟨i,rfl⟩:=Int.eq_ofNat_of_zero_le (by omega:0<=q)
     have hi1:1<=i:=by omega
     have hi2:i<=15:=by omega
     have hL:=lt_pos (i:=i) (by omega)
     by_cases he:lt (i:Int)=c
     ·have hb:((ltr (i - 1):Int) == (c:Int))=true:=by rw [<- he,hL];simp
      have E:Hid (piP c=(i:Int)):=Lib.hid (by rw [<- he];exact piP_lt hok)
      clear he hL hok hz
      go_wp2_with fail
      refine (rLetter_pos i hi1 hi2 _).mono ?_
      rintro e w1 ⟨rfl,rfl⟩
      go_wp2
      go_ret
      exact ⟨ret_int E.out.symm,rfl⟩
     ·have hb:((ltr (i - 1):Int) == (c:Int))=false:=by rw [beq_eq_false_iff_ne];omega
      have HN':Hid (noneTo c ((i:Int)+1)):=Lib.hid fun p hp hq=>if e:p=(i:Int) then by rw [e];exact he else HN.out p hp (by omega)
      clear he hL hok hz
      go_wp2_with fail
      refine (rLetter_pos i hi1 hi2 _).mono ?_
      rintro e w1 ⟨rfl,rfl⟩
      go_wp2
      go_round
      case rel=>exact ⟨(i:Int)+1,by omega,by omega,by go_num,HN'⟩
      case measure=>simp [intOf];omega
  ·have hkl:q=16:=by omega
   subst hkl
   have E:Hid (piP c=0):=Lib.hid (piP_no fun p hp=>HN.out p hp (by have:=hp.2.1;omega))
   go_wp2
   go_ret
   exact ⟨ret_int E.out.symm,rfl⟩
end Go.Proofs.YtbccbgonlmkpkaaGreatDoor
namespace Go.Proofs.YtbccbgonlmkpkaaGreatDoor
open Go.RowKit
def bsL (L:List UInt8):ByteArray:=⟨L.toArray⟩
theorem bsL_append (a b:List UInt8):bsL a ++ bsL b=bsL (a ++ b):=by
 apply ByteArray.ext
 simp [bsL]
theorem bsL_size (a:List UInt8):(bsL a).size=a.length:=by simp [bsL,ByteArray.size]
theorem bsL_toList (a:List UInt8):(bsL a).data.toList=a:=by simp [bsL]
theorem bsL_of (s:ByteArray):bsL s.data.toList=s:=by
 apply ByteArray.ext;simp [bsL]
def flu (e:Nat):List UInt8:=if 0<e then [UInt8.ofNat (48+e)] else []
theorem flu_zero:flu 0=[]:=rfl
theorem flu_pos {e:Nat} (h:0<e):flu e=[UInt8.ofNat (48+e)]:=by unfold flu;rw [if_pos h]
def stp (st:List UInt8 × Nat) (p:Int):List UInt8 × Nat:=if p=0 then (st.1,st.2+1) else (st.1 ++ flu st.2 ++ [UInt8.ofNat (lt p)],0)
def rowS (row:List Int) (k:Nat):List UInt8 × Nat:=(row.take k).foldl stp ([],0)
def rowT (row:List Int):List UInt8:=(rowS row row.length).1 ++ flu (rowS row row.length).2
def rk (F:Nat) (l:List Int) (r:Nat):List Int:=(l.drop (r * F)).take F
def accT (F R:Nat) (l:List Int):Nat->List UInt8
 | 0=>[]
 | k+1=>accT F R l k ++ (if k=0 then [] else [47]) ++ rowT (rk F l (R - 1 - k))
end Go.Proofs.YtbccbgonlmkpkaaGreatDoor
namespace Go.Proofs.YtbccbgonlmkpkaaGreatDoor
open Go.RowKit
def spS (st:List (List UInt8)) (c:UInt8):List (List UInt8):=if c=47 then st ++ [[]] else st.set (st.length - 1) (st[st.length - 1]?.getD [] ++ [c])
def spT (L:List UInt8) (k:Nat):List (List UInt8):=(L.take k).foldl spS [[]]
def spl (L:List UInt8):List (List UInt8):=spT L L.length
theorem spT_succ (L:List UInt8) (k:Nat) (h:k<L.length):spT L (k+1)=spS (spT L k) (L[k]):=by
 unfold spT
 rw [List.take_succ_eq_append_getElem h,List.foldl_append]
 rfl
theorem spS_len (st:List (List UInt8)) (c:UInt8):st.length<=(spS st c).length/\(spS st c).length<=st.length+1:=by
 unfold spS;split <;> simp
theorem spT_len (L:List UInt8) (k:Nat) (h:k<=L.length):1<=(spT L k).length/\(spT L k).length<=k+1:=by
 induction k with
 | zero=>simp [spT]
 | succ k ih =>
  have:=ih (by omega)
  rw [spT_succ L k (by omega)]
  have:=spS_len (spT L k) L[k]
  omega
theorem spT_each (L:List UInt8) (k:Nat) (h:k<=L.length):∀ t∈spT L k,t.length<=k:=by
 induction k with
 | zero=>intro t ht;simp [spT] at ht;subst ht;simp
 | succ k ih =>
  have:=ih (by omega)
  rw [spT_succ L k (by omega)]
  unfold spS
  split
  ·intro t ht
   rw [List.mem_append,List.mem_singleton] at ht
   rcases ht with ht | rfl
   ·have:=this t ht;omega
   ·simp
  ·intro t ht
   rcases List.mem_or_eq_of_mem_set ht with ht | rfl
   ·have:=this t ht;omega
   ·rw [List.length_append]
    have h1:=(spT_len L k (by omega)).1
    rw [List.getElem?_eq_getElem (show (spT L k).length - 1<(spT L k).length by omega)]
    have:=this _ (List.getElem_mem (show (spT L k).length - 1<(spT L k).length by omega))
    simp;omega
def prS (st:Option (List Int × Bool)) (c:UInt8):Option (List Int × Bool) :=
 match st with
 | none=>none
 | some (row,d)=>if 49<=c.toNat/\c.toNat<=56 then (if d then none else some (row ++ List.replicate (c.toNat - 48) 0,true)) else if piP c.toNat=0 then none else some (row ++ [piP c.toNat],false)
def prT (t:List UInt8) (k:Nat):Option (List Int × Bool):=(t.take k).foldl prS (some ([],false))
def prow (t:List UInt8):Option (List Int):=(prT t t.length).map (·.1)
theorem prT_succ (t:List UInt8) (k:Nat) (h:k<t.length):prT t (k+1)=prS (prT t k) t[k]:=by
 unfold prT
 rw [List.take_succ_eq_append_getElem h,List.foldl_append]
 rfl
theorem prS_none:∀ t:List UInt8,t.foldl prS none=none
 | []=>rfl
 | _ :: t=>prS_none t
theorem prT_dead (t:List UInt8) (k:Nat) (h:prT t k=none):prow t=none:=by
 unfold prow prT at *
 rw [List.take_length,<- List.take_append_drop k t,List.foldl_append,h,prS_none]
 rfl
theorem prT_bd (t:List UInt8) (k:Nat) (hk:k<=t.length) {row:List Int} {d:Bool} (h:prT t k=some (row,d)):row.length<=8 * k:=by
 induction k generalizing row d with
 | zero=>simp [prT] at h;rw [h.1];simp
 | succ k ih =>
  rw [prT_succ t k (by omega)] at h
  cases hp:prT t k with
  | none=>rw [hp] at h;simp [prS] at h
  | some st =>
   obtain ⟨r,d'⟩:=st
   rw [hp] at h
   have:=ih (by omega) hp
   simp only [prS] at h
   split at h
   ·split at h
    ·simp at h
    ·simp at h;rw [<- h.1];simp;omega
   ·split at h
    ·simp at h
    ·simp at h;rw [<- h.1];simp;omega
def brS (st:Option (Nat × List Int)) (t:List UInt8):Option (Nat × List Int) :=
 match st with
 | none=>none
 | some (f,ps)=>match prow t with
  | none=>none
  | some row=>if row.length<3\/8<row.length\/(0<ps.length/\row.length≠f) then none else some (row.length,ps ++ row)
def brT (ts:List (List UInt8)) (m:Nat):Option (Nat × List Int):=(ts.reverse.take m).foldl brS (some (0,[]))
theorem brT_succ (ts:List (List UInt8)) (m:Nat) (h:m<ts.length):brT ts (m+1)=brS (brT ts m) (ts[ts.length - 1 - m]?.getD []):=by
 unfold brT
 have h':m<ts.reverse.length:=by simpa using h
 rw [List.take_succ_eq_append_getElem h',List.foldl_append,List.getElem_reverse,List.getElem?_eq_getElem (by omega)]
 rfl
theorem brS_none:∀ t:List (List UInt8),t.foldl brS none=none
 | []=>rfl
 | _ :: t=>brS_none t
theorem brT_dead (ts:List (List UInt8)) (m:Nat) (h:brT ts m=none):brT ts ts.length=none:=by
 unfold brT at *
 have e:ts.reverse.take ts.length=ts.reverse.take m ++ ts.reverse.drop m:=by
  rw [List.take_append_drop,List.take_of_length_le (by simp)]
 rw [e,List.foldl_append,h,brS_none]
theorem brT_bd (ts:List (List UInt8)) (m:Nat) (hm:m<=ts.length) {f:Nat} {ps:List Int} (h:brT ts m=some (f,ps)):f<=8/\ps.length<=8 * m:=by
 induction m generalizing f ps with
 | zero=>simp [brT] at h;rw [<- h.1,h.2];simp
 | succ m ih =>
  rw [brT_succ ts m (by omega)] at h
  cases hp:brT ts m with
  | none=>rw [hp] at h;simp [brS] at h
  | some st =>
   obtain ⟨f',ps'⟩:=st
   rw [hp] at h
   have:=ih (by omega) hp
   simp only [brS] at h
   split at h
   ·simp at h
   ·split at h
    ·simp at h
    ·rename_i hc
     simp at h hc
     rw [<- h.1,<- h.2]
     simp;omega
def parseB (L:List UInt8):Option (Nat × Nat × List Int) :=
 if (spl L).length<3\/8<(spl L).length then none else (brT (spl L) (spl L).length).map fun st=>(st.1,(spl L).length,st.2)
end Go.Proofs.YtbccbgonlmkpkaaGreatDoor
