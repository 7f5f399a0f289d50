/- What the theorem needs, piece Zb13. -/
import Derived.Test.YtbccbgonlmkpkaaGreatDoorZb01
import Derived.Test.YtbccbgonlmkpkaaGreatDoorZb11
set_option linter.unusedSimpArgs false
set_option linter.unusedVariables false
set_option maxRecDepth 100000
set_option maxHeartbeats 16000000
namespace Go.Proofs.YtbccbgonlmkpkaaGreatDoor
open Go.RowKit
def cntB (n x:Nat):Nat:=((List.range n).filter (fun i=>x.testBit i)).length
theorem cntB_le (n x:Nat):cntB n x<=n:=by
 unfold cntB
 have:=List.length_filter_le (fun i=>x.testBit i) (List.range n)
 simpa using this
theorem bits_low {b y j:Nat} (hb:b<256) (hj:j<8):(b+256 * y).testBit j=b.testBit j:=by
 have:=Nat.testBit_two_pow_mul_add y (i:=8) (b:=b) (by simpa using hb) j
 rw [if_pos hj] at this
 rw [<- this];congr 1;omega
theorem bits_high {b y j:Nat} (hb:b<256):(b+256 * y).testBit (8+j)=y.testBit j:=by
 have:=Nat.testBit_two_pow_mul_add y (i:=8) (b:=b) (by simpa using hb) (8+j)
 rw [if_neg (by omega)] at this
 rw [show 8+j - 8=j by omega] at this
 rw [<- this];congr 1;omega
theorem cntB_step {b y n:Nat} (hb:b<256):cntB (8+n) (b+256 * y)=cntB 8 b+cntB n y:=by
 unfold cntB
 rw [List.range_add,List.filter_append,List.length_append,List.filter_map,List.length_map]
 congr 1
 ·congr 1
  exact List.filter_congr fun j hj=>bits_low hb (List.mem_range.1 hj)
 ·congr 1
  exact List.filter_congr fun j _=>bits_high hb
theorem and_step {e z m M:Nat} (he:e<256) (hm:m<256):(e+256 * z) &&& (m+256 * M)=(e &&& m)+256 * (z &&& M):=by
 have hem:e &&& m<256:=Nat.lt_of_le_of_lt Nat.and_le_left he
 apply Nat.eq_of_testBit_eq
 intro j
 rw [Nat.testBit_and]
 by_cases hj:j<8
 ·rw [bits_low he hj,bits_low hm hj,bits_low hem hj,Nat.testBit_and]
 ·obtain ⟨i,rfl⟩:∃ i,j=8+i:=⟨j - 8,by omega⟩
  rw [bits_high he,bits_high hm,bits_high hem,Nat.testBit_and]
def m55:Nat->Nat | 0=>0 | k+1=>85+256 * m55 k
def m33:Nat->Nat | 0=>0 | k+1=>51+256 * m33 k
def m0f:Nat->Nat | 0=>0 | k+1=>15+256 * m0f k
def s1 (k x:Nat):Nat:=((x / 2) &&& m55 k)+(x &&& m55 k)
def s2 (k x:Nat):Nat:=((x / 4) &&& m33 k)+(x &&& m33 k)
def s3 (k x:Nat):Nat:=(x / 16+x) &&& m0f k
theorem s1_step {b y k:Nat} (hb:b<256):s1 (k+1) (b+256 * y)=s1 1 b+256 * s1 k y:=by
 have e1:(b+256 * y) / 2=(b / 2+128 * (y % 2))+256 * (y / 2):=by omega
 have e2:∀ b:Fin 256,∀ r:Fin 2,(b.val / 2+128 * r.val) &&& 85=(b.val / 2) &&& 85:=by decide +kernel
 have e3:=e2 ⟨b,hb⟩ ⟨y % 2,by omega⟩
 simp only at e3
 have e4:m55 1=85:=rfl
 unfold s1
 rw [e1,show m55 (k+1)=85+256 * m55 k from rfl,and_step (by omega) (by decide),and_step hb (by decide),e3,e4]
 omega
theorem s2_step {b y k:Nat} (hb:b<256):s2 (k+1) (b+256 * y)=s2 1 b+256 * s2 k y:=by
 have e1:(b+256 * y) / 4=(b / 4+64 * (y % 4))+256 * (y / 4):=by omega
 have e2:∀ b:Fin 256,∀ r:Fin 4,(b.val / 4+64 * r.val) &&& 51=(b.val / 4) &&& 51:=by decide +kernel
 have e3:=e2 ⟨b,hb⟩ ⟨y % 4,by omega⟩
 simp only at e3
 have e4:m33 1=51:=rfl
 unfold s2
 rw [e1,show m33 (k+1)=51+256 * m33 k from rfl,and_step (by omega) (by decide),and_step hb (by decide),e3,e4]
 omega
theorem s1_one:∀ b:Fin 256,s1 1 b.val<256:=by decide +kernel
theorem s2_one:∀ b:Fin 256,s2 1 (s1 1 b.val)<=68/\s2 1 (s1 1 b.val) % 16<=4/\(s2 1 (s1 1 b.val) % 16+s2 1 (s1 1 b.val) / 16)=cntB 8 b.val:=by decide +kernel
theorem mod_and (e:Nat):e &&& 15=e % 16:=Nat.and_two_pow_sub_one_eq_mod e 4
theorem s3_step {d z k:Nat} (hd:d<=68) (hd2:d % 16<=4) (hz:z % 16<=4):s3 (k+1) (d+256 * z)=(d % 16+d / 16)+256 * s3 k z:=by
 have e1:(d+256 * z) / 16+(d+256 * z)=(d / 16+16 * (z % 16)+d)+256 * (z / 16+z):=by omega
 unfold s3
 rw [e1,show m0f (k+1)=15+256 * m0f k from rfl,and_step (by omega) (by decide),mod_and]
 omega
def swar (k x:Nat):Nat:=s3 k (s2 k (s1 k x))
theorem s21_step {b y k:Nat} (hb:b<256):s2 (k+1) (s1 (k+1) (b+256 * y))=s2 1 (s1 1 b)+256 * s2 k (s1 k y):=by
 have h1:s1 1 b<256:=s1_one ⟨b,hb⟩
 rw [s1_step hb,s2_step h1]
theorem s21_mod (k x:Nat):s2 k (s1 k x) % 16<=4:=by
 cases k with
 | zero=>simp [s2,m33]
 | succ k =>
  obtain ⟨b,y,hb,rfl⟩:∃ b y,b<256/\x=b+256 * y:=⟨x % 256,x / 256,by omega,by omega⟩
  rw [s21_step hb]
  have h2:s2 1 (s1 1 b) % 16<=4:=(s2_one ⟨b,hb⟩).2.1
  generalize s2 1 (s1 1 b)=u at *
  generalize s2 k (s1 k y)=v at *
  omega
theorem swar_step {b y k:Nat} (hb:b<256):swar (k+1) (b+256 * y)=cntB 8 b+256 * swar k y:=by
 unfold swar
 rw [s21_step hb]
 have h1:s2 1 (s1 1 b)<=68:=(s2_one ⟨b,hb⟩).1
 have h2:s2 1 (s1 1 b) % 16<=4:=(s2_one ⟨b,hb⟩).2.1
 have h3:(s2 1 (s1 1 b) % 16+s2 1 (s1 1 b) / 16)=cntB 8 b:=(s2_one ⟨b,hb⟩).2.2
 rw [s3_step h1 h2 (s21_mod k y),h3]
theorem byte_ex (k:Nat) (x:Nat):∃ p y:Nat,p<=8/\y=x / 256/\cntB (8+8 * k) x=p+cntB (8 * k) y/\swar (k+1) x=p+256 * swar k y:=by
 obtain ⟨b,y,hb,rfl,hy⟩:∃ b y,b<256/\x=b+256 * y/\y=x / 256:=⟨x % 256,x / 256,by omega,by omega,rfl⟩
 exact ⟨cntB 8 b,y,cntB_le _ _,hy,cntB_step hb,swar_step hb⟩
theorem swar_eight (x:Nat) (hx:x<18446744073709551616):∃ p0 p1 p2 p3 p4 p5 p6 p7:Nat,(p0<=8/\p1<=8/\p2<=8/\p3<=8/\p4<=8/\p5<=8/\p6<=8/\p7<=8)/\cntB 64 x=p0+(p1+(p2+(p3+(p4+(p5+(p6+p7)))))) /\
  swar 8 x=p0+256 * (p1+256 * (p2+256 * (p3+256 * (p4+256 * (p5+256 * (p6+256 * p7)))))):=by
 obtain ⟨p0,y0,l0,f0,c0,g0⟩:=byte_ex 7 x
 obtain ⟨p1,y1,l1,f1,c1,g1⟩:=byte_ex 6 y0
 obtain ⟨p2,y2,l2,f2,c2,g2⟩:=byte_ex 5 y1
 obtain ⟨p3,y3,l3,f3,c3,g3⟩:=byte_ex 4 y2
 obtain ⟨p4,y4,l4,f4,c4,g4⟩:=byte_ex 3 y3
 obtain ⟨p5,y5,l5,f5,c5,g5⟩:=byte_ex 2 y4
 obtain ⟨p6,y6,l6,f6,c6,g6⟩:=byte_ex 1 y5
 obtain ⟨p7,y7,l7,f7,c7,g7⟩:=byte_ex 0 y6
 have z:y7=0:=by
  clear c0 c1 c2 c3 c4 c5 c6 c7 g0 g1 g2 g3 g4 g5 g6 g7 l0 l1 l2 l3 l4 l5 l6 l7
  omega
 have z1:swar 0 y7=0:=by rw [z];decide
 have z2:cntB (8 * 0) y7=0:=rfl
 refine ⟨p0,p1,p2,p3,p4,p5,p6,p7,⟨l0,l1,l2,l3,l4,l5,l6,l7⟩,?_,?_⟩
 ·have e0:cntB 64 x=p0+cntB (8 * 7) y0:=c0
  have e1:cntB (8 * 7) y0=p1+cntB (8 * 6) y1:=c1
  have e2:cntB (8 * 6) y1=p2+cntB (8 * 5) y2:=c2
  have e3:cntB (8 * 5) y2=p3+cntB (8 * 4) y3:=c3
  have e4:cntB (8 * 4) y3=p4+cntB (8 * 3) y4:=c4
  have e5:cntB (8 * 3) y4=p5+cntB (8 * 2) y5:=c5
  have e6:cntB (8 * 2) y5=p6+cntB (8 * 1) y6:=c6
  have e7:cntB (8 * 1) y6=p7+cntB (8 * 0) y7:=c7
  rw [e0,e1,e2,e3,e4,e5,e6,e7,z2,Nat.add_zero]
 ·have e0:swar 8 x=p0+256 * swar 7 y0:=g0
  have e1:swar 7 y0=p1+256 * swar 6 y1:=g1
  have e2:swar 6 y1=p2+256 * swar 5 y2:=g2
  have e3:swar 5 y2=p3+256 * swar 4 y3:=g3
  have e4:swar 4 y3=p4+256 * swar 3 y4:=g4
  have e5:swar 3 y4=p5+256 * swar 2 y5:=g5
  have e6:swar 2 y5=p6+256 * swar 1 y6:=g6
  have e7:swar 1 y6=p7+256 * swar 0 y7:=g7
  rw [e0,e1,e2,e3,e4,e5,e6,e7,z1,Nat.mul_zero,Nat.add_zero]
theorem div_step {p q:Nat} (hp:p<256):(p+256 * q) / 256=q:=by omega
theorem add_step (a b c d:Nat):(a+256 * b)+(c+256 * d)=(a+c)+256 * (b+d):=by omega
theorem add_last (a b c:Nat):a+256 * b+c=(a+c)+256 * b:=by omega
theorem low_seven (c u t:Nat) (h:t=c+256 * u) (hc:c<=64):t % 128=c:=by omega
theorem sum_le (c p0 p1 p2 p3 p4 p5 p6 p7:Nat) (q:p0<=8/\p1<=8/\p2<=8/\p3<=8/\p4<=8/\p5<=8/\p6<=8/\p7<=8) (hc:c=p0+(p1+(p2+(p3+(p4+(p5+(p6+p7))))))):c<=64:=by omega
theorem bound0 (p q B:Nat) (hp:p<=8) (hq:q<=B):p+256 * q<=8+256 * B:=by omega
theorem half (s m B:Nat) (h:s<B):s+s / (m+1)<2 * B:=by
 have:=Nat.div_le_self s (m+1)
 omega
theorem bytes_sum (s c p0 p1 p2 p3 p4 p5 p6 p7:Nat) (q:p0<=8/\p1<=8/\p2<=8/\p3<=8/\p4<=8/\p5<=8/\p6<=8/\p7<=8) (hc:c=p0+(p1+(p2+(p3+(p4+(p5+(p6+p7)))))))
  (hs:s=p0+256 * (p1+256 * (p2+256 * (p3+256 * (p4+256 * (p5+256 * (p6+256 * p7))))))) :
  ∃ y z t:Nat,s<1152921504606846976/\s+s / 256=y/\y<2305843009213693952/\y+y / 65536=z/\z<4611686018427387904/\z+z / 4294967296=t/\t<9223372036854775808/\t % 128=c:=by
 have hc64:=sum_le c p0 p1 p2 p3 p4 p5 p6 p7 q hc
 have b0:s<1152921504606846976:=by
  have h:=bound0 p0 _ _ q.1 (bound0 p1 _ _ q.2.1 (bound0 p2 _ _ q.2.2.1 (bound0 p3 _ _ q.2.2.2.1 (bound0 p4 _ _ q.2.2.2.2.1 (bound0 p5 _ _ q.2.2.2.2.2.1 (bound0 p6 _ _ q.2.2.2.2.2.2.1 q.2.2.2.2.2.2.2))))))
  rw [<- hs] at h
  exact Nat.lt_of_le_of_lt h (by decide)
 obtain ⟨q0,q1,q2,q3,q4,q5,q6,q7⟩:=q
 have g1:s / 256=p1+256 * (p2+256 * (p3+256 * (p4+256 * (p5+256 * (p6+256 * p7))))):=by rw [hs,div_step (by omega)]
 have hy2:s+s / 256=(p0+p1)+256 * ((p1+p2)+256 * ((p2+p3)+256 * ((p3+p4)+256 * ((p4+p5)+256 * ((p5+p6)+256 * ((p6+p7)+256 * p7)))))):=by
  rw [g1,hs,add_step,add_step,add_step,add_step,add_step,add_step,add_last]
 obtain ⟨y,hy⟩:∃ y,s+s / 256=y:=⟨_,rfl⟩
 have b1:y<2305843009213693952:=by rw [<- hy];exact half s 255 _ b0
 rw [hy] at hy2
 have l0:p0+p1<256:=by clear hs hy2 hc g1 b0 b1;omega
 have l1:p1+p2<256:=by clear hs hy2 hc g1 b0 b1;omega
 have g2:y / 65536=(p2+p3)+256 * ((p3+p4)+256 * ((p4+p5)+256 * ((p5+p6)+256 * ((p6+p7)+256 * p7)))):=by
  rw [show 65536=256 * 256 from rfl,<- Nat.div_div_eq_div_mul,hy2,div_step l0,div_step l1]
 have hz2:y+y / 65536=((p0+p1)+(p2+p3))+256 * (((p1+p2)+(p3+p4))+256 * (((p2+p3)+(p4+p5))+256 * (((p3+p4)+(p5+p6))+256 * (((p4+p5)+(p6+p7))+256 * (((p5+p6)+p7)+256 * ((p6+p7)+256 * p7)))))):=by
  rw [g2,hy2,add_step,add_step,add_step,add_step,add_step,add_last]
 obtain ⟨z,hz⟩:∃ z,y+y / 65536=z:=⟨_,rfl⟩
 have b2:z<4611686018427387904:=by rw [<- hz];exact half y 65535 _ b1
 rw [hz] at hz2
 have k0:(p0+p1)+(p2+p3)<256:=by clear hs hy2 hc g1 b0 b1 hz2 g2;omega
 have k1:(p1+p2)+(p3+p4)<256:=by clear hs hy2 hc g1 b0 b1 hz2 g2;omega
 have k2:(p2+p3)+(p4+p5)<256:=by clear hs hy2 hc g1 b0 b1 hz2 g2;omega
 have k3:(p3+p4)+(p5+p6)<256:=by clear hs hy2 hc g1 b0 b1 hz2 g2;omega
 have g3:z / 4294967296=((p4+p5)+(p6+p7))+256 * (((p5+p6)+p7)+256 * ((p6+p7)+256 * p7)):=by
  rw [show 4294967296=256 * 256 * 256 * 256 from rfl,<- Nat.div_div_eq_div_mul,<- Nat.div_div_eq_div_mul,<- Nat.div_div_eq_div_mul,hz2,div_step k0,div_step k1,div_step k2,div_step k3]
 obtain ⟨t,ht⟩:∃ t,z+z / 4294967296=t:=⟨_,rfl⟩
 have b3:t<9223372036854775808:=by rw [<- ht];exact half z 4294967295 _ b2
 have ht2:=ht
 rw [g3,hz2,add_step,add_step,add_step,add_last] at ht2
 have hcc:p0+p1+(p2+p3)+(p4+p5+(p6+p7))=c:=by
  rw [hc]
  clear hs hy2 hc g1 b0 b1 hz2 g2 g3 ht2 ht hz hy b2 b3 k0 k1 k2 k3 l0 l1
  omega
 rw [hcc] at ht2
 exact ⟨y,z,t,b0,hy,b1,hz,b2,ht,b3,low_seven c _ t ht2.symm hc64⟩
theorem i64_low (t:Nat) (ht:t<9223372036854775808):bits .and .i64 (t:Int) 127=((t % 128:Nat):Int):=by
 have h1:(BitVec.ofInt 64 (t:Int)).toNat=t:=by rw [BitVec.ofInt_natCast,BitVec.toNat_ofNat];omega
 show IntKind.i64.wrap ((BitVec.ofInt 64 (t:Int) &&& BitVec.ofInt 64 (127:Int)).toNat:Int)=_
 have h2:(BitVec.ofInt 64 (127:Int)).toNat=127:=by decide
 rw [BitVec.toNat_and,h1,h2]
 have h3:t &&& 127=t % 128:=Nat.and_two_pow_sub_one_eq_mod t 7
 rw [h3,IntKind.wrap_i64]
 omega
theorem ones_core (x A B C D E G H I J K L N:Nat) (w:World)
  (h1:bits .and .u64 ((x:Int) / 2) 6148914691236517205=(A:Int)) (h2:bits .and .u64 (x:Int) 6148914691236517205=(B:Int)) (h3:IntKind.u64.wrap ((A:Int)+(B:Int))=(C:Int))
  (h4:bits .and .u64 ((C:Int) / 4) 3689348814741910323=(D:Int)) (h5:bits .and .u64 (C:Int) 3689348814741910323=(E:Int)) (h6:IntKind.u64.wrap ((D:Int)+(E:Int))=(G:Int))
  (h7:IntKind.u64.wrap ((G:Int) / 16+(G:Int))=(H:Int)) (h8:bits .and .u64 (H:Int) 1085102592571150095=(I:Int))
  (h9:IntKind.u64.wrap ((I:Int)+(I:Int) / 256)=(J:Int)) (h10:IntKind.u64.wrap ((J:Int)+(J:Int) / 65536)=(K:Int)) (h11:IntKind.u64.wrap ((K:Int)+(K:Int) / 4294967296)=(L:Int))
  (h12:IntKind.i64.wrap (L:Int)=(L:Int)) (h13:bits .and .i64 (L:Int) 127=(N:Int)) :
  Calls Tryz.prog 202 #[.int .u64 x] w fun e w'=>e=.returned (.int .i64 (N:Int))/\w'=w:=by
 go_enter Tryz.func202,Tryz.ntmps202
 go_wp2
 go_ret
 exact ⟨rfl,rfl⟩
theorem ones_any (x:Nat) (hx:x<18446744073709551616) (w:World) :
  Calls Tryz.prog 202 #[.int .u64 x] w fun e w'=>e=.returned (.int .i64 (cntB 64 x:Nat))/\w'=w:=by
 obtain ⟨p0,p1,p2,p3,p4,p5,p6,p7,q,hc,hs⟩:=swar_eight x hx
 obtain ⟨y,z,t,b0,hy,b1,hz,b2,ht,b3,hN⟩:=bytes_sum _ _ _ _ _ _ _ _ _ _ q hc hs
 have e55:m55 8=6148914691236517205:=by decide
 have e33:m33 8=3689348814741910323:=by decide
 have e0f:m0f 8=1085102592571150095:=by decide
 unfold swar at hs b0 hy
 obtain ⟨C,hC⟩:∃ C,s1 8 x=C:=⟨_,rfl⟩
 rw [hC] at hs b0 hy
 obtain ⟨G,hG⟩:∃ G,s2 8 C=G:=⟨_,rfl⟩
 rw [hG] at hs b0 hy
 obtain ⟨I,hI⟩:∃ I,s3 8 G=I:=⟨_,rfl⟩
 rw [hI] at hs b0 hy
 unfold s1 at hC
 unfold s2 at hG
 unfold s3 at hI
 rw [e55] at hC
 rw [e33] at hG
 rw [e0f] at hI
 have l1:x / 2 &&& 6148914691236517205<=6148914691236517205:=Nat.and_le_right
 have l2:x &&& 6148914691236517205<=6148914691236517205:=Nat.and_le_right
 have l3:C / 4 &&& 3689348814741910323<=3689348814741910323:=Nat.and_le_right
 have l4:C &&& 3689348814741910323<=3689348814741910323:=Nat.and_le_right
 have a1:=u64_and_nat (x / 2) 6148914691236517205 (by omega) (by decide)
 have a2:=u64_and_nat x 6148914691236517205 (by omega) (by decide)
 generalize x / 2 &&& 6148914691236517205=A at *
 generalize x &&& 6148914691236517205=B at *
 have a4:=u64_and_nat (C / 4) 3689348814741910323 (by omega) (by decide)
 have a5:=u64_and_nat C 3689348814741910323 (by omega) (by decide)
 generalize C / 4 &&& 3689348814741910323=D at *
 generalize C &&& 3689348814741910323=E at *
 have a8:=u64_and_nat (G / 16+G) 1085102592571150095 (by omega) (by decide)
 rw [hI] at a8
 have w60:IntKind.u64.wrap ((A:Int)+(B:Int))=(C:Int):=by rw [IntKind.wrap_u64];clear hy hz ht hI hs hN;omega
 have r6:IntKind.u64.wrap ((D:Int)+(E:Int))=(G:Int):=by rw [IntKind.wrap_u64];clear hy hz ht hI hs hN;omega
 have r7:IntKind.u64.wrap ((G:Int) / 16+(G:Int))=((G / 16+G:Nat):Int):=by rw [IntKind.wrap_u64];clear hy hz ht hI hs hN;omega
 have r9:IntKind.u64.wrap ((I:Int)+(I:Int) / 256)=(y:Int):=by rw [IntKind.wrap_u64];clear hz ht hI hs hN;omega
 have r10:IntKind.u64.wrap ((y:Int)+(y:Int) / 65536)=(z:Int):=by rw [IntKind.wrap_u64];clear hy ht hI hs hN;omega
 have r11:IntKind.u64.wrap ((z:Int)+(z:Int) / 4294967296)=(t:Int):=by rw [IntKind.wrap_u64];clear hy hz hI hs hN;omega
 have r12:IntKind.i64.wrap (t:Int)=(t:Int):=by rw [IntKind.wrap_i64];omega
 have a13:=i64_low t b3
 rw [hN] at a13
 exact ones_core x A B C D E G (G / 16+G) I y z t (cntB 64 x) w a1 a2 w60 a4 a5 r6 r7 a8 r9 r10 r11 r12 a13
end Go.Proofs.YtbccbgonlmkpkaaGreatDoor
