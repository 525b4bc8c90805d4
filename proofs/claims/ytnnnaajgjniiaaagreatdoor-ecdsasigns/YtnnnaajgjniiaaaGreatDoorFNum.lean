import Derived.Test.YtnnnaajgjniiaaaGreatDoorNum
namespace Go.Proofs.YtnnnaajgjniiaaaGreatDoor
structure Fit (m c:Int):Prop where
 low:57896044618658097711785492504343953926634992332820282019728792003956564819968≤m
 pos:0<c
 sum:m+c=115792089237316195423570985008687907853269984665640564039457584007913129639936
theorem Fit.num {m c:Int} (h:Fit m c):Num m:=by obtain ⟨_,_,_⟩:=h;unfold Num;omega
theorem Fit.numc {m c:Int} (h:Fit m c):Num c:=by obtain ⟨_,_,_⟩:=h;unfold Num;omega
theorem Fit.pos' {m c:Int} (h:Fit m c):0<m:=by obtain ⟨_,_,_⟩:=h;omega
def ag (m n:Int):Int:=n%m
theorem ae {m c:Int} (h:Fit m c) (n:Int):Num (ag m n):=by
 obtain ⟨h1,h2,h3⟩:=h
 have a:=Int.emod_nonneg n (show m≠0 by omega)
 have b:=Int.emod_lt_of_pos n (show 0<m by omega)
 unfold ag Num;omega
theorem fu {m c:Int} (h:Fit m c) (n:Int):0≤ag m n∧ag m n<m:=by
 obtain ⟨h1,h2,h3⟩:=h
 exact ⟨Int.emod_nonneg n (show m≠0 by omega),Int.emod_lt_of_pos n (show 0<m by omega)⟩
theorem uM {m c n:Int} (h:Fit m c) (hn:Num n):(n<m→ag m n=n)∧(m≤n→ag m n=ca n m∧cL n m=0):=by
 obtain ⟨h1,h2,h3⟩:=h
 obtain ⟨a,b⟩:=hn
 refine ⟨fun hlt=>Int.emod_eq_of_lt a hlt,fun hle=>⟨?_,?_⟩⟩
 ·have e:n%m=(n-m)%m:=by rw [Int.sub_emod,Int.emod_self,Int.sub_zero,Int.emod_emod_of_dvd _ (Int.dvd_refl m)]
  unfold ag ca
  rw [e,Int.emod_eq_of_lt (by omega) (by omega),Int.emod_eq_of_lt (by omega) (by omega)]
 ·unfold cL;rw [if_neg (by omega)]
def cu (h l c:Int):Int:=(h*c+l)/115792089237316195423570985008687907853269984665640564039457584007913129639936
def bX (h l c:Int):Int:=(h*c+l)%115792089237316195423570985008687907853269984665640564039457584007913129639936
theorem ip (h l c:Int):Num (bX h l c):=⟨by unfold bX;omega,by unfold bX;omega⟩
theorem fd {m c h l:Int} (hf:Fit m c) (hh:Num h) (hl:Num l) :
  Num (cu h l c)∧cE (loN h c) l=bX h l c∧cE (hiN h c) (bO (loN h c) l)=cu h l c∧al (bO (loN h c) l):=by
 obtain ⟨h1,h2,h3⟩:=hf
 obtain ⟨a,b⟩:=hh;obtain ⟨a',b'⟩:=hl
 have u:0≤h*c∧h*c≤115792089237316195423570985008687907853269984665640564039457584007913129639935*57896044618658097711785492504343953926634992332820282019728792003956564819968 :=
  ⟨Int.mul_nonneg (by omega) (by omega),Int.mul_le_mul (by omega) (by omega) (by omega) (by omega)⟩
 unfold Num cu bX cE loN hiN bO al
 generalize h*c=p at *
 refine ⟨by omega,by omega,by omega,by omega⟩
theorem sN {m c h l:Int} (hf:Fit m c) (hh:Num h) (hz:h≠0) :
  (cu h l c*115792089237316195423570985008687907853269984665640564039457584007913129639936+bX h l c)%m=(h*115792089237316195423570985008687907853269984665640564039457584007913129639936+l)%m ∧
  cu h l c*115792089237316195423570985008687907853269984665640564039457584007913129639936+bX h l c<h*115792089237316195423570985008687907853269984665640564039457584007913129639936+l:=by
 obtain ⟨h1,h2,h3⟩:=hf
 obtain ⟨a,b⟩:=hh
 have e:cu h l c*115792089237316195423570985008687907853269984665640564039457584007913129639936+bX h l c=h*c+l:=by
  unfold cu bX;generalize h*c=p;omega
 have e2:h*115792089237316195423570985008687907853269984665640564039457584007913129639936+l=h*c+l+m*h:=by
  rw [←h3,Int.mul_add,Int.mul_comm h m];omega
 have e3:0<m*h:=Int.mul_pos (by omega) (by omega)
 rw [e,e2,Int.add_mul_emod_self_left]
 exact ⟨rfl,by omega⟩
def aI (h l:Int):Int:=h*115792089237316195423570985008687907853269984665640564039457584007913129639936+l
theorem oZ (x y:Int):aI (hiN x y) (loN x y)=x*y:=by unfold aI hiN loN;generalize x*y=p;omega
theorem eR {h l:Int} (hh:Num h) (hl:Num l):0≤aI h l:=by
 obtain ⟨_,_⟩:=hh;obtain ⟨_,_⟩:=hl;unfold aI;omega
theorem mP {m c h l:Int} (hf:Fit m c) (hh:Num h) (hz:h≠0) :
  aI (cu h l c) (bX h l c)%m=aI h l%m∧aI (cu h l c) (bX h l c)<aI h l:=sN hf hh hz
theorem jG (l:Int):aI 0 l=l:=by unfold aI;omega
def pN:Int:=115792089237316195423570985008687907853269984665640564039457584007908834671663
def nN:Int:=115792089237316195423570985008687907852837564279074904382605163141518161494337
def pC:Int:=4294968273
def nC:Int:=432420386565659656852420866394968145599
theorem am:Fit pN pC:=⟨by decide,by decide,by decide⟩
theorem dY:Fit nN nC:=⟨by decide,by decide,by decide⟩
theorem rT:l0 pN=18446744069414583343∧l1 pN=18446744073709551615∧l2 pN=18446744073709551615∧l3 pN=18446744073709551615:=by decide
theorem uN:l0 pC=4294968273∧l1 pC=0∧l2 pC=0∧l3 pC=0:=by decide
theorem rU:l0 nN=13822214165235122497∧l1 nN=13451932020343611451∧l2 nN=18446744073709551614∧l3 nN=18446744073709551615:=by decide
theorem uO:l0 nC=4624529908474429119∧l1 nC=4994812053365940164∧l2 nC=1∧l3 nC=0:=by decide
theorem eZ (x y0 y1 y2 y3:Int):x*num y0 y1 y2 y3=num (x*y0) (x*y1) (x*y2) (x*y3):=by
 unfold num
 rw [Int.mul_add,Int.mul_add,Int.mul_add,Int.mul_left_comm x _ y1,Int.mul_left_comm x _ y2,Int.mul_left_comm x _ y3]
theorem i9 (x0 x1 x2 x3 y:Int):num x0 x1 x2 x3*y=num (x0*y) (x1*y) (x2*y) (x3*y):=by
 rw [Int.mul_comm,eZ,Int.mul_comm y,Int.mul_comm y,Int.mul_comm y,Int.mul_comm y]
theorem kG {x y0 y1 y2 y3 a0 a1 a2 a3 p0 p1 p2 p3 c0 c1 c2 c3:Int}
  (e0:p0+18446744073709551616*c0=x*y0+a0+0) (e1:p1+18446744073709551616*c1=x*y1+a1+c0)
  (e2:p2+18446744073709551616*c2=x*y2+a2+c1) (e3:p3+18446744073709551616*c3=x*y3+a3+c2) :
  num p0 p1 p2 p3+115792089237316195423570985008687907853269984665640564039457584007913129639936*c3=num a0 a1 a2 a3+x*num y0 y1 y2 y3:=by
 rw [eZ]
 unfold num
 generalize x*y0=z0 at *; generalize x*y1=z1 at *; generalize x*y2=z2 at *; generalize x*y3=z3 at *
 omega
theorem uP {x0 x1 x2 x3 Y:Int} {p00 p01 p02 p03 c03 p10 p11 p12 p13 c13 p20 p21 p22 p23 c23 p30 p31 p32 p33 c33:Int}
  (r0:num p00 p01 p02 p03+115792089237316195423570985008687907853269984665640564039457584007913129639936*c03=num 0 0 0 0+x0*Y)
  (r1:num p10 p11 p12 p13+115792089237316195423570985008687907853269984665640564039457584007913129639936*c13=num p01 p02 p03 c03+x1*Y)
  (r2:num p20 p21 p22 p23+115792089237316195423570985008687907853269984665640564039457584007913129639936*c23=num p11 p12 p13 c13+x2*Y)
  (r3:num p30 p31 p32 p33+115792089237316195423570985008687907853269984665640564039457584007913129639936*c33=num p21 p22 p23 c23+x3*Y) :
  num p00 p10 p20 p30+115792089237316195423570985008687907853269984665640564039457584007913129639936*num p31 p32 p33 c33=num x0 x1 x2 x3*Y:=by
 rw [i9]
 generalize x0*Y=z0 at *; generalize x1*Y=z1 at *; generalize x2*Y=z2 at *; generalize x3*Y=z3 at *
 unfold num at *
 omega
theorem zE {n m h l:Int} (hl:Num l) (e:l+115792089237316195423570985008687907853269984665640564039457584007913129639936*h=n*m):hiN n m=h∧loN n m=l:=by
 obtain ⟨_,_⟩:=hl
 unfold hiN loN
 generalize n*m=p at *
 omega
def val:List Int→Int
 | []=>0
 | x :: xs=>x+18446744073709551616*val xs
def Bt (l:List Int):Prop:=∀ x∈l,al x
theorem mul_mod (a b c:Int):a*(b%c)%c=a*b%c:=by rw [Int.mul_emod,Int.emod_emod,←Int.mul_emod]
namespace EC
def colK (c:Nat):Nat:=c%2+18446744073709551616*(c/2%2)+340282366920938463463374607431768211456*(c/4%2)+6277101735386680763835789423207666416102355444464034512896*(c/8%2)
end EC
def aAt (a:Int) (i:Nat):Nat:=(l0 a).toNat/2 ^ i+18446744073709551616*((l1 a).toNat/2 ^ i)+340282366920938463463374607431768211456*((l2 a).toNat/2 ^ i)+6277101735386680763835789423207666416102355444464034512896*((l3 a).toNat/2 ^ i)
def bAt (b:Nat) (i:Nat):Nat:=b/2 ^ (4*((i+3)/4))*2 ^ (4*((i+3)/4)-i)
def kf (a:Int) (i:Nat):Nat:=(l0 a).toNat/2 ^ i%2+2*((l1 a).toNat/2 ^ i%2)+4*((l2 a).toNat/2 ^ i%2)+8*((l3 a).toNat/2 ^ i%2)
theorem rV (a:Int) (i:Nat):kf a i<16:=by
 unfold kf
 have h1:=Nat.mod_lt ((l0 a).toNat/2 ^ i) (show 0<2 by decide)
 have h2:=Nat.mod_lt ((l1 a).toNat/2 ^ i) (show 0<2 by decide)
 have h3:=Nat.mod_lt ((l2 a).toNat/2 ^ i) (show 0<2 by decide)
 have h4:=Nat.mod_lt ((l3 a).toNat/2 ^ i) (show 0<2 by decide)
 omega
theorem Az {a b c d:Nat} (ha:a<2) (hb:b<2) (hc:c<2) (hd:d<2):EC.colK (a+2*b+4*c+8*d)=a+18446744073709551616*b+340282366920938463463374607431768211456*c+6277101735386680763835789423207666416102355444464034512896*d:=by
 unfold EC.colK
 have e1:(a+2*b+4*c+8*d)%2=a:=by omega
 have e2:(a+2*b+4*c+8*d)/2%2=b:=by omega
 have e3:(a+2*b+4*c+8*d)/4%2=c:=by omega
 have e4:(a+2*b+4*c+8*d)/8%2=d:=by omega
 rw [e1,e2,e3,e4]
theorem fX (x i:Nat):x/2 ^ i=2*(x/2 ^ (i+1))+x/2 ^ i%2:=by
 have:x/2 ^ (i+1)=x/2 ^ i/2:=by rw [Nat.pow_succ,Nat.div_div_eq_div_mul]
 rw [this];omega
theorem o5 (a:Int) (i:Nat):aAt a i=2*aAt a (i+1)+EC.colK (kf a i):=by
 have h1:=Nat.mod_lt ((l0 a).toNat/2 ^ i) (show 0<2 by decide)
 have h2:=Nat.mod_lt ((l1 a).toNat/2 ^ i) (show 0<2 by decide)
 have h3:=Nat.mod_lt ((l2 a).toNat/2 ^ i) (show 0<2 by decide)
 have h4:=Nat.mod_lt ((l3 a).toNat/2 ^ i) (show 0<2 by decide)
 unfold kf
 rw [Az h1 h2 h3 h4]
 unfold aAt
 have k1:=fX (l0 a).toNat i
 have k2:=fX (l1 a).toNat i
 have k3:=fX (l2 a).toNat i
 have k4:=fX (l3 a).toNat i
 generalize (l0 a).toNat/2 ^ i%2=r1 at *
 generalize (l1 a).toNat/2 ^ i%2=r2 at *
 generalize (l2 a).toNat/2 ^ i%2=r3 at *
 generalize (l3 a).toNat/2 ^ i%2=r4 at *
 omega
theorem fw {x:Int} (h:al x) {i:Nat} (hi:64≤i):x.toNat/2 ^ i=0:=by
 apply Nat.div_eq_of_lt
 have h1:x.toNat<2 ^ 64:=by obtain ⟨a,b⟩:=h;omega
 exact Nat.lt_of_lt_of_le h1 (Nat.pow_le_pow_right (by decide) hi)
theorem jb (a:Int) {i:Nat} (hi:64≤i):aAt a i=0:=by
 unfold aAt
 rw [fw (aU a) hi,fw (aV a) hi,fw (aW a) hi,fw (bj a) hi]
theorem uQ {a:Int} (h:Num a):aAt a 0=a.toNat:=by
 unfold aAt l0 l1 l2 l3
 obtain ⟨h0,h1⟩:=h
 simp only [Nat.pow_zero,Nat.div_one]
 omega
theorem uR (b:Nat):bAt b 0=b:=by unfold bAt;simp
theorem xM {b:Nat} (h:b<2 ^ 256):bAt b 256=0:=by
 unfold bAt
 rw [Nat.div_eq_of_lt (by simpa using h),Nat.zero_mul]
theorem mQ (b:Nat) {i:Nat} (hi:i%4=0):bAt b i=2*bAt b (i+1)+b/2 ^ i%16:=by
 unfold bAt
 have e1:4*((i+3)/4)=i:=by omega
 have e2:4*((i+1+3)/4)=i+4:=by omega
 rw [e1,e2,show i+4-(i+1)=3 by omega,show i-i=0 by omega,Nat.pow_add,←Nat.div_div_eq_div_mul]
 simp only [Nat.pow_zero,Nat.mul_one,Nat.reducePow]
 omega
theorem mR (b:Nat) {i:Nat} (hi:i%4≠0):bAt b i=2*bAt b (i+1):=by
 unfold bAt
 have e1:4*((i+1+3)/4)=4*((i+3)/4):=by omega
 have hle:i+1≤4*((i+3)/4):=by omega
 rw [e1,show 4*((i+3)/4)-i=(4*((i+3)/4)-(i+1))+1 by omega,Nat.pow_succ,←Nat.mul_assoc,Nat.mul_comm 2]
def uS (b:Int) (k:Nat):Int:=if k=0 then l0 b else if k=1 then l1 b else if k=2 then l2 b else l3 b
theorem nib (x r:Nat) {m:Nat} (hr:r+4≤m):x%2 ^ m/2 ^ r%16=x/2 ^ r%16:=by
 have e:2 ^ m=2 ^ r*(16*2 ^ (m-r-4)):=by
  rw [show (16:Nat)=2 ^ 4 by decide,←Nat.pow_add,←Nat.pow_add];congr 1;omega
 rw [e,Nat.mod_mul_right_div_self,Nat.mod_mul_right_mod]
theorem qA {b:Int} (h:Num b) {k:Nat} (hk:k<4):(uS b k).toNat=b.toNat/2 ^ (64*k)%2 ^ 64:=by
 obtain ⟨n,rfl⟩:=Int.eq_ofNat_of_zero_le h.1
 have hc:k=0∨k=1∨k=2∨k=3:=by omega
 rcases hc with rfl|rfl|rfl|rfl
 ·show (l0 n).toNat=_;unfold l0;simp only [Nat.mul_zero,Nat.pow_zero,Nat.div_one,Nat.reducePow];omega
 ·show (l1 n).toNat=_;unfold l1;simp only [Nat.mul_one,Nat.reducePow];omega
 ·show (l2 n).toNat=_;unfold l2;simp only [Nat.reduceMul,Nat.reducePow];omega
 ·show (l3 n).toNat=_;unfold l3;simp only [Nat.reduceMul,Nat.reducePow];omega
def fe (b:Int) (i:Nat):Nat:=(uS b (i/64)).toNat/2 ^ (i%64)%16
theorem rW {b:Int} (h:Num b) {i:Nat} (hi:i<256) (h4:i%4=0):fe b i=b.toNat/2 ^ i%16:=by
 unfold fe
 rw [qA h (by omega),nib _ _ (by omega),Nat.div_div_eq_div_mul,←Nat.pow_add,show 64*(i/64)+i%64=i by omega]
theorem rX (b:Int) (i:Nat):fe b i<16:=Nat.mod_lt _ (by decide)
end Go.Proofs.YtnnnaajgjniiaaaGreatDoor
