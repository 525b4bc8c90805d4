
namespace Go.Proofs.YtnnnaajgjniiaaaGreatDoor
def ai (x:Int):Prop:=0≤x∧x<18446744073709551616
def cV (x y c:Int):Int:=(x+y+c)%18446744073709551616
def cI (x y c:Int):Int:=(x+y+c)/18446744073709551616
def dE (x y b:Int):Int:=(x-y-b)%18446744073709551616
def cP (x y b:Int):Int:=if x<y+b then 1 else 0
def pk (x y:Int):Int:=x*y/18446744073709551616
def iz (x y:Int):Int:=x*y%18446744073709551616
def maH (a b c d:Int):Int:=(a*b+c+d)/18446744073709551616
def maL (a b c d:Int):Int:=(a*b+c+d)%18446744073709551616
theorem dL (x y c:Int):ai (cV x y c):=⟨by unfold cV;omega,by unfold cV;omega⟩
theorem fB {x y c:Int} (hx:ai x) (hy:ai y) (hc:0≤c∧c≤1):0≤cI x y c∧cI x y c≤1:=by
 obtain ⟨_,_⟩:=hx;obtain ⟨_,_⟩:=hy;unfold cI;omega
theorem ge (x y c:Int):ai (dE x y c):=⟨by unfold dE;omega,by unfold dE;omega⟩
theorem dQ (x y b:Int):0≤cP x y b∧cP x y b≤1:=by unfold cP;split<;>omega
theorem jR (x y c:Int):cV x y c+18446744073709551616*cI x y c=x+y+c:=by unfold cV cI;omega
theorem jS {x y b:Int} (hx:ai x) (hy:ai y) (hb:0≤b∧b≤1):dE x y b-18446744073709551616*cP x y b=x-y-b:=by
 obtain ⟨_,_⟩:=hx;obtain ⟨_,_⟩:=hy;unfold dE cP;split<;>omega
theorem nE {a b:Int} (ha:ai a) (hb:ai b):0≤a*b∧a*b≤18446744073709551615*18446744073709551615:=by
 obtain ⟨_,_⟩:=ha;obtain ⟨_,_⟩:=hb
 exact ⟨Int.mul_nonneg (by omega) (by omega),Int.mul_le_mul (by omega) (by omega) (by omega) (by omega)⟩
theorem mh (x y:Int):ai (iz x y):=⟨by unfold iz;omega,by unfold iz;omega⟩
theorem bj (a b c d:Int):ai (maL a b c d):=⟨by unfold maL;omega,by unfold maL;omega⟩
theorem bA {a b c d:Int} (ha:ai a) (hb:ai b) (hc:ai c) (hd:ai d):ai (maH a b c d):=by
 obtain ⟨_,_⟩:=nE ha hb;obtain ⟨_,_⟩:=hc;obtain ⟨_,_⟩:=hd
 unfold maH ai;omega
theorem dD (a b c d:Int):maL a b c d+18446744073709551616*maH a b c d=a*b+c+d:=by unfold maL maH;omega
theorem mO {a b c d:Int} (ha:ai a) (hb:ai b) (hc:ai c) (hd:ai d) :
  0≤pk a b∧pk a b+cI (iz a b) c 0<18446744073709551616∧pk a b+cI (iz a b) c 0+cI (cV (iz a b) c 0) d 0<18446744073709551616 ∧
  pk a b+cI (iz a b) c 0+cI (cV (iz a b) c 0) d 0=maH a b c d∧cV (cV (iz a b) c 0) d 0=maL a b c d:=by
 obtain ⟨_,_⟩:=nE ha hb;obtain ⟨_,_⟩:=hc;obtain ⟨_,_⟩:=hd
 unfold pk cI iz cV maH maL
 generalize a*b=p at *
 refine ⟨by omega,by omega,by omega,by omega,by omega⟩
def l0 (n:Int):Int:=n%18446744073709551616
def l1 (n:Int):Int:=n/18446744073709551616%18446744073709551616
def l2 (n:Int):Int:=n/340282366920938463463374607431768211456%18446744073709551616
def l3 (n:Int):Int:=n/6277101735386680763835789423207666416102355444464034512896%18446744073709551616
def Num (n:Int):Prop:=0≤n∧n<115792089237316195423570985008687907853269984665640564039457584007913129639936
def num (a b c d:Int):Int:=a+18446744073709551616*b+340282366920938463463374607431768211456*c+6277101735386680763835789423207666416102355444464034512896*d
theorem bJ (n:Int):ai (l0 n):=⟨by unfold l0;omega,by unfold l0;omega⟩
theorem bK (n:Int):ai (l1 n):=⟨by unfold l1;omega,by unfold l1;omega⟩
theorem bL (n:Int):ai (l2 n):=⟨by unfold l2;omega,by unfold l2;omega⟩
theorem bO (n:Int):ai (l3 n):=⟨by unfold l3;omega,by unfold l3;omega⟩
theorem jT {a b c d:Int} (ha:ai a) (hb:ai b) (hc:ai c) (hd:ai d):Num (num a b c d):=by
 obtain ⟨_,_⟩:=ha;obtain ⟨_,_⟩:=hb;obtain ⟨_,_⟩:=hc;obtain ⟨_,_⟩:=hd
 unfold Num num;omega
theorem fw {n:Int} (h:Num n):num (l0 n) (l1 n) (l2 n) (l3 n)=n:=by
 obtain ⟨_,_⟩:=h;unfold num l0 l1 l2 l3;omega
theorem xQ {a b c d:Int} (ha:ai a):l0 (num a b c d)=a:=by
 obtain ⟨_,_⟩:=ha;unfold l0 num;omega
theorem xR {a b c d:Int} (ha:ai a) (hb:ai b):l1 (num a b c d)=b:=by
 obtain ⟨_,_⟩:=ha;obtain ⟨_,_⟩:=hb;unfold l1 num;omega
theorem xS {a b c d:Int} (ha:ai a) (hb:ai b) (hc:ai c):l2 (num a b c d)=c:=by
 obtain ⟨_,_⟩:=ha;obtain ⟨_,_⟩:=hb;obtain ⟨_,_⟩:=hc;unfold l2 num;omega
theorem xT {a b c d:Int} (ha:ai a) (hb:ai b) (hc:ai c) (hd:ai d):l3 (num a b c d)=d:=by
 obtain ⟨_,_⟩:=ha;obtain ⟨_,_⟩:=hb;obtain ⟨_,_⟩:=hc;obtain ⟨_,_⟩:=hd;unfold l3 num;omega
theorem bP {n a b c d:Int} (ha:ai a) (hb:ai b) (hc:ai c) (hd:ai d) (h:n=num a b c d):l0 n=a∧l1 n=b∧l2 n=c∧l3 n=d:=by
 subst h;exact ⟨xQ ha,xR ha hb,xS ha hb hc,xT ha hb hc hd⟩
theorem qB {n m:Int} (hn:Num n) (hm:Num m) (h0:l0 n=l0 m) (h1:l1 n=l1 m) (h2:l2 n=l2 m) (h3:l3 n=l3 m):n=m:=by
 rw [←fw hn,←fw hm,h0,h1,h2,h3]
def dF (n m:Int):Int:=(n+m)%115792089237316195423570985008687907853269984665640564039457584007913129639936
def cW (n m:Int):Int:=(n+m)/115792089237316195423570985008687907853269984665640564039457584007913129639936
def dG (n m:Int):Int:=(n-m)%115792089237316195423570985008687907853269984665640564039457584007913129639936
def eJ (n m:Int):Int:=if n<m then 1 else 0
def hiN (n m:Int):Int:=n*m/115792089237316195423570985008687907853269984665640564039457584007913129639936
def loN (n m:Int):Int:=n*m%115792089237316195423570985008687907853269984665640564039457584007913129639936
def iA (n m:Int):Int:=if n=m then 0 else if n<m then -1 else 1
theorem nF (n m:Int):Num (dF n m):=⟨by unfold dF;omega,by unfold dF;omega⟩
theorem s8 (n m:Int):Num (dG n m):=⟨by unfold dG;omega,by unfold dG;omega⟩
theorem qC (n m:Int):Num (loN n m):=⟨by unfold loN;omega,by unfold loN;omega⟩
theorem wl {n m:Int} (hn:Num n) (hm:Num m):0≤n*m∧n*m≤115792089237316195423570985008687907853269984665640564039457584007913129639935*115792089237316195423570985008687907853269984665640564039457584007913129639935:=by
 obtain ⟨_,_⟩:=hn;obtain ⟨_,_⟩:=hm
 exact ⟨Int.mul_nonneg (by omega) (by omega),Int.mul_le_mul (by omega) (by omega) (by omega) (by omega)⟩
theorem qD {n m:Int} (hn:Num n) (hm:Num m):Num (hiN n m):=by
 obtain ⟨_,_⟩:=wl hn hm
 unfold hiN Num;omega
theorem wm (a0 a1 a2 a3 b0 b1 b2 b3:Int) :
  let c0:=cI a0 b0 0;let c1:=cI a1 b1 c0;let c2:=cI a2 b2 c1;let c3:=cI a3 b3 c2
  let s:=dF (num a0 a1 a2 a3) (num b0 b1 b2 b3)
  l0 s=cV a0 b0 0∧l1 s=cV a1 b1 c0∧l2 s=cV a2 b2 c1∧l3 s=cV a3 b3 c2∧cW (num a0 a1 a2 a3) (num b0 b1 b2 b3)=c3:=by
 intro c0 c1 c2 c3 s
 have e0:=jR a0 b0 0
 have e1:=jR a1 b1 c0
 have e2:=jR a2 b2 c1
 have e3:=jR a3 b3 c2
 have w0:=dL a0 b0 0
 have w1:=dL a1 b1 c0
 have w2:=dL a2 b2 c1
 have w3:=dL a3 b3 c2
 have k:=jT w0 w1 w2 w3
 have k3:c3=cI a3 b3 c2:=rfl
 rw [←k3] at e3
 have hs:num a0 a1 a2 a3+num b0 b1 b2 b3=num (cV a0 b0 0) (cV a1 b1 c0) (cV a2 b2 c1) (cV a3 b3 c2)+115792089237316195423570985008687907853269984665640564039457584007913129639936*c3:=by
  have k0:c0=cI a0 b0 0:=rfl
  have k1:c1=cI a1 b1 c0:=rfl
  have k2:c2=cI a2 b2 c1:=rfl
  rw [←k0] at e0;rw [←k1] at e1;rw [←k2] at e2
  unfold num;omega
 obtain ⟨k4,k5⟩:=k
 have hs':s=num (cV a0 b0 0) (cV a1 b1 c0) (cV a2 b2 c1) (cV a3 b3 c2):=by
  show (num a0 a1 a2 a3+num b0 b1 b2 b3)%_=_
  omega
 obtain ⟨r0,r1,r2,r3⟩:=bP w0 w1 w2 w3 hs'
 exact ⟨r0,r1,r2,r3,by unfold cW;omega⟩
theorem wn {a0 a1 a2 a3 b0 b1 b2 b3:Int} (ha0:ai a0) (ha1:ai a1) (ha2:ai a2) (ha3:ai a3) (hb0:ai b0) (hb1:ai b1) (hb2:ai b2) (hb3:ai b3) :
  let c0:=cP a0 b0 0;let c1:=cP a1 b1 c0;let c2:=cP a2 b2 c1;let c3:=cP a3 b3 c2
  let s:=dG (num a0 a1 a2 a3) (num b0 b1 b2 b3)
  l0 s=dE a0 b0 0∧l1 s=dE a1 b1 c0∧l2 s=dE a2 b2 c1∧l3 s=dE a3 b3 c2∧eJ (num a0 a1 a2 a3) (num b0 b1 b2 b3)=c3:=by
 intro c0 c1 c2 c3 s
 have t0:=dQ a0 b0 0
 have t1:=dQ a1 b1 c0
 have t2:=dQ a2 b2 c1
 have t3:=dQ a3 b3 c2
 have e0:=jS ha0 hb0 (by decide:(0:Int)≤0∧(0:Int)≤1)
 have e1:=jS ha1 hb1 t0
 have e2:=jS ha2 hb2 t1
 have e3:=jS ha3 hb3 t2
 have w0:=ge a0 b0 0
 have w1:=ge a1 b1 c0
 have w2:=ge a2 b2 c1
 have w3:=ge a3 b3 c2
 have k:=jT w0 w1 w2 w3
 have k0:cP a0 b0 0=c0:=rfl
 have k1:cP a1 b1 c0=c1:=rfl
 have k2:cP a2 b2 c1=c2:=rfl
 have k3:cP a3 b3 c2=c3:=rfl
 rw [k0] at e0 e1;rw [k1] at e1 e2;rw [k2] at e2 e3;rw [k3] at e3 t3
 have hs:num a0 a1 a2 a3-num b0 b1 b2 b3=num (dE a0 b0 0) (dE a1 b1 c0) (dE a2 b2 c1) (dE a3 b3 c2)-115792089237316195423570985008687907853269984665640564039457584007913129639936*c3:=by
  unfold num;omega
 obtain ⟨k4,k5⟩:=k
 have hs':s=num (dE a0 b0 0) (dE a1 b1 c0) (dE a2 b2 c1) (dE a3 b3 c2):=by
  show (num a0 a1 a2 a3-num b0 b1 b2 b3)%_=_
  omega
 obtain ⟨r0,r1,r2,r3⟩:=bP w0 w1 w2 w3 hs'
 exact ⟨r0,r1,r2,r3,by unfold eJ;split<;>omega⟩
structure Fit (m c:Int):Prop where
 low:57896044618658097711785492504343953926634992332820282019728792003956564819968≤m
 pos:0<c
 sum:m+c=115792089237316195423570985008687907853269984665640564039457584007913129639936
theorem Fit.num {m c:Int} (h:Fit m c):Num m:=by obtain ⟨_,_,_⟩:=h;unfold Num;omega
theorem Fit.numc {m c:Int} (h:Fit m c):Num c:=by obtain ⟨_,_,_⟩:=h;unfold Num;omega
theorem Fit.pos' {m c:Int} (h:Fit m c):0<m:=by obtain ⟨_,_,_⟩:=h;omega
def ac (m n:Int):Int:=n%m
theorem ag {m c:Int} (h:Fit m c) (n:Int):Num (ac m n):=by
 obtain ⟨h1,h2,h3⟩:=h
 have a:=Int.emod_nonneg n (show m≠0 by omega)
 have b:=Int.emod_lt_of_pos n (show 0<m by omega)
 unfold ac Num;omega
theorem cQ {m c:Int} (h:Fit m c) (n:Int):0≤ac m n∧ac m n<m:=by
 obtain ⟨h1,h2,h3⟩:=h
 exact ⟨Int.emod_nonneg n (show m≠0 by omega),Int.emod_lt_of_pos n (show 0<m by omega)⟩
theorem s9 {m c n:Int} (h:Fit m c) (hn:Num n):(n<m→ac m n=n)∧(m≤n→ac m n=dG n m∧eJ n m=0):=by
 obtain ⟨h1,h2,h3⟩:=h
 obtain ⟨a,b⟩:=hn
 refine ⟨fun hlt=>Int.emod_eq_of_lt a hlt,fun hle=>⟨?_,?_⟩⟩
 ·have e:n%m=(n-m)%m:=by rw [Int.sub_emod,Int.emod_self,Int.sub_zero,Int.emod_emod_of_dvd _ (Int.dvd_refl m)]
  unfold ac dG
  rw [e,Int.emod_eq_of_lt (by omega) (by omega),Int.emod_eq_of_lt (by omega) (by omega)]
 ·unfold eJ;rw [if_neg (by omega)]
def bX (h l c:Int):Int:=(h*c+l)/115792089237316195423570985008687907853269984665640564039457584007913129639936
def bM (h l c:Int):Int:=(h*c+l)%115792089237316195423570985008687907853269984665640564039457584007913129639936
theorem mi (h l c:Int):Num (bM h l c):=⟨by unfold bM;omega,by unfold bM;omega⟩
theorem kd {m c h l:Int} (hf:Fit m c) (hh:Num h) (hl:Num l) :
  Num (bX h l c)∧dF (loN h c) l=bM h l c∧dF (hiN h c) (cW (loN h c) l)=bX h l c∧ai (cW (loN h c) l):=by
 obtain ⟨h1,h2,h3⟩:=hf
 obtain ⟨a,b⟩:=hh;obtain ⟨a',b'⟩:=hl
 have u:0≤h*c∧h*c≤115792089237316195423570985008687907853269984665640564039457584007913129639935*57896044618658097711785492504343953926634992332820282019728792003956564819968 :=
  ⟨Int.mul_nonneg (by omega) (by omega),Int.mul_le_mul (by omega) (by omega) (by omega) (by omega)⟩
 unfold Num bX bM dF loN hiN cW ai
 generalize h*c=p at *
 refine ⟨by omega,by omega,by omega,by omega⟩
theorem rn {m c h l:Int} (hf:Fit m c) (hh:Num h) (hz:h≠0) :
  (bX h l c*115792089237316195423570985008687907853269984665640564039457584007913129639936+bM h l c)%m=(h*115792089237316195423570985008687907853269984665640564039457584007913129639936+l)%m ∧
  bX h l c*115792089237316195423570985008687907853269984665640564039457584007913129639936+bM h l c<h*115792089237316195423570985008687907853269984665640564039457584007913129639936+l:=by
 obtain ⟨h1,h2,h3⟩:=hf
 obtain ⟨a,b⟩:=hh
 have e:bX h l c*115792089237316195423570985008687907853269984665640564039457584007913129639936+bM h l c=h*c+l:=by
  unfold bX bM;generalize h*c=p;omega
 have e2:h*115792089237316195423570985008687907853269984665640564039457584007913129639936+l=h*c+l+m*h:=by
  rw [←h3,Int.mul_add,Int.mul_comm h m];omega
 have e3:0<m*h:=Int.mul_pos (by omega) (by omega)
 rw [e,e2,Int.add_mul_emod_self_left]
 exact ⟨rfl,by omega⟩
def aN (h l:Int):Int:=h*115792089237316195423570985008687907853269984665640564039457584007913129639936+l
theorem tc (x y:Int):aN (hiN x y) (loN x y)=x*y:=by unfold aN hiN loN;generalize x*y=p;omega
theorem jt {h l:Int} (hh:Num h) (hl:Num l):0≤aN h l:=by
 obtain ⟨_,_⟩:=hh;obtain ⟨_,_⟩:=hl;unfold aN;omega
theorem ro {m c h l:Int} (hf:Fit m c) (hh:Num h) (hz:h≠0) :
  aN (bX h l c) (bM h l c)%m=aN h l%m∧aN (bX h l c) (bM h l c)<aN h l:=rn hf hh hz
theorem rq (l:Int):aN 0 l=l:=by unfold aN;omega
def pN:Int:=115792089237316195423570985008687907853269984665640564039457584007908834671663
def nN:Int:=115792089237316195423570985008687907852837564279074904382605163141518161494337
def pC:Int:=4294968273
def nC:Int:=432420386565659656852420866394968145599
theorem am:Fit pN pC:=⟨by decide,by decide,by decide⟩
theorem eN:Fit nN nC:=⟨by decide,by decide,by decide⟩
theorem wo:l0 pN=18446744069414583343∧l1 pN=18446744073709551615∧l2 pN=18446744073709551615∧l3 pN=18446744073709551615:=by decide
theorem td:l0 pC=4294968273∧l1 pC=0∧l2 pC=0∧l3 pC=0:=by decide
theorem ws:l0 nN=13822214165235122497∧l1 nN=13451932020343611451∧l2 nN=18446744073709551614∧l3 nN=18446744073709551615:=by decide
theorem te:l0 nC=4624529908474429119∧l1 nC=4994812053365940164∧l2 nC=1∧l3 nC=0:=by decide
end Go.Proofs.YtnnnaajgjniiaaaGreatDoor
namespace Go.Proofs.YtnnnaajgjniiaaaGreatDoor.K
def turnsN:List Nat:=[0,1,62,28,27,36,44,6,55,20,3,10,43,25,39,41,45,15,21,8,18,2,61,56,14]
def zK:List Nat:=[0,6,12,18,24,3,9,10,16,22,1,7,13,19,20,4,5,11,17,23,2,8,14,15,21]
def marksN:List (BitVec 64):=[1,32898,9223372036854808714,9223372039002292224,32907,2147483649,9223372039002292353,9223372036854808585,138,136,2147516425,2147483658,2147516555,9223372036854775947,9223372036854808713,9223372036854808579,9223372036854808578,9223372036854775936,32778,9223372039002259466,9223372039002292353,9223372036854808704,2147483649,9223372039002292232]
def pn (L:List (BitVec 64)) (x:Nat):BitVec 64:=L.getD x 0 ^^^ L.getD (x+5) 0 ^^^ L.getD (x+10) 0 ^^^ L.getD (x+15) 0 ^^^ L.getD (x+20) 0
def ru (L:List (BitVec 64)) (x:Nat):BitVec 64:=pn L ((x+4)%5) ^^^ (pn L ((x+1)%5)).rotateLeft 1
def di (L:List (BitVec 64)) (i:Nat):BitVec 64:=(L.getD i 0 ^^^ ru L (i%5)).rotateLeft (turnsN.getD i 0)
def xU (L:List (BitVec 64)) (p:Nat):BitVec 64:=di L (zK.getD p 0)
def xV (f:Nat→BitVec 64) (p:Nat):BitVec 64:=f p ^^^ (~~~ f ((p%5+1)%5+5*(p/5)) &&& f ((p%5+2)%5+5*(p/5)))
def rnd (L:List (BitVec 64)) (m:BitVec 64):List (BitVec 64):=((List.range 25).map (xV (xU L))).set 0 (xV (xU L) 0 ^^^ m)
def eG (L:List (BitVec 64)):Nat→List (BitVec 64)
 | 0=>L
 | n+1=>rnd (eG L n) (marksN.getD n 0)
def ic (L:List (BitVec 64)):List (BitVec 64):=eG L 24
theorem mP (L:List (BitVec 64)) (m:BitVec 64):(rnd L m).length=25:=by simp [rnd]
theorem tg {L:List (BitVec 64)} (h:L.length=25):∀ n,(eG L n).length=25
 | 0=>h
 | _+1=>mP _ _
theorem iB {L:List (BitVec 64)} (h:L.length=25):(ic L).length=25:=tg h 24
theorem yQ {α:Type} {l:List α} (h:l.length=25):∃ x0 x1 x2 x3 x4 x5 x6 x7 x8 x9 x10 x11 x12 x13 x14 x15 x16 x17 x18 x19 x20 x21 x22 x23 x24,l=[x0,x1,x2,x3,x4,x5,x6,x7,x8,x9,x10,x11,x12,x13,x14,x15,x16,x17,x18,x19,x20,x21,x22,x23,x24]:=by
 match l,h with
 | [x0,x1,x2,x3,x4,x5,x6,x7,x8,x9,x10,x11,x12,x13,x14,x15,x16,x17,x18,x19,x20,x21,x22,x23,x24],_=>exact ⟨x0,x1,x2,x3,x4,x5,x6,x7,x8,x9,x10,x11,x12,x13,x14,x15,x16,x17,x18,x19,x20,x21,x22,x23,x24,rfl⟩
end Go.Proofs.YtnnnaajgjniiaaaGreatDoor.K
