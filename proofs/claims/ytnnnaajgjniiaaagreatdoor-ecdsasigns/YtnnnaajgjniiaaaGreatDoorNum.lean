
namespace Go.Proofs.YtnnnaajgjniiaaaGreatDoor
def al (x:Int):Prop:=0≤x∧x<18446744073709551616
def dt (x y c:Int):Int:=(x+y+c)%18446744073709551616
def cQ (x y c:Int):Int:=(x+y+c)/18446744073709551616
def dP (x y b:Int):Int:=(x-y-b)%18446744073709551616
def dc (x y b:Int):Int:=if x<y+b then 1 else 0
def qz (x y:Int):Int:=x*y/18446744073709551616
def i8 (x y:Int):Int:=x*y%18446744073709551616
def maH (a b c d:Int):Int:=(a*b+c+d)/18446744073709551616
def maL (a b c d:Int):Int:=(a*b+c+d)%18446744073709551616
theorem dS (x y c:Int):al (dt x y c):=⟨by unfold dt;omega,by unfold dt;omega⟩
theorem fU {x y c:Int} (hx:al x) (hy:al y) (hc:0≤c∧c≤1):0≤cQ x y c∧cQ x y c≤1:=by
 obtain ⟨_,_⟩:=hx;obtain ⟨_,_⟩:=hy;unfold cQ;omega
theorem im (x y c:Int):al (dP x y c):=⟨by unfold dP;omega,by unfold dP;omega⟩
theorem dX (x y b:Int):0≤dc x y b∧dc x y b≤1:=by unfold dc;split<;>omega
theorem kt (x y c:Int):dt x y c+18446744073709551616*cQ x y c=x+y+c:=by unfold dt cQ;omega
theorem ku {x y b:Int} (hx:al x) (hy:al y) (hb:0≤b∧b≤1):dP x y b-18446744073709551616*dc x y b=x-y-b:=by
 obtain ⟨_,_⟩:=hx;obtain ⟨_,_⟩:=hy;unfold dP dc;split<;>omega
theorem oY {a b:Int} (ha:al a) (hb:al b):0≤a*b∧a*b≤18446744073709551615*18446744073709551615:=by
 obtain ⟨_,_⟩:=ha;obtain ⟨_,_⟩:=hb
 exact ⟨Int.mul_nonneg (by omega) (by omega),Int.mul_le_mul (by omega) (by omega) (by omega) (by omega)⟩
theorem mO (x y:Int):al (i8 x y):=⟨by unfold i8;omega,by unfold i8;omega⟩
theorem bM (a b c d:Int):al (maL a b c d):=⟨by unfold maL;omega,by unfold maL;omega⟩
theorem bN {a b c d:Int} (ha:al a) (hb:al b) (hc:al c) (hd:al d):al (maH a b c d):=by
 obtain ⟨_,_⟩:=oY ha hb;obtain ⟨_,_⟩:=hc;obtain ⟨_,_⟩:=hd
 unfold maH al;omega
theorem dN (a b c d:Int):maL a b c d+18446744073709551616*maH a b c d=a*b+c+d:=by unfold maL maH;omega
theorem ol {a b c d:Int} (ha:al a) (hb:al b) (hc:al c) (hd:al d) :
  0≤qz a b∧qz a b+cQ (i8 a b) c 0<18446744073709551616∧qz a b+cQ (i8 a b) c 0+cQ (dt (i8 a b) c 0) d 0<18446744073709551616 ∧
  qz a b+cQ (i8 a b) c 0+cQ (dt (i8 a b) c 0) d 0=maH a b c d∧dt (dt (i8 a b) c 0) d 0=maL a b c d:=by
 obtain ⟨_,_⟩:=oY ha hb;obtain ⟨_,_⟩:=hc;obtain ⟨_,_⟩:=hd
 unfold qz cQ i8 dt maH maL
 generalize a*b=p at *
 refine ⟨by omega,by omega,by omega,by omega,by omega⟩
def l0 (n:Int):Int:=n%18446744073709551616
def l1 (n:Int):Int:=n/18446744073709551616%18446744073709551616
def l2 (n:Int):Int:=n/340282366920938463463374607431768211456%18446744073709551616
def l3 (n:Int):Int:=n/6277101735386680763835789423207666416102355444464034512896%18446744073709551616
def Num (n:Int):Prop:=0≤n∧n<115792089237316195423570985008687907853269984665640564039457584007913129639936
def num (a b c d:Int):Int:=a+18446744073709551616*b+340282366920938463463374607431768211456*c+6277101735386680763835789423207666416102355444464034512896*d
theorem aU (n:Int):al (l0 n):=⟨by unfold l0;omega,by unfold l0;omega⟩
theorem aV (n:Int):al (l1 n):=⟨by unfold l1;omega,by unfold l1;omega⟩
theorem aW (n:Int):al (l2 n):=⟨by unfold l2;omega,by unfold l2;omega⟩
theorem bj (n:Int):al (l3 n):=⟨by unfold l3;omega,by unfold l3;omega⟩
theorem kw {a b c d:Int} (ha:al a) (hb:al b) (hc:al c) (hd:al d):Num (num a b c d):=by
 obtain ⟨_,_⟩:=ha;obtain ⟨_,_⟩:=hb;obtain ⟨_,_⟩:=hc;obtain ⟨_,_⟩:=hd
 unfold Num num;omega
theorem du {n:Int} (h:Num n):num (l0 n) (l1 n) (l2 n) (l3 n)=n:=by
 obtain ⟨_,_⟩:=h;unfold num l0 l1 l2 l3;omega
theorem zA {a b c d:Int} (ha:al a):l0 (num a b c d)=a:=by
 obtain ⟨_,_⟩:=ha;unfold l0 num;omega
theorem zB {a b c d:Int} (ha:al a) (hb:al b):l1 (num a b c d)=b:=by
 obtain ⟨_,_⟩:=ha;obtain ⟨_,_⟩:=hb;unfold l1 num;omega
theorem zC {a b c d:Int} (ha:al a) (hb:al b) (hc:al c):l2 (num a b c d)=c:=by
 obtain ⟨_,_⟩:=ha;obtain ⟨_,_⟩:=hb;obtain ⟨_,_⟩:=hc;unfold l2 num;omega
theorem zD {a b c d:Int} (ha:al a) (hb:al b) (hc:al c) (hd:al d):l3 (num a b c d)=d:=by
 obtain ⟨_,_⟩:=ha;obtain ⟨_,_⟩:=hb;obtain ⟨_,_⟩:=hc;obtain ⟨_,_⟩:=hd;unfold l3 num;omega
theorem aZ {n a b c d:Int} (ha:al a) (hb:al b) (hc:al c) (hd:al d) (h:n=num a b c d):l0 n=a∧l1 n=b∧l2 n=c∧l3 n=d:=by
 subst h;exact ⟨zA ha,zB ha hb,zC ha hb hc,zD ha hb hc hd⟩
theorem rS {n m:Int} (hn:Num n) (hm:Num m) (h0:l0 n=l0 m) (h1:l1 n=l1 m) (h2:l2 n=l2 m) (h3:l3 n=l3 m):n=m:=by
 rw [←du hn,←du hm,h0,h1,h2,h3]
def cE (n m:Int):Int:=(n+m)%115792089237316195423570985008687907853269984665640564039457584007913129639936
def bO (n m:Int):Int:=(n+m)/115792089237316195423570985008687907853269984665640564039457584007913129639936
def ca (n m:Int):Int:=(n-m)%115792089237316195423570985008687907853269984665640564039457584007913129639936
def cL (n m:Int):Int:=if n<m then 1 else 0
def hiN (n m:Int):Int:=n*m/115792089237316195423570985008687907853269984665640564039457584007913129639936
def loN (n m:Int):Int:=n*m%115792089237316195423570985008687907853269984665640564039457584007913129639936
def dI (n m:Int):Int:=if n=m then 0 else if n<m then -1 else 1
theorem la (n m:Int):Num (cE n m):=⟨by unfold cE;omega,by unfold cE;omega⟩
theorem uL (n m:Int):Num (ca n m):=⟨by unfold ca;omega,by unfold ca;omega⟩
theorem ky (n m:Int):Num (loN n m):=⟨by unfold loN;omega,by unfold loN;omega⟩
theorem xJ {n m:Int} (hn:Num n) (hm:Num m):0≤n*m∧n*m≤115792089237316195423570985008687907853269984665640564039457584007913129639935*115792089237316195423570985008687907853269984665640564039457584007913129639935:=by
 obtain ⟨_,_⟩:=hn;obtain ⟨_,_⟩:=hm
 exact ⟨Int.mul_nonneg (by omega) (by omega),Int.mul_le_mul (by omega) (by omega) (by omega) (by omega)⟩
theorem kB {n m:Int} (hn:Num n) (hm:Num m):Num (hiN n m):=by
 obtain ⟨_,_⟩:=xJ hn hm
 unfold hiN Num;omega
theorem xK (a0 a1 a2 a3 b0 b1 b2 b3:Int) :
  let c0:=cQ a0 b0 0;let c1:=cQ a1 b1 c0;let c2:=cQ a2 b2 c1;let c3:=cQ a3 b3 c2
  let s:=cE (num a0 a1 a2 a3) (num b0 b1 b2 b3)
  l0 s=dt a0 b0 0∧l1 s=dt a1 b1 c0∧l2 s=dt a2 b2 c1∧l3 s=dt a3 b3 c2∧bO (num a0 a1 a2 a3) (num b0 b1 b2 b3)=c3:=by
 intro c0 c1 c2 c3 s
 have e0:=kt a0 b0 0
 have e1:=kt a1 b1 c0
 have e2:=kt a2 b2 c1
 have e3:=kt a3 b3 c2
 have w0:=dS a0 b0 0
 have w1:=dS a1 b1 c0
 have w2:=dS a2 b2 c1
 have w3:=dS a3 b3 c2
 have k:=kw w0 w1 w2 w3
 have k3:c3=cQ a3 b3 c2:=rfl
 rw [←k3] at e3
 have hs:num a0 a1 a2 a3+num b0 b1 b2 b3=num (dt a0 b0 0) (dt a1 b1 c0) (dt a2 b2 c1) (dt a3 b3 c2)+115792089237316195423570985008687907853269984665640564039457584007913129639936*c3:=by
  have k0:c0=cQ a0 b0 0:=rfl
  have k1:c1=cQ a1 b1 c0:=rfl
  have k2:c2=cQ a2 b2 c1:=rfl
  rw [←k0] at e0;rw [←k1] at e1;rw [←k2] at e2
  unfold num;omega
 obtain ⟨k4,k5⟩:=k
 have hs':s=num (dt a0 b0 0) (dt a1 b1 c0) (dt a2 b2 c1) (dt a3 b3 c2):=by
  show (num a0 a1 a2 a3+num b0 b1 b2 b3)%_=_
  omega
 obtain ⟨r0,r1,r2,r3⟩:=aZ w0 w1 w2 w3 hs'
 exact ⟨r0,r1,r2,r3,by unfold bO;omega⟩
theorem xL {a0 a1 a2 a3 b0 b1 b2 b3:Int} (ha0:al a0) (ha1:al a1) (ha2:al a2) (ha3:al a3) (hb0:al b0) (hb1:al b1) (hb2:al b2) (hb3:al b3) :
  let c0:=dc a0 b0 0;let c1:=dc a1 b1 c0;let c2:=dc a2 b2 c1;let c3:=dc a3 b3 c2
  let s:=ca (num a0 a1 a2 a3) (num b0 b1 b2 b3)
  l0 s=dP a0 b0 0∧l1 s=dP a1 b1 c0∧l2 s=dP a2 b2 c1∧l3 s=dP a3 b3 c2∧cL (num a0 a1 a2 a3) (num b0 b1 b2 b3)=c3:=by
 intro c0 c1 c2 c3 s
 have t0:=dX a0 b0 0
 have t1:=dX a1 b1 c0
 have t2:=dX a2 b2 c1
 have t3:=dX a3 b3 c2
 have e0:=ku ha0 hb0 (by decide:(0:Int)≤0∧(0:Int)≤1)
 have e1:=ku ha1 hb1 t0
 have e2:=ku ha2 hb2 t1
 have e3:=ku ha3 hb3 t2
 have w0:=im a0 b0 0
 have w1:=im a1 b1 c0
 have w2:=im a2 b2 c1
 have w3:=im a3 b3 c2
 have k:=kw w0 w1 w2 w3
 have k0:dc a0 b0 0=c0:=rfl
 have k1:dc a1 b1 c0=c1:=rfl
 have k2:dc a2 b2 c1=c2:=rfl
 have k3:dc a3 b3 c2=c3:=rfl
 rw [k0] at e0 e1;rw [k1] at e1 e2;rw [k2] at e2 e3;rw [k3] at e3 t3
 have hs:num a0 a1 a2 a3-num b0 b1 b2 b3=num (dP a0 b0 0) (dP a1 b1 c0) (dP a2 b2 c1) (dP a3 b3 c2)-115792089237316195423570985008687907853269984665640564039457584007913129639936*c3:=by
  unfold num;omega
 obtain ⟨k4,k5⟩:=k
 have hs':s=num (dP a0 b0 0) (dP a1 b1 c0) (dP a2 b2 c1) (dP a3 b3 c2):=by
  show (num a0 a1 a2 a3-num b0 b1 b2 b3)%_=_
  omega
 obtain ⟨r0,r1,r2,r3⟩:=aZ w0 w1 w2 w3 hs'
 exact ⟨r0,r1,r2,r3,by unfold cL;split<;>omega⟩
end Go.Proofs.YtnnnaajgjniiaaaGreatDoor
