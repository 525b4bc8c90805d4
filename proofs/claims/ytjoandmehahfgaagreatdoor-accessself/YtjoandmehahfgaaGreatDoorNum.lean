
namespace Go.Proofs.YtjoandmehahfgaaGreatDoor
def aj (x:Int):Prop:=0≤x∧x<18446744073709551616
def dv (x y c:Int):Int:=(x+y+c)%18446744073709551616
def cY (x y c:Int):Int:=(x+y+c)/18446744073709551616
def eB (x y b:Int):Int:=(x-y-b)%18446744073709551616
def di (x y b:Int):Int:=if x<y+b then 1 else 0
def rU (x y:Int):Int:=x*y/18446744073709551616
def jL (x y:Int):Int:=x*y%18446744073709551616
def maH (a b c d:Int):Int:=(a*b+c+d)/18446744073709551616
def maL (a b c d:Int):Int:=(a*b+c+d)%18446744073709551616
theorem eH (x y c:Int):aj (dv x y c):=⟨by unfold dv;omega,by unfold dv;omega⟩
theorem ii {x y c:Int} (hx:aj x) (hy:aj y) (hc:0≤c∧c≤1):0≤cY x y c∧cY x y c≤1:=by
 obtain ⟨_,_⟩:=hx;obtain ⟨_,_⟩:=hy;unfold cY;omega
theorem iS (x y c:Int):aj (eB x y c):=⟨by unfold eB;omega,by unfold eB;omega⟩
theorem eW (x y b:Int):0≤di x y b∧di x y b≤1:=by unfold di;split<;>omega
theorem mw (x y c:Int):dv x y c+18446744073709551616*cY x y c=x+y+c:=by unfold dv cY;omega
theorem mx {x y b:Int} (hx:aj x) (hy:aj y) (hb:0≤b∧b≤1):eB x y b-18446744073709551616*di x y b=x-y-b:=by
 obtain ⟨_,_⟩:=hx;obtain ⟨_,_⟩:=hy;unfold eB di;split<;>omega
theorem qn {a b:Int} (ha:aj a) (hb:aj b):0≤a*b∧a*b≤18446744073709551615*18446744073709551615:=by
 obtain ⟨_,_⟩:=ha;obtain ⟨_,_⟩:=hb
 exact ⟨Int.mul_nonneg (by omega) (by omega),Int.mul_le_mul (by omega) (by omega) (by omega) (by omega)⟩
theorem oG (x y:Int):aj (jL x y):=⟨by unfold jL;omega,by unfold jL;omega⟩
theorem bM (a b c d:Int):aj (maL a b c d):=⟨by unfold maL;omega,by unfold maL;omega⟩
theorem bN {a b c d:Int} (ha:aj a) (hb:aj b) (hc:aj c) (hd:aj d):aj (maH a b c d):=by
 obtain ⟨_,_⟩:=qn ha hb;obtain ⟨_,_⟩:=hc;obtain ⟨_,_⟩:=hd
 unfold maH aj;omega
theorem ef (a b c d:Int):maL a b c d+18446744073709551616*maH a b c d=a*b+c+d:=by unfold maL maH;omega
theorem pu {a b c d:Int} (ha:aj a) (hb:aj b) (hc:aj c) (hd:aj d) :
  0≤rU a b∧rU a b+cY (jL a b) c 0<18446744073709551616∧rU a b+cY (jL a b) c 0+cY (dv (jL a b) c 0) d 0<18446744073709551616 ∧
  rU a b+cY (jL a b) c 0+cY (dv (jL a b) c 0) d 0=maH a b c d∧dv (dv (jL a b) c 0) d 0=maL a b c d:=by
 obtain ⟨_,_⟩:=qn ha hb;obtain ⟨_,_⟩:=hc;obtain ⟨_,_⟩:=hd
 unfold rU cY jL dv maH maL
 generalize a*b=p at *
 refine ⟨by omega,by omega,by omega,by omega,by omega⟩
def l0 (n:Int):Int:=n%18446744073709551616
def l1 (n:Int):Int:=n/18446744073709551616%18446744073709551616
def l2 (n:Int):Int:=n/340282366920938463463374607431768211456%18446744073709551616
def l3 (n:Int):Int:=n/6277101735386680763835789423207666416102355444464034512896%18446744073709551616
def Num (n:Int):Prop:=0≤n∧n<115792089237316195423570985008687907853269984665640564039457584007913129639936
def num (a b c d:Int):Int:=a+18446744073709551616*b+340282366920938463463374607431768211456*c+6277101735386680763835789423207666416102355444464034512896*d
theorem bW (n:Int):aj (l0 n):=⟨by unfold l0;omega,by unfold l0;omega⟩
theorem bX (n:Int):aj (l1 n):=⟨by unfold l1;omega,by unfold l1;omega⟩
theorem bY (n:Int):aj (l2 n):=⟨by unfold l2;omega,by unfold l2;omega⟩
theorem cf (n:Int):aj (l3 n):=⟨by unfold l3;omega,by unfold l3;omega⟩
theorem jM {a b c d:Int} (ha:aj a) (hb:aj b) (hc:aj c) (hd:aj d):Num (num a b c d):=by
 obtain ⟨_,_⟩:=ha;obtain ⟨_,_⟩:=hb;obtain ⟨_,_⟩:=hc;obtain ⟨_,_⟩:=hd
 unfold Num num;omega
theorem ie {n:Int} (h:Num n):num (l0 n) (l1 n) (l2 n) (l3 n)=n:=by
 obtain ⟨_,_⟩:=h;unfold num l0 l1 l2 l3;omega
theorem BO {a b c d:Int} (ha:aj a):l0 (num a b c d)=a:=by
 obtain ⟨_,_⟩:=ha;unfold l0 num;omega
theorem BP {a b c d:Int} (ha:aj a) (hb:aj b):l1 (num a b c d)=b:=by
 obtain ⟨_,_⟩:=ha;obtain ⟨_,_⟩:=hb;unfold l1 num;omega
theorem BQ {a b c d:Int} (ha:aj a) (hb:aj b) (hc:aj c):l2 (num a b c d)=c:=by
 obtain ⟨_,_⟩:=ha;obtain ⟨_,_⟩:=hb;obtain ⟨_,_⟩:=hc;unfold l2 num;omega
theorem BR {a b c d:Int} (ha:aj a) (hb:aj b) (hc:aj c) (hd:aj d):l3 (num a b c d)=d:=by
 obtain ⟨_,_⟩:=ha;obtain ⟨_,_⟩:=hb;obtain ⟨_,_⟩:=hc;obtain ⟨_,_⟩:=hd;unfold l3 num;omega
theorem bZ {n a b c d:Int} (ha:aj a) (hb:aj b) (hc:aj c) (hd:aj d) (h:n=num a b c d):l0 n=a∧l1 n=b∧l2 n=c∧l3 n=d:=by
 subst h;exact ⟨BO ha,BP ha hb,BQ ha hb hc,BR ha hb hc hd⟩
theorem tM {n m:Int} (hn:Num n) (hm:Num m) (h0:l0 n=l0 m) (h1:l1 n=l1 m) (h2:l2 n=l2 m) (h3:l3 n=l3 m):n=m:=by
 rw [←ie hn,←ie hm,h0,h1,h2,h3]
def fM (n m:Int):Int:=(n+m)%115792089237316195423570985008687907853269984665640564039457584007913129639936
def fm (n m:Int):Int:=(n+m)/115792089237316195423570985008687907853269984665640564039457584007913129639936
def fN (n m:Int):Int:=(n-m)%115792089237316195423570985008687907853269984665640564039457584007913129639936
def fW (n m:Int):Int:=if n<m then 1 else 0
def hiN (n m:Int):Int:=n*m/115792089237316195423570985008687907853269984665640564039457584007913129639936
def loN (n m:Int):Int:=n*m%115792089237316195423570985008687907853269984665640564039457584007913129639936
def jN (n m:Int):Int:=if n=m then 0 else if n<m then -1 else 1
theorem qo (n m:Int):Num (fM n m):=⟨by unfold fM;omega,by unfold fM;omega⟩
theorem wP (n m:Int):Num (fN n m):=⟨by unfold fN;omega,by unfold fN;omega⟩
theorem tN (n m:Int):Num (loN n m):=⟨by unfold loN;omega,by unfold loN;omega⟩
theorem zG {n m:Int} (hn:Num n) (hm:Num m):0≤n*m∧n*m≤115792089237316195423570985008687907853269984665640564039457584007913129639935*115792089237316195423570985008687907853269984665640564039457584007913129639935:=by
 obtain ⟨_,_⟩:=hn;obtain ⟨_,_⟩:=hm
 exact ⟨Int.mul_nonneg (by omega) (by omega),Int.mul_le_mul (by omega) (by omega) (by omega) (by omega)⟩
theorem tO {n m:Int} (hn:Num n) (hm:Num m):Num (hiN n m):=by
 obtain ⟨_,_⟩:=zG hn hm
 unfold hiN Num;omega
theorem zH (a0 a1 a2 a3 b0 b1 b2 b3:Int) :
  let c0:=cY a0 b0 0;let c1:=cY a1 b1 c0;let c2:=cY a2 b2 c1;let c3:=cY a3 b3 c2
  let s:=fM (num a0 a1 a2 a3) (num b0 b1 b2 b3)
  l0 s=dv a0 b0 0∧l1 s=dv a1 b1 c0∧l2 s=dv a2 b2 c1∧l3 s=dv a3 b3 c2∧fm (num a0 a1 a2 a3) (num b0 b1 b2 b3)=c3:=by
 intro c0 c1 c2 c3 s
 have e0:=mw a0 b0 0
 have e1:=mw a1 b1 c0
 have e2:=mw a2 b2 c1
 have e3:=mw a3 b3 c2
 have w0:=eH a0 b0 0
 have w1:=eH a1 b1 c0
 have w2:=eH a2 b2 c1
 have w3:=eH a3 b3 c2
 have k:=jM w0 w1 w2 w3
 have k3:c3=cY a3 b3 c2:=rfl
 rw [←k3] at e3
 have hs:num a0 a1 a2 a3+num b0 b1 b2 b3=num (dv a0 b0 0) (dv a1 b1 c0) (dv a2 b2 c1) (dv a3 b3 c2)+115792089237316195423570985008687907853269984665640564039457584007913129639936*c3:=by
  have k0:c0=cY a0 b0 0:=rfl
  have k1:c1=cY a1 b1 c0:=rfl
  have k2:c2=cY a2 b2 c1:=rfl
  rw [←k0] at e0;rw [←k1] at e1;rw [←k2] at e2
  unfold num;omega
 obtain ⟨k4,k5⟩:=k
 have hs':s=num (dv a0 b0 0) (dv a1 b1 c0) (dv a2 b2 c1) (dv a3 b3 c2):=by
  show (num a0 a1 a2 a3+num b0 b1 b2 b3)%_=_
  omega
 obtain ⟨r0,r1,r2,r3⟩:=bZ w0 w1 w2 w3 hs'
 exact ⟨r0,r1,r2,r3,by unfold fm;omega⟩
theorem zI {a0 a1 a2 a3 b0 b1 b2 b3:Int} (ha0:aj a0) (ha1:aj a1) (ha2:aj a2) (ha3:aj a3) (hb0:aj b0) (hb1:aj b1) (hb2:aj b2) (hb3:aj b3) :
  let c0:=di a0 b0 0;let c1:=di a1 b1 c0;let c2:=di a2 b2 c1;let c3:=di a3 b3 c2
  let s:=fN (num a0 a1 a2 a3) (num b0 b1 b2 b3)
  l0 s=eB a0 b0 0∧l1 s=eB a1 b1 c0∧l2 s=eB a2 b2 c1∧l3 s=eB a3 b3 c2∧fW (num a0 a1 a2 a3) (num b0 b1 b2 b3)=c3:=by
 intro c0 c1 c2 c3 s
 have t0:=eW a0 b0 0
 have t1:=eW a1 b1 c0
 have t2:=eW a2 b2 c1
 have t3:=eW a3 b3 c2
 have e0:=mx ha0 hb0 (by decide:(0:Int)≤0∧(0:Int)≤1)
 have e1:=mx ha1 hb1 t0
 have e2:=mx ha2 hb2 t1
 have e3:=mx ha3 hb3 t2
 have w0:=iS a0 b0 0
 have w1:=iS a1 b1 c0
 have w2:=iS a2 b2 c1
 have w3:=iS a3 b3 c2
 have k:=jM w0 w1 w2 w3
 have k0:di a0 b0 0=c0:=rfl
 have k1:di a1 b1 c0=c1:=rfl
 have k2:di a2 b2 c1=c2:=rfl
 have k3:di a3 b3 c2=c3:=rfl
 rw [k0] at e0 e1;rw [k1] at e1 e2;rw [k2] at e2 e3;rw [k3] at e3 t3
 have hs:num a0 a1 a2 a3-num b0 b1 b2 b3=num (eB a0 b0 0) (eB a1 b1 c0) (eB a2 b2 c1) (eB a3 b3 c2)-115792089237316195423570985008687907853269984665640564039457584007913129639936*c3:=by
  unfold num;omega
 obtain ⟨k4,k5⟩:=k
 have hs':s=num (eB a0 b0 0) (eB a1 b1 c0) (eB a2 b2 c1) (eB a3 b3 c2):=by
  show (num a0 a1 a2 a3-num b0 b1 b2 b3)%_=_
  omega
 obtain ⟨r0,r1,r2,r3⟩:=bZ w0 w1 w2 w3 hs'
 exact ⟨r0,r1,r2,r3,by unfold fW;split<;>omega⟩
end Go.Proofs.YtjoandmehahfgaaGreatDoor
