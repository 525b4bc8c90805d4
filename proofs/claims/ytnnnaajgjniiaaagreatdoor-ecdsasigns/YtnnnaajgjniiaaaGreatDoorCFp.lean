import Derived.Test.YtnnnaajgjniiaaaGreatDoorRefMul
import Derived.Test.YtnnnaajgjniiaaaGreatDoorFFermat
import Derived.Test.YtnnnaajgjniiaaaGreatDoorFRefY
import Derived.Test.YtnnnaajgjniiaaaGreatDoorHold
import Derived.Test.YtnnnaajgjniiaaaGreatDoorFAdd
import Derived.Deep.RegionHeld3
import Derived.Test.YtnnnaajgjniiaaaGreatDoorFExp
import Derived.Test.YtnnnaajgjniiaaaGreatDoorAb
import Derived.Test.YtnnnaajgjniiaaaGreatDoorEChk
set_option maxHeartbeats 2000000
namespace Go.Proofs.YtnnnaajgjniiaaaGreatDoor.EC
abbrev F:=Fin 115792089237316195423570985008687907853269984665640564039457584007908834671663
theorem nj:pN=115792089237316195423570985008687907853269984665640564039457584007908834671663:=rfl
def fp (n:Int):F:=⟨(n%115792089237316195423570985008687907853269984665640564039457584007908834671663).toNat,by omega⟩
theorem fp_val (n:Int):(fp n).val=(n%115792089237316195423570985008687907853269984665640564039457584007908834671663).toNat:=rfl
theorem jM (n:Int):((fp n).val:Int)=n%115792089237316195423570985008687907853269984665640564039457584007908834671663:=by
 rw [fp_val];omega
theorem fp_mod (n:Int):fp (ag pN n)=fp n:=by
 apply Fin.ext;rw [fp_val,fp_val];unfold ag;rw [nj];omega
theorem yj {x y:Int} (h:fp x=fp y):x%115792089237316195423570985008687907853269984665640564039457584007908834671663=y%115792089237316195423570985008687907853269984665640564039457584007908834671663:=by
 rw [←jM,←jM,h]
def Low (x:Int):Prop:=0≤x∧x<pN
theorem low_mod (x:Int):Low (ag pN x):=fu am x
theorem Low.num {x:Int} (h:Low x):Num x:=by
 obtain ⟨a,b⟩:=h;rw [nj] at b;unfold Num;omega
theorem fp_inj {x y:Int} (hx:Low x) (hy:Low y) (h:fp x=fp y):x=y:=by
 have e:=yj h
 obtain ⟨a,b⟩:=hx;obtain ⟨c,d⟩:=hy
 rw [nj] at b d
 omega
theorem fp_add (x y:Int):fp (x+y)=fp x+fp y:=by
 apply Fin.ext;rw [Fin.val_add,fp_val,fp_val,fp_val];omega
theorem fp_sub (x y:Int):fp (x-y)=fp x-fp y:=by
 apply Fin.ext;rw [Fin.sub_def]
 show (fp (x-y)).val=(115792089237316195423570985008687907853269984665640564039457584007908834671663-(fp y).val+(fp x).val)%115792089237316195423570985008687907853269984665640564039457584007908834671663
 rw [fp_val,fp_val,fp_val];omega
theorem fp_mul (x y:Int):fp (x*y)=fp x*fp y:=by
 apply Fin.ext
 have e:((fp x*fp y).val:Int)=((fp (x*y)).val:Int):=by
  rw [Fin.val_mul,Int.natCast_emod,Int.natCast_mul,jM,jM,jM]
  exact (Int.mul_emod _ _ _).symm
 omega
theorem yl (a:F):fp (a.val:Int)=a:=by
 apply Fin.ext;rw [fp_val];have:=a.isLt;omega
theorem fp_zero:fp 0=0:=by decide +kernel
theorem fp_one:fp 1=1:=by decide +kernel
theorem fp_low (a:F):Low (a.val:Int):=⟨by omega,by have:=a.isLt;rw [nj];omega⟩
def iv (a:F):F:=fp (fi pN (a.val:Int))
theorem ym {x:Int} (x0:0≤x) (h:ag pN x≠0):ag pN (x*fi pN x)=1:=by
 have e:=pH AR x0 h
 unfold fi
 rw [Int.mul_comm,jJ pN x (by decide),show pN-2+1=pN-1 by decide];exact e
theorem ww {a:F} (ha:a≠0):a*iv a=1:=by
 have h:ag pN (a.val:Int)≠0:=by
  intro e;apply ha;apply Fin.ext
  show a.val=0
  unfold ag at e;rw [nj] at e;have:=a.isLt;omega
 have e:=ym (by omega) h
 unfold iv
 conv=>lhs;lhs;rw [←yl a]
 rw [←fp_mul,←fp_mod,e,fp_one]
theorem fp_inv {x:Int} (h:Low x):fp (fi pN x)=iv (fp x):=by
 unfold iv;rw [jM]
 obtain ⟨a,b⟩:=h
 rw [nj] at b
 rw [Int.emod_eq_of_lt a b]
inductive Pt where
 | o:Pt
 | a:F→F→Pt
def OnC (b:F):Pt→Prop
 | .o=>True
 | .a x y=>y*y=x*x*x+b
def Pt.neg:Pt→Pt
 | .o=>.o
 | .a x y=>.a x (-y)
def Sl (x1 y1 x2 y2 l:F):Prop:=l*(x1-x2)=y1-y2∧l*(y1+y2)=x1*x1+x1*x2+x2*x2
def bF (x1 y1 x2 y2:F):F:=if x1=x2 then 3*(x1*x1)*iv (2*y1) else (y2-y1)*iv (x2-x1)
def Pt.add:Pt→Pt→Pt
 | .o,q=>q
 | .a x y,.o=>.a x y
 | .a x1 y1,.a x2 y2 =>
  if x1=x2∧y1 = -y2 then .o else
   .a (bF x1 y1 x2 y2*bF x1 y1 x2 y2-x1-x2)
    (bF x1 y1 x2 y2*(x1-(bF x1 y1 x2 y2*bF x1 y1 x2 y2-x1-x2))-y1)
theorem di (x1 y1 x2 y2:F):Pt.add (.a x1 y1) (.a x2 y2) =
  if x1=x2∧y1 = -y2 then .o else
   .a (bF x1 y1 x2 y2*bF x1 y1 x2 y2-x1-x2)
    (bF x1 y1 x2 y2*(x1-(bF x1 y1 x2 y2*bF x1 y1 x2 y2-x1-x2))-y1):=rfl
theorem dJ {a b:F} (h:a*b=0) (ha:a≠0):b=0:=by
 have:=ww ha
 generalize iv a=c at *
 grind -lia -linarith
theorem rT5 {a b:F} (h:a-b=0):a=b:=by grind -lia -linarith
theorem rG1 {l x1 x y1 y:F} (hy:y=l*(x1-x)-y1) : -l*(x1-x) = -y1-y:=by grind -lia -linarith
theorem rG2 {l x1 x2 x y1 y2 y:F} (s1:l*(x1-x2)=y1-y2) (s2:l*(y1+y2)=x1*x1+x1*x2+x2*x2) (hx:x=l*l-x1-x2) (hy:y=l*(x1-x)-y1) :
  -l*(-y1+y)=x1*x1+x1*x+x*x:=by grind -lia -linarith
theorem rG3 {l x1 x2 x:F} (hx:x=l*l-x1-x2) : -l * -l-x1-x=x2:=by grind -lia -linarith
theorem rG4 {l x1 x2 x y1 y2:F} (s1:l*(x1-x2)=y1-y2) (hx:x=l*l-x1-x2) :
  -l*(x1-(-l * -l-x1-x)) - -y1=y2:=by rw [rG3 hx];grind -lia -linarith
theorem rK1 {l x1 x2 y1 y2:F} (s1:l*(x1-x2)=y1-y2) (s2:l*(y1+y2)=x1*x1+x1*x2+x2*x2) :
  2*l*y2=x1*x1+x1*x2+x2*x2-l*l*(x1-x2):=by grind -lia -linarith
theorem rK2 {l x1 x2 y1 y2:F} (s1:l*(x1-x2)=y1-y2) (s2:l*(y1+y2)=x1*x1+x1*x2+x2*x2) :
  2*l*y1=x2*x2+x2*x1+x1*x1-l*l*(x2-x1):=by grind -lia -linarith
theorem rK3 {l x1 x2 x y1 y2 y:F} (s1:l*(x1-x2)=y1-y2) (hy:y=l*(x1-x)-y1):y=l*(x2-x)-y2:=by grind -lia -linarith
theorem rK4 {m x2 x3 y2 y3:F} (b1:m*(x2-x3)=y2-y3):y3=y2+m*(x3-x2):=by grind -lia -linarith
theorem rK {l m x1 x2 x3 x y2 y3 y:F} (r1:2*l*y2=x1*x1+x1*x2+x2*x2-l*l*(x1-x2)) (r2:2*m*y2=x3*x3+x3*x2+x2*x2-m*m*(x3-x2))
  (hx:x=l*l-x1-x2) (hy:y=l*(x2-x)-y2) (h3:y3=y2+m*(x3-x2)) :
  (x1-x3-l*(l-m))*(x-x3)=(l-m)*(y-y3):=by
 subst hx;subst hy;subst h3
 have e:∀ A B C D:F,A=B→C=D→A-B-(C-D)=0:=by grind -lia -linarith
 have e':=e _ _ _ _ r1 r2
 refine rT5 (Eq.trans ?_ e')
 clear e e' r1 r2
 grind -lia -linarith
theorem rT1 {l m x2 x y2 y:F} (hy:y=l*(x2-x)-y2) (b1:m*(x2-x)=y2-y):(l-m)*(x2-x)=2*y:=by grind -lia -linarith
theorem rT2 {l x1 x2 x y1 y2 y:F} (s1:l*(x1-x2)=y1-y2) (s2:l*(y1+y2)=x1*x1+x1*x2+x2*x2) (hx:x=l*l-x1-x2) (hy:y=l*(x1-x)-y1) :
  2*(l*y)+3*(x*x)=(x2-x)*(x1-x):=by grind -lia -linarith
theorem rT3 {n x y:F} (c:n*(y+y)=x*x+x*x+x*x):2*(n*y)=3*(x*x):=by grind -lia -linarith
theorem rT4 {l m n x1 x2 x y:F} (g1:(l-m)*(x2-x)=2*y) (g2:2*(l*y)+3*(x*x)=(x2-x)*(x1-x)) (g3:2*(n*y)=3*(x*x)) :
  2*y*((l+n)*(l-m)-(x1-x))=0:=by grind -lia -linarith
theorem rT6 {a b:F} (h:¬a=b):a-b≠0:=by grind -lia -linarith
theorem rT7 {l m n x1 x3 x y y3:F} (k:(x1-x3-l*(l-m))*(x-x3)=(l-m)*(y-y3)) (c:n*(x-x3)=y-y3) :
  (x-x3)*((l+n)*(l-m)-(x1-x3))=0:=by grind -lia -linarith
theorem rS1 {m x2 x3 y2 y3:F} (g:m*(x2-x3)=y2-y3):m*(x3-(m*m-x3-x2))-y3=m*(x2-(m*m-x2-x3))-y2:=by grind -lia -linarith
theorem rS2 {m x2 x3:F}:m*m-x3-x2=m*m-x2-x3:=by grind -lia -linarith
theorem rS3 {a b:F} (h:a = -b):b = -a:=by grind -lia -linarith
theorem rS4 {l v x1 x3:F} (h:(l+v)*(l-l)=x1-x3):x1=x3:=by grind -lia -linarith
theorem rS5 {l x1 x2 y1 y2 y3:F} (g1:l*(x1-x2)=y1-y2) (g2:l*(x2-x1)=y2-y3):y1=y3:=by grind -lia -linarith
theorem rS6 {l m v w x1 x3:F} (k1:(l+v)*(l-m)=x1-x3) (k2:(m+w)*(m-l)=x3-x1):(l-m)*((l+v)-(m+w))=0:=by grind -lia -linarith
theorem rS7 {l m v w:F} (h:(l+v)-(m+w)=0):w=l+v-m:=by grind -lia -linarith
theorem rS8 {l m v x1 x2 x3:F} (k1:(l+v)*(l-m)=x1-x3) :
  v*v-(l*l-x1-x2)-x3=(l+v-m)*(l+v-m)-x1-(m*m-x2-x3):=by grind -lia -linarith
theorem rS9 {l m v x1 x2 x3 x:F} (k1:(l+v)*(l-m)=x1-x3) (hx:x=v*v-(l*l-x1-x2)-x3) :
  (l-m)*x=(l+v)*(x1-x3)-2*(l*(x1-x3))+(l-m)*(x1+x2-x3):=by grind -lia -linarith
theorem Bl {l m v x1 x2 x3 y1 y2 y3 x:F} (g1:l*(x1-x2)=y1-y2) (g2:m*(x2-x3)=y2-y3)
  (g3:v*(l*l-x1-x2-x3)=l*(x1-(l*l-x1-x2))-y1-y3)
  (k3:(l-m)*x=(l+v)*(x1-x3)-2*(l*(x1-x3))+(l-m)*(x1+x2-x3)) :
  v*(l*l-x1-x2-x)-(l*(x1-(l*l-x1-x2))-y1)=(l+v-m)*(x1-x)-y1:=by
 have e:∀ A B C D A' B' C' D':F,A=B→C=D→A'=B'→C'=D'→A-B+(C-D)-(A'-B')-(C'-D')=0:=by grind -lia -linarith
 have e':=e _ _ _ _ _ _ _ _ g3 k3 g1 g2
 refine rT5 (Eq.trans ?_ e')
 clear e e' g1 g2 g3 k3
 grind -lia -linarith
theorem oJ {b x y1 y2:F} (h1:y1*y1=x*x*x+b) (h2:y2*y2=x*x*x+b) (hn:¬y1 = -y2):y1=y2:=by
 have h:(y1+y2)*(y1-y2)=0:=by grind -lia -linarith
 have h':=dJ h (by grind -lia -linarith)
 grind -lia -linarith
theorem cz {b x1 y1 x2 y2:F} (h2:(2:F)≠0) (p1:y1*y1=x1*x1*x1+b) (p2:y2*y2=x2*x2*x2+b)
  (hn:¬(x1=x2∧y1 = -y2)):Sl x1 y1 x2 y2 (bF x1 y1 x2 y2):=by
 unfold Sl bF
 by_cases hx:x1=x2
 ·subst hx
  have hy:=oJ p1 p2 (fun h=>hn ⟨rfl,h⟩)
  subst hy
  rw [if_pos rfl]
  have:2*y1≠0:=by
   intro h;have:=dJ h h2;grind -lia -linarith
  have:=ww this
  grind -lia -linarith
 ·rw [if_neg hx]
  have hd:x2-x1≠0:=by grind -lia -linarith
  have:=ww hd
  refine ⟨by grind -lia -linarith,?_⟩
  have e:(x2-x1)*((y2-y1)*iv (x2-x1)*(y1+y2)-(x1*x1+x1*x2+x2*x2))=0:=by grind -lia -linarith
  have:=dJ e hd
  grind -lia -linarith
theorem yn {x1 y1 x2 y2 l m:F} (hn:¬(x1=x2∧y1 = -y2)) (hl:Sl x1 y1 x2 y2 l) (hm:Sl x1 y1 x2 y2 m):l=m:=by
 obtain ⟨a,b⟩:=hl;obtain ⟨c,d⟩:=hm
 by_cases hx:x1=x2
 ·have hy:y1+y2≠0:=by grind -lia -linarith
  have e:(y1+y2)*(l-m)=0:=by grind -lia -linarith
  have:=dJ e hy;grind -lia -linarith
 ·have hd:x1-x2≠0:=by grind -lia -linarith
  have e:(x1-x2)*(l-m)=0:=by grind -lia -linarith
  have:=dJ e hd;grind -lia -linarith
theorem dA {b x1 y1 x2 y2 l:F} (h2:(2:F)≠0) (p1:y1*y1=x1*x1*x1+b) (p2:y2*y2=x2*x2*x2+b)
  (hn:¬(x1=x2∧y1 = -y2)) (hl:Sl x1 y1 x2 y2 l) :
  Pt.add (.a x1 y1) (.a x2 y2) = .a (l*l-x1-x2) (l*(x1-(l*l-x1-x2))-y1):=by
 have e:=yn hn (cz h2 p1 p2 hn) hl
 rw [di,if_neg hn,e]
theorem pI {b x1 y1 x2 y2 l:F} (p1:y1*y1=x1*x1*x1+b) (hl:Sl x1 y1 x2 y2 l) :
  (l*(x1-(l*l-x1-x2))-y1)*(l*(x1-(l*l-x1-x2))-y1)=(l*l-x1-x2)*(l*l-x1-x2)*(l*l-x1-x2)+b:=by
 obtain ⟨h1,h3⟩:=hl
 grind -lia -linarith
theorem iX {b:F} (h2:(2:F)≠0) {p q:Pt} (hp:OnC b p) (hq:OnC b q):OnC b (p.add q):=by
 cases p with
 | o=>exact hq
 | a x1 y1 =>
  cases q with
  | o=>exact hp
  | a x2 y2 =>
   by_cases hn:x1=x2∧y1 = -y2
   ·rw [di,if_pos hn];trivial
   ·rw [dA h2 hp hq hn (cz h2 hp hq hn)]
    exact pI hp (cz h2 hp hq hn)
theorem cT {b:F} {p:Pt} (hp:OnC b p):OnC b p.neg:=by
 cases p with
 | o=>trivial
 | a x y=>unfold OnC Pt.neg at *; grind -lia -linarith
theorem neg_neg (p:Pt):p.neg.neg=p:=by
 cases p with
 | o=>rfl
 | a x y=>show Pt.a x (- -y)=_;rw [show - -y=y by grind -lia -linarith]
theorem add_o (p:Pt):p.add .o=p:=by cases p<;>rfl
theorem AU (p:Pt):Pt.add .o p=p:=rfl
theorem oK (p:Pt):p.add p.neg = .o:=by
 cases p with
 | o=>rfl
 | a x y=>show Pt.add (.a x y) (.a x (-y))=_;rw [di,if_pos ⟨rfl,by grind -lia -linarith⟩]
theorem kW {x1 y1 x2 y2 l:F} (h:Sl x1 y1 x2 y2 l):Sl x2 y2 x1 y1 l:=by
 obtain ⟨a,b⟩:=h;exact ⟨by grind -lia -linarith,by grind -lia -linarith⟩
theorem add_comm {b:F} (h2:(2:F)≠0) {p q:Pt} (hp:OnC b p) (hq:OnC b q):p.add q=q.add p:=by
 cases p with
 | o=>exact (add_o q).symm
 | a x1 y1 =>
  cases q with
  | o=>rfl
  | a x2 y2 =>
   by_cases hn:x1=x2∧y1 = -y2
   ·have hn':x2=x1∧y2 = -y1:=⟨hn.1.symm,by grind -lia -linarith⟩
    rw [di,di,if_pos hn,if_pos hn']
   ·have hn':¬(x2=x1∧y2 = -y1):=fun h=>hn ⟨h.1.symm,by grind -lia -linarith⟩
    have s:=cz h2 hp hq hn
    rw [dA h2 hp hq hn s,dA h2 hq hp hn' (kW s)]
    obtain ⟨e1,e2⟩:=s
    congr 1<;>grind -lia -linarith
theorem fa {b:F} (h2:(2:F)≠0) (h3:(3:F)≠0) (hb:b≠0) {p q:Pt} (hp:OnC b p) (hq:OnC b q):p.neg.add (p.add q)=q:=by
 cases p with
 | o=>rfl
 | a x1 y1 =>
  cases q with
  | o=>rw [add_o,add_comm h2 (cT hp) hp,oK]
  | a x2 y2 =>
   by_cases hn:x1=x2∧y1 = -y2
   ·have e:Pt.add (.a x1 y1) (.a x2 y2) = .o:=by rw [di,if_pos hn]
    rw [e,add_o];show Pt.a x1 (-y1)=_;rw [hn.1,hn.2,show - -y2=y2 by grind -lia -linarith]
   ·have s:=cz h2 hp hq hn
    have hon:=pI hp s
    rw [dA h2 hp hq hn s]
    generalize bF x1 y1 x2 y2=l at s hon ⊢
    obtain ⟨s1,s2⟩:=s
    obtain ⟨x,hx⟩:∃ x,x=l*l-x1-x2:=⟨_,rfl⟩
    obtain ⟨y,hy⟩:∃ y,y=l*(x1-x)-y1:=⟨_,rfl⟩
    rw [←hx,←hy] at hon ⊢
    have hs:Sl x1 (-y1) x y (-l):=⟨rG1 hy,rG2 s1 s2 hx hy⟩
    have hn':¬(x1=x∧-y1 = -y):=by
     intro ⟨e1,e2⟩
     have e3:2*y1=0:=by grind -lia -linarith
     have e4:=dJ e3 h2
     obtain ⟨s3,s4⟩:=hs
     have e5:3*(x1*x1)=0:=by grind -lia -linarith
     have e6:=dJ e5 h3
     have e7:x1=0:=by
      by_cases h:x1=0
      ·exact h
      ·exact dJ e6 h
     unfold OnC at hp
     exact hb (by grind -lia -linarith)
    unfold Pt.neg
    rw [dA h2 (cT hp) hon hn' hs,rG4 s1 hx,rG3 hx]
theorem key {x1 x2 x3 y1 y2 y3 l m n:F} {b:F} (h2:(2:F)≠0)
  (p1:y1*y1=x1*x1*x1+b) (p3:y3*y3=x3*x3*x3+b)
  (sl:Sl x1 y1 x2 y2 l) (sm:Sl x2 y2 x3 y3 m)
  (hn:¬(l*l-x1-x2=x3∧l*(x1-(l*l-x1-x2))-y1 = -y3))
  (sn:Sl (l*l-x1-x2) (l*(x1-(l*l-x1-x2))-y1) x3 y3 n) :
  (l+n)*(l-m)=x1-x3:=by
 obtain ⟨a1,a2⟩:=sl;obtain ⟨b1,b2⟩:=sm;obtain ⟨c1,c2⟩:=sn
 obtain ⟨x,hx⟩:∃ x,x=l*l-x1-x2:=⟨_,rfl⟩
 obtain ⟨y,hy⟩:∃ y,y=l*(x1-x)-y1:=⟨_,rfl⟩
 rw [←hx,←hy] at hn c1 c2
 have k:(x1-x3-l*(l-m))*(x-x3)=(l-m)*(y-y3):=by
  exact rK (rK1 a1 a2) (rK2 b1 b2) hx (rK3 a1 hy) (rK4 b1)
 by_cases hd:x=x3
 ·have hon:y*y=x*x*x+b:=by rw [hy,hx];exact pI p1 ⟨a1,a2⟩
  subst hd
  have hy3:=oJ hon p3 (fun h=>hn ⟨rfl,h⟩)
  subst hy3
  have hy0:2*y≠0:=by
   intro h;have:=dJ h h2;exact hn ⟨rfl,by grind -lia -linarith⟩
  have e:2*y*((l+n)*(l-m)-(x1-x))=0:=by
   exact rT4 (rT1 (rK3 a1 hy) b1) (rT2 a1 a2 hx hy) (rT3 c2)
  exact rT5 (dJ e hy0)
 ·exact rT5 (dJ (rT7 k c1) (rT6 hd))
theorem sf {b:F} (h2:(2:F)≠0) {p q:Pt} (hp:OnC b p) (hq:OnC b q):(p.add q).neg=p.neg.add q.neg:=by
 cases p with
 | o=>rfl
 | a x1 y1 =>
  cases q with
  | o=>rfl
  | a x2 y2 =>
   show (Pt.add (.a x1 y1) (.a x2 y2)).neg=Pt.add (.a x1 (-y1)) (.a x2 (-y2))
   by_cases hn:x1=x2∧y1 = -y2
   ·have hn':x1=x2∧-y1 = - -y2:=⟨hn.1,by grind -lia -linarith⟩
    rw [di,di,if_pos hn,if_pos hn'];rfl
   ·have hn':¬(x1=x2∧-y1 = - -y2):=fun h=>hn ⟨h.1,by grind -lia -linarith⟩
    have s:=cz h2 hp hq hn
    have s':Sl x1 (-y1) x2 (-y2) (-bF x1 y1 x2 y2):=by
     obtain ⟨g1,g2⟩:=s
     exact ⟨by grind -lia -linarith,by grind -lia -linarith⟩
    rw [dA h2 hp hq hn s,dA h2 (cT hp) (cT hq) hn' s']
    generalize bF x1 y1 x2 y2=l
    show Pt.a _ (-_)=_
    congr 1<;>grind -lia -linarith
theorem assoc {b:F} (h2:(2:F)≠0) (h3:(3:F)≠0) (hb:b≠0) {p q r:Pt} (hp:OnC b p) (hq:OnC b q) (hr:OnC b r) :
  (p.add q).add r=p.add (q.add r):=by
 by_cases e1:p.add q = .o
 ·-- q = -p
  have hqp:q=p.neg:=by
   have:=fa h2 h3 hb hp hq
   rw [e1,add_o] at this;exact this.symm
  rw [e1,AU,hqp]
  have:=fa h2 h3 hb (cT hp) hr
  rw [neg_neg] at this;exact this.symm
 by_cases e2:q.add r = .o
 ·have hrq:r=q.neg:=by
   have:=fa h2 h3 hb hq hr
   rw [e2,add_o] at this;exact this.symm
  rw [e2,add_o,hrq,add_comm h2 hp hq,add_comm h2 (iX h2 hq hp) (cT hq)]
  exact fa h2 h3 hb hq hp
 by_cases e3:(p.add q).add r = .o
 ·have hd:r=(p.add q).neg:=by
   have:=fa h2 h3 hb (iX h2 hp hq) hr
   rw [e3,add_o] at this;exact this.symm
  rw [e3,hd,sf h2 hp hq,add_comm h2 (cT hp) (cT hq)]
  have:=fa h2 h3 hb (cT hq) (cT hp)
  rw [neg_neg] at this
  rw [this,oK]
 by_cases e4:p.add (q.add r) = .o
 ·have hd:p=(q.add r).neg:=by
   have:=fa h2 h3 hb (iX h2 hq hr) hp
   rw [add_comm h2 (iX h2 hq hr) hp,e4,add_o] at this;exact this.symm
  have h5:p.add q=r.neg:=by
   rw [hd,sf h2 hq hr,add_comm h2 (iX h2 (cT hq) (cT hr)) hq]
   have:=fa h2 h3 hb (cT hq) (cT hr)
   rw [neg_neg] at this
   exact this
  rw [e4,h5,add_comm h2 (cT hr) hr,oK]
 by_cases e5:p=r
 ·rw [e5,add_comm h2 (iX h2 hr hq) hr,add_comm h2 hr hq]
 cases p with
 | o=>rfl
 | a x1 y1 =>
 cases q with
 | o=>rfl
 | a x2 y2 =>
 cases r with
 | o=>rw [add_o,add_o]
 | a x3 y3 =>
  have hp':y1*y1=x1*x1*x1+b:=hp
  have hq':y2*y2=x2*x2*x2+b:=hq
  have hr':y3*y3=x3*x3*x3+b:=hr
  have n1:¬(x1=x2∧y1 = -y2):=fun h=>e1 (by rw [di,if_pos h])
  have n2:¬(x2=x3∧y2 = -y3):=fun h=>e2 (by rw [di,if_pos h])
  have s1:=cz h2 hp' hq' n1
  have s2:=cz h2 hq' hr' n2
  have a1:=dA h2 hp' hq' n1 s1
  have a2:=dA h2 hq' hr' n2 s2
  rw [a1] at e3 ⊢; rw [a2] at e4 ⊢
  have o1:=pI hp' s1
  have o2:=pI hq' s2
  have n3:¬(bF x1 y1 x2 y2*bF x1 y1 x2 y2-x1-x2=x3 ∧
   bF x1 y1 x2 y2*(x1-(bF x1 y1 x2 y2*bF x1 y1 x2 y2-x1-x2))-y1 = -y3):=fun h=>e3 (by rw [di,if_pos h])
  have n4:¬(x1=bF x2 y2 x3 y3*bF x2 y2 x3 y3-x2-x3 ∧
   y1 = -(bF x2 y2 x3 y3*(x2-(bF x2 y2 x3 y3*bF x2 y2 x3 y3-x2-x3))-y2)):=fun h=>e4 (by rw [di,if_pos h])
  have s3:=cz h2 o1 hr' n3
  have s4:=cz h2 hp' o2 n4
  rw [dA h2 o1 hr' n3 s3,dA h2 hp' o2 n4 s4]
  generalize bF (bF x1 y1 x2 y2*bF x1 y1 x2 y2-x1-x2) _ x3 y3=v at s3 ⊢
  generalize bF x1 y1 (bF x2 y2 x3 y3*bF x2 y2 x3 y3-x2-x3) _=w at s4 ⊢
  generalize bF x1 y1 x2 y2=l at *
  generalize bF x2 y2 x3 y3=m at *
  have k1:=key h2 hp' hr' s1 s2 n3 s3
  have k2:(m+w)*(m-l)=x3-x1:=by
   have yy:m*(x3-(m*m-x3-x2))-y3=m*(x2-(m*m-x2-x3))-y2:=by
    exact rS1 s2.1
   have xx:m*m-x3-x2=m*m-x2-x3:=rS2
   refine key (n:=w) h2 hr' hp' (kW s2) (kW s1) ?_ ?_
   ·rw [yy,xx];intro h;exact n4 ⟨h.1.symm,rS3 h.2⟩
   ·rw [yy,xx];exact kW s4
  by_cases hlm:l=m
  ·subst hlm
   have e:x1=x3:=rS4 k1
   subst e
   have ey:y1=y3:=rS5 s1.1 s2.1
   exact absurd (by rw [ey]) e5
  ·have hw:w=l+v-m:=rS7 (dJ (rS6 k1 k2) (rT6 hlm))
   rw [hw,←rS8 (x2:=x2) k1,Bl s1.1 s2.1 s3.1 (rS9 k1 rfl)]
def pt (x y z:F):Pt:=if z=0 then .o else .a (x*(iv z*iv z)) (y*(iv z*iv z*iv z))
theorem pt_o {x y z:F} (h:z=0):pt x y z = .o:=by unfold pt;rw [if_pos h]
theorem pt_of {x y z u v:F} (h:z≠0) (hx:x=u*(z*z)) (hy:y=v*(z*z*z)):pt x y z = .a u v:=by
 unfold pt;rw [if_neg h]
 have:=ww h
 subst hx;subst hy
 generalize iv z=w at *
 congr 1<;>grind -lia -linarith
theorem oL {x y z:F} (h:z≠0):∃ u v,x=u*(z*z)∧y=v*(z*z*z)∧pt x y z = .a u v:=by
 have:=ww h
 refine ⟨x*(iv z*iv z),y*(iv z*iv z*iv z),?_,?_,?_⟩
 ·generalize iv z=w at *; grind -lia -linarith
 ·generalize iv z=w at *; grind -lia -linarith
 ·unfold pt;rw [if_neg h]
def dx (x y:F):F:=3*(x*x)*(3*(x*x))-2*(4*(x*(y*y)))
def dy (x y:F):F:=3*(x*x)*(4*(x*(y*y))-dx x y)-8*(y*y*(y*y))
def dz (y z:F):F:=2*(y*z)
theorem yp {x y l:F} (h:l*(y+y)=3*(x*x)) (z:F):dx (x*(z*z)) (y*(z*z*z))=(l*l-x-x)*(dz (y*(z*z*z)) z*dz (y*(z*z*z)) z):=by
 unfold dx dz;grind -lia -linarith
theorem yq {x y l:F} (h:l*(y+y)=3*(x*x)) (z:F):dy (x*(z*z)) (y*(z*z*z))=(l*(x-(l*l-x-x))-y)*(dz (y*(z*z*z)) z*dz (y*(z*z*z)) z*dz (y*(z*z*z)) z):=by
 unfold dy dx dz;grind -lia -linarith
theorem zZ {b x y z:F} (h2:(2:F)≠0) (hz:z≠0) (ho:OnC b (pt x y z)):pt (dx x y) (dy x y) (dz y z)=(pt x y z).add (pt x y z):=by
 obtain ⟨u,v,hx,hy,hp⟩:=oL (x:=x) (y:=y) hz
 rw [hp] at ho ⊢
 by_cases h0:v=0
 ·have e:dz y z=0:=by unfold dz;subst hy;subst h0;grind -lia -linarith
  rw [pt_o e,di,if_pos ⟨rfl,by subst h0;grind -lia -linarith⟩]
 ·have hn:¬(u=u∧v = -v):=by
   intro ⟨_,h⟩
   have e:2*v=0:=by grind -lia -linarith
   exact h0 (dJ e h2)
  have s:=cz h2 ho ho hn
  rw [dA h2 ho ho hn s]
  generalize bF u v u v=l at s
  have s2:l*(v+v)=3*(u*u):=by obtain ⟨_,h⟩:=s;clear hx hy hp ho;grind -lia -linarith
  have hd:dz y z≠0:=by
   intro h
   unfold dz at h
   have:=dJ h h2
   have h':z*y=0:=by clear hx hy hp ho s s2 h;grind -lia -linarith
   have hy0:=dJ h' hz
   rw [hy] at hy0
   have e3:z*(z*(z*v))=0:=by clear hx hy hp ho s s2 h this h';grind -lia -linarith
   exact h0 (dJ (dJ (dJ e3 hz) hz) hz)
  subst hx;subst hy
  exact pt_of hd (yp s2 z) (yq s2 z)
def run (x1 z1 x2 z2:F):F:=x2*(z1*z1)-x1*(z2*z2)
def rise (y1 z1 y2 z2:F):F:=y2*(z1*z1*z1)-y1*(z2*z2*z2)
def ax (x1 z2 h r:F):F:=r*r-h*h*h-2*(x1*(z2*z2)*(h*h))
def ay (x1 y1 z2 h r:F):F:=r*(x1*(z2*z2)*(h*h)-ax x1 z2 h r)-y1*(z2*z2*z2)*(h*h*h)
def az (z1 z2 h:F):F:=z1*z2*h
theorem z6 {b x1 y1 z1 x2 y2 z2:F} (h2:(2:F)≠0) (hz1:z1≠0) (hz2:z2≠0)
  (ho:OnC b (pt x1 y1 z1)) (hq:OnC b (pt x2 y2 z2)) :
  (run x1 z1 x2 z2≠0→pt (ax x1 z2 (run x1 z1 x2 z2) (rise y1 z1 y2 z2)) (ay x1 y1 z2 (run x1 z1 x2 z2) (rise y1 z1 y2 z2)) (az z1 z2 (run x1 z1 x2 z2))=(pt x1 y1 z1).add (pt x2 y2 z2)) ∧
  (run x1 z1 x2 z2=0→rise y1 z1 y2 z2=0→pt x2 y2 z2=pt x1 y1 z1) ∧
  (run x1 z1 x2 z2=0→rise y1 z1 y2 z2≠0→(pt x1 y1 z1).add (pt x2 y2 z2) = .o):=by
 obtain ⟨u1,v1,hx1,hy1,hp1⟩:=oL (x:=x1) (y:=y1) hz1
 obtain ⟨u2,v2,hx2,hy2,hp2⟩:=oL (x:=x2) (y:=y2) hz2
 rw [hp1] at ho;rw [hp2] at hq;rw [hp1,hp2]
 have hw:z1*z2≠0:=fun h=>hz2 (dJ h hz1)
 have er:run x1 z1 x2 z2=z1*z2*(z1*z2*(u2-u1)):=by unfold run;subst hx1;subst hx2;clear hp1 hp2 ho hq hw;grind -lia -linarith
 have es:rise y1 z1 y2 z2=z1*z2*(z1*z2*(z1*z2*(v2-v1))):=by unfold rise;subst hy1;subst hy2;clear hp1 hp2 ho hq hw;grind -lia -linarith
 have hu:run x1 z1 x2 z2=0→u1=u2:=by
  intro h;rw [er] at h
  have:=dJ (dJ h hw) hw
  clear hx1 hy1 hp1 hx2 hy2 hp2 ho hq er es h;grind -lia -linarith
 refine ⟨fun h=>?_,fun h h'=>?_,fun h h'=>?_⟩
 ·have hd:u2-u1≠0:=by
   intro e;apply h;rw [er,e];clear hx1 hy1 hp1 hx2 hy2 hp2 ho hq er es h hu;grind -lia -linarith
  have hn:¬(u1=u2∧v1 = -v2):=by
   intro ⟨e,_⟩;apply hd;clear hx1 hy1 hp1 hx2 hy2 hp2 ho hq er es h hu;grind -lia -linarith
  have s:=cz h2 ho hq hn
  rw [dA h2 ho hq hn s]
  generalize bF u1 v1 u2 v2=l at s
  obtain ⟨s1,_⟩:=s
  have hz:az z1 z2 (run x1 z1 x2 z2)≠0:=by
   unfold az;intro e;exact h (dJ e hw)
  have hs:rise y1 z1 y2 z2=l*(z1*z2*run x1 z1 x2 z2):=by
   rw [er,es];clear hx1 hy1 hp1 hx2 hy2 hp2 ho hq er es h hu hn hd hz;grind -lia -linarith
  refine pt_of hz ?_ ?_
  ·unfold ax az;rw [hs]
   clear hp1 hp2 ho hq es h hu hn hd hz hs hy1 hy2 s1
   have e2:run x1 z1 x2 z2=z1*z2*(z1*z2)*(u2-u1):=by rw [er];grind -lia -linarith
   generalize run x1 z1 x2 z2=r at *
   subst hx1
   clear hx2 er
   grind -lia -linarith
  ·unfold ay ax az;rw [hs]
   have e2:run x1 z1 x2 z2=z1*z2*(z1*z2)*(u2-u1):=by rw [er];clear hp1 hp2 ho hq es h hu hn hd hz hs hy1 hy2 s1;grind -lia -linarith
   have e3:y1=v1*(z1*z1*z1):=hy1
   clear hp1 hp2 ho hq es h hu hn hd hz hs hy1 hy2 er s1
   generalize run x1 z1 x2 z2=r at *
   subst hx1;subst e3
   clear hx2
   grind -lia -linarith
 ·have e:=hu h
  rw [es] at h'
  have:=dJ (dJ (dJ h' hw) hw) hw
  have e':v2=v1:=by clear hx1 hy1 hp1 hx2 hy2 hp2 ho hq er es h hu h';grind -lia -linarith
  rw [e,e']
 ·have e:=hu h
  rw [di,if_pos]
  refine ⟨e,?_⟩
  by_cases hv:v1 = -v2
  ·exact hv
  ·exfalso
   subst e
   have:=oJ ho hq hv
   subst this
   apply h';rw [es]
   clear hx1 hy1 hp1 hx2 hy2 hp2 ho hq er es h hu h';grind -lia -linarith
abbrev On (p:Pt):Prop:=OnC 7 p
theorem two:(2:F)≠0:=by decide +kernel
theorem AV:(3:F)≠0:=by decide +kernel
theorem zo:(7:F)≠0:=by decide +kernel
theorem on_o:On .o:=trivial
theorem Pt.comm {p q:Pt} (hp:On p) (hq:On q):p.add q=q.add p:=add_comm two hp hq
theorem Pt.assoc {p q r:Pt} (hp:On p) (hq:On q) (hr:On r):(p.add q).add r=p.add (q.add r):=EC.assoc two AV zo hp hq hr
theorem Pt.on {p q:Pt} (hp:On p) (hq:On q):On (p.add q):=iX two hp hq
theorem Pt.four {a b c d:Pt} (ha:On a) (hb:On b) (hc:On c) (hd:On d):(a.add b).add (c.add d)=(a.add c).add (b.add d):=by
 rw [Pt.assoc ha hb (Pt.on hc hd),←Pt.assoc hb hc hd,Pt.comm hb hc,Pt.assoc hc hb hd,←Pt.assoc ha hc (Pt.on hb hd)]
def smul:Nat→Pt→Pt
 | 0,_=>.o
 | k+1,p=>(smul k p).add p
theorem smul_on {p:Pt} (hp:On p):∀ k,On (smul k p)
 | 0=>on_o
 | k+1=>Pt.on (smul_on hp k) hp
theorem smul_add {p:Pt} (hp:On p) (a:Nat):∀ b,smul (a+b) p=(smul a p).add (smul b p)
 | 0=>(add_o _).symm
 | b+1=>by
  show (smul (a+b) p).add p=(smul a p).add ((smul b p).add p)
  rw [smul_add hp a b,Pt.assoc (smul_on hp a) (smul_on hp b) hp]
def Bv:Pt→Nat
 | .o=>0
 | .a x y=>1+2*x.val+y.val%2
def Of (g p:Pt):Prop:=∃ k,p=smul k g
end Go.Proofs.YtnnnaajgjniiaaaGreatDoor.EC
namespace Go.Proofs.YtnnnaajgjniiaaaGreatDoor
open Go.RowKit Go.Sort
def Bm (x:Int):Int:=ag pN (ag pN (ag pN (x*x)*x)+7)
open Go.RowKit Go.Sort
def AW (x:Int):Int:=if ag pN (aY pN x qN*aY pN x qN)=ag pN x then 0 else 41
open Go.RowKit Go.Sort
def z7 (x:Int):Prop:=x<pN∧AW (Bm x)=0
instance (x:Int):Decidable (z7 x):=inferInstanceAs (Decidable (_∧_))
end Go.Proofs.YtnnnaajgjniiaaaGreatDoor
namespace Go.Proofs.YtnnnaajgjniiaaaGreatDoor.EC
structure J where
 x:F
 y:F
 z:F
def J.pt (t:J):Pt:=EC.pt t.x t.y t.z
def J.o:J:=⟨0,0,0⟩
def jd (t:J):J:=if t.z=0 then t else ⟨dx t.x t.y,dy t.x t.y,dz t.y t.z⟩
def ja (t u:J):J :=
 if t.z=0 then u else if u.z=0 then t else
 if run t.x t.z u.x u.z=0 then (if rise t.y t.z u.y u.z=0 then jd t else J.o) else
  ⟨ax t.x u.z (run t.x t.z u.x u.z) (rise t.y t.z u.y u.z),ay t.x t.y u.z (run t.x t.z u.x u.z) (rise t.y t.z u.y u.z),az t.z u.z (run t.x t.z u.x u.z)⟩
theorem J.pt_o:J.o.pt = .o:=EC.pt_o rfl
theorem jd_pt {t:J} (h:On t.pt):(jd t).pt=t.pt.add t.pt:=by
 unfold jd
 by_cases hz:t.z=0
 ·rw [if_pos hz]
  have e:t.pt = .o:=EC.pt_o hz
  rw [e];rfl
 ·rw [if_neg hz];exact zZ two hz h
theorem ja_pt {t u:J} (h:On t.pt) (h':On u.pt):(ja t u).pt=t.pt.add u.pt:=by
 unfold ja
 by_cases hz:t.z=0
 ·rw [if_pos hz]
  have e:t.pt = .o:=EC.pt_o hz
  rw [e];rfl
 ·rw [if_neg hz]
  by_cases hu:u.z=0
  ·rw [if_pos hu]
   have e:u.pt = .o:=EC.pt_o hu
   rw [e,add_o]
  ·rw [if_neg hu]
   obtain ⟨a,b,c⟩:=z6 two hz hu h h'
   by_cases hr:run t.x t.z u.x u.z=0
   ·rw [if_pos hr]
    by_cases hs:rise t.y t.z u.y u.z=0
    ·rw [if_pos hs,jd_pt h]
     have e:u.pt=t.pt:=b hr hs
     rw [e]
    ·rw [if_neg hs,J.pt_o];exact (c hr hs).symm
   ·rw [if_neg hr];exact a hr
def jm:Nat→Nat→J→J
 | 0,_,_=>J.o
 | f+1,k,t=>if k%2=1 then ja (jd (jm f (k/2) t)) t else jd (jm f (k/2) t)
theorem jm_pt {t:J} (h:On t.pt):∀ f k,k<2 ^ f→(jm f k t).pt=smul k t.pt
 | 0,k,hk=>by
  have:k=0:=by rw [Nat.pow_zero] at hk;omega
  subst this;exact J.pt_o
 | f+1,k,hk=>by
  have ih:=jm_pt h f (k/2) (by rw [Nat.pow_succ] at hk;omega)
  have hon:On (jm f (k/2) t).pt:=by rw [ih];exact smul_on h _
  have e2:(jd (jm f (k/2) t)).pt=smul (k/2+k/2) t.pt:=by rw [jd_pt hon,ih,smul_add h]
  unfold jm
  split
  ·next ho =>
   rw [ja_pt (by rw [e2];exact smul_on h _) h,e2]
   conv=>rhs;rw [show k=k/2+k/2+1 by omega]
   rfl
  ·next ho =>
   rw [e2];congr 1;omega
def gJ:J:=⟨55066263022277343669578718895168534326250603453777594175500187360389116729240,32670510020758816978083085130507043184471273380659243275938904335757337482424,1⟩
theorem Bn:gJ.z≠0:=by decide +kernel
theorem z8:gJ.y*gJ.y=gJ.x*gJ.x*gJ.x+7:=by decide +kernel
theorem gJ_pt:gJ.pt = .a gJ.x gJ.y:=by
 have e:gJ.z=1:=rfl
 refine pt_of Bn ?_ ?_
 ·rw [e];grind -lia -linarith
 ·rw [e];grind -lia -linarith
theorem gJ_on:On gJ.pt:=by rw [gJ_pt];exact z8
end Go.Proofs.YtnnnaajgjniiaaaGreatDoor.EC
namespace Go.Proofs.YtnnnaajgjniiaaaGreatDoor
open Go.RowKit Go.Sort
theorem bS {x y:Int} (hx:Num x) (hy:Num y) (w:World) :
  Rt 180 #[U4 x,U4 y] w (U4 (ag pN (x-y))):=by
 have C:Hid (∀ w,Rt 196 #[.int .i64 0,U4 x,U4 y] w (.tuple #[U4 (ag pN (x-y)),.int .i64 0])):=fun w=>tn (.inl rfl) hx hy w
 generalize ag pN (x-y)=r at *
 clear hx hy
 go_enter Tryz.func180,Tryz.ntmps180
 go_wp2_with fail
 refine aa (fun W=>Below w.heap.size w W∧ac W (w.heap.size+1+1)) ⟨by repeat (first|with_reducible exact Below.refl _ _|with_reducible refine Below.alloc ?_ (by first|omega|(simp;done)|(simp;omega)) _),ac.new (by simp)⟩ ?_
 rintro W ⟨B,hR⟩
 have o3:w.heap.size≤w.heap.size+1+1:=by omega
 generalize w.heap.size+1+1=br at *
 with_reducible refine (C.out _).mono ?_
 rintro e w1 ⟨rfl,hb⟩
 replace B:=B.trans (hb.mono B.size)
 replace hR:=hR.keep hb
 have lr:=hR.1.lt (by simp)
 have nr:w1.heap.size≠br:=by omega
 have nr':=nr.symm
 clear hb W lr
 have gR:=fun o=>(hR.alloc o).1.all4
 have fR:=fun o=>(hR.alloc o).2.all4
 have BB:Hid (∀ o,Below w.heap.size w (w1.alloc o)):=fun o=>B.alloc B.size o
 clear B hR
 go_wp2
 simp [bodyPost,results,Tryz.results180,go_sem, *]
 repeat (first|with_reducible exact BB.out _|with_reducible refine Below.drew ?_|with_reducible refine Below.setCell ?_ (by with_reducible assumption) _)
theorem ar {x y:Int} (hx:Num x) (hy:Num y) (w:World) :
  Rt 147 #[U4 x,U4 y] w (U4 (ag pN (x*y))):=by
 have C:Hid (∀ w,Rt 116 #[.int .i64 0,U4 x,U4 y] w (.tuple #[U4 (ag pN (x*y)),.int .i64 0])):=fun w=>mU (.inl rfl) hx hy w
 generalize ag pN (x*y)=r at *
 clear hx hy
 go_enter Tryz.func147,Tryz.ntmps147
 go_wp2_with fail
 refine aa (fun W=>Below w.heap.size w W∧ac W (w.heap.size+1+1)) ⟨by repeat (first|with_reducible exact Below.refl _ _|with_reducible refine Below.alloc ?_ (by first|omega|(simp;done)|(simp;omega)) _),ac.new (by simp)⟩ ?_
 rintro W ⟨B,hR⟩
 have o3:w.heap.size≤w.heap.size+1+1:=by omega
 generalize w.heap.size+1+1=br at *
 with_reducible refine (C.out _).mono ?_
 rintro e w1 ⟨rfl,hb⟩
 replace B:=B.trans (hb.mono B.size)
 replace hR:=hR.keep hb
 have lr:=hR.1.lt (by simp)
 have nr:w1.heap.size≠br:=by omega
 have nr':=nr.symm
 clear hb W lr
 have gR:=fun o=>(hR.alloc o).1.all4
 have fR:=fun o=>(hR.alloc o).2.all4
 have BB:Hid (∀ o,Below w.heap.size w (w1.alloc o)):=fun o=>B.alloc B.size o
 clear B hR
 go_wp2
 simp [bodyPost,results,Tryz.results147,go_sem, *]
 repeat (first|with_reducible exact BB.out _|with_reducible refine Below.drew ?_|with_reducible refine Below.setCell ?_ (by with_reducible assumption) _)
open Go.RowKit Go.Sort
theorem yr {x y z:Int} (C0:Hid (∀ w,Rt 84 #[.agg #[.int .u64 (l0 x),.int .u64 (l1 x),.int .u64 (l2 x),.int .u64 (l3 x),.int .u64 (l0 y),.int .u64 (l1 y),.int .u64 (l2 y),.int .u64 (l3 y),.int .u64 (l0 z),.int .u64 (l1 z),.int .u64 (l2 z),.int .u64 (l3 z)]] w (.bool true))) (w:World) :
  Rt 79 #[.agg #[.int .u64 (l0 x),.int .u64 (l1 x),.int .u64 (l2 x),.int .u64 (l3 x),.int .u64 (l0 y),.int .u64 (l1 y),.int .u64 (l2 y),.int .u64 (l3 y),.int .u64 (l0 z),.int .u64 (l1 z),.int .u64 (l2 z),.int .u64 (l3 z)]] w (.agg #[.int .u64 (l0 x),.int .u64 (l1 x),.int .u64 (l2 x),.int .u64 (l3 x),.int .u64 (l0 y),.int .u64 (l1 y),.int .u64 (l2 y),.int .u64 (l3 y),.int .u64 (l0 z),.int .u64 (l1 z),.int .u64 (l2 z),.int .u64 (l3 z)]):=by
 go_enter Tryz.func79,Tryz.ntmps79
 go_wp2_with fail
 refine aa (fun W=>Below w.heap.size w W∧Thr W w.heap.size x y z∧aw W (w.heap.size+1)) ⟨by repeat (first|with_reducible exact Below.refl _ _|with_reducible refine Below.alloc ?_ (by first|omega|(simp;done)|(simp;omega)) _),(Thr.new rfl).alloc _,aw.new (by simp)⟩ ?_
 rintro W ⟨B,hT,hR⟩
 have o3:w.heap.size≤w.heap.size+1:=by omega
 generalize w.heap.size+1=br at *
 with_reducible refine (C0.out _).mono ?_
 rintro e w1 ⟨rfl,hb⟩
 replace B:=B.trans (hb.mono B.size)
 replace hR:=hR.keep hb;replace hT:=hT.keep hb
 have gT:=hT.cells
 clear hb W hT
 have gR:=hR.cells;have fR:=hR.free
 go_wp2
 simp [bodyPost,results,Tryz.results79,go_sem,gR]
 repeat (first|with_reducible exact B|with_reducible refine Below.setCell ?_ o3 _)
theorem Aa {x y z x2 y2 z2:Int} (C0:Hid (∀ w,Rt 84 #[.agg #[.int .u64 (l0 x),.int .u64 (l1 x),.int .u64 (l2 x),.int .u64 (l3 x),.int .u64 (l0 y),.int .u64 (l1 y),.int .u64 (l2 y),.int .u64 (l3 y),.int .u64 (l0 z),.int .u64 (l1 z),.int .u64 (l2 z),.int .u64 (l3 z)]] w (.bool true))) (w:World) :
  Rt 80 #[.agg #[.int .u64 (l0 x),.int .u64 (l1 x),.int .u64 (l2 x),.int .u64 (l3 x),.int .u64 (l0 y),.int .u64 (l1 y),.int .u64 (l2 y),.int .u64 (l3 y),.int .u64 (l0 z),.int .u64 (l1 z),.int .u64 (l2 z),.int .u64 (l3 z)],.agg #[.int .u64 (l0 x2),.int .u64 (l1 x2),.int .u64 (l2 x2),.int .u64 (l3 x2),.int .u64 (l0 y2),.int .u64 (l1 y2),.int .u64 (l2 y2),.int .u64 (l3 y2),.int .u64 (l0 z2),.int .u64 (l1 z2),.int .u64 (l2 z2),.int .u64 (l3 z2)]] w (.agg #[.int .u64 (l0 x2),.int .u64 (l1 x2),.int .u64 (l2 x2),.int .u64 (l3 x2),.int .u64 (l0 y2),.int .u64 (l1 y2),.int .u64 (l2 y2),.int .u64 (l3 y2),.int .u64 (l0 z2),.int .u64 (l1 z2),.int .u64 (l2 z2),.int .u64 (l3 z2)]):=by
 go_enter Tryz.func80,Tryz.ntmps80
 go_wp2_with fail
 refine aa (fun W=>Below w.heap.size w W∧Thr W (w.heap.size+1) x2 y2 z2∧aw W (w.heap.size+1+1)) ⟨by repeat (first|with_reducible exact Below.refl _ _|with_reducible refine Below.alloc ?_ (by first|omega|(simp;done)|(simp;omega)) _),(Thr.new (by simp)).alloc _,aw.new (by simp)⟩ ?_
 rintro W ⟨B,hT,hR⟩
 have o3:w.heap.size≤w.heap.size+1+1:=by omega
 generalize w.heap.size+1+1=br at *
 generalize w.heap.size+1=bo at *
 with_reducible refine (C0.out _).mono ?_
 rintro e w1 ⟨rfl,hb⟩
 replace B:=B.trans (hb.mono B.size)
 replace hR:=hR.keep hb;replace hT:=hT.keep hb
 have gT:=hT.cells
 clear hb W hT
 have gR:=hR.cells;have fR:=hR.free
 go_wp2
 simp [bodyPost,results,Tryz.results80,go_sem,gR]
 repeat (first|with_reducible exact B|with_reducible refine Below.setCell ?_ o3 _)
theorem Ab {x y z x2 y2 z2:Int} (C0:Hid (∀ w,Rt 84 #[.agg #[.int .u64 (l0 x),.int .u64 (l1 x),.int .u64 (l2 x),.int .u64 (l3 x),.int .u64 (l0 y),.int .u64 (l1 y),.int .u64 (l2 y),.int .u64 (l3 y),.int .u64 (l0 z),.int .u64 (l1 z),.int .u64 (l2 z),.int .u64 (l3 z)]] w (.bool false))) (C1:Hid (∀ w,Rt 84 #[.agg #[.int .u64 (l0 x2),.int .u64 (l1 x2),.int .u64 (l2 x2),.int .u64 (l3 x2),.int .u64 (l0 y2),.int .u64 (l1 y2),.int .u64 (l2 y2),.int .u64 (l3 y2),.int .u64 (l0 z2),.int .u64 (l1 z2),.int .u64 (l2 z2),.int .u64 (l3 z2)]] w (.bool true))) (w:World) :
  Rt 80 #[.agg #[.int .u64 (l0 x),.int .u64 (l1 x),.int .u64 (l2 x),.int .u64 (l3 x),.int .u64 (l0 y),.int .u64 (l1 y),.int .u64 (l2 y),.int .u64 (l3 y),.int .u64 (l0 z),.int .u64 (l1 z),.int .u64 (l2 z),.int .u64 (l3 z)],.agg #[.int .u64 (l0 x2),.int .u64 (l1 x2),.int .u64 (l2 x2),.int .u64 (l3 x2),.int .u64 (l0 y2),.int .u64 (l1 y2),.int .u64 (l2 y2),.int .u64 (l3 y2),.int .u64 (l0 z2),.int .u64 (l1 z2),.int .u64 (l2 z2),.int .u64 (l3 z2)]] w (.agg #[.int .u64 (l0 x),.int .u64 (l1 x),.int .u64 (l2 x),.int .u64 (l3 x),.int .u64 (l0 y),.int .u64 (l1 y),.int .u64 (l2 y),.int .u64 (l3 y),.int .u64 (l0 z),.int .u64 (l1 z),.int .u64 (l2 z),.int .u64 (l3 z)]):=by
 go_enter Tryz.func80,Tryz.ntmps80
 go_wp2_with fail
 refine aa (fun W=>Below w.heap.size w W∧Thr W w.heap.size x y z∧Thr W (w.heap.size+1) x2 y2 z2∧aw W (w.heap.size+1+1)) ⟨by repeat (first|with_reducible exact Below.refl _ _|with_reducible refine Below.alloc ?_ (by first|omega|(simp;done)|(simp;omega)) _),((Thr.new rfl).alloc _).alloc _,(Thr.new (by simp)).alloc _,aw.new (by simp)⟩ ?_
 rintro W ⟨B,hT,hO,hR⟩
 have o3:w.heap.size≤w.heap.size+1+1:=by omega
 generalize w.heap.size+1+1=br at *
 generalize w.heap.size+1=bo at *
 with_reducible refine (C0.out _).mono ?_
 rintro e w1 ⟨rfl,hb⟩
 replace B:=B.trans (hb.mono B.size)
 replace hR:=hR.keep hb;replace hT:=hT.keep hb;replace hO:=hO.keep hb
 clear hb W
 have gO:=hO.cells
 go_wp2_with fail
 refine aa (fun W=>Below w.heap.size w W∧Thr W w.heap.size x y z∧aw W br) ⟨B,hT,hR⟩ ?_
 clear B hT hO hR gO
 rintro W ⟨B,hT,hR⟩
 with_reducible refine (C1.out _).mono ?_
 rintro e w2 ⟨rfl,hb⟩
 replace B:=B.trans (hb.mono B.size)
 replace hR:=hR.keep hb;replace hT:=hT.keep hb
 have gT:=hT.cells
 clear hb W hT
 have gR:=hR.cells;have fR:=hR.free
 go_wp2
 simp [bodyPost,results,Tryz.results80,go_sem,gR]
 repeat (first|with_reducible exact B|with_reducible refine Below.setCell ?_ o3 _)
open EC in
def J3 (x y z:Int):EC.J:=⟨EC.fp x,EC.fp y,EC.fp z⟩
theorem fM {x:Int} (h:EC.Low x) (h0:x≠0):EC.fp x≠0:=fun e=>h0 (EC.fp_inj h ⟨by decide,by decide⟩ (by rw [e,EC.fp_zero]))
theorem l7 {x y z:Int} (hx:EC.Low x) (hy:EC.Low y) (hz:EC.Low z):∃ x' y' z',EC.Low x'∧EC.Low y'∧EC.Low z'∧J3 x' y' z'=EC.jd (J3 x y z) ∧
  ∀ w,Mds w→Rt 79 #[.agg #[.int .u64 (l0 x),.int .u64 (l1 x),.int .u64 (l2 x),.int .u64 (l3 x),.int .u64 (l0 y),.int .u64 (l1 y),.int .u64 (l2 y),.int .u64 (l3 y),.int .u64 (l0 z),.int .u64 (l1 z),.int .u64 (l2 z),.int .u64 (l3 z)]] w (.agg #[.int .u64 (l0 x'),.int .u64 (l1 x'),.int .u64 (l2 x'),.int .u64 (l3 x'),.int .u64 (l0 y'),.int .u64 (l1 y'),.int .u64 (l2 y'),.int .u64 (l3 y'),.int .u64 (l0 z'),.int .u64 (l1 z'),.int .u64 (l2 z'),.int .u64 (l3 z')]):=by
 by_cases h0:z=0
 ·refine ⟨x,y,z,hx,hy,hz,?_,fun w _=>yr (fun w=>?_) w⟩
  ·unfold EC.jd
   rw [if_pos (by show EC.fp z=0;rw [h0,EC.fp_zero])]
  ·have:=cW (x:=x) (y:=y) hz.num w
   rw [decide_eq_true h0] at this;exact this
 ·have C0:Hid (∀ w,Rt 84 #[.agg #[.int .u64 (l0 x),.int .u64 (l1 x),.int .u64 (l2 x),.int .u64 (l3 x),.int .u64 (l0 y),.int .u64 (l1 y),.int .u64 (l2 y),.int .u64 (l3 y),.int .u64 (l0 z),.int .u64 (l1 z),.int .u64 (l2 z),.int .u64 (l3 z)]] w (.bool false)):=fun w=>by
   have:=cW (x:=x) (y:=y) hz.num w
   rw [decide_eq_false h0] at this;exact this
  refine ⟨_,_,_,EC.low_mod _,EC.low_mod _,EC.low_mod _,?_,fun w hm=>tJ C0 (fun w hm=>bE hy.num w hm) (fun w hm=>bE (ae am _) w hm) (fun w hm=>bE hx.num w hm)
   (fun w hm=>cm (ae am _) w hm) (fun w hm=>mW (ae am _) (ae am _) w hm) (fun w hm=>aF hx.num (ae am _) w hm) (fun w hm=>cm (ae am _) w hm) (fun w hm=>cm (ae am _) w hm)
   (fun w hm=>bE (ae am _) w hm) (fun w hm=>cm (ae am _) w hm) (fun w hm=>bU (ae am _) (ae am _) w hm) (fun w hm=>bU (ae am _) (ae am _) w hm) (fun w hm=>aF (ae am _) (ae am _) w hm)
   (fun w hm=>cm (ae am _) w hm) (fun w hm=>cm (ae am _) w hm) (fun w hm=>cm (ae am _) w hm) (fun w hm=>bU (ae am _) (ae am _) w hm) (fun w hm=>aF hy.num hz.num w hm) (fun w hm=>cm (ae am _) w hm) w hm⟩
  unfold EC.jd
  rw [if_neg (show ¬(J3 x y z).z=0 from fM hz h0)]
  unfold J3
  simp only [EC.fp_mod,EC.fp_mul,EC.fp_add,EC.fp_sub]
  generalize EC.fp x=X;generalize EC.fp y=Y;generalize EC.fp z=Z
  congr 1
  ·unfold EC.dx;grind -lia -linarith
  ·unfold EC.dy EC.dx;grind -lia -linarith
  ·unfold EC.dz;grind -lia -linarith
theorem l8 {x y z x2 y2 z2:Int} (hx:EC.Low x) (hy:EC.Low y) (hz:EC.Low z) (hx2:EC.Low x2) (hy2:EC.Low y2) (hz2:EC.Low z2):∃ x' y' z',EC.Low x'∧EC.Low y'∧EC.Low z'∧J3 x' y' z'=EC.ja (J3 x y z) (J3 x2 y2 z2) ∧
  ∀ w,Mds w→Rt 80 #[.agg #[.int .u64 (l0 x),.int .u64 (l1 x),.int .u64 (l2 x),.int .u64 (l3 x),.int .u64 (l0 y),.int .u64 (l1 y),.int .u64 (l2 y),.int .u64 (l3 y),.int .u64 (l0 z),.int .u64 (l1 z),.int .u64 (l2 z),.int .u64 (l3 z)],.agg #[.int .u64 (l0 x2),.int .u64 (l1 x2),.int .u64 (l2 x2),.int .u64 (l3 x2),.int .u64 (l0 y2),.int .u64 (l1 y2),.int .u64 (l2 y2),.int .u64 (l3 y2),.int .u64 (l0 z2),.int .u64 (l1 z2),.int .u64 (l2 z2),.int .u64 (l3 z2)]] w (.agg #[.int .u64 (l0 x'),.int .u64 (l1 x'),.int .u64 (l2 x'),.int .u64 (l3 x'),.int .u64 (l0 y'),.int .u64 (l1 y'),.int .u64 (l2 y'),.int .u64 (l3 y'),.int .u64 (l0 z'),.int .u64 (l1 z'),.int .u64 (l2 z'),.int .u64 (l3 z')]):=by
 by_cases h0:z=0
 ·refine ⟨x2,y2,z2,hx2,hy2,hz2,?_,fun w _=>Aa (fun w=>?_) w⟩
  ·unfold EC.ja
   rw [if_pos (show (J3 x y z).z=0 by show EC.fp z=0;rw [h0,EC.fp_zero])]
  ·have:=cW (x:=x) (y:=y) hz.num w
   rw [decide_eq_true h0] at this;exact this
 have C0:Hid (∀ w,Rt 84 #[.agg #[.int .u64 (l0 x),.int .u64 (l1 x),.int .u64 (l2 x),.int .u64 (l3 x),.int .u64 (l0 y),.int .u64 (l1 y),.int .u64 (l2 y),.int .u64 (l3 y),.int .u64 (l0 z),.int .u64 (l1 z),.int .u64 (l2 z),.int .u64 (l3 z)]] w (.bool false)):=fun w=>by
  have:=cW (x:=x) (y:=y) hz.num w
  rw [decide_eq_false h0] at this;exact this
 have n0:¬(J3 x y z).z=0:=fM hz h0
 by_cases h2:z2=0
 ·refine ⟨x,y,z,hx,hy,hz,?_,fun w _=>Ab C0 (fun w=>?_) w⟩
  ·unfold EC.ja
   rw [if_neg n0,if_pos (show (J3 x2 y2 z2).z=0 by show EC.fp z2=0;rw [h2,EC.fp_zero])]
  ·have:=cW (x:=x2) (y:=y2) hz2.num w
   rw [decide_eq_true h2] at this;exact this
 have C1:Hid (∀ w,Rt 84 #[.agg #[.int .u64 (l0 x2),.int .u64 (l1 x2),.int .u64 (l2 x2),.int .u64 (l3 x2),.int .u64 (l0 y2),.int .u64 (l1 y2),.int .u64 (l2 y2),.int .u64 (l3 y2),.int .u64 (l0 z2),.int .u64 (l1 z2),.int .u64 (l2 z2),.int .u64 (l3 z2)]] w (.bool false)):=fun w=>by
  have:=cW (x:=x2) (y:=y2) hz2.num w
  rw [decide_eq_false h2] at this;exact this
 have n2:¬(J3 x2 y2 z2).z=0:=fM hz2 h2
 obtain ⟨h,eh⟩:∃ h,h=ag pN (ag pN (x2*ag pN (z*z))-ag pN (x*ag pN (z2*z2))):=⟨_,rfl⟩
 obtain ⟨r,er⟩:∃ r,r=ag pN (ag pN (y2*ag pN (ag pN (z*z)*z))-ag pN (y*ag pN (ag pN (z2*z2)*z2))):=⟨_,rfl⟩
 have lh:EC.Low h:=by rw [eh];exact EC.low_mod _
 have lr:EC.Low r:=by rw [er];exact EC.low_mod _
 have fh:EC.fp h=EC.run (J3 x y z).x (J3 x y z).z (J3 x2 y2 z2).x (J3 x2 y2 z2).z:=by
  rw [eh];simp only [EC.fp_mod,EC.fp_mul,EC.fp_sub];rfl
 have fr:EC.fp r=EC.rise (J3 x y z).y (J3 x y z).z (J3 x2 y2 z2).y (J3 x2 y2 z2).z:=by
  rw [er];simp only [EC.fp_mod,EC.fp_mul,EC.fp_sub];rfl
 by_cases hh:h=0
 ·have e0:EC.run (J3 x y z).x (J3 x y z).z (J3 x2 y2 z2).x (J3 x2 y2 z2).z=0:=by rw [←fh,hh,EC.fp_zero]
  have he:∀ w,(Op.equalIn 10000 24 (U4 h) (.agg #[.int .u64 0,.int .u64 0,.int .u64 0,.int .u64 0])).run Tryz.prog w = .ok true w:=fun w=>by
   have:=iR lh.num (m:=0) ⟨by decide,by decide⟩ w
   obtain ⟨z0,z1,z2,z3⟩:=aq
   ((try unfold Rt at this);(try unfold U4 at this);(try unfold P9 at this);rw [z0,z1,z2,z3,decide_eq_true hh] at this)
   exact this
  have key:∃ x' y' z',EC.Low x'∧EC.Low y'∧EC.Low z'∧J3 x' y' z'=EC.ja (J3 x y z) (J3 x2 y2 z2)∧Hid (∀ w,Mds w→Rt 125 #[.agg #[.int .u64 (l0 x),.int .u64 (l1 x),.int .u64 (l2 x),.int .u64 (l3 x),.int .u64 (l0 y),.int .u64 (l1 y),.int .u64 (l2 y),.int .u64 (l3 y),.int .u64 (l0 z),.int .u64 (l1 z),.int .u64 (l2 z),.int .u64 (l3 z)],U4 r] w (.agg #[.int .u64 (l0 x'),.int .u64 (l1 x'),.int .u64 (l2 x'),.int .u64 (l3 x'),.int .u64 (l0 y'),.int .u64 (l1 y'),.int .u64 (l2 y'),.int .u64 (l3 y'),.int .u64 (l0 z'),.int .u64 (l1 z'),.int .u64 (l2 z'),.int .u64 (l3 z')])):=by
   by_cases hr:r=0
   ·obtain ⟨x',y',z',l1,l2,l3,ej,cj⟩:=l7 hx hy hz
    refine ⟨x',y',z',l1,l2,l3,?_,fun w hm=>?_⟩
    ·rw [ej];unfold EC.ja
     rw [if_neg n0,if_neg n2,if_pos e0,if_pos (by rw [←fr,hr,EC.fp_zero])]
    ·rw [hr];exact qP cj w hm
   ·refine ⟨0,0,0,⟨by decide,by decide⟩,⟨by decide,by decide⟩,⟨by decide,by decide⟩,?_,fun w _=>tI lr.num hr w⟩
    unfold EC.ja
    rw [if_neg n0,if_neg n2,if_pos e0,if_neg (by rw [←fr];exact fM lr hr)]
    unfold J3 EC.J.o
    rw [EC.fp_zero]
  obtain ⟨x',y',z',l1,l2,l3,ej,cj⟩:=key
  subst eh;subst er
  exact ⟨x',y',z',l1,l2,l3,ej,fun w hm=>mY C0 C1 (fun w hm=>bE hz.num w hm) (fun w hm=>bE hz2.num w hm) (fun w hm=>aF hx.num (ae am _) w hm) (fun w hm=>aF (ae am _) hz2.num w hm) (fun w hm=>aF hy.num (ae am _) w hm) (fun w hm=>aF hx2.num (ae am _) w hm) (fun w hm=>bU (ae am _) (ae am _) w hm) (fun w hm=>aF (ae am _) hz.num w hm) (fun w hm=>aF hy2.num (ae am _) w hm) (fun w hm=>bU (ae am _) (ae am _) w hm) (.inl ⟨he,cj⟩) w hm⟩
 ·have e0:¬EC.run (J3 x y z).x (J3 x y z).z (J3 x2 y2 z2).x (J3 x2 y2 z2).z=0:=by rw [←fh];exact fM lh hh
  have he:∀ w,(Op.equalIn 10000 24 (U4 h) (.agg #[.int .u64 0,.int .u64 0,.int .u64 0,.int .u64 0])).run Tryz.prog w = .ok false w:=fun w=>by
   have:=iR lh.num (m:=0) ⟨by decide,by decide⟩ w
   obtain ⟨z0,z1,z2,z3⟩:=aq
   ((try unfold Rt at this);(try unfold U4 at this);(try unfold P9 at this);rw [z0,z1,z2,z3,decide_eq_false hh] at this)
   exact this
  subst eh;subst er
  refine ⟨_,_,_,EC.low_mod _,EC.low_mod _,EC.low_mod _,?_,fun w hm=>mY C0 C1 (fun w hm=>bE hz.num w hm) (fun w hm=>bE hz2.num w hm) (fun w hm=>aF hx.num (ae am _) w hm) (fun w hm=>aF (ae am _) hz2.num w hm) (fun w hm=>aF hy.num (ae am _) w hm) (fun w hm=>aF hx2.num (ae am _) w hm) (fun w hm=>bU (ae am _) (ae am _) w hm) (fun w hm=>aF (ae am _) hz.num w hm) (fun w hm=>aF hy2.num (ae am _) w hm) (fun w hm=>bU (ae am _) (ae am _) w hm) (.inr ⟨he,_,_,_,_,_,_,_,_,_,_,⟨(fun w hm=>bE (ae am _) w hm),(fun w hm=>aF (ae am _) (ae am _) w hm),(fun w hm=>aF (ae am _) (ae am _) w hm),(fun w hm=>bE (ae am _) w hm),(fun w hm=>bU (ae am _) (ae am _) w hm),(fun w hm=>cm (ae am _) w hm),(fun w hm=>bU (ae am _) (ae am _) w hm),(fun w hm=>bU (ae am _) (ae am _) w hm),(fun w hm=>aF (ae am _) (ae am _) w hm),(fun w hm=>aF (ae am _) (ae am _) w hm),(fun w hm=>bU (ae am _) (ae am _) w hm),(fun w hm=>aF hz.num hz2.num w hm),(fun w hm=>aF (ae am _) (ae am _) w hm)⟩⟩) w hm⟩
  unfold EC.ja
  rw [if_neg n0,if_neg n2,if_neg e0,←fh,←fr]
  unfold J3
  simp only [EC.fp_mod,EC.fp_mul,EC.fp_add,EC.fp_sub]
  generalize EC.fp x=X;generalize EC.fp y=Y;generalize EC.fp z=Z;generalize EC.fp x2=X2;generalize EC.fp y2=Y2;generalize EC.fp z2=Z2
  generalize X2*(Z*Z)-X*(Z2*Z2)=H
  generalize Y2*(Z*Z*Z)-Y*(Z2*Z2*Z2)=R
  congr 1
  ·unfold EC.ax;grind -lia -linarith
  ·unfold EC.ay EC.ax;grind -lia -linarith
end Go.Proofs.YtnnnaajgjniiaaaGreatDoor
