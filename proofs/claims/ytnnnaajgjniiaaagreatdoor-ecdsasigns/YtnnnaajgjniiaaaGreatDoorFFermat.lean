import Derived.Test.YtnnnaajgjniiaaaGreatDoorFExp
import Derived.Test.YtnnnaajgjniiaaaGreatDoorMul2
namespace Go.Proofs.YtnnnaajgjniiaaaGreatDoor.NT
def Prime (p:Nat):Prop:=1<p∧∀ d,d∣p→d=1∨d=p
theorem iO {p a:Nat} (hp:Prime p) (h:¬p∣a):Nat.gcd p a=1:=by
 rcases hp.2 _ (Nat.gcd_dvd_left p a) with h1|h1
 ·exact h1
 ·exact absurd (h1 ▸ Nat.gcd_dvd_right p a) h
theorem ni {p a b:Nat} (hp:Prime p) (h:p∣a*b):p∣a∨p∣b:=by
 by_cases ha:p∣a
 ·exact .inl ha
 ·exact .inr (Nat.Coprime.dvd_of_dvd_mul_left (iO hp ha) h)
theorem tL:∀ n:Nat,1<n→∃ q,Prime q∧q∣n:=by
 intro n
 induction n using Nat.strongRecOn with
 | ind n ih =>
  intro h
  by_cases hp:∀ d,d∣n→d=1∨d=n
  ·exact ⟨n,⟨h,hp⟩,Nat.dvd_refl n⟩
  ·obtain ⟨d,hd⟩:=Classical.not_forall.1 hp
   obtain ⟨hd,h12⟩:=Classical.not_imp.1 hd
   obtain ⟨h1,h2⟩:=not_or.1 h12
   have hpos:0<d:=Nat.pos_of_dvd_of_pos hd (by omega)
   have hle:=Nat.le_of_dvd (by omega) hd
   obtain ⟨q,hq,hqd⟩:=ih d (by omega) (by omega)
   exact ⟨q,hq,Nat.dvd_trans hqd hd⟩
def C:Nat→Nat→Nat
 | _,0=>1
 | 0,_+1=>0
 | n+1,k+1=>C n k+C n (k+1)
theorem oI (n:Nat):C n 0=1:=by cases n<;>rfl
theorem yf:∀ n k,n<k→C n k=0
 | 0,k+1,_=>rfl
 | n+1,k+1,h=>by rw [C,yf n k (by omega),yf n (k+1) (by omega)]
theorem wo:∀ n,C n n=1
 | 0=>rfl
 | n+1=>by rw [C,wo n,yf n (n+1) (by omega)]
theorem se:∀ n k,(k+1)*C (n+1) (k+1)=(n+1)*C n k
 | 0,0=>by decide
 | 0,k+1=>by simp [C]
 | n+1,0=>by
  have h:=se n 0
  have h4:C (n+2) (0+1)=C (n+1) 0+C (n+1) (0+1):=rfl
  rw [oI] at h;rw [h4,oI];omega
 | n+1,k+1=>by
  have h1:=se n k
  have h2:=se n (k+1)
  have h3:C (n+1) (k+1)=C n k+C n (k+1):=rfl
  have h4:C (n+2) (k+2)=C (n+1) (k+1)+C (n+1) (k+2):=rfl
  rw [h4]
  have e:(k+1+1)*(C (n+1) (k+1)+C (n+1) (k+2))=(k+1)*C (n+1) (k+1)+C (n+1) (k+1)+(k+1+1)*C (n+1) (k+1+1):=by grind
  rw [e,h1,h2]
  grind
def S (n x:Nat):Nat→Nat
 | 0=>0
 | j+1=>S n x j+C n j*x ^ j
theorem ws (n x:Nat):∀ j,S (n+1) x (j+1)=S n x (j+1)+x*S n x j
 | 0=>by simp [S,oI]
 | j+1=>by
  have ih:=ws n x j
  have h3:C (n+1) (j+1)=C n j+C n (j+1):=rfl
  have e1:S (n+1) x (j+1+1)=S (n+1) x (j+1)+C (n+1) (j+1)*x ^ (j+1):=rfl
  have e2:S n x (j+1+1)=S n x (j+1)+C n (j+1)*x ^ (j+1):=rfl
  have e3:S n x (j+1)=S n x j+C n j*x ^ j:=rfl
  rw [e1,ih,h3,e2,e3,Nat.pow_succ]
  grind
theorem wt (x:Nat):∀ n,S n x (n+1)=(x+1) ^ n
 | 0=>by simp [S,C]
 | n+1=>by
  rw [ws,Nat.pow_succ,←wt x n]
  have e:S n x (n+1+1)=S n x (n+1)+C n (n+1)*x ^ (n+1):=rfl
  rw [e,yf n (n+1) (by omega)]
  grind
theorem yg {p k:Nat} (hp:Prime p) (h0:0<k) (h1:k<p):p∣C p k:=by
 obtain ⟨k,rfl⟩:∃ j,k=j+1:=⟨k-1,by omega⟩
 obtain ⟨m,rfl⟩:∃ m,p=m+1:=⟨p-1,by omega⟩
 have h:=se m k
 rcases ni hp (⟨C m k,h⟩:m+1∣(k+1)*C (m+1) (k+1)) with h2|h2
 ·exact absurd (Nat.le_of_dvd (by omega) h2) (by omega)
 ·exact h2
theorem zm {p:Nat} (hp:Prime p) (x:Nat):∀ j,j<p→p∣S p x (j+1)-1∧1≤S p x (j+1)
 | 0,_=>by simp [S,oI]
 | j+1,h=>by
  obtain ⟨h1,h2⟩:=zm hp x j (by omega)
  have e1:S p x (j+1+1)=S p x (j+1)+C p (j+1)*x ^ (j+1):=rfl
  rw [e1]
  refine ⟨?_,by omega⟩
  have:=Nat.dvd_add h1 (Nat.dvd_mul_right_of_dvd (yg hp (by omega) h) (x ^ (j+1)))
  rwa [show S p x (j+1)-1+C p (j+1)*x ^ (j+1)=S p x (j+1)+C p (j+1)*x ^ (j+1)-1 by omega] at this
theorem Bk {p:Nat} (hp:Prime p) (x:Nat):(x+1) ^ p%p=(x ^ p+1)%p:=by
 obtain ⟨m,rfl⟩:∃ m,p=m+1:=⟨p-1,by have:=hp.1;omega⟩
 rw [←wt]
 have e1:S (m+1) x (m+1+1)=S (m+1) x (m+1)+C (m+1) (m+1)*x ^ (m+1):=rfl
 obtain ⟨⟨c,h1⟩,h2⟩:=zm hp x m (by omega)
 rw [e1,wo,show S (m+1) x (m+1)=1+(m+1)*c by omega]
 rw [show 1+(m+1)*c+1*x ^ (m+1)=x ^ (m+1)+1+(m+1)*c by omega,Nat.add_mul_mod_self_left]
theorem lV {p:Nat} (hp:Prime p):∀ x,x ^ p%p=x%p
 | 0=>by rw [Nat.zero_pow (by have:=hp.1;omega)]
 | x+1=>by rw [Bk hp,Nat.add_mod,lV hp x,←Nat.add_mod]
theorem qS {p b c:Nat} (hle:b≤c) (h:b%p=c%p):p∣c-b:=by
 have h1:=Nat.mod_add_div b p
 have h2:=Nat.mod_add_div c p
 refine ⟨c/p-b/p,?_⟩
 rw [Nat.mul_sub];omega
theorem qT {p b c:Nat} (hle:b≤c) (h:p∣c-b):b%p=c%p:=by
 obtain ⟨k,hk⟩:=h
 rw [show c=b+p*k by omega,Nat.add_mul_mod_self_left]
theorem fa {p a b c:Nat} (hp:Prime p) (ha:¬p∣a) (h:a*b%p=a*c%p):b%p=c%p:=by
 have key:∀ {b c:Nat},b≤c→a*b%p=a*c%p→b%p=c%p:=by
  intro b c hle h
  have hd:p∣a*c-a*b:=qS (Nat.mul_le_mul_left a hle) h
  rw [←Nat.mul_sub] at hd
  rcases ni hp hd with h1|h1
  ·exact absurd h1 ha
  ·exact qT hle h1
 rcases Nat.le_total b c with hle|hle
 ·exact key hle h
 ·exact (key hle h.symm).symm
theorem fermat {p x:Nat} (hp:Prime p) (hx:¬p∣x):x ^ (p-1)%p=1:=by
 have h:=lV hp x
 obtain ⟨m,rfl⟩:∃ m,p=m+1:=⟨p-1,by have:=hp.1;omega⟩
 rw [Nat.pow_succ,Nat.mul_comm] at h
 have:=fa (b:=x ^ m) (c:=1) hp hx (by rw [Nat.mul_one];exact h)
 rw [Nat.add_sub_cancel,this,Nat.mod_eq_of_lt hp.1]
theorem pE {m x k:Nat} (h1:1<m) (h:x%m=1):x ^ k%m=1:=by
 rw [Nat.pow_mod,h,Nat.one_pow,Nat.mod_eq_of_lt h1]
theorem j8 {m x a k:Nat} (h1:1<m) (h:x ^ a%m=1):x ^ (a*k)%m=1:=by
 rw [Nat.pow_mul];exact pE h1 h
theorem yh {m x:Nat} (h1:1<m):∀ a b:Nat,x ^ a%m=1→x ^ b%m=1→x ^ Nat.gcd a b%m=1:=by
 intro a
 induction a using Nat.strongRecOn with
 | ind a ih =>
  intro b ha hb
  by_cases h0:a=0
  ·subst h0;rwa [Nat.gcd_zero_left]
  ·rw [Nat.gcd_rec]
   refine ih (b%a) (Nat.mod_lt _ (by omega)) a ?_ ha
   have h2:=Nat.mod_add_div b a
   rw [←h2,Nat.pow_add,Nat.mul_mod,j8 h1 ha,Nat.mul_one,Nat.mod_mod] at hb
   exact hb
theorem AQ {N q a l:Nat} (hq:Prime q) (hd:q∣N-1) (ha:a ^ (N-1)%N=1) (hN:1<N)
  (hg:Nat.gcd (a ^ ((N-1)/q)%N+(N-1)) N=1) (hl:Prime l) (hlN:l∣N):q∣l-1:=by
 obtain ⟨k,hk⟩:=hlN
 obtain ⟨j,hj⟩:=hd
 have hq1:=hq.1
 have hl1:=hl.1
 have hdiv:(N-1)/q=j:=by rw [hj,Nat.mul_div_cancel_left _ (by omega)]
 rw [hdiv] at hg
 have toL:∀ z,z%N%l=z%l:=fun z=>by rw [hk,Nat.mod_mul_right_mod]
 have hal:a ^ (N-1)%l=1:=by rw [←toL,ha,Nat.mod_eq_of_lt hl1]
 have hnb:a ^ j%l≠1:=by
  intro h
  have:l∣a ^ j%N+(N-1):=by
   apply Nat.dvd_of_mod_eq_zero
   have e:(N-1+1)%l=0:=by rw [Nat.sub_add_cancel (by omega),hk,Nat.mul_mod_right]
   have e2:(1+(N-1))%l=(1+(N-1)%l)%l:=by rw [Nat.add_mod 1,Nat.mod_eq_of_lt hl1]
   rw [Nat.add_mod,toL,h,←e2,Nat.add_comm,e]
  have h2:=Nat.dvd_gcd this (⟨k,hk⟩:l∣N)
  rw [hg] at h2
  have:=Nat.le_of_dvd (by omega) h2
  omega
 have hla:¬l∣a:=by
  intro h
  have h2:a ^ (N-1)%l=0:=Nat.mod_eq_zero_of_dvd (Nat.dvd_trans h (show a∣a ^ (N-1) by rw [show N-1=(N-2)+1 by omega,Nat.pow_succ];exact Nat.dvd_mul_left _ _))
  omega
 have hf:=fermat hl hla
 apply Classical.byContradiction
 intro hnd
 have hc:=iO hq hnd
 have hb1:(a ^ j) ^ q%l=1:=by rw [←Nat.pow_mul,Nat.mul_comm,←hj];exact hal
 have hb2:(a ^ j) ^ (l-1)%l=1:=by rw [←Nat.pow_mul,Nat.mul_comm];exact j8 hl1 hf
 have:=yh hl1 q (l-1) hb1 hb2
 rw [hc,Nat.pow_one] at this
 exact hnb this
theorem lW {N F:Nat} (hN:1<N) (hF:N≤F*F) (h:∀ l,Prime l→l∣N→F∣l-1):Prime N:=by
 refine ⟨hN,fun d hd=>?_⟩
 apply Classical.byContradiction
 intro hno
 obtain ⟨h1,h2⟩:=not_or.1 hno
 obtain ⟨e,he⟩:=hd
 have hd0:d≠0:=by intro z;subst z;omega
 have he0:e≠0:=by intro z;subst z;omega
 have he1:e≠1:=by intro z;subst z;omega
 have big:∀ d,1<d→d∣N→F<d:=by
  intro d h1 hd
  obtain ⟨l,hl,hld⟩:=tL d h1
  have h3:=Nat.le_of_dvd (by omega) hld
  have h4:=h l hl (Nat.dvd_trans hld hd)
  have h5:=hl.1
  have h6:=Nat.le_of_dvd (by omega) h4
  omega
 have b1:=big d (by omega) ⟨e,he⟩
 have b2:=big e (by omega) ⟨d,by rw [he,Nat.mul_comm]⟩
 have:(F+1)*(F+1)≤d*e:=Nat.mul_le_mul b1 b2
 have e3:(F+1)*(F+1)=F*F+2*F+1:=by grind
 omega
def pm (m:Nat):Nat→Nat→Nat→Nat
 | 0,_,_=>1%m
 | k+1,x,e=>let h:=pm m k (x*x%m) (e/2);if e%2=1 then x*h%m else h
theorem wu (m:Nat):∀ k x e,e<2 ^ k→pm m k x e=x ^ e%m
 | 0,x,e,h=>by rw [show e=0 by simpa using h];rfl
 | k+1,x,e,h=>by
  have ih:=wu m k (x*x%m) (e/2) (by rw [Nat.pow_succ] at h;omega)
  have e1:(x*x%m) ^ (e/2)%m=x ^ (2*(e/2))%m:=by
   rw [←Nat.pow_mod,Nat.pow_mul,Nat.pow_two]
  unfold pm
  simp only [ih,e1]
  by_cases h2:e%2=1
  ·rw [if_pos h2,Nat.mul_mod,Nat.mod_mod,←Nat.mul_mod,Nat.mul_comm,←Nat.pow_succ,show (2*(e/2)).succ=e by omega]
  ·rw [if_neg h2,show 2*(e/2)=e by omega]
theorem wv {N q a l:Nat} (k:Nat) (hq:Prime q) (hb:(decide (1<N)&&decide (N<2 ^ k)&&decide ((N-1)%q=0)&&decide (pm N k a (N-1)=1)&&decide (Nat.gcd (pm N k a ((N-1)/q)+(N-1)) N=1))=true)
  (hl:Prime l) (hlN:l∣N):q∣l-1:=by
 simp only [Bool.and_eq_true,decide_eq_true_eq] at hb
 obtain ⟨⟨⟨⟨h1,h2⟩,h3⟩,h4⟩,h5⟩:=hb
 rw [wu _ _ _ _ (by omega)] at h4
 rw [wu _ _ _ _ (by have:=Nat.div_le_self (N-1) q;omega)] at h5
 exact AQ hq (Nat.dvd_of_mod_eq_zero h3) h4 h1 h5 hl hlN
def pF (n:Nat):Nat→Nat→Bool
 | 0,d=>decide (n<d*d)
 | k+1,d=>if n<d*d then true else if n%d=0 then false else pF n k (d+1)
theorem l6 (n:Nat):∀ k d,pF n k d=true→∀ c,d≤c→c*c≤n→¬c∣n
 | 0,d,h,c,hc,hcn,_=>by
  have h1:n<d*d:=by simpa [pF] using h
  have:=Nat.mul_le_mul hc hc
  omega
 | k+1,d,h,c,hc,hcn,hd=>by
  unfold pF at h
  by_cases h1:n<d*d
  ·have:=Nat.mul_le_mul hc hc
   omega
  ·rw [if_neg h1] at h
   by_cases h2:n%d=0
   ·rw [if_pos h2] at h;cases h
   ·rw [if_neg h2] at h
    by_cases h3:c=d
    ·subst h3;exact h2 (Nat.mod_eq_zero_of_dvd hd)
    ·exact l6 n k (d+1) h c (by omega) hcn hd
theorem gW {n:Nat} (k:Nat) (h:(decide (1<n)&&pF n k 2)=true):Prime n:=by
 simp only [Bool.and_eq_true,decide_eq_true_eq] at h
 obtain ⟨h1,h2⟩:=h
 refine ⟨h1,fun d hd=>?_⟩
 apply Classical.byContradiction
 intro hno
 obtain ⟨n1,n2⟩:=not_or.1 hno
 obtain ⟨e,he⟩:=hd
 have hd0:d≠0:=by intro z;subst z;omega
 have he0:e≠0:=by intro z;subst z;omega
 have he1:e≠1:=by intro z;subst z;omega
 rcases Nat.le_total d e with hle|hle
 ·exact l6 n k 2 h2 d (by omega) (by rw [he];exact Nat.mul_le_mul_left d hle) ⟨e,he⟩
 ·exact l6 n k 2 h2 e (by omega) (by rw [he];exact Nat.mul_le_mul_right e hle) ⟨d,by rw [he,Nat.mul_comm]⟩
theorem kj:Prime 107590001:=gW 10374 (by decide +kernel)
theorem mM:Prime 7240687:=gW 2692 (by decide +kernel)
theorem pG:Prime 96557:=gW 312 (by decide +kernel)
theorem bW:Prime 255515944373312847190720520512484175977 :=
 lW (F:=107590001*7240687*96557) (by decide +kernel) (by decide +kernel) fun l hl hd=>Nat.Coprime.mul_dvd_of_dvd_of_dvd (by decide +kernel) (Nat.Coprime.mul_dvd_of_dvd_of_dvd (by decide +kernel) (wv (a:=2) 128 kj (by decide +kernel) hl hd) (wv (a:=2) 128 mM (by decide +kernel) hl hd)) (wv (a:=2) 128 pG (by decide +kernel) hl hd)
theorem aN:Prime 205115282021455665897114700593932402728804164701536103180137503955397371 :=
 lW (F:=255515944373312847190720520512484175977) (by decide +kernel) (by decide +kernel) fun l hl hd=>wv (a:=2) 237 bW (by decide +kernel) hl hd
theorem prime_115792089237316195423570985008687907853269984665640564039457584007908834671663:Prime 115792089237316195423570985008687907853269984665640564039457584007908834671663 :=
 lW (F:=205115282021455665897114700593932402728804164701536103180137503955397371) (by decide +kernel) (by decide +kernel) fun l hl hd=>wv (a:=2) 256 aN (by decide +kernel) hl hd
end Go.Proofs.YtnnnaajgjniiaaaGreatDoor.NT
namespace Go.Proofs.YtnnnaajgjniiaaaGreatDoor
def Prm (m:Int):Prop:=∃ M:Nat,NT.Prime M∧m=(M:Int)
theorem AR:Prm pN:=⟨_,NT.prime_115792089237316195423570985008687907853269984665640564039457584007908834671663,rfl⟩
theorem Prm.fermat {m x:Int} (h:Prm m) (x0:0≤x) (hx:x%m≠0):x ^ (m-1).toNat%m=1:=by
 obtain ⟨M,hM,rfl⟩:=h
 obtain ⟨X,rfl⟩:=Int.eq_ofNat_of_zero_le x0
 have h1:¬M∣X:=fun hd=>hx (Int.emod_eq_zero_of_dvd (Int.natCast_dvd_natCast.2 hd))
 have h2:=NT.fermat hM h1
 have h3:((M:Int)-1).toNat=M-1:=by have:=hM.1;omega
 rw [h3]
 exact_mod_cast congrArg (Nat.cast (R:=Int)) h2
theorem pH {m x:Int} (h:Prm m) (x0:0≤x) (hx:ag m x≠0):aY m x (m-1)=1:=h.fermat x0 hx
theorem fC {m x:Int} (h0:0≤x) (h1:x<m):ag m x=x:=Int.emod_eq_of_lt h0 h1
def qN:Int:=28948022309329048855892746252171976963317496166410141009864396001977208667916
def hN:Int:=57896044618658097711785492504343953926634992332820282019728792003954417335831
end Go.Proofs.YtnnnaajgjniiaaaGreatDoor
