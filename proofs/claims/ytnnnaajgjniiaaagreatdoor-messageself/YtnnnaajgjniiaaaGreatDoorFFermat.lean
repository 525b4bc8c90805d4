import Derived.Test.YtnnnaajgjniiaaaGreatDoorFExp
import Derived.Test.YtnnnaajgjniiaaaGreatDoorMul2
import Derived.Deep.RegionHeld3
set_option maxHeartbeats 4000000
namespace Go.Proofs.YtnnnaajgjniiaaaGreatDoor.NT
def Prime (p:Nat):Prop:=1<p∧∀ d,d∣p→d=1∨d=p
theorem hJ {p a:Nat} (hp:Prime p) (h:¬p∣a):Nat.gcd p a=1:=by
 rcases hp.2 _ (Nat.gcd_dvd_left p a) with h1|h1
 ·exact h1
 ·exact absurd (h1 ▸ Nat.gcd_dvd_right p a) h
theorem prime_mul {p a b:Nat} (hp:Prime p) (h:p∣a*b):p∣a∨p∣b:=by
 by_cases ha:p∣a
 ·exact .inl ha
 ·exact .inr (Nat.Coprime.dvd_of_dvd_mul_left (hJ hp ha) h)
theorem rY:∀ n:Nat,1<n→∃ q,Prime q∧q∣n:=by
 intro n
 induction n using Nat.strongRecOn with
 | ind n ih =>
  intro h
  by_cases hp:∀ d,d∣n→d=1∨d=n
  ·exact ⟨n,⟨h,hp⟩,Nat.dvd_refl n⟩
  ·obtain ⟨d,hd⟩:=Classical.not_forall.1 hp
   obtain ⟨hd,h12⟩:=Classical.not_imp.1 hd
   obtain ⟨h1,h2⟩:=not_or.1 h12
   have hpos:0<d:=Nat.pos_of_dvd_of_pos hd (by omega)
   have hle:=Nat.le_of_dvd (by omega) hd
   obtain ⟨q,hq,hqd⟩:=ih d (by omega) (by omega)
   exact ⟨q,hq,Nat.dvd_trans hqd hd⟩
def C:Nat→Nat→Nat
 | _,0=>1
 | 0,_+1=>0
 | n+1,k+1=>C n k+C n (k+1)
theorem mX (n:Nat):C n 0=1:=by cases n<;>rfl
theorem wI:∀ n k,n<k→C n k=0
 | 0,k+1,_=>rfl
 | n+1,k+1,h=>by rw [C,wI n k (by omega),wI n (k+1) (by omega)]
theorem uj:∀ n,C n n=1
 | 0=>rfl
 | n+1=>by rw [C,uj n,wI n (n+1) (by omega)]
theorem qP:∀ n k,(k+1)*C (n+1) (k+1)=(n+1)*C n k
 | 0,0=>by decide
 | 0,k+1=>by simp [C]
 | n+1,0=>by
  have h:=qP n 0
  have h4:C (n+2) (0+1)=C (n+1) 0+C (n+1) (0+1):=rfl
  rw [mX] at h;rw [h4,mX];omega
 | n+1,k+1=>by
  have h1:=qP n k
  have h2:=qP n (k+1)
  have h3:C (n+1) (k+1)=C n k+C n (k+1):=rfl
  have h4:C (n+2) (k+2)=C (n+1) (k+1)+C (n+1) (k+2):=rfl
  rw [h4]
  have e:(k+1+1)*(C (n+1) (k+1)+C (n+1) (k+2))=(k+1)*C (n+1) (k+1)+C (n+1) (k+1)+(k+1+1)*C (n+1) (k+1+1):=by grind
  rw [e,h1,h2]
  grind
def S (n x:Nat):Nat→Nat
 | 0=>0
 | j+1=>S n x j+C n j*x ^ j
theorem uk (n x:Nat):∀ j,S (n+1) x (j+1)=S n x (j+1)+x*S n x j
 | 0=>by simp [S,mX]
 | j+1=>by
  have ih:=uk n x j
  have h3:C (n+1) (j+1)=C n j+C n (j+1):=rfl
  have e1:S (n+1) x (j+1+1)=S (n+1) x (j+1)+C (n+1) (j+1)*x ^ (j+1):=rfl
  have e2:S n x (j+1+1)=S n x (j+1)+C n (j+1)*x ^ (j+1):=rfl
  have e3:S n x (j+1)=S n x j+C n j*x ^ j:=rfl
  rw [e1,ih,h3,e2,e3,Nat.pow_succ]
  grind
theorem ul (x:Nat):∀ n,S n x (n+1)=(x+1) ^ n
 | 0=>by simp [S,C]
 | n+1=>by
  rw [uk,Nat.pow_succ,←ul x n]
  have e:S n x (n+1+1)=S n x (n+1)+C n (n+1)*x ^ (n+1):=rfl
  rw [e,wI n (n+1) (by omega)]
  grind
theorem wJ {p k:Nat} (hp:Prime p) (h0:0<k) (h1:k<p):p∣C p k:=by
 obtain ⟨k,rfl⟩:∃ j,k=j+1:=⟨k-1,by omega⟩
 obtain ⟨m,rfl⟩:∃ m,p=m+1:=⟨p-1,by omega⟩
 have h:=qP m k
 rcases prime_mul hp (⟨C m k,h⟩:m+1∣(k+1)*C (m+1) (k+1)) with h2|h2
 ·exact absurd (Nat.le_of_dvd (by omega) h2) (by omega)
 ·exact h2
theorem xK {p:Nat} (hp:Prime p) (x:Nat):∀ j,j<p→p∣S p x (j+1)-1∧1≤S p x (j+1)
 | 0,_=>by simp [S,mX]
 | j+1,h=>by
  obtain ⟨h1,h2⟩:=xK hp x j (by omega)
  have e1:S p x (j+1+1)=S p x (j+1)+C p (j+1)*x ^ (j+1):=rfl
  rw [e1]
  refine ⟨?_,by omega⟩
  have:=Nat.dvd_add h1 (Nat.dvd_mul_right_of_dvd (wJ hp (by omega) h) (x ^ (j+1)))
  rwa [show S p x (j+1)-1+C p (j+1)*x ^ (j+1)=S p x (j+1)+C p (j+1)*x ^ (j+1)-1 by omega] at this
theorem zS {p:Nat} (hp:Prime p) (x:Nat):(x+1) ^ p%p=(x ^ p+1)%p:=by
 obtain ⟨m,rfl⟩:∃ m,p=m+1:=⟨p-1,by have:=hp.1;omega⟩
 rw [←ul]
 have e1:S (m+1) x (m+1+1)=S (m+1) x (m+1)+C (m+1) (m+1)*x ^ (m+1):=rfl
 obtain ⟨⟨c,h1⟩,h2⟩:=xK hp x m (by omega)
 rw [e1,uj,show S (m+1) x (m+1)=1+(m+1)*c by omega]
 rw [show 1+(m+1)*c+1*x ^ (m+1)=x ^ (m+1)+1+(m+1)*c by omega,Nat.add_mul_mod_self_left]
theorem kx {p:Nat} (hp:Prime p):∀ x,x ^ p%p=x%p
 | 0=>by rw [Nat.zero_pow (by have:=hp.1;omega)]
 | x+1=>by rw [zS hp,Nat.add_mod,kx hp x,←Nat.add_mod]
theorem pR {p b c:Nat} (hle:b≤c) (h:b%p=c%p):p∣c-b:=by
 have h1:=Nat.mod_add_div b p
 have h2:=Nat.mod_add_div c p
 refine ⟨c/p-b/p,?_⟩
 rw [Nat.mul_sub];omega
theorem pS {p b c:Nat} (hle:b≤c) (h:p∣c-b):b%p=c%p:=by
 obtain ⟨k,hk⟩:=h
 rw [show c=b+p*k by omega,Nat.add_mul_mod_self_left]
theorem dV {p a b c:Nat} (hp:Prime p) (ha:¬p∣a) (h:a*b%p=a*c%p):b%p=c%p:=by
 have key:∀ {b c:Nat},b≤c→a*b%p=a*c%p→b%p=c%p:=by
  intro b c hle h
  have hd:p∣a*c-a*b:=pR (Nat.mul_le_mul_left a hle) h
  rw [←Nat.mul_sub] at hd
  rcases prime_mul hp hd with h1|h1
  ·exact absurd h1 ha
  ·exact pS hle h1
 rcases Nat.le_total b c with hle|hle
 ·exact key hle h
 ·exact (key hle h.symm).symm
theorem fermat {p x:Nat} (hp:Prime p) (hx:¬p∣x):x ^ (p-1)%p=1:=by
 have h:=kx hp x
 obtain ⟨m,rfl⟩:∃ m,p=m+1:=⟨p-1,by have:=hp.1;omega⟩
 rw [Nat.pow_succ,Nat.mul_comm] at h
 have:=dV (b:=x ^ m) (c:=1) hp hx (by rw [Nat.mul_one];exact h)
 rw [Nat.add_sub_cancel,this,Nat.mod_eq_of_lt hp.1]
theorem ol {m x k:Nat} (h1:1<m) (h:x%m=1):x ^ k%m=1:=by
 rw [Nat.pow_mod,h,Nat.one_pow,Nat.mod_eq_of_lt h1]
theorem jD {m x a k:Nat} (h1:1<m) (h:x ^ a%m=1):x ^ (a*k)%m=1:=by
 rw [Nat.pow_mul];exact ol h1 h
theorem wK {m x:Nat} (h1:1<m):∀ a b:Nat,x ^ a%m=1→x ^ b%m=1→x ^ Nat.gcd a b%m=1:=by
 intro a
 induction a using Nat.strongRecOn with
 | ind a ih =>
  intro b ha hb
  by_cases h0:a=0
  ·subst h0;rwa [Nat.gcd_zero_left]
  ·rw [Nat.gcd_rec]
   refine ih (b%a) (Nat.mod_lt _ (by omega)) a ?_ ha
   have h2:=Nat.mod_add_div b a
   rw [←h2,Nat.pow_add,Nat.mul_mod,jD h1 ha,Nat.mul_one,Nat.mod_mod] at hb
   exact hb
theorem zf {N q a l:Nat} (hq:Prime q) (hd:q∣N-1) (ha:a ^ (N-1)%N=1) (hN:1<N)
  (hg:Nat.gcd (a ^ ((N-1)/q)%N+(N-1)) N=1) (hl:Prime l) (hlN:l∣N):q∣l-1:=by
 obtain ⟨k,hk⟩:=hlN
 obtain ⟨j,hj⟩:=hd
 have hq1:=hq.1
 have hl1:=hl.1
 have hdiv:(N-1)/q=j:=by rw [hj,Nat.mul_div_cancel_left _ (by omega)]
 rw [hdiv] at hg
 have toL:∀ z,z%N%l=z%l:=fun z=>by rw [hk,Nat.mod_mul_right_mod]
 have hal:a ^ (N-1)%l=1:=by rw [←toL,ha,Nat.mod_eq_of_lt hl1]
 have hnb:a ^ j%l≠1:=by
  intro h
  have:l∣a ^ j%N+(N-1):=by
   apply Nat.dvd_of_mod_eq_zero
   have e:(N-1+1)%l=0:=by rw [Nat.sub_add_cancel (by omega),hk,Nat.mul_mod_right]
   have e2:(1+(N-1))%l=(1+(N-1)%l)%l:=by rw [Nat.add_mod 1,Nat.mod_eq_of_lt hl1]
   rw [Nat.add_mod,toL,h,←e2,Nat.add_comm,e]
  have h2:=Nat.dvd_gcd this (⟨k,hk⟩:l∣N)
  rw [hg] at h2
  have:=Nat.le_of_dvd (by omega) h2
  omega
 have hla:¬l∣a:=by
  intro h
  have h2:a ^ (N-1)%l=0:=Nat.mod_eq_zero_of_dvd (Nat.dvd_trans h (show a∣a ^ (N-1) by rw [show N-1=(N-2)+1 by omega,Nat.pow_succ];exact Nat.dvd_mul_left _ _))
  omega
 have hf:=fermat hl hla
 apply Classical.byContradiction
 intro hnd
 have hc:=hJ hq hnd
 have hb1:(a ^ j) ^ q%l=1:=by rw [←Nat.pow_mul,Nat.mul_comm,←hj];exact hal
 have hb2:(a ^ j) ^ (l-1)%l=1:=by rw [←Nat.pow_mul,Nat.mul_comm];exact jD hl1 hf
 have:=wK hl1 q (l-1) hb1 hb2
 rw [hc,Nat.pow_one] at this
 exact hnb this
theorem cS {N F:Nat} (hN:1<N) (hF:N≤F*F) (h:∀ l,Prime l→l∣N→F∣l-1):Prime N:=by
 refine ⟨hN,fun d hd=>?_⟩
 apply Classical.byContradiction
 intro hno
 obtain ⟨h1,h2⟩:=not_or.1 hno
 obtain ⟨e,he⟩:=hd
 have hd0:d≠0:=by intro z;subst z;omega
 have he0:e≠0:=by intro z;subst z;omega
 have he1:e≠1:=by intro z;subst z;omega
 have big:∀ d,1<d→d∣N→F<d:=by
  intro d h1 hd
  obtain ⟨l,hl,hld⟩:=rY d h1
  have h3:=Nat.le_of_dvd (by omega) hld
  have h4:=h l hl (Nat.dvd_trans hld hd)
  have h5:=hl.1
  have h6:=Nat.le_of_dvd (by omega) h4
  omega
 have b1:=big d (by omega) ⟨e,he⟩
 have b2:=big e (by omega) ⟨d,by rw [he,Nat.mul_comm]⟩
 have:(F+1)*(F+1)≤d*e:=Nat.mul_le_mul b1 b2
 have e3:(F+1)*(F+1)=F*F+2*F+1:=by grind
 omega
def pm (m:Nat):Nat→Nat→Nat→Nat
 | 0,_,_=>1%m
 | k+1,x,e=>let h:=pm m k (x*x%m) (e/2);if e%2=1 then x*h%m else h
theorem pm_eq (m:Nat):∀ k x e,e<2 ^ k→pm m k x e=x ^ e%m
 | 0,x,e,h=>by rw [show e=0 by simpa using h];rfl
 | k+1,x,e,h=>by
  have ih:=pm_eq m k (x*x%m) (e/2) (by rw [Nat.pow_succ] at h;omega)
  have e1:(x*x%m) ^ (e/2)%m=x ^ (2*(e/2))%m:=by
   rw [←Nat.pow_mod,Nat.pow_mul,Nat.pow_two]
  unfold pm
  simp only [ih,e1]
  by_cases h2:e%2=1
  ·rw [if_pos h2,Nat.mul_mod,Nat.mod_mod,←Nat.mul_mod,Nat.mul_comm,←Nat.pow_succ,show (2*(e/2)).succ=e by omega]
  ·rw [if_neg h2,show 2*(e/2)=e by omega]
theorem iU {N q a l:Nat} (k:Nat) (hq:Prime q) (hb:(decide (1<N)&&decide (N<2 ^ k)&&decide ((N-1)%q=0)&&decide (pm N k a (N-1)=1)&&decide (Nat.gcd (pm N k a ((N-1)/q)+(N-1)) N=1))=true)
  (hl:Prime l) (hlN:l∣N):q∣l-1:=by
 simp only [Bool.and_eq_true,decide_eq_true_eq] at hb
 obtain ⟨⟨⟨⟨h1,h2⟩,h3⟩,h4⟩,h5⟩:=hb
 rw [pm_eq _ _ _ _ (by omega)] at h4
 rw [pm_eq _ _ _ _ (by have:=Nat.div_le_self (N-1) q;omega)] at h5
 exact zf hq (Nat.dvd_of_mod_eq_zero h3) h4 h1 h5 hl hlN
def oo (n:Nat):Nat→Nat→Bool
 | 0,d=>decide (n<d*d)
 | k+1,d=>if n<d*d then true else if n%d=0 then false else oo n k (d+1)
theorem kB (n:Nat):∀ k d,oo n k d=true→∀ c,d≤c→c*c≤n→¬c∣n
 | 0,d,h,c,hc,hcn,_=>by
  have h1:n<d*d:=by simpa [oo] using h
  have:=Nat.mul_le_mul hc hc
  omega
 | k+1,d,h,c,hc,hcn,hd=>by
  unfold oo at h
  by_cases h1:n<d*d
  ·have:=Nat.mul_le_mul hc hc
   omega
  ·rw [if_neg h1] at h
   by_cases h2:n%d=0
   ·rw [if_pos h2] at h;cases h
   ·rw [if_neg h2] at h
    by_cases h3:c=d
    ·subst h3;exact h2 (Nat.mod_eq_zero_of_dvd hd)
    ·exact kB n k (d+1) h c (by omega) hcn hd
theorem cr {n:Nat} (k:Nat) (h:(decide (1<n)&&oo n k 2)=true):Prime n:=by
 simp only [Bool.and_eq_true,decide_eq_true_eq] at h
 obtain ⟨h1,h2⟩:=h
 refine ⟨h1,fun d hd=>?_⟩
 apply Classical.byContradiction
 intro hno
 obtain ⟨n1,n2⟩:=not_or.1 hno
 obtain ⟨e,he⟩:=hd
 have hd0:d≠0:=by intro z;subst z;omega
 have he0:e≠0:=by intro z;subst z;omega
 have he1:e≠1:=by intro z;subst z;omega
 rcases Nat.le_total d e with hle|hle
 ·exact kB n k 2 h2 d (by omega) (by rw [he];exact Nat.mul_le_mul_left d hle) ⟨e,he⟩
 ·exact kB n k 2 h2 e (by omega) (by rw [he];exact Nat.mul_le_mul_right e hle) ⟨d,by rw [he,Nat.mul_comm]⟩
theorem jN:Prime 107590001:=cr 10374 (by decide +kernel)
theorem l8:Prime 7240687:=cr 2692 (by decide +kernel)
theorem ou:Prime 96557:=cr 312 (by decide +kernel)
theorem bN:Prime 255515944373312847190720520512484175977 :=
 cS (F:=107590001*7240687*96557) (by decide +kernel) (by decide +kernel) fun l hl hd=>Nat.Coprime.mul_dvd_of_dvd_of_dvd (by decide +kernel) (Nat.Coprime.mul_dvd_of_dvd_of_dvd (by decide +kernel) (iU (a:=2) 128 jN (by decide +kernel) hl hd) (iU (a:=2) 128 l8 (by decide +kernel) hl hd)) (iU (a:=2) 128 ou (by decide +kernel) hl hd)
theorem aG:Prime 205115282021455665897114700593932402728804164701536103180137503955397371 :=
 cS (F:=255515944373312847190720520512484175977) (by decide +kernel) (by decide +kernel) fun l hl hd=>iU (a:=2) 237 bN (by decide +kernel) hl hd
theorem prime_115792089237316195423570985008687907853269984665640564039457584007908834671663:Prime 115792089237316195423570985008687907853269984665640564039457584007908834671663 :=
 cS (F:=205115282021455665897114700593932402728804164701536103180137503955397371) (by decide +kernel) (by decide +kernel) fun l hl hd=>iU (a:=2) 256 aG (by decide +kernel) hl hd
theorem l9:Prime 1627771:=cr 1277 (by decide +kernel)
theorem ip:Prime 297159362677 :=
 cS (F:=1627771) (by decide +kernel) (by decide +kernel) fun l hl hd=>iU (a:=2) 39 l9 (by decide +kernel) hl hd
theorem ov:Prime 28181:=cr 169 (by decide +kernel)
theorem jO:Prime 545358713 :=
 cS (F:=28181) (by decide +kernel) (by decide +kernel) fun l hl hd=>iU (a:=2) 30 ov (by decide +kernel) hl hd
theorem cE:Prime 29047611873442575647497758179 :=
 cS (F:=297159362677*545358713) (by decide +kernel) (by decide +kernel) fun l hl hd=>Nat.Coprime.mul_dvd_of_dvd_of_dvd (by decide +kernel) (iU (a:=2) 95 ip (by decide +kernel) hl hd) (iU (a:=2) 95 jO (by decide +kernel) hl hd)
theorem ch:Prime 341948486974166000522343609283189 :=
 cS (F:=29047611873442575647497758179) (by decide +kernel) (by decide +kernel) fun l hl hd=>iU (a:=2) 109 cE (by decide +kernel) hl hd
theorem kF:Prime 44706919:=cr 6688 (by decide +kernel)
theorem mY:Prime 120233:=cr 348 (by decide +kernel)
theorem dJ:Prime 174723607534414371449 :=
 cS (F:=44706919*120233) (by decide +kernel) (by decide +kernel) fun l hl hd=>Nat.Coprime.mul_dvd_of_dvd_of_dvd (by decide +kernel) (iU (a:=2) 68 kF (by decide +kernel) hl hd) (iU (a:=2) 68 mY (by decide +kernel) hl hd)
theorem prime_115792089237316195423570985008687907852837564279074904382605163141518161494337:Prime 115792089237316195423570985008687907852837564279074904382605163141518161494337 :=
 cS (F:=341948486974166000522343609283189*174723607534414371449) (by decide +kernel) (by decide +kernel) fun l hl hd=>Nat.Coprime.mul_dvd_of_dvd_of_dvd (by decide +kernel) (iU (a:=2) 256 ch (by decide +kernel) hl hd) (iU (a:=2) 256 dJ (by decide +kernel) hl hd)
end Go.Proofs.YtnnnaajgjniiaaaGreatDoor.NT
namespace Go.Proofs.YtnnnaajgjniiaaaGreatDoor
def Prm (m:Int):Prop:=∃ M:Nat,NT.Prime M∧m=(M:Int)
theorem ow:Prm pN:=⟨_,NT.prime_115792089237316195423570985008687907853269984665640564039457584007908834671663,rfl⟩
theorem zg:Prm nN:=⟨_,NT.prime_115792089237316195423570985008687907852837564279074904382605163141518161494337,rfl⟩
theorem Prm.pos {m:Int} (h:Prm m):1<m:=by
 obtain ⟨M,hM,rfl⟩:=h
 have:=hM.1
 omega
theorem Prm.dvd {m a b:Int} (h:Prm m) (hd:m∣a*b):m∣a∨m∣b:=by
 obtain ⟨M,hM,rfl⟩:=h
 have h1:M∣a.natAbs*b.natAbs:=by
  have:=Int.natAbs_dvd_natAbs.2 hd
  rwa [Int.natAbs_natCast,Int.natAbs_mul] at this
 rcases NT.prime_mul hM h1 with h2|h2
 ·exact .inl (Int.natAbs_dvd_natAbs.1 (by rwa [Int.natAbs_natCast]))
 ·exact .inr (Int.natAbs_dvd_natAbs.1 (by rwa [Int.natAbs_natCast]))
theorem Prm.zero {m a b:Int} (h:Prm m) (hd:a*b%m=0):a%m=0∨b%m=0:=by
 rcases h.dvd (Int.dvd_of_emod_eq_zero hd) with h1|h1
 ·exact .inl (Int.emod_eq_zero_of_dvd h1)
 ·exact .inr (Int.emod_eq_zero_of_dvd h1)
theorem Prm.fermat {m x:Int} (h:Prm m) (x0:0≤x) (hx:x%m≠0):x ^ (m-1).toNat%m=1:=by
 obtain ⟨M,hM,rfl⟩:=h
 obtain ⟨X,rfl⟩:=Int.eq_ofNat_of_zero_le x0
 have h1:¬M∣X:=fun hd=>hx (Int.emod_eq_zero_of_dvd (Int.natCast_dvd_natCast.2 hd))
 have h2:=NT.fermat hM h1
 have h3:((M:Int)-1).toNat=M-1:=by have:=hM.1;omega
 rw [h3]
 exact_mod_cast congrArg (Nat.cast (R:=Int)) h2
theorem Prm.one {m y:Int} (h:Prm m) (y0:0≤y) (y1:y<m) (e:y*y%m=1):y=1∨y=m-1:=by
 have hp:=h.pos
 have h1:(y-1)*(y+1)%m=0:=by
  have e1:(y-1)*(y+1)=y*y-1:=by rw [Int.sub_mul,Int.mul_add];omega
  rw [e1,Int.sub_emod,e,Int.emod_eq_of_lt (by decide) hp];simp
 rcases h.zero h1 with h2|h2
 ·left
  by_cases z:y=0
  ·subst z
   simp at e
  ·rw [Int.emod_eq_of_lt (by omega) (by omega)] at h2;omega
 ·right
  by_cases z:y=m-1
  ·exact z
  ·rw [Int.emod_eq_of_lt (by omega) (by omega)] at h2;omega
theorem kG (m x:Int) {a b:Int} (ha:0≤a) (hb:0≤b):ac m (aD m x a*aD m x b)=aD m x (a+b):=by
 unfold ac aD
 rw [←Int.mul_emod,show (a+b).toNat=a.toNat+b.toNat by omega,Int.pow_add]
theorem pT (m x y e:Int):aD m (x*y) e=ac m (aD m x e*aD m y e):=by
 unfold ac aD
 rw [←Int.mul_emod,Int.mul_pow]
theorem um {m:Int} (x e:Int):aD m (ac m x) e=aD m x e:=by
 unfold ac aD
 generalize e.toNat=n
 induction n with
 | zero=>rw [Int.pow_zero,Int.pow_zero]
 | succ n ih=>rw [Int.pow_succ,Int.pow_succ,Int.mul_emod,ih,Int.emod_emod_of_dvd _ (Int.dvd_refl m),←Int.mul_emod]
theorem ek {m x:Int} (h:Prm m) (x0:0≤x) (hx:ac m x≠0):aD m x (m-1)=1:=h.fermat x0 hx
theorem fN {m:Int} (x:Int):ac m (ac m x)=ac m x:=Int.emod_emod_of_dvd _ (Int.dvd_refl m)
theorem cu {m:Int} (x y:Int):ac m (ac m x*y)=ac m (x*y):=by
 unfold ac;rw [Int.mul_emod,Int.emod_emod_of_dvd _ (Int.dvd_refl m),←Int.mul_emod]
theorem cv {m:Int} (x y:Int):ac m (x*ac m y)=ac m (x*y):=by
 unfold ac;rw [Int.mul_emod,Int.emod_emod_of_dvd _ (Int.dvd_refl m),←Int.mul_emod]
theorem iq {m:Int} (x y:Int):ac m (ac m x+y)=ac m (x+y):=by
 unfold ac;rw [Int.add_emod,Int.emod_emod_of_dvd _ (Int.dvd_refl m),←Int.add_emod]
theorem dW {m:Int} (x y:Int):ac m (x+ac m y)=ac m (x+y):=by
 unfold ac;rw [Int.add_emod,Int.emod_emod_of_dvd _ (Int.dvd_refl m),←Int.add_emod]
theorem cw {m x:Int} (h0:0≤x) (h1:x<m):ac m x=x:=Int.emod_eq_of_lt h0 h1
def qN:Int:=28948022309329048855892746252171976963317496166410141009864396001977208667916
def hN:Int:=57896044618658097711785492504343953926634992332820282019728792003954417335831
theorem xL:pN%2=1:=by decide
def un (x:Int):Int:=aD pN x hN
theorem uo {x:Int} (x0:0≤x) (h:ac pN x≠0):un x=1∨un x=pN-1:=by
 obtain ⟨a,b⟩:=ef am x hN
 refine ow.one a b ?_
 have e:=kG pN x (a:=hN) (b:=hN) (by decide) (by decide)
 rw [show hN+hN=pN-1 by decide,ek ow x0 h] at e
 exact e
theorem wL (x:Int):ac pN (aD pN x qN*aD pN x qN)=ac pN (un x*x):=by
 rw [kG pN x (by decide) (by decide),show qN+qN=hN+1 by decide]
 exact (gu pN x (by decide)).symm
theorem wM {x:Int} (x0:0≤x):(ac pN (aD pN x qN*aD pN x qN)=ac pN x↔ac pN x=0∨un x=1):=by
 rw [wL]
 by_cases hz:ac pN x=0
 ·constructor
  ·exact fun _=>.inl hz
  ·intro _
   rw [←cv,hz,Int.mul_zero];rfl
 ·rcases uo x0 hz with h|h
  ·rw [h,Int.one_mul];simp
  ·have t:=cQ am x
   have e:ac pN ((pN-1)*x)=pN-ac pN x:=by
    have e1:(pN-1)*x=pN-ac pN x+pN*(x-x/pN-1):=by
     have:=Int.emod_add_mul_ediv x pN
     unfold ac
     rw [Int.sub_mul,Int.mul_sub,Int.mul_sub];omega
    rw [e1]
    unfold ac at t hz ⊢
    rw [Int.add_mul_emod_self_left]
    exact Int.emod_eq_of_lt (by omega) (by omega)
   rw [h,e]
   constructor
   ·intro h2
    have:=xL
    omega
   ·intro h2
    rcases h2 with h2|h2
    ·exact absurd h2 hz
    ·exact absurd h2 (by decide)
theorem yi:mQ pN 2=28948022309329048855892746252171976963317496166410141009864396001977208667915:=by decide
theorem zi:dF 28948022309329048855892746252171976963317496166410141009864396001977208667915 1=qN:=by decide
end Go.Proofs.YtnnnaajgjniiaaaGreatDoor
namespace Go.Proofs.YtnnnaajgjniiaaaGreatDoor.EC
abbrev F:=Fin 115792089237316195423570985008687907853269984665640564039457584007908834671663
theorem pN_is:pN=115792089237316195423570985008687907853269984665640564039457584007908834671663:=rfl
def fp (n:Int):F:=⟨(n%115792089237316195423570985008687907853269984665640564039457584007908834671663).toNat,by omega⟩
theorem fp_val (n:Int):(fp n).val=(n%115792089237316195423570985008687907853269984665640564039457584007908834671663).toNat:=rfl
theorem je (n:Int):((fp n).val:Int)=n%115792089237316195423570985008687907853269984665640564039457584007908834671663:=by
 rw [fp_val];omega
theorem fp_mod (n:Int):fp (ac pN n)=fp n:=by
 apply Fin.ext;rw [fp_val,fp_val];unfold ac;rw [pN_is];omega
theorem wN {x y:Int} (h:fp x=fp y):x%115792089237316195423570985008687907853269984665640564039457584007908834671663=y%115792089237316195423570985008687907853269984665640564039457584007908834671663:=by
 rw [←je,←je,h]
def Low (x:Int):Prop:=0≤x∧x<pN
theorem low_mod (x:Int):Low (ac pN x):=cQ am x
theorem Low.num {x:Int} (h:Low x):Num x:=by
 obtain ⟨a,b⟩:=h;rw [pN_is] at b;unfold Num;omega
theorem fp_inj {x y:Int} (hx:Low x) (hy:Low y) (h:fp x=fp y):x=y:=by
 have e:=wN h
 obtain ⟨a,b⟩:=hx;obtain ⟨c,d⟩:=hy
 rw [pN_is] at b d
 omega
theorem fp_add (x y:Int):fp (x+y)=fp x+fp y:=by
 apply Fin.ext;rw [Fin.val_add,fp_val,fp_val,fp_val];omega
theorem fp_sub (x y:Int):fp (x-y)=fp x-fp y:=by
 apply Fin.ext;rw [Fin.sub_def]
 show (fp (x-y)).val=(115792089237316195423570985008687907853269984665640564039457584007908834671663-(fp y).val+(fp x).val)%115792089237316195423570985008687907853269984665640564039457584007908834671663
 rw [fp_val,fp_val,fp_val];omega
theorem fp_mul (x y:Int):fp (x*y)=fp x*fp y:=by
 apply Fin.ext
 have e:((fp x*fp y).val:Int)=((fp (x*y)).val:Int):=by
  rw [Fin.val_mul,Int.natCast_emod,Int.natCast_mul,je,je,je]
  exact (Int.mul_emod _ _ _).symm
 omega
theorem wO (a:F):fp (a.val:Int)=a:=by
 apply Fin.ext;rw [fp_val];have:=a.isLt;omega
theorem fp_zero:fp 0=0:=by decide +kernel
theorem fp_one:fp 1=1:=by decide +kernel
theorem fp_low (a:F):Low (a.val:Int):=⟨by omega,by have:=a.isLt;rw [pN_is];omega⟩
def iv (a:F):F:=fp (aR pN (a.val:Int))
theorem wP {x:Int} (x0:0≤x) (h:ac pN x≠0):ac pN (x*aR pN x)=1:=by
 have e:=ek ow x0 h
 unfold aR
 rw [Int.mul_comm,gu pN x (by decide),show pN-2+1=pN-1 by decide];exact e
theorem uq {a:F} (ha:a≠0):a*iv a=1:=by
 have h:ac pN (a.val:Int)≠0:=by
  intro e;apply ha;apply Fin.ext
  show a.val=0
  unfold ac at e;rw [pN_is] at e;have:=a.isLt;omega
 have e:=wP (by omega) h
 unfold iv
 conv=>lhs;lhs;rw [←wO a]
 rw [←fp_mul,←fp_mod,e,fp_one]
theorem fp_inv {x:Int} (h:Low x):fp (aR pN x)=iv (fp x):=by
 unfold iv;rw [je]
 obtain ⟨a,b⟩:=h
 rw [pN_is] at b
 rw [Int.emod_eq_of_lt a b]
end Go.Proofs.YtnnnaajgjniiaaaGreatDoor.EC
namespace Go.Proofs.YtnnnaajgjniiaaaGreatDoor
open Go.RowKit Go.Sort
def jE (r:Int):Int:=if r%2=1 then ac pN (0-r) else r
def bG (x:Int):Int:=if ac pN (aD pN x qN*aD pN x qN)=ac pN x then jE (aD pN x qN) else 0
def kH (x:Int):Int:=if ac pN (aD pN x qN*aD pN x qN)=ac pN x then 0 else 41
theorem zT (r:Int):ij r 0=r%2:=by
 unfold ij
 rw [if_neg (by decide),show (0:Int).toNat=0 from rfl]
 simp
theorem ox {x:Int} (hx:Num x) (w:World) (hm:Mds w) :
  Calls Tryz.prog 90 #[.agg #[.int .u64 (l0 x),.int .u64 (l1 x),.int .u64 (l2 x),.int .u64 (l3 x)]] w fun e w'=>e = .returned (.tuple #[.agg #[.int .u64 (l0 (bG x)),.int .u64 (l1 (bG x)),.int .u64 (l2 (bG x)),.int .u64 (l3 (bG x))],.int .i64 (kH x)])∧Below w.heap.size w w':=by
 have nr:Num (aD pN x qN):=dr am x qN
 have na:Num 28948022309329048855892746252171976963317496166410141009864396001977208667915:=⟨by decide,by decide⟩
 have n1:Num 1:=⟨by decide,by decide⟩
 refine rO (a:=28948022309329048855892746252171976963317496166410141009864396001977208667915) (q:=qN) (z:=cW 28948022309329048855892746252171976963317496166410141009864396001977208667915 1) (r:=aD pN x qN) (s:=ac pN (aD pN x qN*aD pN x qN)) (t:=ac pN x) (b:=aD pN x qN%2) (u:=ac pN (0-aD pN x qN)) rfl rfl ?_ (eO ⟨by decide,by decide⟩) ?_ (nT am hx ⟨by decide,by decide⟩) (iO am nr nr) (dn am hx) (ag am _) (ag am _) ?_ ?_ ?_ w hm
 ·intro w;have:=qG (k:=2) am.num w;rw [yi] at this;exact this
 ·intro w;have:=iC na n1 w;rw [zi] at this;exact this
 ·intro w;have:=mT (k:=0) nr w;rw [zT] at this;exact this
 ·intro w
  have:=kr (x:=0) am ⟨by decide,by decide⟩ nr w
  obtain ⟨z0,z1,z2,z3⟩:=ap
  rw [z0,z1,z2,z3] at this
  exact this
 ·unfold bG kH jE
  by_cases h:ac pN (aD pN x qN*aD pN x qN)=ac pN x
  ·rw [if_pos h,if_pos h]
   rcases Int.emod_two_eq (aD pN x qN) with h2|h2
   ·exact .inr (.inl ⟨h,h2,by rw [if_neg (by omega)],rfl⟩)
   ·exact .inr (.inr ⟨h,h2,by rw [if_pos h2],rfl⟩)
  ·rw [if_neg h,if_neg h]
   exact .inl ⟨h,rfl,rfl⟩
open Go.RowKit
theorem iV {r:Int} (h0:0≤r) (h1:r<pN):jE r%2=0∧0≤jE r∧jE r<pN∧(jE r=r∨jE r=ac pN (0-r)):=by
 have po:=xL
 unfold jE
 by_cases h:r%2=1
 ·rw [if_pos h]
  have e:ac pN (0-r)=pN-r:=by
   unfold ac
   rw [show 0-r=pN-r+pN*(-1) by omega,Int.add_mul_emod_self_left]
   exact Int.emod_eq_of_lt (by omega) (by omega)
  rw [e]
  exact ⟨by omega,by omega,by omega,.inr rfl⟩
 ·rw [if_neg h]
  exact ⟨by omega,h0,h1,.inl rfl⟩
theorem kJ {x:Int}:ac pN (0-ac pN (0-x))=ac pN x:=by
 have e:=dW (m:=pN) x 0
 unfold ac at *
 rw [Int.sub_emod,Int.emod_emod_of_dvd _ (Int.dvd_refl pN),←Int.sub_emod]
 congr 1;omega
theorem ur {r x:Int} (h:ac pN (r*r)=ac pN (x*x)):ac pN r=ac pN x∨ac pN r=ac pN (0-x):=by
 have e:(r-x)*(r+x)%pN=0:=by
  have e1:(r-x)*(r+x)=r*r-x*x:=by rw [Int.sub_mul,Int.mul_add,Int.mul_add,Int.mul_comm x r];omega
  unfold ac at h
  rw [e1,Int.sub_emod,h,Int.sub_self];rfl
 rcases ow.zero e with h1|h1
 ·exact .inl (Int.emod_eq_emod_iff_emod_sub_eq_zero.2 h1)
 ·refine .inr (Int.emod_eq_emod_iff_emod_sub_eq_zero.2 ?_)
  rw [←h1];congr 1;omega
theorem oy {x:Int} (x0:0≤x):ac pN (aD pN (ac pN (x*x)) qN*aD pN (ac pN (x*x)) qN)=ac pN (ac pN (x*x)):=by
 have v0:=(cQ am (x*x)).1
 rw [wM v0]
 by_cases hz:ac pN x=0
 ·left
  rw [fN,←cu,hz,Int.zero_mul];rfl
 ·right
  unfold un
  rw [um,pT,kG pN x (by decide) (by decide),show hN+hN=pN-1 by decide,ek ow x0 hz]
theorem rZ {x:Int} (x0:0≤x):kH (ac pN (x*x))=0∧(bG (ac pN (x*x))=ac pN x∨ac pN (0-bG (ac pN (x*x)))=ac pN x)∧bG (ac pN (x*x))%2=0∧0≤bG (ac pN (x*x))∧bG (ac pN (x*x))<pN:=by
 have h:=oy x0
 unfold kH bG
 rw [if_pos h,if_pos h]
 rw [fN] at h
 obtain ⟨r0,r1⟩:=ef am (ac pN (x*x)) qN
 obtain ⟨e0,e1,e2,e3⟩:=iV r0 r1
 refine ⟨rfl,?_,e0,e1,e2⟩
 have k:=ur h
 rw [cw r0 r1] at k
 generalize aD pN (ac pN (x*x)) qN=R at *
 rcases k with k|k<;>rcases e3 with e3|e3
 ·left;rw [e3,k]
 ·right;rw [e3,k,kJ,fN]
 ·right;rw [e3,k,kJ]
 ·left;rw [e3,k,kJ]
theorem r8 {x:Int} (h:ac pN (aD pN x qN*aD pN x qN)=ac pN x):ac pN (bG x*bG x)=ac pN x:=by
 unfold bG
 rw [if_pos h]
 obtain ⟨r0,r1⟩:=ef am x qN
 obtain ⟨_,_,_,e3⟩:=iV r0 r1
 rcases e3 with e3|e3
 ·rw [e3];exact h
 ·rw [e3,cu,cv,show (0-aD pN x qN)*(0-aD pN x qN)=aD pN x qN*aD pN x qN by rw [Int.zero_sub,Int.neg_mul_neg]]
  exact h
open Go.RowKit Go.Sort
theorem pU {x:Int} {i:Bool} (C1:Hid (∀ w,Mds w→Calls Tryz.prog 89 #[.agg #[.int .u64 (l0 x),.int .u64 (l1 x),.int .u64 (l2 x),.int .u64 (l3 x)]] w fun e w'=>e = .returned (.bool false)∧Below w.heap.size w w')) (w:World) (hm:Mds w) :
  Calls Tryz.prog 47 #[.agg #[.int .u64 (l0 x),.int .u64 (l1 x),.int .u64 (l2 x),.int .u64 (l3 x)],.bool i] w fun e w'=>e = .returned (.tuple #[.agg #[.int .u64 0,.int .u64 0,.int .u64 0,.int .u64 0,.int .u64 0,.int .u64 0,.int .u64 0,.int .u64 0,.bool false],.int .i64 50])∧Below w.heap.size w w':=by
 go_enter Tryz.func47,Tryz.ntmps47
 go_wp2_with fail
 refine aa (fun W=>Below w.heap.size w W∧Mds W∧ae W w.heap.size x∧Bk9 W (w.heap.size+1)) ⟨by repeat (first|with_reducible exact Below.refl _ _|with_reducible refine Below.alloc ?_ (by first|omega|(simp;done)|(simp;omega)) _),(hm.alloc _).alloc _,(ae.fresh (by simp)).alloc _,Bk9.new (by simp)⟩ ?_
 rintro W ⟨B,hD,hX,hR⟩
 have o3:w.heap.size≤w.heap.size+1:=by omega
 generalize w.heap.size+1=br at *
 with_reducible refine (C1.out _ hD).mono ?_
 rintro e w1 ⟨rfl,hb⟩
 replace B:=B.trans (hb.mono B.size)
 replace hD:=hD.keep hb;replace hX:=hX.keep hb;replace hR:=hR.keep hb
 clear hb W hD
 clear hX
 have gR:=hR.cells;have fR:=hR.free
 go_wp2
 simp [bodyPost,results,Tryz.results47,go_sem,gR]
 repeat (first|with_reducible exact B|with_reducible refine Below.setCell ?_ o3 _)
theorem pV {x c r e1:Int} {i:Bool} (C1:Hid (∀ w,Mds w→Calls Tryz.prog 89 #[.agg #[.int .u64 (l0 x),.int .u64 (l1 x),.int .u64 (l2 x),.int .u64 (l3 x)]] w fun e w'=>e = .returned (.bool true)∧Below w.heap.size w w')) (C2:Hid (∀ w,Mds w→Calls Tryz.prog 91 #[.agg #[.int .u64 (l0 x),.int .u64 (l1 x),.int .u64 (l2 x),.int .u64 (l3 x)]] w fun e w'=>e = .returned (.agg #[.int .u64 (l0 c),.int .u64 (l1 c),.int .u64 (l2 c),.int .u64 (l3 c)])∧Below w.heap.size w w')) (C3:Hid (∀ w,Mds w→Calls Tryz.prog 90 #[.agg #[.int .u64 (l0 c),.int .u64 (l1 c),.int .u64 (l2 c),.int .u64 (l3 c)]] w fun e w'=>e = .returned (.tuple #[.agg #[.int .u64 (l0 r),.int .u64 (l1 r),.int .u64 (l2 r),.int .u64 (l3 r)],.int .i64 e1])∧Below w.heap.size w w')) (he:e1≠0) (w:World) (hm:Mds w) :
  Calls Tryz.prog 47 #[.agg #[.int .u64 (l0 x),.int .u64 (l1 x),.int .u64 (l2 x),.int .u64 (l3 x)],.bool i] w fun e w'=>e = .returned (.tuple #[.agg #[.int .u64 0,.int .u64 0,.int .u64 0,.int .u64 0,.int .u64 0,.int .u64 0,.int .u64 0,.int .u64 0,.bool false],.int .i64 50])∧Below w.heap.size w w':=by
 go_enter Tryz.func47,Tryz.ntmps47
 go_wp2_with fail
 refine aa (fun W=>Below w.heap.size w W∧Mds W∧ae W w.heap.size x∧Bk9 W (w.heap.size+1)) ⟨by repeat (first|with_reducible exact Below.refl _ _|with_reducible refine Below.alloc ?_ (by first|omega|(simp;done)|(simp;omega)) _),(hm.alloc _).alloc _,(ae.fresh (by simp)).alloc _,Bk9.new (by simp)⟩ ?_
 rintro W ⟨B,hD,hX,hR⟩
 have o3:w.heap.size≤w.heap.size+1:=by omega
 generalize w.heap.size+1=br at *
 with_reducible refine (C1.out _ hD).mono ?_
 rintro e w1 ⟨rfl,hb⟩
 replace B:=B.trans (hb.mono B.size)
 replace hD:=hD.keep hb;replace hX:=hX.keep hb;replace hR:=hR.keep hb
 clear hb W
 have ghX:=hX.cells
 go_wp2_with fail
 refine aa (fun W=>Below w.heap.size w W∧Mds W∧ae W w.heap.size x∧Bk9 W br) ⟨B,hD,hX,hR⟩ ?_
 clear B hD hX hR ghX
 rintro W ⟨B,hD,hX,hR⟩
 with_reducible refine (C2.out _ hD).mono ?_
 rintro e w2 ⟨rfl,hb⟩
 replace B:=B.trans (hb.mono B.size)
 replace hD:=hD.keep hb;replace hX:=hX.keep hb;replace hR:=hR.keep hb
 clear hb W
 go_wp2_with fail
 refine aa (fun W=>Below w.heap.size w W∧Mds W∧ae W w.heap.size x∧Bk9 W br) ⟨B,hD,hX,hR⟩ ?_
 clear B hD hX hR
 rintro W ⟨B,hD,hX,hR⟩
 with_reducible refine (C3.out _ hD).mono ?_
 rintro e w3 ⟨rfl,hb⟩
 replace B:=B.trans (hb.mono B.size)
 replace hD:=hD.keep hb;replace hX:=hX.keep hb;replace hR:=hR.keep hb
 clear hb W hD hX
 have lr:=hR.lt
 have nr:w3.heap.size≠br:=by omega
 have nr':=nr.symm
 have gR:=fun o=>(hR.alloc o).cells;have fR:=fun o=>(hR.alloc o).free
 have BB:Hid (∀ o,Below w.heap.size w (w3.alloc o)):=fun o=>B.alloc B.size o
 clear B hR lr
 go_wp2
 simp [bodyPost,results,Tryz.results47,go_sem, *]
 repeat (first|with_reducible exact BB.out _|with_reducible refine Below.drew ?_|with_reducible refine Below.setCell ?_ (by with_reducible assumption) _)
theorem pW {x c r:Int} (C1:Hid (∀ w,Mds w→Calls Tryz.prog 89 #[.agg #[.int .u64 (l0 x),.int .u64 (l1 x),.int .u64 (l2 x),.int .u64 (l3 x)]] w fun e w'=>e = .returned (.bool true)∧Below w.heap.size w w')) (C2:Hid (∀ w,Mds w→Calls Tryz.prog 91 #[.agg #[.int .u64 (l0 x),.int .u64 (l1 x),.int .u64 (l2 x),.int .u64 (l3 x)]] w fun e w'=>e = .returned (.agg #[.int .u64 (l0 c),.int .u64 (l1 c),.int .u64 (l2 c),.int .u64 (l3 c)])∧Below w.heap.size w w')) (C3:Hid (∀ w,Mds w→Calls Tryz.prog 90 #[.agg #[.int .u64 (l0 c),.int .u64 (l1 c),.int .u64 (l2 c),.int .u64 (l3 c)]] w fun e w'=>e = .returned (.tuple #[.agg #[.int .u64 (l0 r),.int .u64 (l1 r),.int .u64 (l2 r),.int .u64 (l3 r)],.int .i64 0])∧Below w.heap.size w w')) (w:World) (hm:Mds w) :
  Calls Tryz.prog 47 #[.agg #[.int .u64 (l0 x),.int .u64 (l1 x),.int .u64 (l2 x),.int .u64 (l3 x)],.bool false] w fun e w'=>e = .returned (.tuple #[.agg #[.int .u64 (l0 x),.int .u64 (l1 x),.int .u64 (l2 x),.int .u64 (l3 x),.int .u64 (l0 r),.int .u64 (l1 r),.int .u64 (l2 r),.int .u64 (l3 r),.bool false],.int .i64 0])∧Below w.heap.size w w':=by
 go_enter Tryz.func47,Tryz.ntmps47
 go_wp2_with fail
 refine aa (fun W=>Below w.heap.size w W∧Mds W∧ae W w.heap.size x∧Bk9 W (w.heap.size+1)) ⟨by repeat (first|with_reducible exact Below.refl _ _|with_reducible refine Below.alloc ?_ (by first|omega|(simp;done)|(simp;omega)) _),(hm.alloc _).alloc _,(ae.fresh (by simp)).alloc _,Bk9.new (by simp)⟩ ?_
 rintro W ⟨B,hD,hX,hR⟩
 have o3:w.heap.size≤w.heap.size+1:=by omega
 generalize w.heap.size+1=br at *
 with_reducible refine (C1.out _ hD).mono ?_
 rintro e w1 ⟨rfl,hb⟩
 replace B:=B.trans (hb.mono B.size)
 replace hD:=hD.keep hb;replace hX:=hX.keep hb;replace hR:=hR.keep hb
 clear hb W
 have ghX:=hX.cells
 go_wp2_with fail
 refine aa (fun W=>Below w.heap.size w W∧Mds W∧ae W w.heap.size x∧Bk9 W br) ⟨B,hD,hX,hR⟩ ?_
 clear B hD hX hR ghX
 rintro W ⟨B,hD,hX,hR⟩
 with_reducible refine (C2.out _ hD).mono ?_
 rintro e w2 ⟨rfl,hb⟩
 replace B:=B.trans (hb.mono B.size)
 replace hD:=hD.keep hb;replace hX:=hX.keep hb;replace hR:=hR.keep hb
 clear hb W
 go_wp2_with fail
 refine aa (fun W=>Below w.heap.size w W∧Mds W∧ae W w.heap.size x∧Bk9 W br) ⟨B,hD,hX,hR⟩ ?_
 clear B hD hX hR
 rintro W ⟨B,hD,hX,hR⟩
 with_reducible refine (C3.out _ hD).mono ?_
 rintro e w3 ⟨rfl,hb⟩
 replace B:=B.trans (hb.mono B.size)
 replace hD:=hD.keep hb;replace hX:=hX.keep hb;replace hR:=hR.keep hb
 clear hb W hD
 have gX:=hX.allocs
 clear hX
 have lr:=hR.lt
 have nr:w3.heap.size≠br:=by omega
 have nr':=nr.symm
 have gR:=fun o=>(hR.alloc o).cells;have fR:=fun o=>(hR.alloc o).free
 have BB:Hid (∀ o,Below w.heap.size w (w3.alloc o)):=fun o=>B.alloc B.size o
 clear B hR lr
 go_wp2
 simp [bodyPost,results,Tryz.results47,go_sem, *]
 repeat (first|with_reducible exact BB.out _|with_reducible refine Below.drew ?_|with_reducible refine Below.setCell ?_ (by with_reducible assumption) _)
theorem r9 {x c r s:Int} (C1:Hid (∀ w,Mds w→Calls Tryz.prog 89 #[.agg #[.int .u64 (l0 x),.int .u64 (l1 x),.int .u64 (l2 x),.int .u64 (l3 x)]] w fun e w'=>e = .returned (.bool true)∧Below w.heap.size w w')) (C2:Hid (∀ w,Mds w→Calls Tryz.prog 91 #[.agg #[.int .u64 (l0 x),.int .u64 (l1 x),.int .u64 (l2 x),.int .u64 (l3 x)]] w fun e w'=>e = .returned (.agg #[.int .u64 (l0 c),.int .u64 (l1 c),.int .u64 (l2 c),.int .u64 (l3 c)])∧Below w.heap.size w w')) (C3:Hid (∀ w,Mds w→Calls Tryz.prog 90 #[.agg #[.int .u64 (l0 c),.int .u64 (l1 c),.int .u64 (l2 c),.int .u64 (l3 c)]] w fun e w'=>e = .returned (.tuple #[.agg #[.int .u64 (l0 r),.int .u64 (l1 r),.int .u64 (l2 r),.int .u64 (l3 r)],.int .i64 0])∧Below w.heap.size w w')) (C4:Hid (∀ w,Mds w→Calls Tryz.prog 92 #[.agg #[.int .u64 (l0 r),.int .u64 (l1 r),.int .u64 (l2 r),.int .u64 (l3 r)]] w fun e w'=>e = .returned (.agg #[.int .u64 (l0 s),.int .u64 (l1 s),.int .u64 (l2 s),.int .u64 (l3 s)])∧Below w.heap.size w w')) (w:World) (hm:Mds w) :
  Calls Tryz.prog 47 #[.agg #[.int .u64 (l0 x),.int .u64 (l1 x),.int .u64 (l2 x),.int .u64 (l3 x)],.bool true] w fun e w'=>e = .returned (.tuple #[.agg #[.int .u64 (l0 x),.int .u64 (l1 x),.int .u64 (l2 x),.int .u64 (l3 x),.int .u64 (l0 s),.int .u64 (l1 s),.int .u64 (l2 s),.int .u64 (l3 s),.bool false],.int .i64 0])∧Below w.heap.size w w':=by
 go_enter Tryz.func47,Tryz.ntmps47
 go_wp2_with fail
 refine aa (fun W=>Below w.heap.size w W∧Mds W∧ae W w.heap.size x∧Bk9 W (w.heap.size+1)) ⟨by repeat (first|with_reducible exact Below.refl _ _|with_reducible refine Below.alloc ?_ (by first|omega|(simp;done)|(simp;omega)) _),(hm.alloc _).alloc _,(ae.fresh (by simp)).alloc _,Bk9.new (by simp)⟩ ?_
 rintro W ⟨B,hD,hX,hR⟩
 have o3:w.heap.size≤w.heap.size+1:=by omega
 generalize w.heap.size+1=br at *
 with_reducible refine (C1.out _ hD).mono ?_
 rintro e w1 ⟨rfl,hb⟩
 replace B:=B.trans (hb.mono B.size)
 replace hD:=hD.keep hb;replace hX:=hX.keep hb;replace hR:=hR.keep hb
 clear hb W
 have ghX:=hX.cells
 go_wp2_with fail
 refine aa (fun W=>Below w.heap.size w W∧Mds W∧ae W w.heap.size x∧Bk9 W br) ⟨B,hD,hX,hR⟩ ?_
 clear B hD hX hR ghX
 rintro W ⟨B,hD,hX,hR⟩
 with_reducible refine (C2.out _ hD).mono ?_
 rintro e w2 ⟨rfl,hb⟩
 replace B:=B.trans (hb.mono B.size)
 replace hD:=hD.keep hb;replace hX:=hX.keep hb;replace hR:=hR.keep hb
 clear hb W
 go_wp2_with fail
 refine aa (fun W=>Below w.heap.size w W∧Mds W∧ae W w.heap.size x∧Bk9 W br) ⟨B,hD,hX,hR⟩ ?_
 clear B hD hX hR
 rintro W ⟨B,hD,hX,hR⟩
 with_reducible refine (C3.out _ hD).mono ?_
 rintro e w3 ⟨rfl,hb⟩
 replace B:=B.trans (hb.mono B.size)
 replace hD:=hD.keep hb;replace hX:=hX.keep hb;replace hR:=hR.keep hb
 clear hb W
 go_wp2_with fail
 have hnx0:w3.heap.size≠w.heap.size:=by have h:w.heap.size<w3.heap.size:=World.block_lt_of_cell? _ _ hX.1;omega
 have hny0:w3.heap.size≠br:=by have:=hR.lt;omega
 have geby1:w.heap.size≤w3.heap.size:=by have:=B.size;omega
 refine aa (fun W=>Below w.heap.size w W∧Mds W∧ae W w.heap.size x∧Bk9 W br∧Var W w3.heap.size r) ⟨B.alloc B.size _,hD.alloc _,hX.alloc _,hR.alloc _,Var.new rfl⟩ ?_
 clear B hD hX hR
 rintro W ⟨B,hD,hX,hR,hY⟩
 generalize w3.heap.size=by1 at *
 with_reducible refine (C4.out _ hD).mono ?_
 rintro e w4 ⟨rfl,hb⟩
 replace B:=B.trans (hb.mono B.size)
 replace hD:=hD.keep hb;replace hX:=hX.keep hb;replace hR:=hR.keep hb;replace hY:=hY.keep hb
 clear hb W hD
 have gX:=hX.cells
 have gY:=hY.1.cells;have qY:=hY.2.all4
 have gR:=hR.cells;have fR:=hR.free
 have n1:by1≠w.heap.size:=hnx0
 have n2:by1≠br:=hny0
 have n1':=n1.symm
 have n2':=n2.symm
 go_wp2
 simp [bodyPost,results,Tryz.results47,go_sem, *]
 repeat (first|with_reducible exact B|with_reducible refine Below.drew ?_|with_reducible refine Below.setCell ?_ (by with_reducible assumption) _)
def dA (x:Int):Prop:=x<pN∧kH (bV x)=0
instance (x:Int):Decidable (dA x):=inferInstanceAs (Decidable (_∧_))
def my (x:Int):Int:=if dA x then 0 else 50
def iW (x:Int):Int:=if dA x then x else 0
def dt (odd:Bool) (x:Int):Int:=if dA x then (if odd then ac pN (0-bG (bV x)) else bG (bV x)) else 0
theorem us (x:Int):Num (bG x):=by
 unfold bG
 split
 ·obtain ⟨_,a,b,_⟩:=iV (ef am x qN).1 (ef am x qN).2
  have:=am.num
  exact ⟨a,Int.lt_trans b this.2⟩
 ·exact ⟨by decide,by decide⟩
theorem sa {x:Int} (hx:Num x) (i:Bool) (w:World) (hm:Mds w) :
  Calls Tryz.prog 47 #[.agg #[.int .u64 (l0 x),.int .u64 (l1 x),.int .u64 (l2 x),.int .u64 (l3 x)],.bool i] w fun e w'=>e = .returned (.tuple #[.agg #[.int .u64 (l0 (iW x)),.int .u64 (l1 (iW x)),.int .u64 (l2 (iW x)),.int .u64 (l3 (iW x)),.int .u64 (l0 (dt i x)),.int .u64 (l1 (dt i x)),.int .u64 (l2 (dt i x)),.int .u64 (l3 (dt i x)),.bool false],.int .i64 (my x)])∧Below w.heap.size w w':=by
 obtain ⟨z0,z1,z2,z3⟩:=ap
 by_cases hp:x<pN
 ·have C1:Hid (∀ w,Mds w→Calls Tryz.prog 89 #[.agg #[.int .u64 (l0 x),.int .u64 (l1 x),.int .u64 (l2 x),.int .u64 (l3 x)]] w fun e w'=>e = .returned (.bool true)∧Below w.heap.size w w'):=fun w hm=>by
   have:=c9 hx w hm
   rw [decide_eq_true hp] at this;exact this
  by_cases hr:kH (bV x)=0
  ·have ok:dA x:=⟨hp,hr⟩
   have C3:Hid (∀ w,Mds w→Calls Tryz.prog 90 #[.agg #[.int .u64 (l0 (bV x)),.int .u64 (l1 (bV x)),.int .u64 (l2 (bV x)),.int .u64 (l3 (bV x))]] w fun e w'=>e = .returned (.tuple #[.agg #[.int .u64 (l0 (bG (bV x))),.int .u64 (l1 (bG (bV x))),.int .u64 (l2 (bG (bV x))),.int .u64 (l3 (bG (bV x)))],.int .i64 0])∧Below w.heap.size w w'):=fun w hm=>by
    have:=ox (ag am _) w hm (x:=bV x)
    rw [hr] at this;exact this
   unfold iW dt my
   rw [if_pos ok,if_pos ok,if_pos ok]
   cases i with
   | false=>exact pW C1 (fun w hm=>gz hx w hm) C3 w hm
   | true=>exact r9 C1 (fun w hm=>gz hx w hm) C3 (fun w hm=>l6 (us _) w hm) w hm
  ·have no:¬dA x:=fun h=>hr h.2
   unfold iW dt my
   rw [if_neg no,if_neg no,if_neg no,z0,z1,z2,z3]
   exact pV C1 (fun w hm=>gz hx w hm) (fun w hm=>ox (ag am _) w hm) hr w hm
 ·have no:¬dA x:=fun h=>hp h.1
  unfold iW dt my
  rw [if_neg no,if_neg no,if_neg no,z0,z1,z2,z3]
  exact pU (fun w hm=>by
   have:=c9 hx w hm
   rw [decide_eq_false hp] at this;exact this) w hm
end Go.Proofs.YtnnnaajgjniiaaaGreatDoor
namespace Go.Proofs.YtnnnaajgjniiaaaGreatDoor.EC
inductive Pt where
 | o:Pt
 | a:F→F→Pt
def OnC (b:F):Pt→Prop
 | .o=>True
 | .a x y=>y*y=x*x*x+b
def Pt.neg:Pt→Pt
 | .o=>.o
 | .a x y=>.a x (-y)
def Sl (x1 y1 x2 y2 l:F):Prop:=l*(x1-x2)=y1-y2∧l*(y1+y2)=x1*x1+x1*x2+x2*x2
def aV (x1 y1 x2 y2:F):F:=if x1=x2 then 3*(x1*x1)*iv (2*y1) else (y2-y1)*iv (x2-x1)
def Pt.add:Pt→Pt→Pt
 | .o,q=>q
 | .a x y,.o=>.a x y
 | .a x1 y1,.a x2 y2 =>
  if x1=x2∧y1 = -y2 then .o else
   .a (aV x1 y1 x2 y2*aV x1 y1 x2 y2-x1-x2)
    (aV x1 y1 x2 y2*(x1-(aV x1 y1 x2 y2*aV x1 y1 x2 y2-x1-x2))-y1)
theorem cK (x1 y1 x2 y2:F):Pt.add (.a x1 y1) (.a x2 y2) =
  if x1=x2∧y1 = -y2 then .o else
   .a (aV x1 y1 x2 y2*aV x1 y1 x2 y2-x1-x2)
    (aV x1 y1 x2 y2*(x1-(aV x1 y1 x2 y2*aV x1 y1 x2 y2-x1-x2))-y1):=rfl
theorem du {a b:F} (h:a*b=0) (ha:a≠0):b=0:=by
 have:=uq ha
 generalize iv a=c at *
 grind -lia -linarith
theorem rT5 {a b:F} (h:a-b=0):a=b:=by grind -lia -linarith
theorem rG1 {l x1 x y1 y:F} (hy:y=l*(x1-x)-y1) : -l*(x1-x) = -y1-y:=by grind -lia -linarith
theorem rG2 {l x1 x2 x y1 y2 y:F} (s1:l*(x1-x2)=y1-y2) (s2:l*(y1+y2)=x1*x1+x1*x2+x2*x2) (hx:x=l*l-x1-x2) (hy:y=l*(x1-x)-y1) :
  -l*(-y1+y)=x1*x1+x1*x+x*x:=by grind -lia -linarith
theorem rG3 {l x1 x2 x:F} (hx:x=l*l-x1-x2) : -l * -l-x1-x=x2:=by grind -lia -linarith
theorem rG4 {l x1 x2 x y1 y2:F} (s1:l*(x1-x2)=y1-y2) (hx:x=l*l-x1-x2) :
  -l*(x1-(-l * -l-x1-x)) - -y1=y2:=by rw [rG3 hx];grind -lia -linarith
theorem rK1 {l x1 x2 y1 y2:F} (s1:l*(x1-x2)=y1-y2) (s2:l*(y1+y2)=x1*x1+x1*x2+x2*x2) :
  2*l*y2=x1*x1+x1*x2+x2*x2-l*l*(x1-x2):=by grind -lia -linarith
theorem rK2 {l x1 x2 y1 y2:F} (s1:l*(x1-x2)=y1-y2) (s2:l*(y1+y2)=x1*x1+x1*x2+x2*x2) :
  2*l*y1=x2*x2+x2*x1+x1*x1-l*l*(x2-x1):=by grind -lia -linarith
theorem rK3 {l x1 x2 x y1 y2 y:F} (s1:l*(x1-x2)=y1-y2) (hy:y=l*(x1-x)-y1):y=l*(x2-x)-y2:=by grind -lia -linarith
theorem rK4 {m x2 x3 y2 y3:F} (b1:m*(x2-x3)=y2-y3):y3=y2+m*(x3-x2):=by grind -lia -linarith
theorem rK {l m x1 x2 x3 x y2 y3 y:F} (r1:2*l*y2=x1*x1+x1*x2+x2*x2-l*l*(x1-x2)) (r2:2*m*y2=x3*x3+x3*x2+x2*x2-m*m*(x3-x2))
  (hx:x=l*l-x1-x2) (hy:y=l*(x2-x)-y2) (h3:y3=y2+m*(x3-x2)) :
  (x1-x3-l*(l-m))*(x-x3)=(l-m)*(y-y3):=by
 subst hx;subst hy;subst h3
 have e:∀ A B C D:F,A=B→C=D→A-B-(C-D)=0:=by grind -lia -linarith
 have e':=e _ _ _ _ r1 r2
 refine rT5 (Eq.trans ?_ e')
 clear e e' r1 r2
 grind -lia -linarith
theorem rT1 {l m x2 x y2 y:F} (hy:y=l*(x2-x)-y2) (b1:m*(x2-x)=y2-y):(l-m)*(x2-x)=2*y:=by grind -lia -linarith
theorem rT2 {l x1 x2 x y1 y2 y:F} (s1:l*(x1-x2)=y1-y2) (s2:l*(y1+y2)=x1*x1+x1*x2+x2*x2) (hx:x=l*l-x1-x2) (hy:y=l*(x1-x)-y1) :
  2*(l*y)+3*(x*x)=(x2-x)*(x1-x):=by grind -lia -linarith
theorem rT3 {n x y:F} (c:n*(y+y)=x*x+x*x+x*x):2*(n*y)=3*(x*x):=by grind -lia -linarith
theorem rT4 {l m n x1 x2 x y:F} (g1:(l-m)*(x2-x)=2*y) (g2:2*(l*y)+3*(x*x)=(x2-x)*(x1-x)) (g3:2*(n*y)=3*(x*x)) :
  2*y*((l+n)*(l-m)-(x1-x))=0:=by grind -lia -linarith
theorem rT6 {a b:F} (h:¬a=b):a-b≠0:=by grind -lia -linarith
theorem rT7 {l m n x1 x3 x y y3:F} (k:(x1-x3-l*(l-m))*(x-x3)=(l-m)*(y-y3)) (c:n*(x-x3)=y-y3) :
  (x-x3)*((l+n)*(l-m)-(x1-x3))=0:=by grind -lia -linarith
theorem rS1 {m x2 x3 y2 y3:F} (g:m*(x2-x3)=y2-y3):m*(x3-(m*m-x3-x2))-y3=m*(x2-(m*m-x2-x3))-y2:=by grind -lia -linarith
theorem rS2 {m x2 x3:F}:m*m-x3-x2=m*m-x2-x3:=by grind -lia -linarith
theorem rS3 {a b:F} (h:a = -b):b = -a:=by grind -lia -linarith
theorem rS4 {l v x1 x3:F} (h:(l+v)*(l-l)=x1-x3):x1=x3:=by grind -lia -linarith
theorem rS5 {l x1 x2 y1 y2 y3:F} (g1:l*(x1-x2)=y1-y2) (g2:l*(x2-x1)=y2-y3):y1=y3:=by grind -lia -linarith
theorem rS6 {l m v w x1 x3:F} (k1:(l+v)*(l-m)=x1-x3) (k2:(m+w)*(m-l)=x3-x1):(l-m)*((l+v)-(m+w))=0:=by grind -lia -linarith
theorem rS7 {l m v w:F} (h:(l+v)-(m+w)=0):w=l+v-m:=by grind -lia -linarith
theorem rS8 {l m v x1 x2 x3:F} (k1:(l+v)*(l-m)=x1-x3) :
  v*v-(l*l-x1-x2)-x3=(l+v-m)*(l+v-m)-x1-(m*m-x2-x3):=by grind -lia -linarith
theorem rS9 {l m v x1 x2 x3 x:F} (k1:(l+v)*(l-m)=x1-x3) (hx:x=v*v-(l*l-x1-x2)-x3) :
  (l-m)*x=(l+v)*(x1-x3)-2*(l*(x1-x3))+(l-m)*(x1+x2-x3):=by grind -lia -linarith
theorem zU {l m v x1 x2 x3 y1 y2 y3 x:F} (g1:l*(x1-x2)=y1-y2) (g2:m*(x2-x3)=y2-y3)
  (g3:v*(l*l-x1-x2-x3)=l*(x1-(l*l-x1-x2))-y1-y3)
  (k3:(l-m)*x=(l+v)*(x1-x3)-2*(l*(x1-x3))+(l-m)*(x1+x2-x3)) :
  v*(l*l-x1-x2-x)-(l*(x1-(l*l-x1-x2))-y1)=(l+v-m)*(x1-x)-y1:=by
 have e:∀ A B C D A' B' C' D':F,A=B→C=D→A'=B'→C'=D'→A-B+(C-D)-(A'-B')-(C'-D')=0:=by grind -lia -linarith
 have e':=e _ _ _ _ _ _ _ _ g3 k3 g1 g2
 refine rT5 (Eq.trans ?_ e')
 clear e e' g1 g2 g3 k3
 grind -lia -linarith
theorem jZ {b x y1 y2:F} (h1:y1*y1=x*x*x+b) (h2:y2*y2=x*x*x+b) (hn:¬y1 = -y2):y1=y2:=by
 have h:(y1+y2)*(y1-y2)=0:=by grind -lia -linarith
 have h':=du h (by grind -lia -linarith)
 grind -lia -linarith
theorem b9 {b x1 y1 x2 y2:F} (h2:(2:F)≠0) (p1:y1*y1=x1*x1*x1+b) (p2:y2*y2=x2*x2*x2+b)
  (hn:¬(x1=x2∧y1 = -y2)):Sl x1 y1 x2 y2 (aV x1 y1 x2 y2):=by
 unfold Sl aV
 by_cases hx:x1=x2
 ·subst hx
  have hy:=jZ p1 p2 (fun h=>hn ⟨rfl,h⟩)
  subst hy
  rw [if_pos rfl]
  have:2*y1≠0:=by
   intro h;have:=du h h2;grind -lia -linarith
  have:=uq this
  grind -lia -linarith
 ·rw [if_neg hx]
  have hd:x2-x1≠0:=by grind -lia -linarith
  have:=uq hd
  refine ⟨by grind -lia -linarith,?_⟩
  have e:(x2-x1)*((y2-y1)*iv (x2-x1)*(y1+y2)-(x1*x1+x1*x2+x2*x2))=0:=by grind -lia -linarith
  have:=du e hd
  grind -lia -linarith
theorem wQ {x1 y1 x2 y2 l m:F} (hn:¬(x1=x2∧y1 = -y2)) (hl:Sl x1 y1 x2 y2 l) (hm:Sl x1 y1 x2 y2 m):l=m:=by
 obtain ⟨a,b⟩:=hl;obtain ⟨c,d⟩:=hm
 by_cases hx:x1=x2
 ·have hy:y1+y2≠0:=by grind -lia -linarith
  have e:(y1+y2)*(l-m)=0:=by grind -lia -linarith
  have:=du e hy;grind -lia -linarith
 ·have hd:x1-x2≠0:=by grind -lia -linarith
  have e:(x1-x2)*(l-m)=0:=by grind -lia -linarith
  have:=du e hd;grind -lia -linarith
theorem da {b x1 y1 x2 y2 l:F} (h2:(2:F)≠0) (p1:y1*y1=x1*x1*x1+b) (p2:y2*y2=x2*x2*x2+b)
  (hn:¬(x1=x2∧y1 = -y2)) (hl:Sl x1 y1 x2 y2 l) :
  Pt.add (.a x1 y1) (.a x2 y2) = .a (l*l-x1-x2) (l*(x1-(l*l-x1-x2))-y1):=by
 have e:=wQ hn (b9 h2 p1 p2 hn) hl
 rw [cK,if_neg hn,e]
theorem oz {b x1 y1 x2 y2 l:F} (p1:y1*y1=x1*x1*x1+b) (hl:Sl x1 y1 x2 y2 l) :
  (l*(x1-(l*l-x1-x2))-y1)*(l*(x1-(l*l-x1-x2))-y1)=(l*l-x1-x2)*(l*l-x1-x2)*(l*l-x1-x2)+b:=by
 obtain ⟨h1,h3⟩:=hl
 grind -lia -linarith
theorem ir {b:F} (h2:(2:F)≠0) {p q:Pt} (hp:OnC b p) (hq:OnC b q):OnC b (p.add q):=by
 cases p with
 | o=>exact hq
 | a x1 y1 =>
  cases q with
  | o=>exact hp
  | a x2 y2 =>
   by_cases hn:x1=x2∧y1 = -y2
   ·rw [cK,if_pos hn];trivial
   ·rw [da h2 hp hq hn (b9 h2 hp hq hn)]
    exact oz hp (b9 h2 hp hq hn)
theorem bS {b:F} {p:Pt} (hp:OnC b p):OnC b p.neg:=by
 cases p with
 | o=>trivial
 | a x y=>unfold OnC Pt.neg at *; grind -lia -linarith
theorem fo (p:Pt):p.neg.neg=p:=by
 cases p with
 | o=>rfl
 | a x y=>show Pt.a x (- -y)=_;rw [show - -y=y by grind -lia -linarith]
theorem add_o (p:Pt):p.add .o=p:=by cases p<;>rfl
theorem qQ (p:Pt):Pt.add .o p=p:=rfl
theorem eo (p:Pt):p.add p.neg = .o:=by
 cases p with
 | o=>rfl
 | a x y=>show Pt.add (.a x y) (.a x (-y))=_;rw [cK,if_pos ⟨rfl,by grind -lia -linarith⟩]
theorem j4 {x1 y1 x2 y2 l:F} (h:Sl x1 y1 x2 y2 l):Sl x2 y2 x1 y1 l:=by
 obtain ⟨a,b⟩:=h;exact ⟨by grind -lia -linarith,by grind -lia -linarith⟩
theorem add_comm {b:F} (h2:(2:F)≠0) {p q:Pt} (hp:OnC b p) (hq:OnC b q):p.add q=q.add p:=by
 cases p with
 | o=>exact (add_o q).symm
 | a x1 y1 =>
  cases q with
  | o=>rfl
  | a x2 y2 =>
   by_cases hn:x1=x2∧y1 = -y2
   ·have hn':x2=x1∧y2 = -y1:=⟨hn.1.symm,by grind -lia -linarith⟩
    rw [cK,cK,if_pos hn,if_pos hn']
   ·have hn':¬(x2=x1∧y2 = -y1):=fun h=>hn ⟨h.1.symm,by grind -lia -linarith⟩
    have s:=b9 h2 hp hq hn
    rw [da h2 hp hq hn s,da h2 hq hp hn' (j4 s)]
    obtain ⟨e1,e2⟩:=s
    congr 1<;>grind -lia -linarith
theorem dV {b:F} (h2:(2:F)≠0) (h3:(3:F)≠0) (hb:b≠0) {p q:Pt} (hp:OnC b p) (hq:OnC b q):p.neg.add (p.add q)=q:=by
 cases p with
 | o=>rfl
 | a x1 y1 =>
  cases q with
  | o=>rw [add_o,add_comm h2 (bS hp) hp,eo]
  | a x2 y2 =>
   by_cases hn:x1=x2∧y1 = -y2
   ·have e:Pt.add (.a x1 y1) (.a x2 y2) = .o:=by rw [cK,if_pos hn]
    rw [e,add_o];show Pt.a x1 (-y1)=_;rw [hn.1,hn.2,show - -y2=y2 by grind -lia -linarith]
   ·have s:=b9 h2 hp hq hn
    have hon:=oz hp s
    rw [da h2 hp hq hn s]
    generalize aV x1 y1 x2 y2=l at s hon ⊢
    obtain ⟨s1,s2⟩:=s
    obtain ⟨x,hx⟩:∃ x,x=l*l-x1-x2:=⟨_,rfl⟩
    obtain ⟨y,hy⟩:∃ y,y=l*(x1-x)-y1:=⟨_,rfl⟩
    rw [←hx,←hy] at hon ⊢
    have hs:Sl x1 (-y1) x y (-l):=⟨rG1 hy,rG2 s1 s2 hx hy⟩
    have hn':¬(x1=x∧-y1 = -y):=by
     intro ⟨e1,e2⟩
     have e3:2*y1=0:=by grind -lia -linarith
     have e4:=du e3 h2
     obtain ⟨s3,s4⟩:=hs
     have e5:3*(x1*x1)=0:=by grind -lia -linarith
     have e6:=du e5 h3
     have e7:x1=0:=by
      by_cases h:x1=0
      ·exact h
      ·exact du e6 h
     unfold OnC at hp
     exact hb (by grind -lia -linarith)
    unfold Pt.neg
    rw [da h2 (bS hp) hon hn' hs,rG4 s1 hx,rG3 hx]
theorem key {x1 x2 x3 y1 y2 y3 l m n:F} {b:F} (h2:(2:F)≠0)
  (p1:y1*y1=x1*x1*x1+b) (p3:y3*y3=x3*x3*x3+b)
  (sl:Sl x1 y1 x2 y2 l) (sm:Sl x2 y2 x3 y3 m)
  (hn:¬(l*l-x1-x2=x3∧l*(x1-(l*l-x1-x2))-y1 = -y3))
  (sn:Sl (l*l-x1-x2) (l*(x1-(l*l-x1-x2))-y1) x3 y3 n) :
  (l+n)*(l-m)=x1-x3:=by
 obtain ⟨a1,a2⟩:=sl;obtain ⟨b1,b2⟩:=sm;obtain ⟨c1,c2⟩:=sn
 obtain ⟨x,hx⟩:∃ x,x=l*l-x1-x2:=⟨_,rfl⟩
 obtain ⟨y,hy⟩:∃ y,y=l*(x1-x)-y1:=⟨_,rfl⟩
 rw [←hx,←hy] at hn c1 c2
 have k:(x1-x3-l*(l-m))*(x-x3)=(l-m)*(y-y3):=by
  exact rK (rK1 a1 a2) (rK2 b1 b2) hx (rK3 a1 hy) (rK4 b1)
 by_cases hd:x=x3
 ·have hon:y*y=x*x*x+b:=by rw [hy,hx];exact oz p1 ⟨a1,a2⟩
  subst hd
  have hy3:=jZ hon p3 (fun h=>hn ⟨rfl,h⟩)
  subst hy3
  have hy0:2*y≠0:=by
   intro h;have:=du h h2;exact hn ⟨rfl,by grind -lia -linarith⟩
  have e:2*y*((l+n)*(l-m)-(x1-x))=0:=by
   exact rT4 (rT1 (rK3 a1 hy) b1) (rT2 a1 a2 hx hy) (rT3 c2)
  exact rT5 (du e hy0)
 ·exact rT5 (du (rT7 k c1) (rT6 hd))
theorem j5 {b:F} (h2:(2:F)≠0) {p q:Pt} (hp:OnC b p) (hq:OnC b q):(p.add q).neg=p.neg.add q.neg:=by
 cases p with
 | o=>rfl
 | a x1 y1 =>
  cases q with
  | o=>rfl
  | a x2 y2 =>
   show (Pt.add (.a x1 y1) (.a x2 y2)).neg=Pt.add (.a x1 (-y1)) (.a x2 (-y2))
   by_cases hn:x1=x2∧y1 = -y2
   ·have hn':x1=x2∧-y1 = - -y2:=⟨hn.1,by grind -lia -linarith⟩
    rw [cK,cK,if_pos hn,if_pos hn'];rfl
   ·have hn':¬(x1=x2∧-y1 = - -y2):=fun h=>hn ⟨h.1,by grind -lia -linarith⟩
    have s:=b9 h2 hp hq hn
    have s':Sl x1 (-y1) x2 (-y2) (-aV x1 y1 x2 y2):=by
     obtain ⟨g1,g2⟩:=s
     exact ⟨by grind -lia -linarith,by grind -lia -linarith⟩
    rw [da h2 hp hq hn s,da h2 (bS hp) (bS hq) hn' s']
    generalize aV x1 y1 x2 y2=l
    show Pt.a _ (-_)=_
    congr 1<;>grind -lia -linarith
theorem assoc {b:F} (h2:(2:F)≠0) (h3:(3:F)≠0) (hb:b≠0) {p q r:Pt} (hp:OnC b p) (hq:OnC b q) (hr:OnC b r) :
  (p.add q).add r=p.add (q.add r):=by
 by_cases e1:p.add q = .o
 ·-- q = -p
  have hqp:q=p.neg:=by
   have:=dV h2 h3 hb hp hq
   rw [e1,add_o] at this;exact this.symm
  rw [e1,qQ,hqp]
  have:=dV h2 h3 hb (bS hp) hr
  rw [fo] at this;exact this.symm
 by_cases e2:q.add r = .o
 ·have hrq:r=q.neg:=by
   have:=dV h2 h3 hb hq hr
   rw [e2,add_o] at this;exact this.symm
  rw [e2,add_o,hrq,add_comm h2 hp hq,add_comm h2 (ir h2 hq hp) (bS hq)]
  exact dV h2 h3 hb hq hp
 by_cases e3:(p.add q).add r = .o
 ·have hd:r=(p.add q).neg:=by
   have:=dV h2 h3 hb (ir h2 hp hq) hr
   rw [e3,add_o] at this;exact this.symm
  rw [e3,hd,j5 h2 hp hq,add_comm h2 (bS hp) (bS hq)]
  have:=dV h2 h3 hb (bS hq) (bS hp)
  rw [fo] at this
  rw [this,eo]
 by_cases e4:p.add (q.add r) = .o
 ·have hd:p=(q.add r).neg:=by
   have:=dV h2 h3 hb (ir h2 hq hr) hp
   rw [add_comm h2 (ir h2 hq hr) hp,e4,add_o] at this;exact this.symm
  have h5:p.add q=r.neg:=by
   rw [hd,j5 h2 hq hr,add_comm h2 (ir h2 (bS hq) (bS hr)) hq]
   have:=dV h2 h3 hb (bS hq) (bS hr)
   rw [fo] at this
   exact this
  rw [e4,h5,add_comm h2 (bS hr) hr,eo]
 by_cases e5:p=r
 ·rw [e5,add_comm h2 (ir h2 hr hq) hr,add_comm h2 hr hq]
 cases p with
 | o=>rfl
 | a x1 y1 =>
 cases q with
 | o=>rfl
 | a x2 y2 =>
 cases r with
 | o=>rw [add_o,add_o]
 | a x3 y3 =>
  have hp':y1*y1=x1*x1*x1+b:=hp
  have hq':y2*y2=x2*x2*x2+b:=hq
  have hr':y3*y3=x3*x3*x3+b:=hr
  have n1:¬(x1=x2∧y1 = -y2):=fun h=>e1 (by rw [cK,if_pos h])
  have n2:¬(x2=x3∧y2 = -y3):=fun h=>e2 (by rw [cK,if_pos h])
  have s1:=b9 h2 hp' hq' n1
  have s2:=b9 h2 hq' hr' n2
  have a1:=da h2 hp' hq' n1 s1
  have a2:=da h2 hq' hr' n2 s2
  rw [a1] at e3 ⊢; rw [a2] at e4 ⊢
  have o1:=oz hp' s1
  have o2:=oz hq' s2
  have n3:¬(aV x1 y1 x2 y2*aV x1 y1 x2 y2-x1-x2=x3 ∧
   aV x1 y1 x2 y2*(x1-(aV x1 y1 x2 y2*aV x1 y1 x2 y2-x1-x2))-y1 = -y3):=fun h=>e3 (by rw [cK,if_pos h])
  have n4:¬(x1=aV x2 y2 x3 y3*aV x2 y2 x3 y3-x2-x3 ∧
   y1 = -(aV x2 y2 x3 y3*(x2-(aV x2 y2 x3 y3*aV x2 y2 x3 y3-x2-x3))-y2)):=fun h=>e4 (by rw [cK,if_pos h])
  have s3:=b9 h2 o1 hr' n3
  have s4:=b9 h2 hp' o2 n4
  rw [da h2 o1 hr' n3 s3,da h2 hp' o2 n4 s4]
  generalize aV (aV x1 y1 x2 y2*aV x1 y1 x2 y2-x1-x2) _ x3 y3=v at s3 ⊢
  generalize aV x1 y1 (aV x2 y2 x3 y3*aV x2 y2 x3 y3-x2-x3) _=w at s4 ⊢
  generalize aV x1 y1 x2 y2=l at *
  generalize aV x2 y2 x3 y3=m at *
  have k1:=key h2 hp' hr' s1 s2 n3 s3
  have k2:(m+w)*(m-l)=x3-x1:=by
   have yy:m*(x3-(m*m-x3-x2))-y3=m*(x2-(m*m-x2-x3))-y2:=by
    exact rS1 s2.1
   have xx:m*m-x3-x2=m*m-x2-x3:=rS2
   refine key (n:=w) h2 hr' hp' (j4 s2) (j4 s1) ?_ ?_
   ·rw [yy,xx];intro h;exact n4 ⟨h.1.symm,rS3 h.2⟩
   ·rw [yy,xx];exact j4 s4
  by_cases hlm:l=m
  ·subst hlm
   have e:x1=x3:=rS4 k1
   subst e
   have ey:y1=y3:=rS5 s1.1 s2.1
   exact absurd (by rw [ey]) e5
  ·have hw:w=l+v-m:=rS7 (du (rS6 k1 k2) (rT6 hlm))
   rw [hw,←rS8 (x2:=x2) k1,zU s1.1 s2.1 s3.1 (rS9 k1 rfl)]
def pt (x y z:F):Pt:=if z=0 then .o else .a (x*(iv z*iv z)) (y*(iv z*iv z*iv z))
theorem pt_o {x y z:F} (h:z=0):pt x y z = .o:=by unfold pt;rw [if_pos h]
theorem pt_of {x y z u v:F} (h:z≠0) (hx:x=u*(z*z)) (hy:y=v*(z*z*z)):pt x y z = .a u v:=by
 unfold pt;rw [if_neg h]
 have:=uq h
 subst hx;subst hy
 generalize iv z=w at *
 congr 1<;>grind -lia -linarith
theorem m8 {x y z:F} (h:z≠0):∃ u v,x=u*(z*z)∧y=v*(z*z*z)∧pt x y z = .a u v:=by
 have:=uq h
 refine ⟨x*(iv z*iv z),y*(iv z*iv z*iv z),?_,?_,?_⟩
 ·generalize iv z=w at *; grind -lia -linarith
 ·generalize iv z=w at *; grind -lia -linarith
 ·unfold pt;rw [if_neg h]
def dx (x y:F):F:=3*(x*x)*(3*(x*x))-2*(4*(x*(y*y)))
def dy (x y:F):F:=3*(x*x)*(4*(x*(y*y))-dx x y)-8*(y*y*(y*y))
def dz (y z:F):F:=2*(y*z)
theorem wR {x y l:F} (h:l*(y+y)=3*(x*x)) (z:F):dx (x*(z*z)) (y*(z*z*z))=(l*l-x-x)*(dz (y*(z*z*z)) z*dz (y*(z*z*z)) z):=by
 unfold dx dz;grind -lia -linarith
theorem wS {x y l:F} (h:l*(y+y)=3*(x*x)) (z:F):dy (x*(z*z)) (y*(z*z*z))=(l*(x-(l*l-x-x))-y)*(dz (y*(z*z*z)) z*dz (y*(z*z*z)) z*dz (y*(z*z*z)) z):=by
 unfold dy dx dz;grind -lia -linarith
theorem yj {b x y z:F} (h2:(2:F)≠0) (hz:z≠0) (ho:OnC b (pt x y z)):pt (dx x y) (dy x y) (dz y z)=(pt x y z).add (pt x y z):=by
 obtain ⟨u,v,hx,hy,hp⟩:=m8 (x:=x) (y:=y) hz
 rw [hp] at ho ⊢
 by_cases h0:v=0
 ·have e:dz y z=0:=by unfold dz;subst hy;subst h0;grind -lia -linarith
  rw [pt_o e,cK,if_pos ⟨rfl,by subst h0;grind -lia -linarith⟩]
 ·have hn:¬(u=u∧v = -v):=by
   intro ⟨_,h⟩
   have e:2*v=0:=by grind -lia -linarith
   exact h0 (du e h2)
  have s:=b9 h2 ho ho hn
  rw [da h2 ho ho hn s]
  generalize aV u v u v=l at s
  have s2:l*(v+v)=3*(u*u):=by obtain ⟨_,h⟩:=s;clear hx hy hp ho;grind -lia -linarith
  have hd:dz y z≠0:=by
   intro h
   unfold dz at h
   have:=du h h2
   have h':z*y=0:=by clear hx hy hp ho s s2 h;grind -lia -linarith
   have hy0:=du h' hz
   rw [hy] at hy0
   have e3:z*(z*(z*v))=0:=by clear hx hy hp ho s s2 h this h';grind -lia -linarith
   exact h0 (du (du (du e3 hz) hz) hz)
  subst hx;subst hy
  exact pt_of hd (wR s2 z) (wS s2 z)
def run (x1 z1 x2 z2:F):F:=x2*(z1*z1)-x1*(z2*z2)
def rise (y1 z1 y2 z2:F):F:=y2*(z1*z1*z1)-y1*(z2*z2*z2)
def ax (x1 z2 h r:F):F:=r*r-h*h*h-2*(x1*(z2*z2)*(h*h))
def ay (x1 y1 z2 h r:F):F:=r*(x1*(z2*z2)*(h*h)-ax x1 z2 h r)-y1*(z2*z2*z2)*(h*h*h)
def az (z1 z2 h:F):F:=z1*z2*h
theorem yk {b x1 y1 z1 x2 y2 z2:F} (h2:(2:F)≠0) (hz1:z1≠0) (hz2:z2≠0)
  (ho:OnC b (pt x1 y1 z1)) (hq:OnC b (pt x2 y2 z2)) :
  (run x1 z1 x2 z2≠0→pt (ax x1 z2 (run x1 z1 x2 z2) (rise y1 z1 y2 z2)) (ay x1 y1 z2 (run x1 z1 x2 z2) (rise y1 z1 y2 z2)) (az z1 z2 (run x1 z1 x2 z2))=(pt x1 y1 z1).add (pt x2 y2 z2)) ∧
  (run x1 z1 x2 z2=0→rise y1 z1 y2 z2=0→pt x2 y2 z2=pt x1 y1 z1) ∧
  (run x1 z1 x2 z2=0→rise y1 z1 y2 z2≠0→(pt x1 y1 z1).add (pt x2 y2 z2) = .o):=by
 obtain ⟨u1,v1,hx1,hy1,hp1⟩:=m8 (x:=x1) (y:=y1) hz1
 obtain ⟨u2,v2,hx2,hy2,hp2⟩:=m8 (x:=x2) (y:=y2) hz2
 rw [hp1] at ho;rw [hp2] at hq;rw [hp1,hp2]
 have hw:z1*z2≠0:=fun h=>hz2 (du h hz1)
 have er:run x1 z1 x2 z2=z1*z2*(z1*z2*(u2-u1)):=by unfold run;subst hx1;subst hx2;clear hp1 hp2 ho hq hw;grind -lia -linarith
 have es:rise y1 z1 y2 z2=z1*z2*(z1*z2*(z1*z2*(v2-v1))):=by unfold rise;subst hy1;subst hy2;clear hp1 hp2 ho hq hw;grind -lia -linarith
 have hu:run x1 z1 x2 z2=0→u1=u2:=by
  intro h;rw [er] at h
  have:=du (du h hw) hw
  clear hx1 hy1 hp1 hx2 hy2 hp2 ho hq er es h;grind -lia -linarith
 refine ⟨fun h=>?_,fun h h'=>?_,fun h h'=>?_⟩
 ·have hd:u2-u1≠0:=by
   intro e;apply h;rw [er,e];clear hx1 hy1 hp1 hx2 hy2 hp2 ho hq er es h hu;grind -lia -linarith
  have hn:¬(u1=u2∧v1 = -v2):=by
   intro ⟨e,_⟩;apply hd;clear hx1 hy1 hp1 hx2 hy2 hp2 ho hq er es h hu;grind -lia -linarith
  have s:=b9 h2 ho hq hn
  rw [da h2 ho hq hn s]
  generalize aV u1 v1 u2 v2=l at s
  obtain ⟨s1,_⟩:=s
  have hz:az z1 z2 (run x1 z1 x2 z2)≠0:=by
   unfold az;intro e;exact h (du e hw)
  have hs:rise y1 z1 y2 z2=l*(z1*z2*run x1 z1 x2 z2):=by
   rw [er,es];clear hx1 hy1 hp1 hx2 hy2 hp2 ho hq er es h hu hn hd hz;grind -lia -linarith
  refine pt_of hz ?_ ?_
  ·unfold ax az;rw [hs]
   clear hp1 hp2 ho hq es h hu hn hd hz hs hy1 hy2 s1
   have e2:run x1 z1 x2 z2=z1*z2*(z1*z2)*(u2-u1):=by rw [er];grind -lia -linarith
   generalize run x1 z1 x2 z2=r at *
   subst hx1
   clear hx2 er
   grind -lia -linarith
  ·unfold ay ax az;rw [hs]
   have e2:run x1 z1 x2 z2=z1*z2*(z1*z2)*(u2-u1):=by rw [er];clear hp1 hp2 ho hq es h hu hn hd hz hs hy1 hy2 s1;grind -lia -linarith
   have e3:y1=v1*(z1*z1*z1):=hy1
   clear hp1 hp2 ho hq es h hu hn hd hz hs hy1 hy2 er s1
   generalize run x1 z1 x2 z2=r at *
   subst hx1;subst e3
   clear hx2
   grind -lia -linarith
 ·have e:=hu h
  rw [es] at h'
  have:=du (du (du h' hw) hw) hw
  have e':v2=v1:=by clear hx1 hy1 hp1 hx2 hy2 hp2 ho hq er es h hu h';grind -lia -linarith
  rw [e,e']
 ·have e:=hu h
  rw [cK,if_pos]
  refine ⟨e,?_⟩
  by_cases hv:v1 = -v2
  ·exact hv
  ·exfalso
   subst e
   have:=jZ ho hq hv
   subst this
   apply h';rw [es]
   clear hx1 hy1 hp1 hx2 hy2 hp2 ho hq er es h hu h';grind -lia -linarith
abbrev On (p:Pt):Prop:=OnC 7 p
theorem two:(2:F)≠0:=by decide +kernel
theorem ut:(3:F)≠0:=by decide +kernel
theorem uu:(7:F)≠0:=by decide +kernel
theorem on_o:On .o:=trivial
theorem Pt.comm {p q:Pt} (hp:On p) (hq:On q):p.add q=q.add p:=add_comm two hp hq
theorem Pt.assoc {p q r:Pt} (hp:On p) (hq:On q) (hr:On r):(p.add q).add r=p.add (q.add r):=EC.assoc two ut uu hp hq hr
theorem Pt.on {p q:Pt} (hp:On p) (hq:On q):On (p.add q):=ir two hp hq
theorem Pt.back {p q:Pt} (hp:On p) (hq:On q):p.neg.add (p.add q)=q:=dV two ut uu hp hq
theorem Pt.left {p q r:Pt} (hp:On p) (hq:On q) (hr:On r) (h:p.add q=p.add r):q=r:=by
 have a:=Pt.back hp hq;have b:=Pt.back hp hr
 rw [h] at a;rw [←a,b]
theorem Pt.right {p q r:Pt} (hp:On p) (hq:On q) (hr:On r) (h:q.add p=r.add p):q=r:=by
 rw [Pt.comm hq hp,Pt.comm hr hp] at h;exact Pt.left hp hq hr h
theorem Pt.four {a b c d:Pt} (ha:On a) (hb:On b) (hc:On c) (hd:On d):(a.add b).add (c.add d)=(a.add c).add (b.add d):=by
 rw [Pt.assoc ha hb (Pt.on hc hd),←Pt.assoc hb hc hd,Pt.comm hb hc,Pt.assoc hc hb hd,←Pt.assoc ha hc (Pt.on hb hd)]
def smul:Nat→Pt→Pt
 | 0,_=>.o
 | k+1,p=>(smul k p).add p
theorem smul_on {p:Pt} (hp:On p):∀ k,On (smul k p)
 | 0=>on_o
 | k+1=>Pt.on (smul_on hp k) hp
theorem smul_one (p:Pt):smul 1 p=p:=rfl
theorem smul_add {p:Pt} (hp:On p) (a:Nat):∀ b,smul (a+b) p=(smul a p).add (smul b p)
 | 0=>(add_o _).symm
 | b+1=>by
  show (smul (a+b) p).add p=(smul a p).add ((smul b p).add p)
  rw [smul_add hp a b,Pt.assoc (smul_on hp a) (smul_on hp b) hp]
theorem smul_o:∀ k,smul k .o = .o
 | 0=>rfl
 | k+1=>by show (smul k .o).add .o = .o;rw [smul_o k];rfl
theorem smul_mul {p:Pt} (hp:On p) (a:Nat):∀ b,smul (a*b) p=smul b (smul a p)
 | 0=>rfl
 | b+1=>by
  show smul (a*(b+1)) p=(smul b (smul a p)).add (smul a p)
  rw [Nat.mul_succ,smul_add hp,smul_mul hp a b]
theorem php:∀ (M K:Nat) (f:Nat→Nat),(∀ i,i<K→f i<M)→(∀ i j,i<K→j<K→f i=f j→i=j)→K≤M
 | 0,K,f,h,_=>by
  cases K with
  | zero=>exact Nat.le_refl 0
  | succ K=>exact absurd (h 0 (Nat.succ_pos K)) (Nat.not_lt_zero _)
 | M+1,K,f,h,inj=>by
  cases K with
  | zero=>exact Nat.zero_le _
  | succ K =>
   refine Nat.succ_le_succ (php M K (fun i=>if f i=M then f K else f i) ?_ ?_)
   ·intro i hi
    show (if f i=M then f K else f i)<M
    have h1:=h i (Nat.lt_succ_of_lt hi)
    have h2:=h K (Nat.lt_succ_self K)
    split
    ·next e =>
     have:f K≠M:=fun e'=>by
      have:=inj i K (Nat.lt_succ_of_lt hi) (Nat.lt_succ_self K) (by rw [e,e'])
      omega
     omega
    ·next e=>omega
   ·intro i j hi hj e
    have e':(if f i=M then f K else f i)=(if f j=M then f K else f j):=e
    have I:=inj i j (Nat.lt_succ_of_lt hi) (Nat.lt_succ_of_lt hj)
    have I1:=inj K j (Nat.lt_succ_self K) (Nat.lt_succ_of_lt hj)
    have I2:=inj i K (Nat.lt_succ_of_lt hi) (Nat.lt_succ_self K)
    split at e'<;>split at e'
    ·next a b=>exact I (by rw [a,b])
    ·have:=I1 e';omega
    ·have:=I2 e';omega
    ·exact I e'
def pX:Pt→Nat
 | .o=>0
 | .a x y=>1+2*x.val+y.val%2
theorem wT (p:Pt):pX p<231584178474632390847141970017375815706539969331281128078915168015817669343327:=by
 cases p with
 | o=>show 0<_;omega
 | a x y=>show 1+2*x.val+y.val%2<_;have:=x.isLt;omega
theorem zV {p a b:Nat} (hb:b<p) (hp:p%2=1) (h:a=p-b) (e:a%2=b%2):a=b:=by omega
theorem zW {p a b:Nat} (hb:b<p) (hp:p%2=1) (h:a=(p-b)%p) (e:a%2=b%2):a=b:=by
 by_cases h0:b=0
 ·subst h0;rw [h,Nat.sub_zero,Nat.mod_self]
 ·rw [Nat.mod_eq_of_lt (by omega)] at h;exact zV hb hp h e
theorem uv {a b c d:Nat} (h:1+2*a+b%2=1+2*c+d%2):a=c∧b%2=d%2:=by omega
theorem m9 (x y:F):pX (.a x y)=1+2*x.val+y.val%2:=rfl
theorem oA (a b:Nat):1+2*a+b%2≠0:=by omega
theorem uw {p q:Pt} (hp:On p) (hq:On q) (h:pX p=pX q):p=q:=by
 cases p with
 | o =>
  cases q with
  | o=>rfl
  | a x y=>rw [m9] at h;exact absurd h.symm (oA _ _)
 | a x1 y1 =>
  cases q with
  | o=>rw [m9] at h;exact absurd h (oA _ _)
  | a x2 y2 =>
   rw [m9,m9] at h
   obtain ⟨h1,h3⟩:=uv h
   have hx:x1=x2:=Fin.ext h1
   subst hx
   by_cases hn:y1 = -y2
   ·have hy:y1=y2:=Fin.ext (zW y2.isLt (by decide +kernel) (by rw [hn,Fin.neg_def]) h3)
    rw [hy]
   ·rw [jZ hp hq hn]
def oB:Prop:=∀ x:F,x*x*x+7≠0
theorem yl (h:oB) {p:Pt} (hp:On p) (e:p.add p = .o):p = .o:=by
 cases p with
 | o=>rfl
 | a x y =>
  rw [cK] at e
  by_cases hn:x=x∧y = -y
  ·exfalso
   have e2:2*y=0:=by have:=hn.2;grind -lia -linarith
   have e3:=du e2 two
   have hp':y*y=x*x*x+7:=hp
   rw [e3] at hp'
   exact h x (by rw [←hp'];rfl)
  ·rw [if_neg hn] at e;cases e
structure Base (n:Nat) (g:Pt):Prop where
 on:On g
 ord:smul n g = .o
 low:∀ k,0<k→k<n→smul k g≠.o
 odd:n%2=1
 big:231584178474632390847141970017375815706539969331281128078915168015817669343327<3*n
theorem Base.inj {n:Nat} {g:Pt} (h:Base n g) {i j:Nat} (hi:i<n) (hj:j<n) (e:smul i g=smul j g):i=j:=by
 have key:∀ i j,i<n→j<n→i<j→smul i g=smul j g→False:=by
  intro i j _ hj hlt e
  have e1:smul i g=(smul i g).add (smul (j-i) g):=by
   rw [←smul_add h.on,Nat.add_sub_of_le (Nat.le_of_lt hlt)];exact e
  have e2:(smul i g).add .o=(smul i g).add (smul (j-i) g):=by rw [add_o];exact e1
  have e3:=Pt.left (smul_on h.on i) on_o (smul_on h.on _) e2
  exact h.low (j-i) (by omega) (by omega) e3.symm
 rcases Nat.lt_trichotomy i j with hlt|heq|hgt
 ·exact (key i j hi hj hlt e).elim
 ·exact heq
 ·exact (key j i hj hi hgt e.symm).elim
theorem Base.neg {n:Nat} {g:Pt} (h:Base n g) {i:Nat} (hi:i≤n):(smul i g).neg=smul (n-i) g:=by
 have e:(smul i g).add (smul (n-i) g)=(smul i g).add (smul i g).neg:=by
  rw [←smul_add h.on,Nat.add_sub_of_le hi,h.ord,eo]
 exact (Pt.left (smul_on h.on i) (smul_on h.on _) (bS (smul_on h.on i)) e).symm
theorem Base.mod {n:Nat} {g:Pt} (h:Base n g) (k:Nat):smul k g=smul (k%n) g:=by
 have e:=Nat.div_add_mod k n
 conv=>lhs;rw [←e]
 rw [smul_add h.on,smul_mul h.on,h.ord,smul_o];rfl
def Of (g p:Pt):Prop:=∃ k,p=smul k g
theorem Base.of_neg {n:Nat} {g p:Pt} (h:Base n g) (hn:0<n) (hp:Of g p):Of g p.neg:=by
 obtain ⟨k,rfl⟩:=hp
 rw [h.mod k,h.neg (Nat.le_of_lt (Nat.mod_lt k hn))]
 exact ⟨_,rfl⟩
theorem Base.of_add {n:Nat} {g p q:Pt} (h:Base n g) (hp:Of g p) (hq:Of g q):Of g (p.add q):=by
 obtain ⟨k,rfl⟩:=hp;obtain ⟨l,rfl⟩:=hq
 exact ⟨k+l,(smul_add h.on k l).symm⟩
theorem Base.half {n:Nat} {g p:Pt} (hz:oB) (h:Base n g) (hp:On p) (h2:Of g (p.add p)):Of g p:=by
 obtain ⟨k,hk⟩:=h2
 have:∃ j,smul k g=smul (j+j) g:=by
  have:=h.odd
  by_cases hk2:k%2=0
  ·exact ⟨k/2,by rw [show k/2+k/2=k by omega]⟩
  ·refine ⟨(k+n)/2,?_⟩
   rw [show (k+n)/2+(k+n)/2=k+n by omega,smul_add h.on,h.ord,add_o]
 obtain ⟨j,hj⟩:=this
 have hjn:=bS (smul_on h.on j)
 have e:(p.add (smul j g).neg).add (p.add (smul j g).neg) = .o:=by
  rw [Pt.four hp hjn hp hjn,←j5 two (smul_on h.on j) (smul_on h.on j),hk,hj,smul_add h.on,eo]
 have e1:=yl hz (Pt.on hp hjn) e
 have e2:p=smul j g:=by
  have:p.add (smul j g).neg=(smul j g).add (smul j g).neg:=by rw [e1,eo]
  exact Pt.right hjn hp (smul_on h.on j) this
 exact ⟨j,e2⟩
theorem Base.all {n:Nat} {g:Pt} (hz:oB) (h:Base n g) {p:Pt} (hp:On p):Of g p:=by
 have hn:0<n:=by have:=h.odd;omega
 apply Classical.byContradiction
 intro hno
 have hpn:=bS hp
 have neg_no:¬Of g p.neg:=fun hc=>hno (by have:=h.of_neg hn hc;rwa [fo] at this)
 have two_no:¬Of g (p.add p):=fun hc=>hno (h.half hz hp hc)
 have twn_no:¬Of g (p.neg.add p.neg):=fun hc=>two_no (by
  have:=h.of_neg hn hc
  rw [j5 two hpn hpn,fo] at this;exact this)
 let e:Nat→Pt:=fun j=>if j=0 then .o else if j=1 then p else p.neg
 have eon:∀ j,On (e j):=by
  intro j;show On (if j=0 then .o else if j=1 then p else p.neg)
  split
  ·exact on_o
  ·split
   ·exact hp
   ·exact hpn
 -- a difference of two of the ut
 have diff:∀ a b,a<3→b<3→a≠b→¬Of g ((e a).add (e b).neg):=by
  intro a b ha hb hab
  have e0:e 0 = .o:=rfl
  have e1:e 1=p:=rfl
  have e2:e 2=p.neg:=rfl
  have c:(a=0∨a=1∨a=2)∧(b=0∨b=1∨b=2):=by omega
  obtain ⟨ca,cb⟩:=c
  rcases ca with rfl|rfl|rfl<;>rcases cb with rfl|rfl|rfl
  ·exact absurd rfl hab
  ·rw [e0,e1,qQ];exact neg_no
  ·rw [e0,e2,qQ,fo];exact hno
  ·rw [e0,e1];show ¬Of g (p.add .o);rw [add_o];exact hno
  ·exact absurd rfl hab
  ·rw [e1,e2,fo];exact two_no
  ·rw [e0,e2];show ¬Of g (p.neg.add .o);rw [add_o];exact neg_no
  ·rw [e1,e2];exact twn_no
  ·exact absurd rfl hab
 have hb:=h.big
 have:=php 231584178474632390847141970017375815706539969331281128078915168015817669343327 (3*n)
  (fun i=>pX ((smul (i/3) g).add (e (i%3)))) (fun i _=>wT _) ?_
 ·omega
 ·intro i j hi hj hc
  have hc':pX ((smul (i/3) g).add (e (i%3)))=pX ((smul (j/3) g).add (e (j%3))):=hc
  have A:=smul_on h.on (i/3)
  have B:=smul_on h.on (j/3)
  have he:=uw (Pt.on A (eon _)) (Pt.on B (eon _)) hc'
  by_cases hm:i%3=j%3
  ·rw [hm] at he
   have:=h.inj (by omega) (by omega) (Pt.right (eon _) A B he)
   omega
  ·exfalso
   refine diff _ _ (Nat.mod_lt i (by omega)) (Nat.mod_lt j (by omega)) hm ?_
   -- e a-e b=B-A
   have hx:(e (i%3)).add (e (j%3)).neg=(smul (j/3) g).add (smul (i/3) g).neg:=by
    have An:=bS A
    have En:=bS (eon (j%3))
    have l:((smul (i/3) g).add (e (i%3))).add ((smul (i/3) g).neg.add (e (j%3)).neg)=(e (i%3)).add (e (j%3)).neg:=by
     rw [Pt.four A (eon _) An En,eo,qQ]
    have r:((smul (j/3) g).add (e (j%3))).add ((smul (i/3) g).neg.add (e (j%3)).neg)=(smul (j/3) g).add (smul (i/3) g).neg:=by
     rw [Pt.four B (eon _) An En,eo,add_o]
    rw [←l,he,r]
   rw [hx]
   exact h.of_add ⟨_,rfl⟩ (h.of_neg hn ⟨_,rfl⟩)
theorem Base.zero {n:Nat} {g:Pt} (hz:oB) (h:Base n g) {p:Pt} (hp:On p):smul n p = .o:=by
 obtain ⟨k,rfl⟩:=h.all hz hp
 rw [←smul_mul h.on,Nat.mul_comm,smul_mul h.on,h.ord,smul_o]
structure J where
 x:F
 y:F
 z:F
def J.pt (t:J):Pt:=EC.pt t.x t.y t.z
def J.o:J:=⟨0,0,0⟩
def jd (t:J):J:=if t.z=0 then t else ⟨dx t.x t.y,dy t.x t.y,dz t.y t.z⟩
def ja (t u:J):J :=
 if t.z=0 then u else if u.z=0 then t else
 if run t.x t.z u.x u.z=0 then (if rise t.y t.z u.y u.z=0 then jd t else J.o) else
  ⟨ax t.x u.z (run t.x t.z u.x u.z) (rise t.y t.z u.y u.z),ay t.x t.y u.z (run t.x t.z u.x u.z) (rise t.y t.z u.y u.z),az t.z u.z (run t.x t.z u.x u.z)⟩
theorem J.pt_o:J.o.pt = .o:=EC.pt_o rfl
theorem jd_pt {t:J} (h:On t.pt):(jd t).pt=t.pt.add t.pt:=by
 unfold jd
 by_cases hz:t.z=0
 ·rw [if_pos hz]
  have e:t.pt = .o:=EC.pt_o hz
  rw [e];rfl
 ·rw [if_neg hz];exact yj two hz h
theorem ja_pt {t u:J} (h:On t.pt) (h':On u.pt):(ja t u).pt=t.pt.add u.pt:=by
 unfold ja
 by_cases hz:t.z=0
 ·rw [if_pos hz]
  have e:t.pt = .o:=EC.pt_o hz
  rw [e];rfl
 ·rw [if_neg hz]
  by_cases hu:u.z=0
  ·rw [if_pos hu]
   have e:u.pt = .o:=EC.pt_o hu
   rw [e,add_o]
  ·rw [if_neg hu]
   obtain ⟨a,b,c⟩:=yk two hz hu h h'
   by_cases hr:run t.x t.z u.x u.z=0
   ·rw [if_pos hr]
    by_cases hs:rise t.y t.z u.y u.z=0
    ·rw [if_pos hs,jd_pt h]
     have e:u.pt=t.pt:=b hr hs
     rw [e]
    ·rw [if_neg hs,J.pt_o];exact (c hr hs).symm
   ·rw [if_neg hr];exact a hr
def jm:Nat→Nat→J→J
 | 0,_,_=>J.o
 | f+1,k,t=>if k%2=1 then ja (jd (jm f (k/2) t)) t else jd (jm f (k/2) t)
theorem jm_pt {t:J} (h:On t.pt):∀ f k,k<2 ^ f→(jm f k t).pt=smul k t.pt
 | 0,k,hk=>by
  have:k=0:=by rw [Nat.pow_zero] at hk;omega
  subst this;exact J.pt_o
 | f+1,k,hk=>by
  have ih:=jm_pt h f (k/2) (by rw [Nat.pow_succ] at hk;omega)
  have hon:On (jm f (k/2) t).pt:=by rw [ih];exact smul_on h _
  have e2:(jd (jm f (k/2) t)).pt=smul (k/2+k/2) t.pt:=by rw [jd_pt hon,ih,smul_add h]
  unfold jm
  split
  ·next ho =>
   rw [ja_pt (by rw [e2];exact smul_on h _) h,e2]
   conv=>rhs;rw [show k=k/2+k/2+1 by omega]
   rfl
  ·next ho =>
   rw [e2];congr 1;omega
def gJ:J:=⟨55066263022277343669578718895168534326250603453777594175500187360389116729240,32670510020758816978083085130507043184471273380659243275938904335757337482424,1⟩
theorem zX:gJ.z≠0:=by decide +kernel
theorem ym:gJ.y*gJ.y=gJ.x*gJ.x*gJ.x+7:=by decide +kernel
theorem gJ_pt:gJ.pt = .a gJ.x gJ.y:=by
 have e:gJ.z=1:=rfl
 refine pt_of zX ?_ ?_
 ·rw [e];grind -lia -linarith
 ·rw [e];grind -lia -linarith
theorem gJ_on:On gJ.pt:=by rw [gJ_pt];exact ym
theorem qR:(jm 256 115792089237316195423570985008687907852837564279074904382605163141518161494337 gJ).z=0:=by decide +kernel
theorem ux {p x a e:Nat} (hp:NT.Prime p) (he:p-1=3*e) (hx:¬p∣x) (ha:x*x*x%p=a%p):a ^ e%p=1:=by
 have h:=NT.fermat hp hx
 rw [he,Nat.pow_mul] at h
 rw [Nat.pow_mod,←ha,←Nat.pow_mod,show x*x*x=x ^ 3 by rw [Nat.pow_succ,Nat.pow_succ,Nat.pow_succ,Nat.pow_zero,Nat.one_mul]]
 exact h
theorem uy:NT.pm 115792089237316195423570985008687907853269984665640564039457584007908834671663 256 115792089237316195423570985008687907853269984665640564039457584007908834671656 38597363079105398474523661669562635951089994888546854679819194669302944890554≠1:=by decide +kernel
theorem wU:((115792089237316195423570985008687907853269984665640564039457584007908834671656:F)+7)=0:=by decide +kernel
theorem wV:(115792089237316195423570985008687907853269984665640564039457584007908834671656:F).val=115792089237316195423570985008687907853269984665640564039457584007908834671656:=by decide +kernel
theorem no_two_p:oB:=by
 intro x h
 have hx:x*x*x=(115792089237316195423570985008687907853269984665640564039457584007908834671656:F):=by
  have:=wU
  generalize (115792089237316195423570985008687907853269984665640564039457584007908834671656:F)=a at *
  grind -lia -linarith
 have hv:x.val*x.val*x.val%115792089237316195423570985008687907853269984665640564039457584007908834671663=115792089237316195423570985008687907853269984665640564039457584007908834671656%115792089237316195423570985008687907853269984665640564039457584007908834671663:=by
  have e1:=congrArg Fin.val hx
  rw [wV,Fin.val_mul,Fin.val_mul,Nat.mod_mul_mod] at e1
  rw [e1]
 have hn:¬115792089237316195423570985008687907853269984665640564039457584007908834671663∣x.val:=by
  intro ⟨q,hq⟩
  have h0:x.val=0:=by
   have:=x.isLt
   rcases Nat.eq_zero_or_pos q with h0|h0
   ·rw [hq,h0,Nat.mul_zero]
   ·omega
  rw [h0] at hv
  exact absurd hv (by decide +kernel)
 have c:=ux (e:=38597363079105398474523661669562635951089994888546854679819194669302944890554) NT.prime_115792089237316195423570985008687907853269984665640564039457584007908834671663 (by decide +kernel) hn hv
 exact uy ((NT.pm_eq _ _ _ _ (by decide +kernel)).trans c)
theorem wW {n i k q:Nat} {g:Pt} (hg:On g) (h0:g≠.o) (hn:smul n g = .o) (e:k*i=n*q+1):smul k g≠.o:=by
 intro hk
 have a:=smul_mul hg k i
 rw [hk,smul_o,e,smul_add hg,smul_mul hg,hn,smul_o,smul_one] at a
 exact h0 a
theorem inv_n {x:Int} (x0:0≤x) (h:ac nN x≠0):ac nN (x*aR nN x)=1:=by
 have e:=ek zg x0 h
 unfold aR
 rw [Int.mul_comm,gu nN x (by decide),show nN-2+1=nN-1 by decide];exact e
theorem wX {k n:Nat} {i:Int} (i0:0≤i) (h:(k:Int)*i%(n:Int)=1):∃ j q,k*j=n*q+1:=by
 obtain ⟨j,rfl⟩:=Int.eq_ofNat_of_zero_le i0
 refine ⟨j,k*j/n,?_⟩
 have e:((k*j%n:Nat):Int)=1:=by rw [Int.natCast_emod,Int.natCast_mul];exact h
 have:=Nat.div_add_mod (k*j) n
 omega
theorem nN_is:nN=((115792089237316195423570985008687907852837564279074904382605163141518161494337:Nat):Int):=rfl
theorem base_g:Base 115792089237316195423570985008687907852837564279074904382605163141518161494337 gJ.pt where
 on:=gJ_on
 ord:=by
  rw [←jm_pt gJ_on 256 _ (by decide +kernel)]
  exact EC.pt_o qR
 low:=by
  intro k h0 hk
  have hm:ac nN (k:Int)=(k:Int):=cw (by omega) (by rw [nN_is];omega)
  have e:=inv_n (x:=(k:Int)) (by omega) (by rw [hm];omega)
  unfold ac at e
  rw [nN_is] at e
  obtain ⟨j,q,hj⟩:=wX (ef eN _ _).1 e
  refine wW gJ_on ?_ ?_ hj
  ·rw [gJ_pt];intro h;cases h
  ·rw [←jm_pt gJ_on 256 _ (by decide +kernel)]
   exact EC.pt_o qR
 odd:=by decide +kernel
 big:=by decide +kernel
theorem ord_all {p:Pt} (hp:On p):smul 115792089237316195423570985008687907852837564279074904382605163141518161494337 p = .o:=base_g.zero no_two_p hp
end Go.Proofs.YtnnnaajgjniiaaaGreatDoor.EC
namespace Go.Proofs.YtnnnaajgjniiaaaGreatDoor
open Go.RowKit Go.Sort
theorem wY {x y z:Int} (C0:Hid (∀ w,Calls Tryz.prog 84 #[.agg #[.int .u64 (l0 x),.int .u64 (l1 x),.int .u64 (l2 x),.int .u64 (l3 x),.int .u64 (l0 y),.int .u64 (l1 y),.int .u64 (l2 y),.int .u64 (l3 y),.int .u64 (l0 z),.int .u64 (l1 z),.int .u64 (l2 z),.int .u64 (l3 z)]] w fun e w'=>e = .returned (.bool true)∧Below w.heap.size w w')) (w:World) :
  Calls Tryz.prog 79 #[.agg #[.int .u64 (l0 x),.int .u64 (l1 x),.int .u64 (l2 x),.int .u64 (l3 x),.int .u64 (l0 y),.int .u64 (l1 y),.int .u64 (l2 y),.int .u64 (l3 y),.int .u64 (l0 z),.int .u64 (l1 z),.int .u64 (l2 z),.int .u64 (l3 z)]] w fun e w'=>e = .returned (.agg #[.int .u64 (l0 x),.int .u64 (l1 x),.int .u64 (l2 x),.int .u64 (l3 x),.int .u64 (l0 y),.int .u64 (l1 y),.int .u64 (l2 y),.int .u64 (l3 y),.int .u64 (l0 z),.int .u64 (l1 z),.int .u64 (l2 z),.int .u64 (l3 z)])∧Below w.heap.size w w':=by
 go_enter Tryz.func79,Tryz.ntmps79
 go_wp2_with fail
 refine aa (fun W=>Below w.heap.size w W∧Thr W w.heap.size x y z∧aI W (w.heap.size+1)) ⟨by repeat (first|with_reducible exact Below.refl _ _|with_reducible refine Below.alloc ?_ (by first|omega|(simp;done)|(simp;omega)) _),(Thr.new rfl).alloc _,aI.new (by simp)⟩ ?_
 rintro W ⟨B,hT,hR⟩
 have o3:w.heap.size≤w.heap.size+1:=by omega
 generalize w.heap.size+1=br at *
 with_reducible refine (C0.out _).mono ?_
 rintro e w1 ⟨rfl,hb⟩
 replace B:=B.trans (hb.mono B.size)
 replace hR:=hR.keep hb;replace hT:=hT.keep hb
 have gT:=hT.cells
 clear hb W hT
 have gR:=hR.cells;have fR:=hR.free
 go_wp2
 simp [bodyPost,results,Tryz.results79,go_sem,gR]
 repeat (first|with_reducible exact B|with_reducible refine Below.setCell ?_ o3 _)
theorem yn {x y z x2 y2 z2:Int} (C0:Hid (∀ w,Calls Tryz.prog 84 #[.agg #[.int .u64 (l0 x),.int .u64 (l1 x),.int .u64 (l2 x),.int .u64 (l3 x),.int .u64 (l0 y),.int .u64 (l1 y),.int .u64 (l2 y),.int .u64 (l3 y),.int .u64 (l0 z),.int .u64 (l1 z),.int .u64 (l2 z),.int .u64 (l3 z)]] w fun e w'=>e = .returned (.bool true)∧Below w.heap.size w w')) (w:World) :
  Calls Tryz.prog 80 #[.agg #[.int .u64 (l0 x),.int .u64 (l1 x),.int .u64 (l2 x),.int .u64 (l3 x),.int .u64 (l0 y),.int .u64 (l1 y),.int .u64 (l2 y),.int .u64 (l3 y),.int .u64 (l0 z),.int .u64 (l1 z),.int .u64 (l2 z),.int .u64 (l3 z)],.agg #[.int .u64 (l0 x2),.int .u64 (l1 x2),.int .u64 (l2 x2),.int .u64 (l3 x2),.int .u64 (l0 y2),.int .u64 (l1 y2),.int .u64 (l2 y2),.int .u64 (l3 y2),.int .u64 (l0 z2),.int .u64 (l1 z2),.int .u64 (l2 z2),.int .u64 (l3 z2)]] w fun e w'=>e = .returned (.agg #[.int .u64 (l0 x2),.int .u64 (l1 x2),.int .u64 (l2 x2),.int .u64 (l3 x2),.int .u64 (l0 y2),.int .u64 (l1 y2),.int .u64 (l2 y2),.int .u64 (l3 y2),.int .u64 (l0 z2),.int .u64 (l1 z2),.int .u64 (l2 z2),.int .u64 (l3 z2)])∧Below w.heap.size w w':=by
 go_enter Tryz.func80,Tryz.ntmps80
 go_wp2_with fail
 refine aa (fun W=>Below w.heap.size w W∧Thr W (w.heap.size+1) x2 y2 z2∧aI W (w.heap.size+1+1)) ⟨by repeat (first|with_reducible exact Below.refl _ _|with_reducible refine Below.alloc ?_ (by first|omega|(simp;done)|(simp;omega)) _),(Thr.new (by simp)).alloc _,aI.new (by simp)⟩ ?_
 rintro W ⟨B,hT,hR⟩
 have o3:w.heap.size≤w.heap.size+1+1:=by omega
 generalize w.heap.size+1+1=br at *
 generalize w.heap.size+1=bo at *
 with_reducible refine (C0.out _).mono ?_
 rintro e w1 ⟨rfl,hb⟩
 replace B:=B.trans (hb.mono B.size)
 replace hR:=hR.keep hb;replace hT:=hT.keep hb
 have gT:=hT.cells
 clear hb W hT
 have gR:=hR.cells;have fR:=hR.free
 go_wp2
 simp [bodyPost,results,Tryz.results80,go_sem,gR]
 repeat (first|with_reducible exact B|with_reducible refine Below.setCell ?_ o3 _)
theorem yo {x y z x2 y2 z2:Int} (C0:Hid (∀ w,Calls Tryz.prog 84 #[.agg #[.int .u64 (l0 x),.int .u64 (l1 x),.int .u64 (l2 x),.int .u64 (l3 x),.int .u64 (l0 y),.int .u64 (l1 y),.int .u64 (l2 y),.int .u64 (l3 y),.int .u64 (l0 z),.int .u64 (l1 z),.int .u64 (l2 z),.int .u64 (l3 z)]] w fun e w'=>e = .returned (.bool false)∧Below w.heap.size w w')) (C1:Hid (∀ w,Calls Tryz.prog 84 #[.agg #[.int .u64 (l0 x2),.int .u64 (l1 x2),.int .u64 (l2 x2),.int .u64 (l3 x2),.int .u64 (l0 y2),.int .u64 (l1 y2),.int .u64 (l2 y2),.int .u64 (l3 y2),.int .u64 (l0 z2),.int .u64 (l1 z2),.int .u64 (l2 z2),.int .u64 (l3 z2)]] w fun e w'=>e = .returned (.bool true)∧Below w.heap.size w w')) (w:World) :
  Calls Tryz.prog 80 #[.agg #[.int .u64 (l0 x),.int .u64 (l1 x),.int .u64 (l2 x),.int .u64 (l3 x),.int .u64 (l0 y),.int .u64 (l1 y),.int .u64 (l2 y),.int .u64 (l3 y),.int .u64 (l0 z),.int .u64 (l1 z),.int .u64 (l2 z),.int .u64 (l3 z)],.agg #[.int .u64 (l0 x2),.int .u64 (l1 x2),.int .u64 (l2 x2),.int .u64 (l3 x2),.int .u64 (l0 y2),.int .u64 (l1 y2),.int .u64 (l2 y2),.int .u64 (l3 y2),.int .u64 (l0 z2),.int .u64 (l1 z2),.int .u64 (l2 z2),.int .u64 (l3 z2)]] w fun e w'=>e = .returned (.agg #[.int .u64 (l0 x),.int .u64 (l1 x),.int .u64 (l2 x),.int .u64 (l3 x),.int .u64 (l0 y),.int .u64 (l1 y),.int .u64 (l2 y),.int .u64 (l3 y),.int .u64 (l0 z),.int .u64 (l1 z),.int .u64 (l2 z),.int .u64 (l3 z)])∧Below w.heap.size w w':=by
 go_enter Tryz.func80,Tryz.ntmps80
 go_wp2_with fail
 refine aa (fun W=>Below w.heap.size w W∧Thr W w.heap.size x y z∧Thr W (w.heap.size+1) x2 y2 z2∧aI W (w.heap.size+1+1)) ⟨by repeat (first|with_reducible exact Below.refl _ _|with_reducible refine Below.alloc ?_ (by first|omega|(simp;done)|(simp;omega)) _),((Thr.new rfl).alloc _).alloc _,(Thr.new (by simp)).alloc _,aI.new (by simp)⟩ ?_
 rintro W ⟨B,hT,hO,hR⟩
 have o3:w.heap.size≤w.heap.size+1+1:=by omega
 generalize w.heap.size+1+1=br at *
 generalize w.heap.size+1=bo at *
 with_reducible refine (C0.out _).mono ?_
 rintro e w1 ⟨rfl,hb⟩
 replace B:=B.trans (hb.mono B.size)
 replace hR:=hR.keep hb;replace hT:=hT.keep hb;replace hO:=hO.keep hb
 clear hb W
 have gO:=hO.cells
 go_wp2_with fail
 refine aa (fun W=>Below w.heap.size w W∧Thr W w.heap.size x y z∧aI W br) ⟨B,hT,hR⟩ ?_
 clear B hT hO hR gO
 rintro W ⟨B,hT,hR⟩
 with_reducible refine (C1.out _).mono ?_
 rintro e w2 ⟨rfl,hb⟩
 replace B:=B.trans (hb.mono B.size)
 replace hR:=hR.keep hb;replace hT:=hT.keep hb
 have gT:=hT.cells
 clear hb W hT
 have gR:=hR.cells;have fR:=hR.free
 go_wp2
 simp [bodyPost,results,Tryz.results80,go_sem,gR]
 repeat (first|with_reducible exact B|with_reducible refine Below.setCell ?_ o3 _)
open EC in
def J3 (x y z:Int):EC.J:=⟨EC.fp x,EC.fp y,EC.fp z⟩
theorem mz {x:Int} (h:EC.Low x) (h0:x≠0):EC.fp x≠0:=fun e=>h0 (EC.fp_inj h ⟨by decide,by decide⟩ (by rw [e,EC.fp_zero]))
theorem kQ {x y z:Int} (hx:EC.Low x) (hy:EC.Low y) (hz:EC.Low z):∃ x' y' z',EC.Low x'∧EC.Low y'∧EC.Low z'∧J3 x' y' z'=EC.jd (J3 x y z) ∧
  ∀ w,Mds w→Calls Tryz.prog 79 #[.agg #[.int .u64 (l0 x),.int .u64 (l1 x),.int .u64 (l2 x),.int .u64 (l3 x),.int .u64 (l0 y),.int .u64 (l1 y),.int .u64 (l2 y),.int .u64 (l3 y),.int .u64 (l0 z),.int .u64 (l1 z),.int .u64 (l2 z),.int .u64 (l3 z)]] w fun e w'=>e = .returned (.agg #[.int .u64 (l0 x'),.int .u64 (l1 x'),.int .u64 (l2 x'),.int .u64 (l3 x'),.int .u64 (l0 y'),.int .u64 (l1 y'),.int .u64 (l2 y'),.int .u64 (l3 y'),.int .u64 (l0 z'),.int .u64 (l1 z'),.int .u64 (l2 z'),.int .u64 (l3 z')])∧Below w.heap.size w w':=by
 by_cases h0:z=0
 ·refine ⟨x,y,z,hx,hy,hz,?_,fun w _=>wY (fun w=>?_) w⟩
  ·unfold EC.jd
   rw [if_pos (by show EC.fp z=0;rw [h0,EC.fp_zero])]
  ·have:=cL (x:=x) (y:=y) hz.num w
   rw [decide_eq_true h0] at this;exact this
 ·have C0:Hid (∀ w,Calls Tryz.prog 84 #[.agg #[.int .u64 (l0 x),.int .u64 (l1 x),.int .u64 (l2 x),.int .u64 (l3 x),.int .u64 (l0 y),.int .u64 (l1 y),.int .u64 (l2 y),.int .u64 (l3 y),.int .u64 (l0 z),.int .u64 (l1 z),.int .u64 (l2 z),.int .u64 (l3 z)]] w fun e w'=>e = .returned (.bool false)∧Below w.heap.size w w'):=fun w=>by
   have:=cL (x:=x) (y:=y) hz.num w
   rw [decide_eq_false h0] at this;exact this
  refine ⟨_,_,_,EC.low_mod _,EC.low_mod _,EC.low_mod _,?_,fun w hm=>rX C0 (fun w hm=>aO hy.num w hm) (fun w hm=>aO (ag am _) w hm) (fun w hm=>aO hx.num w hm)
   (fun w hm=>b8 (ag am _) w hm) (fun w hm=>jc (ag am _) (ag am _) w hm) (fun w hm=>aA hx.num (ag am _) w hm) (fun w hm=>b8 (ag am _) w hm) (fun w hm=>b8 (ag am _) w hm)
   (fun w hm=>aO (ag am _) w hm) (fun w hm=>b8 (ag am _) w hm) (fun w hm=>aZ (ag am _) (ag am _) w hm) (fun w hm=>aZ (ag am _) (ag am _) w hm) (fun w hm=>aA (ag am _) (ag am _) w hm)
   (fun w hm=>b8 (ag am _) w hm) (fun w hm=>b8 (ag am _) w hm) (fun w hm=>b8 (ag am _) w hm) (fun w hm=>aZ (ag am _) (ag am _) w hm) (fun w hm=>aA hy.num hz.num w hm) (fun w hm=>b8 (ag am _) w hm) w hm⟩
  unfold EC.jd
  rw [if_neg (show ¬(J3 x y z).z=0 from mz hz h0)]
  unfold J3
  simp only [EC.fp_mod,EC.fp_mul,EC.fp_add,EC.fp_sub]
  generalize EC.fp x=X;generalize EC.fp y=Y;generalize EC.fp z=Z
  congr 1
  ·unfold EC.dx;grind -lia -linarith
  ·unfold EC.dy EC.dx;grind -lia -linarith
  ·unfold EC.dz;grind -lia -linarith
theorem kT {x y z x2 y2 z2:Int} (hx:EC.Low x) (hy:EC.Low y) (hz:EC.Low z) (hx2:EC.Low x2) (hy2:EC.Low y2) (hz2:EC.Low z2):∃ x' y' z',EC.Low x'∧EC.Low y'∧EC.Low z'∧J3 x' y' z'=EC.ja (J3 x y z) (J3 x2 y2 z2) ∧
  ∀ w,Mds w→Calls Tryz.prog 80 #[.agg #[.int .u64 (l0 x),.int .u64 (l1 x),.int .u64 (l2 x),.int .u64 (l3 x),.int .u64 (l0 y),.int .u64 (l1 y),.int .u64 (l2 y),.int .u64 (l3 y),.int .u64 (l0 z),.int .u64 (l1 z),.int .u64 (l2 z),.int .u64 (l3 z)],.agg #[.int .u64 (l0 x2),.int .u64 (l1 x2),.int .u64 (l2 x2),.int .u64 (l3 x2),.int .u64 (l0 y2),.int .u64 (l1 y2),.int .u64 (l2 y2),.int .u64 (l3 y2),.int .u64 (l0 z2),.int .u64 (l1 z2),.int .u64 (l2 z2),.int .u64 (l3 z2)]] w fun e w'=>e = .returned (.agg #[.int .u64 (l0 x'),.int .u64 (l1 x'),.int .u64 (l2 x'),.int .u64 (l3 x'),.int .u64 (l0 y'),.int .u64 (l1 y'),.int .u64 (l2 y'),.int .u64 (l3 y'),.int .u64 (l0 z'),.int .u64 (l1 z'),.int .u64 (l2 z'),.int .u64 (l3 z')])∧Below w.heap.size w w':=by
 by_cases h0:z=0
 ·refine ⟨x2,y2,z2,hx2,hy2,hz2,?_,fun w _=>yn (fun w=>?_) w⟩
  ·unfold EC.ja
   rw [if_pos (show (J3 x y z).z=0 by show EC.fp z=0;rw [h0,EC.fp_zero])]
  ·have:=cL (x:=x) (y:=y) hz.num w
   rw [decide_eq_true h0] at this;exact this
 have C0:Hid (∀ w,Calls Tryz.prog 84 #[.agg #[.int .u64 (l0 x),.int .u64 (l1 x),.int .u64 (l2 x),.int .u64 (l3 x),.int .u64 (l0 y),.int .u64 (l1 y),.int .u64 (l2 y),.int .u64 (l3 y),.int .u64 (l0 z),.int .u64 (l1 z),.int .u64 (l2 z),.int .u64 (l3 z)]] w fun e w'=>e = .returned (.bool false)∧Below w.heap.size w w'):=fun w=>by
  have:=cL (x:=x) (y:=y) hz.num w
  rw [decide_eq_false h0] at this;exact this
 have n0:¬(J3 x y z).z=0:=mz hz h0
 by_cases h2:z2=0
 ·refine ⟨x,y,z,hx,hy,hz,?_,fun w _=>yo C0 (fun w=>?_) w⟩
  ·unfold EC.ja
   rw [if_neg n0,if_pos (show (J3 x2 y2 z2).z=0 by show EC.fp z2=0;rw [h2,EC.fp_zero])]
  ·have:=cL (x:=x2) (y:=y2) hz2.num w
   rw [decide_eq_true h2] at this;exact this
 have C1:Hid (∀ w,Calls Tryz.prog 84 #[.agg #[.int .u64 (l0 x2),.int .u64 (l1 x2),.int .u64 (l2 x2),.int .u64 (l3 x2),.int .u64 (l0 y2),.int .u64 (l1 y2),.int .u64 (l2 y2),.int .u64 (l3 y2),.int .u64 (l0 z2),.int .u64 (l1 z2),.int .u64 (l2 z2),.int .u64 (l3 z2)]] w fun e w'=>e = .returned (.bool false)∧Below w.heap.size w w'):=fun w=>by
  have:=cL (x:=x2) (y:=y2) hz2.num w
  rw [decide_eq_false h2] at this;exact this
 have n2:¬(J3 x2 y2 z2).z=0:=mz hz2 h2
 obtain ⟨h,eh⟩:∃ h,h=ac pN (ac pN (x2*ac pN (z*z))-ac pN (x*ac pN (z2*z2))):=⟨_,rfl⟩
 obtain ⟨r,er⟩:∃ r,r=ac pN (ac pN (y2*ac pN (ac pN (z*z)*z))-ac pN (y*ac pN (ac pN (z2*z2)*z2))):=⟨_,rfl⟩
 have lh:EC.Low h:=by rw [eh];exact EC.low_mod _
 have lr:EC.Low r:=by rw [er];exact EC.low_mod _
 have fh:EC.fp h=EC.run (J3 x y z).x (J3 x y z).z (J3 x2 y2 z2).x (J3 x2 y2 z2).z:=by
  rw [eh];simp only [EC.fp_mod,EC.fp_mul,EC.fp_sub];rfl
 have fr:EC.fp r=EC.rise (J3 x y z).y (J3 x y z).z (J3 x2 y2 z2).y (J3 x2 y2 z2).z:=by
  rw [er];simp only [EC.fp_mod,EC.fp_mul,EC.fp_sub];rfl
 by_cases hh:h=0
 ·have e0:EC.run (J3 x y z).x (J3 x y z).z (J3 x2 y2 z2).x (J3 x2 y2 z2).z=0:=by rw [←fh,hh,EC.fp_zero]
  have he:∀ w,(Op.equalIn 10000 24 (.agg #[.int .u64 (l0 h),.int .u64 (l1 h),.int .u64 (l2 h),.int .u64 (l3 h)]) (.agg #[.int .u64 0,.int .u64 0,.int .u64 0,.int .u64 0])).run Tryz.prog w = .ok true w:=fun w=>by
   have:=fD lh.num (m:=0) ⟨by decide,by decide⟩ w
   obtain ⟨z0,z1,z2,z3⟩:=ap
   rw [z0,z1,z2,z3,decide_eq_true hh] at this
   exact this
  have key:∃ x' y' z',EC.Low x'∧EC.Low y'∧EC.Low z'∧J3 x' y' z'=EC.ja (J3 x y z) (J3 x2 y2 z2)∧Hid (∀ w,Mds w→Calls Tryz.prog 125 #[.agg #[.int .u64 (l0 x),.int .u64 (l1 x),.int .u64 (l2 x),.int .u64 (l3 x),.int .u64 (l0 y),.int .u64 (l1 y),.int .u64 (l2 y),.int .u64 (l3 y),.int .u64 (l0 z),.int .u64 (l1 z),.int .u64 (l2 z),.int .u64 (l3 z)],.agg #[.int .u64 (l0 r),.int .u64 (l1 r),.int .u64 (l2 r),.int .u64 (l3 r)]] w fun e w'=>e = .returned (.agg #[.int .u64 (l0 x'),.int .u64 (l1 x'),.int .u64 (l2 x'),.int .u64 (l3 x'),.int .u64 (l0 y'),.int .u64 (l1 y'),.int .u64 (l2 y'),.int .u64 (l3 y'),.int .u64 (l0 z'),.int .u64 (l1 z'),.int .u64 (l2 z'),.int .u64 (l3 z')])∧Below w.heap.size w w'):=by
   by_cases hr:r=0
   ·obtain ⟨x',y',z',l1,l2,l3,ej,cj⟩:=kQ hx hy hz
    refine ⟨x',y',z',l1,l2,l3,?_,fun w hm=>?_⟩
    ·rw [ej];unfold EC.ja
     rw [if_neg n0,if_neg n2,if_pos e0,if_pos (by rw [←fr,hr,EC.fp_zero])]
    ·rw [hr];exact pP cj w hm
   ·refine ⟨0,0,0,⟨by decide,by decide⟩,⟨by decide,by decide⟩,⟨by decide,by decide⟩,?_,fun w _=>rS lr.num hr w⟩
    unfold EC.ja
    rw [if_neg n0,if_neg n2,if_pos e0,if_neg (by rw [←fr];exact mz lr hr)]
    unfold J3 EC.J.o
    rw [EC.fp_zero]
  obtain ⟨x',y',z',l1,l2,l3,ej,cj⟩:=key
  subst eh;subst er
  exact ⟨x',y',z',l1,l2,l3,ej,fun w hm=>mx C0 C1 (fun w hm=>aO hz.num w hm) (fun w hm=>aO hz2.num w hm) (fun w hm=>aA hx.num (ag am _) w hm) (fun w hm=>aA (ag am _) hz2.num w hm) (fun w hm=>aA hy.num (ag am _) w hm) (fun w hm=>aA hx2.num (ag am _) w hm) (fun w hm=>aZ (ag am _) (ag am _) w hm) (fun w hm=>aA (ag am _) hz.num w hm) (fun w hm=>aA hy2.num (ag am _) w hm) (fun w hm=>aZ (ag am _) (ag am _) w hm) (.inl ⟨he,cj⟩) w hm⟩
 ·have e0:¬EC.run (J3 x y z).x (J3 x y z).z (J3 x2 y2 z2).x (J3 x2 y2 z2).z=0:=by rw [←fh];exact mz lh hh
  have he:∀ w,(Op.equalIn 10000 24 (.agg #[.int .u64 (l0 h),.int .u64 (l1 h),.int .u64 (l2 h),.int .u64 (l3 h)]) (.agg #[.int .u64 0,.int .u64 0,.int .u64 0,.int .u64 0])).run Tryz.prog w = .ok false w:=fun w=>by
   have:=fD lh.num (m:=0) ⟨by decide,by decide⟩ w
   obtain ⟨z0,z1,z2,z3⟩:=ap
   rw [z0,z1,z2,z3,decide_eq_false hh] at this
   exact this
  subst eh;subst er
  refine ⟨_,_,_,EC.low_mod _,EC.low_mod _,EC.low_mod _,?_,fun w hm=>mx C0 C1 (fun w hm=>aO hz.num w hm) (fun w hm=>aO hz2.num w hm) (fun w hm=>aA hx.num (ag am _) w hm) (fun w hm=>aA (ag am _) hz2.num w hm) (fun w hm=>aA hy.num (ag am _) w hm) (fun w hm=>aA hx2.num (ag am _) w hm) (fun w hm=>aZ (ag am _) (ag am _) w hm) (fun w hm=>aA (ag am _) hz.num w hm) (fun w hm=>aA hy2.num (ag am _) w hm) (fun w hm=>aZ (ag am _) (ag am _) w hm) (.inr ⟨he,_,_,_,_,_,_,_,_,_,_,⟨(fun w hm=>aO (ag am _) w hm),(fun w hm=>aA (ag am _) (ag am _) w hm),(fun w hm=>aA (ag am _) (ag am _) w hm),(fun w hm=>aO (ag am _) w hm),(fun w hm=>aZ (ag am _) (ag am _) w hm),(fun w hm=>b8 (ag am _) w hm),(fun w hm=>aZ (ag am _) (ag am _) w hm),(fun w hm=>aZ (ag am _) (ag am _) w hm),(fun w hm=>aA (ag am _) (ag am _) w hm),(fun w hm=>aA (ag am _) (ag am _) w hm),(fun w hm=>aZ (ag am _) (ag am _) w hm),(fun w hm=>aA hz.num hz2.num w hm),(fun w hm=>aA (ag am _) (ag am _) w hm)⟩⟩) w hm⟩
  unfold EC.ja
  rw [if_neg n0,if_neg n2,if_neg e0,←fh,←fr]
  unfold J3
  simp only [EC.fp_mod,EC.fp_mul,EC.fp_add,EC.fp_sub]
  generalize EC.fp x=X;generalize EC.fp y=Y;generalize EC.fp z=Z;generalize EC.fp x2=X2;generalize EC.fp y2=Y2;generalize EC.fp z2=Z2
  generalize X2*(Z*Z)-X*(Z2*Z2)=H
  generalize Y2*(Z*Z*Z)-Y*(Z2*Z2*Z2)=R
  congr 1
  ·unfold EC.ax;grind -lia -linarith
  ·unfold EC.ay EC.ax;grind -lia -linarith
end Go.Proofs.YtnnnaajgjniiaaaGreatDoor
