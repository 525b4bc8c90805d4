import Derived.Test.YtjoandmehahfgaaGreatDoorFExp
import Derived.Test.YtjoandmehahfgaaGreatDoorMul2
import Derived.Test.YtjoandmehahfgaaGreatDoorAb
import Derived.Deep.RegionHeld3
import Derived.Laws.StructEq
set_option maxRecDepth 100000
set_option maxHeartbeats 8000000
namespace Go.Proofs.YtjoandmehahfgaaGreatDoor.NT
def Prime (p:Nat):Prop:=1<p∧∀ d,d∣p→d=1∨d=p
theorem jo {p a:Nat} (hp:Prime p) (h:¬p∣a):Nat.gcd p a=1:=by
 rcases hp.2 _ (Nat.gcd_dvd_left p a) with h1|h1
 ·exact h1
 ·exact absurd (h1 ▸ Nat.gcd_dvd_right p a) h
theorem prime_mul {p a b:Nat} (hp:Prime p) (h:p∣a*b):p∣a∨p∣b:=by
 by_cases ha:p∣a
 ·exact .inl ha
 ·exact .inr (Nat.Coprime.dvd_of_dvd_mul_left (jo hp ha) h)
theorem vw:∀ n:Nat,1<n→∃ q,Prime q∧q∣n:=by
 intro n
 induction n using Nat.strongRecOn with
 | ind n ih =>
  intro h
  by_cases hp:∀ d,d∣n→d=1∨d=n
  ·exact ⟨n,⟨h,hp⟩,Nat.dvd_refl n⟩
  ·obtain ⟨d,hd⟩:=Classical.not_forall.1 hp
   obtain ⟨hd,h12⟩:=Classical.not_imp.1 hd
   obtain ⟨h1,h2⟩:=not_or.1 h12
   have hpos:0<d:=Nat.pos_of_dvd_of_pos hd (by omega)
   have hle:=Nat.le_of_dvd (by omega) hd
   obtain ⟨q,hq,hqd⟩:=ih d (by omega) (by omega)
   exact ⟨q,hq,Nat.dvd_trans hqd hd⟩
def C:Nat→Nat→Nat
 | _,0=>1
 | 0,_+1=>0
 | n+1,k+1=>C n k+C n (k+1)
theorem pI (n:Nat):C n 0=1:=by cases n<;>rfl
theorem z6:∀ n k,n<k→C n k=0
 | 0,k+1,_=>rfl
 | n+1,k+1,h=>by rw [C,z6 n k (by omega),z6 n (k+1) (by omega)]
theorem xR:∀ n,C n n=1
 | 0=>rfl
 | n+1=>by rw [C,xR n,z6 n (n+1) (by omega)]
theorem tZ:∀ n k,(k+1)*C (n+1) (k+1)=(n+1)*C n k
 | 0,0=>by decide
 | 0,k+1=>by simp [C]
 | n+1,0=>by
  have h:=tZ n 0
  have h4:C (n+2) (0+1)=C (n+1) 0+C (n+1) (0+1):=rfl
  rw [pI] at h;rw [h4,pI];omega
 | n+1,k+1=>by
  have h1:=tZ n k
  have h2:=tZ n (k+1)
  have h3:C (n+1) (k+1)=C n k+C n (k+1):=rfl
  have h4:C (n+2) (k+2)=C (n+1) (k+1)+C (n+1) (k+2):=rfl
  rw [h4]
  have e:(k+1+1)*(C (n+1) (k+1)+C (n+1) (k+2))=(k+1)*C (n+1) (k+1)+C (n+1) (k+1)+(k+1+1)*C (n+1) (k+1+1):=by grind
  rw [e,h1,h2]
  grind
def S (n x:Nat):Nat→Nat
 | 0=>0
 | j+1=>S n x j+C n j*x ^ j
theorem xS (n x:Nat):∀ j,S (n+1) x (j+1)=S n x (j+1)+x*S n x j
 | 0=>by simp [S,pI]
 | j+1=>by
  have ih:=xS n x j
  have h3:C (n+1) (j+1)=C n j+C n (j+1):=rfl
  have e1:S (n+1) x (j+1+1)=S (n+1) x (j+1)+C (n+1) (j+1)*x ^ (j+1):=rfl
  have e2:S n x (j+1+1)=S n x (j+1)+C n (j+1)*x ^ (j+1):=rfl
  have e3:S n x (j+1)=S n x j+C n j*x ^ j:=rfl
  rw [e1,ih,h3,e2,e3,Nat.pow_succ]
  grind
theorem xT (x:Nat):∀ n,S n x (n+1)=(x+1) ^ n
 | 0=>by simp [S,C]
 | n+1=>by
  rw [xS,Nat.pow_succ,←xT x n]
  have e:S n x (n+1+1)=S n x (n+1)+C n (n+1)*x ^ (n+1):=rfl
  rw [e,z6 n (n+1) (by omega)]
  grind
theorem z7 {p k:Nat} (hp:Prime p) (h0:0<k) (h1:k<p):p∣C p k:=by
 obtain ⟨k,rfl⟩:∃ j,k=j+1:=⟨k-1,by omega⟩
 obtain ⟨m,rfl⟩:∃ m,p=m+1:=⟨p-1,by omega⟩
 have h:=tZ m k
 rcases prime_mul hp (⟨C m k,h⟩:m+1∣(k+1)*C (m+1) (k+1)) with h2|h2
 ·exact absurd (Nat.le_of_dvd (by omega) h2) (by omega)
 ·exact h2
theorem BE {p:Nat} (hp:Prime p) (x:Nat):∀ j,j<p→p∣S p x (j+1)-1∧1≤S p x (j+1)
 | 0,_=>by simp [S,pI]
 | j+1,h=>by
  obtain ⟨h1,h2⟩:=BE hp x j (by omega)
  have e1:S p x (j+1+1)=S p x (j+1)+C p (j+1)*x ^ (j+1):=rfl
  rw [e1]
  refine ⟨?_,by omega⟩
  have:=Nat.dvd_add h1 (Nat.dvd_mul_right_of_dvd (z7 hp (by omega) h) (x ^ (j+1)))
  rwa [show S p x (j+1)-1+C p (j+1)*x ^ (j+1)=S p x (j+1)+C p (j+1)*x ^ (j+1)-1 by omega] at this
theorem Ec {p:Nat} (hp:Prime p) (x:Nat):(x+1) ^ p%p=(x ^ p+1)%p:=by
 obtain ⟨m,rfl⟩:∃ m,p=m+1:=⟨p-1,by have:=hp.1;omega⟩
 rw [←xT]
 have e1:S (m+1) x (m+1+1)=S (m+1) x (m+1)+C (m+1) (m+1)*x ^ (m+1):=rfl
 obtain ⟨⟨c,h1⟩,h2⟩:=BE hp x m (by omega)
 rw [e1,xR,show S (m+1) x (m+1)=1+(m+1)*c by omega]
 rw [show 1+(m+1)*c+1*x ^ (m+1)=x ^ (m+1)+1+(m+1)*c by omega,Nat.add_mul_mod_self_left]
theorem m8 {p:Nat} (hp:Prime p):∀ x,x ^ p%p=x%p
 | 0=>by rw [Nat.zero_pow (by have:=hp.1;omega)]
 | x+1=>by rw [Ec hp,Nat.add_mod,m8 hp x,←Nat.add_mod]
theorem sr {p b c:Nat} (hle:b≤c) (h:b%p=c%p):p∣c-b:=by
 have h1:=Nat.mod_add_div b p
 have h2:=Nat.mod_add_div c p
 refine ⟨c/p-b/p,?_⟩
 rw [Nat.mul_sub];omega
theorem ss {p b c:Nat} (hle:b≤c) (h:p∣c-b):b%p=c%p:=by
 obtain ⟨k,hk⟩:=h
 rw [show c=b+p*k by omega,Nat.add_mul_mod_self_left]
theorem fa {p a b c:Nat} (hp:Prime p) (ha:¬p∣a) (h:a*b%p=a*c%p):b%p=c%p:=by
 have key:∀ {b c:Nat},b≤c→a*b%p=a*c%p→b%p=c%p:=by
  intro b c hle h
  have hd:p∣a*c-a*b:=sr (Nat.mul_le_mul_left a hle) h
  rw [←Nat.mul_sub] at hd
  rcases prime_mul hp hd with h1|h1
  ·exact absurd h1 ha
  ·exact ss hle h1
 rcases Nat.le_total b c with hle|hle
 ·exact key hle h
 ·exact (key hle h.symm).symm
theorem fermat {p x:Nat} (hp:Prime p) (hx:¬p∣x):x ^ (p-1)%p=1:=by
 have h:=m8 hp x
 obtain ⟨m,rfl⟩:∃ m,p=m+1:=⟨p-1,by have:=hp.1;omega⟩
 rw [Nat.pow_succ,Nat.mul_comm] at h
 have:=fa (b:=x ^ m) (c:=1) hp hx (by rw [Nat.mul_one];exact h)
 rw [Nat.add_sub_cancel,this,Nat.mod_eq_of_lt hp.1]
theorem qG {m x k:Nat} (h1:1<m) (h:x%m=1):x ^ k%m=1:=by
 rw [Nat.pow_mod,h,Nat.one_pow,Nat.mod_eq_of_lt h1]
theorem mc {m x a k:Nat} (h1:1<m) (h:x ^ a%m=1):x ^ (a*k)%m=1:=by
 rw [Nat.pow_mul];exact qG h1 h
theorem z8 {m x:Nat} (h1:1<m):∀ a b:Nat,x ^ a%m=1→x ^ b%m=1→x ^ Nat.gcd a b%m=1:=by
 intro a
 induction a using Nat.strongRecOn with
 | ind a ih =>
  intro b ha hb
  by_cases h0:a=0
  ·subst h0;rwa [Nat.gcd_zero_left]
  ·rw [Nat.gcd_rec]
   refine ih (b%a) (Nat.mod_lt _ (by omega)) a ?_ ha
   have h2:=Nat.mod_add_div b a
   rw [←h2,Nat.pow_add,Nat.mul_mod,mc h1 ha,Nat.mul_one,Nat.mod_mod] at hb
   exact hb
theorem Dx {N q a l:Nat} (hq:Prime q) (hd:q∣N-1) (ha:a ^ (N-1)%N=1) (hN:1<N)
  (hg:Nat.gcd (a ^ ((N-1)/q)%N+(N-1)) N=1) (hl:Prime l) (hlN:l∣N):q∣l-1:=by
 obtain ⟨k,hk⟩:=hlN
 obtain ⟨j,hj⟩:=hd
 have hq1:=hq.1
 have hl1:=hl.1
 have hdiv:(N-1)/q=j:=by rw [hj,Nat.mul_div_cancel_left _ (by omega)]
 rw [hdiv] at hg
 have toL:∀ z,z%N%l=z%l:=fun z=>by rw [hk,Nat.mod_mul_right_mod]
 have hal:a ^ (N-1)%l=1:=by rw [←toL,ha,Nat.mod_eq_of_lt hl1]
 have hnb:a ^ j%l≠1:=by
  intro h
  have:l∣a ^ j%N+(N-1):=by
   apply Nat.dvd_of_mod_eq_zero
   have e:(N-1+1)%l=0:=by rw [Nat.sub_add_cancel (by omega),hk,Nat.mul_mod_right]
   have e2:(1+(N-1))%l=(1+(N-1)%l)%l:=by rw [Nat.add_mod 1,Nat.mod_eq_of_lt hl1]
   rw [Nat.add_mod,toL,h,←e2,Nat.add_comm,e]
  have h2:=Nat.dvd_gcd this (⟨k,hk⟩:l∣N)
  rw [hg] at h2
  have:=Nat.le_of_dvd (by omega) h2
  omega
 have hla:¬l∣a:=by
  intro h
  have h2:a ^ (N-1)%l=0:=Nat.mod_eq_zero_of_dvd (Nat.dvd_trans h (show a∣a ^ (N-1) by rw [show N-1=(N-2)+1 by omega,Nat.pow_succ];exact Nat.dvd_mul_left _ _))
  omega
 have hf:=fermat hl hla
 apply Classical.byContradiction
 intro hnd
 have hc:=jo hq hnd
 have hb1:(a ^ j) ^ q%l=1:=by rw [←Nat.pow_mul,Nat.mul_comm,←hj];exact hal
 have hb2:(a ^ j) ^ (l-1)%l=1:=by rw [←Nat.pow_mul,Nat.mul_comm];exact mc hl1 hf
 have:=z8 hl1 q (l-1) hb1 hb2
 rw [hc,Nat.pow_one] at this
 exact hnb this
theorem dr {N F:Nat} (hN:1<N) (hF:N≤F*F) (h:∀ l,Prime l→l∣N→F∣l-1):Prime N:=by
 refine ⟨hN,fun d hd=>?_⟩
 apply Classical.byContradiction
 intro hno
 obtain ⟨h1,h2⟩:=not_or.1 hno
 obtain ⟨e,he⟩:=hd
 have hd0:d≠0:=by intro z;subst z;omega
 have he0:e≠0:=by intro z;subst z;omega
 have he1:e≠1:=by intro z;subst z;omega
 have big:∀ d,1<d→d∣N→F<d:=by
  intro d h1 hd
  obtain ⟨l,hl,hld⟩:=vw d h1
  have h3:=Nat.le_of_dvd (by omega) hld
  have h4:=h l hl (Nat.dvd_trans hld hd)
  have h5:=hl.1
  have h6:=Nat.le_of_dvd (by omega) h4
  omega
 have b1:=big d (by omega) ⟨e,he⟩
 have b2:=big e (by omega) ⟨d,by rw [he,Nat.mul_comm]⟩
 have:(F+1)*(F+1)≤d*e:=Nat.mul_le_mul b1 b2
 have e3:(F+1)*(F+1)=F*F+2*F+1:=by grind
 omega
def pm (m:Nat):Nat→Nat→Nat→Nat
 | 0,_,_=>1%m
 | k+1,x,e=>let h:=pm m k (x*x%m) (e/2);if e%2=1 then x*h%m else h
theorem pm_eq (m:Nat):∀ k x e,e<2 ^ k→pm m k x e=x ^ e%m
 | 0,x,e,h=>by rw [show e=0 by simpa using h];rfl
 | k+1,x,e,h=>by
  have ih:=pm_eq m k (x*x%m) (e/2) (by rw [Nat.pow_succ] at h;omega)
  have e1:(x*x%m) ^ (e/2)%m=x ^ (2*(e/2))%m:=by
   rw [←Nat.pow_mod,Nat.pow_mul,Nat.pow_two]
  unfold pm
  simp only [ih,e1]
  by_cases h2:e%2=1
  ·rw [if_pos h2,Nat.mul_mod,Nat.mod_mod,←Nat.mul_mod,Nat.mul_comm,←Nat.pow_succ,show (2*(e/2)).succ=e by omega]
  ·rw [if_neg h2,show 2*(e/2)=e by omega]
theorem kh {N q a l:Nat} (k:Nat) (hq:Prime q) (hb:(decide (1<N)&&decide (N<2 ^ k)&&decide ((N-1)%q=0)&&decide (pm N k a (N-1)=1)&&decide (Nat.gcd (pm N k a ((N-1)/q)+(N-1)) N=1))=true)
  (hl:Prime l) (hlN:l∣N):q∣l-1:=by
 simp only [Bool.and_eq_true,decide_eq_true_eq] at hb
 obtain ⟨⟨⟨⟨h1,h2⟩,h3⟩,h4⟩,h5⟩:=hb
 rw [pm_eq _ _ _ _ (by omega)] at h4
 rw [pm_eq _ _ _ _ (by have:=Nat.div_le_self (N-1) q;omega)] at h5
 exact Dx hq (Nat.dvd_of_mod_eq_zero h3) h4 h1 h5 hl hlN
def qH (n:Nat):Nat→Nat→Bool
 | 0,d=>decide (n<d*d)
 | k+1,d=>if n<d*d then true else if n%d=0 then false else qH n k (d+1)
theorem m9 (n:Nat):∀ k d,qH n k d=true→∀ c,d≤c→c*c≤n→¬c∣n
 | 0,d,h,c,hc,hcn,_=>by
  have h1:n<d*d:=by simpa [qH] using h
  have:=Nat.mul_le_mul hc hc
  omega
 | k+1,d,h,c,hc,hcn,hd=>by
  unfold qH at h
  by_cases h1:n<d*d
  ·have:=Nat.mul_le_mul hc hc
   omega
  ·rw [if_neg h1] at h
   by_cases h2:n%d=0
   ·rw [if_pos h2] at h;cases h
   ·rw [if_neg h2] at h
    by_cases h3:c=d
    ·subst h3;exact h2 (Nat.mod_eq_zero_of_dvd hd)
    ·exact m9 n k (d+1) h c (by omega) hcn hd
theorem cL {n:Nat} (k:Nat) (h:(decide (1<n)&&qH n k 2)=true):Prime n:=by
 simp only [Bool.and_eq_true,decide_eq_true_eq] at h
 obtain ⟨h1,h2⟩:=h
 refine ⟨h1,fun d hd=>?_⟩
 apply Classical.byContradiction
 intro hno
 obtain ⟨n1,n2⟩:=not_or.1 hno
 obtain ⟨e,he⟩:=hd
 have hd0:d≠0:=by intro z;subst z;omega
 have he0:e≠0:=by intro z;subst z;omega
 have he1:e≠1:=by intro z;subst z;omega
 rcases Nat.le_total d e with hle|hle
 ·exact m9 n k 2 h2 d (by omega) (by rw [he];exact Nat.mul_le_mul_left d hle) ⟨e,he⟩
 ·exact m9 n k 2 h2 e (by omega) (by rw [he];exact Nat.mul_le_mul_right e hle) ⟨d,by rw [he,Nat.mul_comm]⟩
theorem mq:Prime 107590001:=cL 10374 (by decide +kernel)
theorem oB:Prime 7240687:=cL 2692 (by decide +kernel)
theorem qI:Prime 96557:=cL 312 (by decide +kernel)
theorem ce:Prime 255515944373312847190720520512484175977 :=
 dr (F:=107590001*7240687*96557) (by decide +kernel) (by decide +kernel) fun l hl hd=>Nat.Coprime.mul_dvd_of_dvd_of_dvd (by decide +kernel) (Nat.Coprime.mul_dvd_of_dvd_of_dvd (by decide +kernel) (kh (a:=2) 128 mq (by decide +kernel) hl hd) (kh (a:=2) 128 oB (by decide +kernel) hl hd)) (kh (a:=2) 128 qI (by decide +kernel) hl hd)
theorem aQ:Prime 205115282021455665897114700593932402728804164701536103180137503955397371 :=
 dr (F:=255515944373312847190720520512484175977) (by decide +kernel) (by decide +kernel) fun l hl hd=>kh (a:=2) 237 ce (by decide +kernel) hl hd
theorem prime_115792089237316195423570985008687907853269984665640564039457584007908834671663:Prime 115792089237316195423570985008687907853269984665640564039457584007908834671663 :=
 dr (F:=205115282021455665897114700593932402728804164701536103180137503955397371) (by decide +kernel) (by decide +kernel) fun l hl hd=>kh (a:=2) 256 aQ (by decide +kernel) hl hd
theorem oC:Prime 1627771:=cL 1277 (by decide +kernel)
theorem jB:Prime 297159362677 :=
 dr (F:=1627771) (by decide +kernel) (by decide +kernel) fun l hl hd=>kh (a:=2) 39 oC (by decide +kernel) hl hd
theorem qJ:Prime 28181:=cL 169 (by decide +kernel)
theorem mr:Prime 545358713 :=
 dr (F:=28181) (by decide +kernel) (by decide +kernel) fun l hl hd=>kh (a:=2) 30 qJ (by decide +kernel) hl hd
theorem cU:Prime 29047611873442575647497758179 :=
 dr (F:=297159362677*545358713) (by decide +kernel) (by decide +kernel) fun l hl hd=>Nat.Coprime.mul_dvd_of_dvd_of_dvd (by decide +kernel) (kh (a:=2) 95 jB (by decide +kernel) hl hd) (kh (a:=2) 95 mr (by decide +kernel) hl hd)
theorem cI:Prime 341948486974166000522343609283189 :=
 dr (F:=29047611873442575647497758179) (by decide +kernel) (by decide +kernel) fun l hl hd=>kh (a:=2) 109 cU (by decide +kernel) hl hd
theorem ng:Prime 44706919:=cL 6688 (by decide +kernel)
theorem pJ:Prime 120233:=cL 348 (by decide +kernel)
theorem eF:Prime 174723607534414371449 :=
 dr (F:=44706919*120233) (by decide +kernel) (by decide +kernel) fun l hl hd=>Nat.Coprime.mul_dvd_of_dvd_of_dvd (by decide +kernel) (kh (a:=2) 68 ng (by decide +kernel) hl hd) (kh (a:=2) 68 pJ (by decide +kernel) hl hd)
theorem prime_115792089237316195423570985008687907852837564279074904382605163141518161494337:Prime 115792089237316195423570985008687907852837564279074904382605163141518161494337 :=
 dr (F:=341948486974166000522343609283189*174723607534414371449) (by decide +kernel) (by decide +kernel) fun l hl hd=>Nat.Coprime.mul_dvd_of_dvd_of_dvd (by decide +kernel) (kh (a:=2) 256 cI (by decide +kernel) hl hd) (kh (a:=2) 256 eF (by decide +kernel) hl hd)
end Go.Proofs.YtjoandmehahfgaaGreatDoor.NT
namespace Go.Proofs.YtjoandmehahfgaaGreatDoor
def Prm (m:Int):Prop:=∃ M:Nat,NT.Prime M∧m=(M:Int)
theorem qK:Prm pN:=⟨_,NT.prime_115792089237316195423570985008687907853269984665640564039457584007908834671663,rfl⟩
theorem Dy:Prm nN:=⟨_,NT.prime_115792089237316195423570985008687907852837564279074904382605163141518161494337,rfl⟩
theorem Prm.pos {m:Int} (h:Prm m):1<m:=by
 obtain ⟨M,hM,rfl⟩:=h
 have:=hM.1
 omega
theorem Prm.dvd {m a b:Int} (h:Prm m) (hd:m∣a*b):m∣a∨m∣b:=by
 obtain ⟨M,hM,rfl⟩:=h
 have h1:M∣a.natAbs*b.natAbs:=by
  have:=Int.natAbs_dvd_natAbs.2 hd
  rwa [Int.natAbs_natCast,Int.natAbs_mul] at this
 rcases NT.prime_mul hM h1 with h2|h2
 ·exact .inl (Int.natAbs_dvd_natAbs.1 (by rwa [Int.natAbs_natCast]))
 ·exact .inr (Int.natAbs_dvd_natAbs.1 (by rwa [Int.natAbs_natCast]))
theorem Prm.zero {m a b:Int} (h:Prm m) (hd:a*b%m=0):a%m=0∨b%m=0:=by
 rcases h.dvd (Int.dvd_of_emod_eq_zero hd) with h1|h1
 ·exact .inl (Int.emod_eq_zero_of_dvd h1)
 ·exact .inr (Int.emod_eq_zero_of_dvd h1)
theorem Prm.fermat {m x:Int} (h:Prm m) (x0:0≤x) (hx:x%m≠0):x ^ (m-1).toNat%m=1:=by
 obtain ⟨M,hM,rfl⟩:=h
 obtain ⟨X,rfl⟩:=Int.eq_ofNat_of_zero_le x0
 have h1:¬M∣X:=fun hd=>hx (Int.emod_eq_zero_of_dvd (Int.natCast_dvd_natCast.2 hd))
 have h2:=NT.fermat hM h1
 have h3:((M:Int)-1).toNat=M-1:=by have:=hM.1;omega
 rw [h3]
 exact_mod_cast congrArg (Nat.cast (R:=Int)) h2
theorem Prm.one {m y:Int} (h:Prm m) (y0:0≤y) (y1:y<m) (e:y*y%m=1):y=1∨y=m-1:=by
 have hp:=h.pos
 have h1:(y-1)*(y+1)%m=0:=by
  have e1:(y-1)*(y+1)=y*y-1:=by rw [Int.sub_mul,Int.mul_add];omega
  rw [e1,Int.sub_emod,e,Int.emod_eq_of_lt (by decide) hp];simp
 rcases h.zero h1 with h2|h2
 ·left
  by_cases z:y=0
  ·subst z
   simp at e
  ·rw [Int.emod_eq_of_lt (by omega) (by omega)] at h2;omega
 ·right
  by_cases z:y=m-1
  ·exact z
  ·rw [Int.emod_eq_of_lt (by omega) (by omega)] at h2;omega
theorem nh (m x:Int) {a b:Int} (ha:0≤a) (hb:0≤b):ab m (aL m x a*aL m x b)=aL m x (a+b):=by
 unfold ab aL
 rw [←Int.mul_emod,show (a+b).toNat=a.toNat+b.toNat by omega,Int.pow_add]
theorem su (m x y e:Int):aL m (x*y) e=ab m (aL m x e*aL m y e):=by
 unfold ab aL
 rw [←Int.mul_emod,Int.mul_pow]
theorem xU {m:Int} (x e:Int):aL m (ab m x) e=aL m x e:=by
 unfold ab aL
 generalize e.toNat=n
 induction n with
 | zero=>rw [Int.pow_zero,Int.pow_zero]
 | succ n ih=>rw [Int.pow_succ,Int.pow_succ,Int.mul_emod,ih,Int.emod_emod_of_dvd _ (Int.dvd_refl m),←Int.mul_emod]
theorem fA {m x:Int} (h:Prm m) (x0:0≤x) (hx:ab m x≠0):aL m x (m-1)=1:=h.fermat x0 hx
theorem iB {m:Int} (x:Int):ab m (ab m x)=ab m x:=Int.emod_emod_of_dvd _ (Int.dvd_refl m)
theorem cM {m:Int} (x y:Int):ab m (ab m x*y)=ab m (x*y):=by
 unfold ab;rw [Int.mul_emod,Int.emod_emod_of_dvd _ (Int.dvd_refl m),←Int.mul_emod]
theorem cN {m:Int} (x y:Int):ab m (x*ab m y)=ab m (x*y):=by
 unfold ab;rw [Int.mul_emod,Int.emod_emod_of_dvd _ (Int.dvd_refl m),←Int.mul_emod]
theorem jC {m:Int} (x y:Int):ab m (ab m x+y)=ab m (x+y):=by
 unfold ab;rw [Int.add_emod,Int.emod_emod_of_dvd _ (Int.dvd_refl m),←Int.add_emod]
theorem fc {m:Int} (x y:Int):ab m (x+ab m y)=ab m (x+y):=by
 unfold ab;rw [Int.add_emod,Int.emod_emod_of_dvd _ (Int.dvd_refl m),←Int.add_emod]
theorem cO {m x:Int} (h0:0≤x) (h1:x<m):ab m x=x:=Int.emod_eq_of_lt h0 h1
def qN:Int:=28948022309329048855892746252171976963317496166410141009864396001977208667916
def hN:Int:=57896044618658097711785492504343953926634992332820282019728792003954417335831
theorem BG:pN%2=1:=by decide
def xV (x:Int):Int:=aL pN x hN
theorem xW {x:Int} (x0:0≤x) (h:ab pN x≠0):xV x=1∨xV x=pN-1:=by
 obtain ⟨a,b⟩:=fy am x hN
 refine qK.one a b ?_
 have e:=nh pN x (a:=hN) (b:=hN) (by decide) (by decide)
 rw [show hN+hN=pN-1 by decide,fA qK x0 h] at e
 exact e
theorem Aa (x:Int):ab pN (aL pN x qN*aL pN x qN)=ab pN (xV x*x):=by
 rw [nh pN x (by decide) (by decide),show qN+qN=hN+1 by decide]
 exact (i7 pN x (by decide)).symm
theorem Ab {x:Int} (x0:0≤x):(ab pN (aL pN x qN*aL pN x qN)=ab pN x↔ab pN x=0∨xV x=1):=by
 rw [Aa]
 by_cases hz:ab pN x=0
 ·constructor
  ·exact fun _=>.inl hz
  ·intro _
   rw [←cN,hz,Int.mul_zero];rfl
 ·rcases xW x0 hz with h|h
  ·rw [h,Int.one_mul];simp
  ·have t:=dl am x
   have e:ab pN ((pN-1)*x)=pN-ab pN x:=by
    have e1:(pN-1)*x=pN-ab pN x+pN*(x-x/pN-1):=by
     have:=Int.emod_add_mul_ediv x pN
     unfold ab
     rw [Int.sub_mul,Int.mul_sub,Int.mul_sub];omega
    rw [e1]
    unfold ab at t hz ⊢
    rw [Int.add_mul_emod_self_left]
    exact Int.emod_eq_of_lt (by omega) (by omega)
   rw [h,e]
   constructor
   ·intro h2
    have:=BG
    omega
   ·intro h2
    rcases h2 with h2|h2
    ·exact absurd h2 hz
    ·exact absurd h2 (by decide)
theorem Ck:uO pN 2=28948022309329048855892746252171976963317496166410141009864396001977208667915:=by decide
theorem Dz:fM 28948022309329048855892746252171976963317496166410141009864396001977208667915 1=qN:=by decide
end Go.Proofs.YtjoandmehahfgaaGreatDoor
namespace Go.Proofs.YtjoandmehahfgaaGreatDoor.EC
abbrev F:=Fin 115792089237316195423570985008687907853269984665640564039457584007908834671663
theorem pN_is:pN=115792089237316195423570985008687907853269984665640564039457584007908834671663:=rfl
def fp (n:Int):F:=⟨(n%115792089237316195423570985008687907853269984665640564039457584007908834671663).toNat,by omega⟩
theorem fp_val (n:Int):(fp n).val=(n%115792089237316195423570985008687907853269984665640564039457584007908834671663).toNat:=rfl
theorem la (n:Int):((fp n).val:Int)=n%115792089237316195423570985008687907853269984665640564039457584007908834671663:=by
 rw [fp_val];omega
theorem fp_mod (n:Int):fp (ab pN n)=fp n:=by
 apply Fin.ext;rw [fp_val,fp_val];unfold ab;rw [pN_is];omega
theorem Ac {x y:Int} (h:fp x=fp y):x%115792089237316195423570985008687907853269984665640564039457584007908834671663=y%115792089237316195423570985008687907853269984665640564039457584007908834671663:=by
 rw [←la,←la,h]
def Low (x:Int):Prop:=0≤x∧x<pN
theorem low_mod (x:Int):Low (ab pN x):=dl am x
theorem Low.num {x:Int} (h:Low x):Num x:=by
 obtain ⟨a,b⟩:=h;rw [pN_is] at b;unfold Num;omega
theorem fp_inj {x y:Int} (hx:Low x) (hy:Low y) (h:fp x=fp y):x=y:=by
 have e:=Ac h
 obtain ⟨a,b⟩:=hx;obtain ⟨c,d⟩:=hy
 rw [pN_is] at b d
 omega
theorem fp_add (x y:Int):fp (x+y)=fp x+fp y:=by
 apply Fin.ext;rw [Fin.val_add,fp_val,fp_val,fp_val];omega
theorem fp_sub (x y:Int):fp (x-y)=fp x-fp y:=by
 apply Fin.ext;rw [Fin.sub_def]
 show (fp (x-y)).val=(115792089237316195423570985008687907853269984665640564039457584007908834671663-(fp y).val+(fp x).val)%115792089237316195423570985008687907853269984665640564039457584007908834671663
 rw [fp_val,fp_val,fp_val];omega
theorem fp_mul (x y:Int):fp (x*y)=fp x*fp y:=by
 apply Fin.ext
 have e:((fp x*fp y).val:Int)=((fp (x*y)).val:Int):=by
  rw [Fin.val_mul,Int.natCast_emod,Int.natCast_mul,la,la,la]
  exact (Int.mul_emod _ _ _).symm
 omega
theorem Ad (a:F):fp (a.val:Int)=a:=by
 apply Fin.ext;rw [fp_val];have:=a.isLt;omega
theorem fp_zero:fp 0=0:=by decide +kernel
theorem fp_one:fp 1=1:=by decide +kernel
theorem fp_low (a:F):Low (a.val:Int):=⟨by omega,by have:=a.isLt;rw [pN_is];omega⟩
def iv (a:F):F:=fp (cQ pN (a.val:Int))
theorem Ae {x:Int} (x0:0≤x) (h:ab pN x≠0):ab pN (x*cQ pN x)=1:=by
 have e:=fA qK x0 h
 unfold cQ
 rw [Int.mul_comm,i7 pN x (by decide),show pN-2+1=pN-1 by decide];exact e
theorem xX {a:F} (ha:a≠0):a*iv a=1:=by
 have h:ab pN (a.val:Int)≠0:=by
  intro e;apply ha;apply Fin.ext
  show a.val=0
  unfold ab at e;rw [pN_is] at e;have:=a.isLt;omega
 have e:=Ae (by omega) h
 unfold iv
 conv=>lhs;lhs;rw [←Ad a]
 rw [←fp_mul,←fp_mod,e,fp_one]
theorem fp_inv {x:Int} (h:Low x):fp (cQ pN x)=iv (fp x):=by
 unfold iv;rw [la]
 obtain ⟨a,b⟩:=h
 rw [pN_is] at b
 rw [Int.emod_eq_of_lt a b]
end Go.Proofs.YtjoandmehahfgaaGreatDoor.EC
namespace Go.Proofs.YtjoandmehahfgaaGreatDoor
open Go.RowKit Go.Sort
def me (r:Int):Int:=if r%2=1 then ab pN (0-r) else r
def ck (x:Int):Int:=if ab pN (aL pN x qN*aL pN x qN)=ab pN x then me (aL pN x qN) else 0
def ni (x:Int):Int:=if ab pN (aL pN x qN*aL pN x qN)=ab pN x then 0 else 41
theorem Ed (r:Int):jy r 0=r%2:=by
 unfold jy
 rw [if_neg (by decide),show (0:Int).toNat=0 from rfl]
 simp
theorem qL {x:Int} (hx:Num x) (w:World) (hm:Mds w) :
  Rt 63 #[U4 x] w (.tuple #[U4 (ck x),.int .i64 (ni x)]):=by
 have nr:Num (aL pN x qN):=dV am x qN
 have na:Num 28948022309329048855892746252171976963317496166410141009864396001977208667915:=⟨by decide,by decide⟩
 have n1:Num 1:=⟨by decide,by decide⟩
 refine vi (a:=28948022309329048855892746252171976963317496166410141009864396001977208667915) (q:=qN) (z:=fm 28948022309329048855892746252171976963317496166410141009864396001977208667915 1) (r:=aL pN x qN) (s:=ab pN (aL pN x qN*aL pN x qN)) (t:=ab pN x) (b:=aL pN x qN%2) (u:=ab pN (0-aL pN x qN)) rfl rfl ?_ (eX ⟨by decide,by decide⟩) ?_ (qx am hx ⟨by decide,by decide⟩) (j8 am nr nr) (dP am hx) (ag am _) (ag am _) ?_ ?_ ?_ w hm
 ·intro w;have:=tR (k:=2) am.num w;rw [Ck] at this;exact this
 ·intro w;have:=jO na n1 w;rw [Dz] at this;exact this
 ·intro w;have:=pD (k:=0) nr w;rw [Ed] at this;exact this
 ·intro w
  have:=mT (x:=0) am ⟨by decide,by decide⟩ nr w
  obtain ⟨z0,z1,z2,z3⟩:=ap
  ((try unfold Rt at this);(try unfold U4 at this);(try unfold P9 at this);rw [z0,z1,z2,z3] at this)
  exact this
 ·unfold ck ni me
  by_cases h:ab pN (aL pN x qN*aL pN x qN)=ab pN x
  ·rw [if_pos h,if_pos h]
   rcases Int.emod_two_eq (aL pN x qN) with h2|h2
   ·exact .inr (.inl ⟨h,h2,by rw [if_neg (by omega)],rfl⟩)
   ·exact .inr (.inr ⟨h,h2,by rw [if_pos h2],rfl⟩)
  ·rw [if_neg h,if_neg h]
   exact .inl ⟨h,rfl,rfl⟩
open Go.RowKit
theorem ki {r:Int} (h0:0≤r) (h1:r<pN):me r%2=0∧0≤me r∧me r<pN∧(me r=r∨me r=ab pN (0-r)):=by
 have po:=BG
 unfold me
 by_cases h:r%2=1
 ·rw [if_pos h]
  have e:ab pN (0-r)=pN-r:=by
   unfold ab
   rw [show 0-r=pN-r+pN*(-1) by omega,Int.add_mul_emod_self_left]
   exact Int.emod_eq_of_lt (by omega) (by omega)
  rw [e]
  exact ⟨by omega,by omega,by omega,.inr rfl⟩
 ·rw [if_neg h]
  exact ⟨by omega,h0,h1,.inl rfl⟩
theorem nj {x:Int}:ab pN (0-ab pN (0-x))=ab pN x:=by
 have e:=fc (m:=pN) x 0
 unfold ab at *
 rw [Int.sub_emod,Int.emod_emod_of_dvd _ (Int.dvd_refl pN),←Int.sub_emod]
 congr 1;omega
theorem xY {r x:Int} (h:ab pN (r*r)=ab pN (x*x)):ab pN r=ab pN x∨ab pN r=ab pN (0-x):=by
 have e:(r-x)*(r+x)%pN=0:=by
  have e1:(r-x)*(r+x)=r*r-x*x:=by rw [Int.sub_mul,Int.mul_add,Int.mul_add,Int.mul_comm x r];omega
  unfold ab at h
  rw [e1,Int.sub_emod,h,Int.sub_self];rfl
 rcases qK.zero e with h1|h1
 ·exact .inl (Int.emod_eq_emod_iff_emod_sub_eq_zero.2 h1)
 ·refine .inr (Int.emod_eq_emod_iff_emod_sub_eq_zero.2 ?_)
  rw [←h1];congr 1;omega
theorem qO {x:Int} (x0:0≤x):ab pN (aL pN (ab pN (x*x)) qN*aL pN (ab pN (x*x)) qN)=ab pN (ab pN (x*x)):=by
 have v0:=(dl am (x*x)).1
 rw [Ab v0]
 by_cases hz:ab pN x=0
 ·left
  rw [iB,←cM,hz,Int.zero_mul];rfl
 ·right
  unfold xV
  rw [xU,su,nh pN x (by decide) (by decide),show hN+hN=pN-1 by decide,fA qK x0 hz]
theorem vy {x:Int} (x0:0≤x):ni (ab pN (x*x))=0∧(ck (ab pN (x*x))=ab pN x∨ab pN (0-ck (ab pN (x*x)))=ab pN x)∧ck (ab pN (x*x))%2=0∧0≤ck (ab pN (x*x))∧ck (ab pN (x*x))<pN:=by
 have h:=qO x0
 unfold ni ck
 rw [if_pos h,if_pos h]
 rw [iB] at h
 obtain ⟨r0,r1⟩:=fy am (ab pN (x*x)) qN
 obtain ⟨e0,e1,e2,e3⟩:=ki r0 r1
 refine ⟨rfl,?_,e0,e1,e2⟩
 have k:=xY h
 rw [cO r0 r1] at k
 generalize aL pN (ab pN (x*x)) qN=R at *
 rcases k with k|k<;>rcases e3 with e3|e3
 ·left;rw [e3,k]
 ·right;rw [e3,k,nj,iB]
 ·right;rw [e3,k,nj]
 ·left;rw [e3,k,nj]
theorem vA {x:Int} (h:ab pN (aL pN x qN*aL pN x qN)=ab pN x):ab pN (ck x*ck x)=ab pN x:=by
 unfold ck
 rw [if_pos h]
 obtain ⟨r0,r1⟩:=fy am x qN
 obtain ⟨_,_,_,e3⟩:=ki r0 r1
 rcases e3 with e3|e3
 ·rw [e3];exact h
 ·rw [e3,cM,cN,show (0-aL pN x qN)*(0-aL pN x qN)=aL pN x qN*aL pN x qN by rw [Int.zero_sub,Int.neg_mul_neg]]
  exact h
open Go.RowKit Go.Sort
theorem sv {x:Int} {i:Bool} (C1:Hid (∀ w,Mds w→Calls Tryz.prog 62 #[.agg #[.int .u64 (l0 x),.int .u64 (l1 x),.int .u64 (l2 x),.int .u64 (l3 x)]] w fun e w'=>e = .returned (.bool false)∧Below w.heap.size w w')) (w:World) (hm:Mds w) :
  Calls Tryz.prog 30 #[.agg #[.int .u64 (l0 x),.int .u64 (l1 x),.int .u64 (l2 x),.int .u64 (l3 x)],.bool i] w fun e w'=>e = .returned (.tuple #[.agg #[.int .u64 0,.int .u64 0,.int .u64 0,.int .u64 0,.int .u64 0,.int .u64 0,.int .u64 0,.int .u64 0,.bool false],.int .i64 50])∧Below w.heap.size w w':=by
 go_enter Tryz.func30,Tryz.ntmps30
 go_wp2_with fail
 refine aa (fun W=>Below w.heap.size w W∧Mds W∧ae W w.heap.size x∧Bk9 W (w.heap.size+1)) ⟨by repeat (first|with_reducible exact Below.refl _ _|with_reducible refine Below.alloc ?_ (by first|omega|(simp;done)|(simp;omega)) _),(hm.alloc _).alloc _,(ae.fresh (by simp)).alloc _,Bk9.new (by simp)⟩ ?_
 rintro W ⟨B,hD,hX,hR⟩
 have o3:w.heap.size≤w.heap.size+1:=by omega
 generalize w.heap.size+1=br at *
 with_reducible refine (C1.out _ hD).mono ?_
 rintro e w1 ⟨rfl,hb⟩
 replace B:=B.trans (hb.mono B.size)
 replace hD:=hD.keep hb;replace hX:=hX.keep hb;replace hR:=hR.keep hb
 clear hb W hD
 clear hX
 have gR:=hR.cells;have fR:=hR.free
 go_wp2
 simp [bodyPost,results,Tryz.results30,go_sem,gR]
 repeat (first|with_reducible exact B|with_reducible refine Below.setCell ?_ o3 _)
theorem sw {x c r e1:Int} {i:Bool} (C1:Hid (∀ w,Mds w→Calls Tryz.prog 62 #[.agg #[.int .u64 (l0 x),.int .u64 (l1 x),.int .u64 (l2 x),.int .u64 (l3 x)]] w fun e w'=>e = .returned (.bool true)∧Below w.heap.size w w')) (C2:Hid (∀ w,Mds w→Calls Tryz.prog 64 #[.agg #[.int .u64 (l0 x),.int .u64 (l1 x),.int .u64 (l2 x),.int .u64 (l3 x)]] w fun e w'=>e = .returned (.agg #[.int .u64 (l0 c),.int .u64 (l1 c),.int .u64 (l2 c),.int .u64 (l3 c)])∧Below w.heap.size w w')) (C3:Hid (∀ w,Mds w→Calls Tryz.prog 63 #[.agg #[.int .u64 (l0 c),.int .u64 (l1 c),.int .u64 (l2 c),.int .u64 (l3 c)]] w fun e w'=>e = .returned (.tuple #[.agg #[.int .u64 (l0 r),.int .u64 (l1 r),.int .u64 (l2 r),.int .u64 (l3 r)],.int .i64 e1])∧Below w.heap.size w w')) (he:e1≠0) (w:World) (hm:Mds w) :
  Calls Tryz.prog 30 #[.agg #[.int .u64 (l0 x),.int .u64 (l1 x),.int .u64 (l2 x),.int .u64 (l3 x)],.bool i] w fun e w'=>e = .returned (.tuple #[.agg #[.int .u64 0,.int .u64 0,.int .u64 0,.int .u64 0,.int .u64 0,.int .u64 0,.int .u64 0,.int .u64 0,.bool false],.int .i64 50])∧Below w.heap.size w w':=by
 go_enter Tryz.func30,Tryz.ntmps30
 go_wp2_with fail
 refine aa (fun W=>Below w.heap.size w W∧Mds W∧ae W w.heap.size x∧Bk9 W (w.heap.size+1)) ⟨by repeat (first|with_reducible exact Below.refl _ _|with_reducible refine Below.alloc ?_ (by first|omega|(simp;done)|(simp;omega)) _),(hm.alloc _).alloc _,(ae.fresh (by simp)).alloc _,Bk9.new (by simp)⟩ ?_
 rintro W ⟨B,hD,hX,hR⟩
 have o3:w.heap.size≤w.heap.size+1:=by omega
 generalize w.heap.size+1=br at *
 with_reducible refine (C1.out _ hD).mono ?_
 rintro e w1 ⟨rfl,hb⟩
 replace B:=B.trans (hb.mono B.size)
 replace hD:=hD.keep hb;replace hX:=hX.keep hb;replace hR:=hR.keep hb
 clear hb W
 have ghX:=hX.cells
 go_wp2_with fail
 refine aa (fun W=>Below w.heap.size w W∧Mds W∧ae W w.heap.size x∧Bk9 W br) ⟨B,hD,hX,hR⟩ ?_
 clear B hD hX hR ghX
 rintro W ⟨B,hD,hX,hR⟩
 with_reducible refine (C2.out _ hD).mono ?_
 rintro e w2 ⟨rfl,hb⟩
 replace B:=B.trans (hb.mono B.size)
 replace hD:=hD.keep hb;replace hX:=hX.keep hb;replace hR:=hR.keep hb
 clear hb W
 go_wp2_with fail
 refine aa (fun W=>Below w.heap.size w W∧Mds W∧ae W w.heap.size x∧Bk9 W br) ⟨B,hD,hX,hR⟩ ?_
 clear B hD hX hR
 rintro W ⟨B,hD,hX,hR⟩
 with_reducible refine (C3.out _ hD).mono ?_
 rintro e w3 ⟨rfl,hb⟩
 replace B:=B.trans (hb.mono B.size)
 replace hD:=hD.keep hb;replace hX:=hX.keep hb;replace hR:=hR.keep hb
 clear hb W hD hX
 have lr:=hR.lt
 have nr:w3.heap.size≠br:=by omega
 have nr':=nr.symm
 have gR:=fun o=>(hR.alloc o).cells;have fR:=fun o=>(hR.alloc o).free
 have BB:Hid (∀ o,Below w.heap.size w (w3.alloc o)):=fun o=>B.alloc B.size o
 clear B hR lr
 go_wp2
 simp [bodyPost,results,Tryz.results30,go_sem, *]
 repeat (first|with_reducible exact BB.out _|with_reducible refine Below.drew ?_|with_reducible refine Below.setCell ?_ (by with_reducible assumption) _)
theorem sC {x c r:Int} (C1:Hid (∀ w,Mds w→Calls Tryz.prog 62 #[.agg #[.int .u64 (l0 x),.int .u64 (l1 x),.int .u64 (l2 x),.int .u64 (l3 x)]] w fun e w'=>e = .returned (.bool true)∧Below w.heap.size w w')) (C2:Hid (∀ w,Mds w→Calls Tryz.prog 64 #[.agg #[.int .u64 (l0 x),.int .u64 (l1 x),.int .u64 (l2 x),.int .u64 (l3 x)]] w fun e w'=>e = .returned (.agg #[.int .u64 (l0 c),.int .u64 (l1 c),.int .u64 (l2 c),.int .u64 (l3 c)])∧Below w.heap.size w w')) (C3:Hid (∀ w,Mds w→Calls Tryz.prog 63 #[.agg #[.int .u64 (l0 c),.int .u64 (l1 c),.int .u64 (l2 c),.int .u64 (l3 c)]] w fun e w'=>e = .returned (.tuple #[.agg #[.int .u64 (l0 r),.int .u64 (l1 r),.int .u64 (l2 r),.int .u64 (l3 r)],.int .i64 0])∧Below w.heap.size w w')) (w:World) (hm:Mds w) :
  Calls Tryz.prog 30 #[.agg #[.int .u64 (l0 x),.int .u64 (l1 x),.int .u64 (l2 x),.int .u64 (l3 x)],.bool false] w fun e w'=>e = .returned (.tuple #[.agg #[.int .u64 (l0 x),.int .u64 (l1 x),.int .u64 (l2 x),.int .u64 (l3 x),.int .u64 (l0 r),.int .u64 (l1 r),.int .u64 (l2 r),.int .u64 (l3 r),.bool false],.int .i64 0])∧Below w.heap.size w w':=by
 go_enter Tryz.func30,Tryz.ntmps30
 go_wp2_with fail
 refine aa (fun W=>Below w.heap.size w W∧Mds W∧ae W w.heap.size x∧Bk9 W (w.heap.size+1)) ⟨by repeat (first|with_reducible exact Below.refl _ _|with_reducible refine Below.alloc ?_ (by first|omega|(simp;done)|(simp;omega)) _),(hm.alloc _).alloc _,(ae.fresh (by simp)).alloc _,Bk9.new (by simp)⟩ ?_
 rintro W ⟨B,hD,hX,hR⟩
 have o3:w.heap.size≤w.heap.size+1:=by omega
 generalize w.heap.size+1=br at *
 with_reducible refine (C1.out _ hD).mono ?_
 rintro e w1 ⟨rfl,hb⟩
 replace B:=B.trans (hb.mono B.size)
 replace hD:=hD.keep hb;replace hX:=hX.keep hb;replace hR:=hR.keep hb
 clear hb W
 have ghX:=hX.cells
 go_wp2_with fail
 refine aa (fun W=>Below w.heap.size w W∧Mds W∧ae W w.heap.size x∧Bk9 W br) ⟨B,hD,hX,hR⟩ ?_
 clear B hD hX hR ghX
 rintro W ⟨B,hD,hX,hR⟩
 with_reducible refine (C2.out _ hD).mono ?_
 rintro e w2 ⟨rfl,hb⟩
 replace B:=B.trans (hb.mono B.size)
 replace hD:=hD.keep hb;replace hX:=hX.keep hb;replace hR:=hR.keep hb
 clear hb W
 go_wp2_with fail
 refine aa (fun W=>Below w.heap.size w W∧Mds W∧ae W w.heap.size x∧Bk9 W br) ⟨B,hD,hX,hR⟩ ?_
 clear B hD hX hR
 rintro W ⟨B,hD,hX,hR⟩
 with_reducible refine (C3.out _ hD).mono ?_
 rintro e w3 ⟨rfl,hb⟩
 replace B:=B.trans (hb.mono B.size)
 replace hD:=hD.keep hb;replace hX:=hX.keep hb;replace hR:=hR.keep hb
 clear hb W hD
 have gX:=hX.allocs
 clear hX
 have lr:=hR.lt
 have nr:w3.heap.size≠br:=by omega
 have nr':=nr.symm
 have gR:=fun o=>(hR.alloc o).cells;have fR:=fun o=>(hR.alloc o).free
 have BB:Hid (∀ o,Below w.heap.size w (w3.alloc o)):=fun o=>B.alloc B.size o
 clear B hR lr
 go_wp2
 simp [bodyPost,results,Tryz.results30,go_sem, *]
 repeat (first|with_reducible exact BB.out _|with_reducible refine Below.drew ?_|with_reducible refine Below.setCell ?_ (by with_reducible assumption) _)
theorem vB {x c r s:Int} (C1:Hid (∀ w,Mds w→Calls Tryz.prog 62 #[.agg #[.int .u64 (l0 x),.int .u64 (l1 x),.int .u64 (l2 x),.int .u64 (l3 x)]] w fun e w'=>e = .returned (.bool true)∧Below w.heap.size w w')) (C2:Hid (∀ w,Mds w→Calls Tryz.prog 64 #[.agg #[.int .u64 (l0 x),.int .u64 (l1 x),.int .u64 (l2 x),.int .u64 (l3 x)]] w fun e w'=>e = .returned (.agg #[.int .u64 (l0 c),.int .u64 (l1 c),.int .u64 (l2 c),.int .u64 (l3 c)])∧Below w.heap.size w w')) (C3:Hid (∀ w,Mds w→Calls Tryz.prog 63 #[.agg #[.int .u64 (l0 c),.int .u64 (l1 c),.int .u64 (l2 c),.int .u64 (l3 c)]] w fun e w'=>e = .returned (.tuple #[.agg #[.int .u64 (l0 r),.int .u64 (l1 r),.int .u64 (l2 r),.int .u64 (l3 r)],.int .i64 0])∧Below w.heap.size w w')) (C4:Hid (∀ w,Mds w→Calls Tryz.prog 65 #[.agg #[.int .u64 (l0 r),.int .u64 (l1 r),.int .u64 (l2 r),.int .u64 (l3 r)]] w fun e w'=>e = .returned (.agg #[.int .u64 (l0 s),.int .u64 (l1 s),.int .u64 (l2 s),.int .u64 (l3 s)])∧Below w.heap.size w w')) (w:World) (hm:Mds w) :
  Calls Tryz.prog 30 #[.agg #[.int .u64 (l0 x),.int .u64 (l1 x),.int .u64 (l2 x),.int .u64 (l3 x)],.bool true] w fun e w'=>e = .returned (.tuple #[.agg #[.int .u64 (l0 x),.int .u64 (l1 x),.int .u64 (l2 x),.int .u64 (l3 x),.int .u64 (l0 s),.int .u64 (l1 s),.int .u64 (l2 s),.int .u64 (l3 s),.bool false],.int .i64 0])∧Below w.heap.size w w':=by
 go_enter Tryz.func30,Tryz.ntmps30
 go_wp2_with fail
 refine aa (fun W=>Below w.heap.size w W∧Mds W∧ae W w.heap.size x∧Bk9 W (w.heap.size+1)) ⟨by repeat (first|with_reducible exact Below.refl _ _|with_reducible refine Below.alloc ?_ (by first|omega|(simp;done)|(simp;omega)) _),(hm.alloc _).alloc _,(ae.fresh (by simp)).alloc _,Bk9.new (by simp)⟩ ?_
 rintro W ⟨B,hD,hX,hR⟩
 have o3:w.heap.size≤w.heap.size+1:=by omega
 generalize w.heap.size+1=br at *
 with_reducible refine (C1.out _ hD).mono ?_
 rintro e w1 ⟨rfl,hb⟩
 replace B:=B.trans (hb.mono B.size)
 replace hD:=hD.keep hb;replace hX:=hX.keep hb;replace hR:=hR.keep hb
 clear hb W
 have ghX:=hX.cells
 go_wp2_with fail
 refine aa (fun W=>Below w.heap.size w W∧Mds W∧ae W w.heap.size x∧Bk9 W br) ⟨B,hD,hX,hR⟩ ?_
 clear B hD hX hR ghX
 rintro W ⟨B,hD,hX,hR⟩
 with_reducible refine (C2.out _ hD).mono ?_
 rintro e w2 ⟨rfl,hb⟩
 replace B:=B.trans (hb.mono B.size)
 replace hD:=hD.keep hb;replace hX:=hX.keep hb;replace hR:=hR.keep hb
 clear hb W
 go_wp2_with fail
 refine aa (fun W=>Below w.heap.size w W∧Mds W∧ae W w.heap.size x∧Bk9 W br) ⟨B,hD,hX,hR⟩ ?_
 clear B hD hX hR
 rintro W ⟨B,hD,hX,hR⟩
 with_reducible refine (C3.out _ hD).mono ?_
 rintro e w3 ⟨rfl,hb⟩
 replace B:=B.trans (hb.mono B.size)
 replace hD:=hD.keep hb;replace hX:=hX.keep hb;replace hR:=hR.keep hb
 clear hb W
 go_wp2_with fail
 have hnx0:w3.heap.size≠w.heap.size:=by have h:w.heap.size<w3.heap.size:=World.block_lt_of_cell? _ _ hX.1;omega
 have hny0:w3.heap.size≠br:=by have:=hR.lt;omega
 have geby1:w.heap.size≤w3.heap.size:=by have:=B.size;omega
 refine aa (fun W=>Below w.heap.size w W∧Mds W∧ae W w.heap.size x∧Bk9 W br∧Var W w3.heap.size r) ⟨B.alloc B.size _,hD.alloc _,hX.alloc _,hR.alloc _,Var.new rfl⟩ ?_
 clear B hD hX hR
 rintro W ⟨B,hD,hX,hR,hY⟩
 generalize w3.heap.size=by1 at *
 with_reducible refine (C4.out _ hD).mono ?_
 rintro e w4 ⟨rfl,hb⟩
 replace B:=B.trans (hb.mono B.size)
 replace hD:=hD.keep hb;replace hX:=hX.keep hb;replace hR:=hR.keep hb;replace hY:=hY.keep hb
 clear hb W hD
 have gX:=hX.cells
 have gY:=hY.1.cells;have qY:=hY.2.all4
 have gR:=hR.cells;have fR:=hR.free
 have n1:by1≠w.heap.size:=hnx0
 have n2:by1≠br:=hny0
 have n1':=n1.symm
 have n2':=n2.symm
 go_wp2
 simp [bodyPost,results,Tryz.results30,go_sem, *]
 repeat (first|with_reducible exact B|with_reducible refine Below.drew ?_|with_reducible refine Below.setCell ?_ (by with_reducible assumption) _)
def d7 (x:Int):Prop:=x<pN∧ni (cF x)=0
instance (x:Int):Decidable (d7 x):=inferInstanceAs (Decidable (_∧_))
def oV (x:Int):Int:=if d7 x then 0 else 50
def kj (x:Int):Int:=if d7 x then x else 0
def dW (odd:Bool) (x:Int):Int:=if d7 x then (if odd then ab pN (0-ck (cF x)) else ck (cF x)) else 0
theorem xZ (x:Int):Num (ck x):=by
 unfold ck
 split
 ·obtain ⟨_,a,b,_⟩:=ki (fy am x qN).1 (fy am x qN).2
  have:=am.num
  exact ⟨a,Int.lt_trans b this.2⟩
 ·exact ⟨by decide,by decide⟩
theorem vC {x:Int} (hx:Num x) (i:Bool) (w:World) (hm:Mds w) :
  Calls Tryz.prog 30 #[.agg #[.int .u64 (l0 x),.int .u64 (l1 x),.int .u64 (l2 x),.int .u64 (l3 x)],.bool i] w fun e w'=>e = .returned (.tuple #[.agg #[.int .u64 (l0 (kj x)),.int .u64 (l1 (kj x)),.int .u64 (l2 (kj x)),.int .u64 (l3 (kj x)),.int .u64 (l0 (dW i x)),.int .u64 (l1 (dW i x)),.int .u64 (l2 (dW i x)),.int .u64 (l3 (dW i x)),.bool false],.int .i64 (oV x)])∧Below w.heap.size w w':=by
 obtain ⟨z0,z1,z2,z3⟩:=ap
 by_cases hp:x<pN
 ·have C1:Hid (∀ w,Mds w→Calls Tryz.prog 62 #[.agg #[.int .u64 (l0 x),.int .u64 (l1 x),.int .u64 (l2 x),.int .u64 (l3 x)]] w fun e w'=>e = .returned (.bool true)∧Below w.heap.size w w'):=fun w hm=>by
   have:=dF hx w hm
   rw [decide_eq_true hp] at this;exact this
  by_cases hr:ni (cF x)=0
  ·have ok:d7 x:=⟨hp,hr⟩
   have C3:Hid (∀ w,Mds w→Calls Tryz.prog 63 #[.agg #[.int .u64 (l0 (cF x)),.int .u64 (l1 (cF x)),.int .u64 (l2 (cF x)),.int .u64 (l3 (cF x))]] w fun e w'=>e = .returned (.tuple #[.agg #[.int .u64 (l0 (ck (cF x))),.int .u64 (l1 (ck (cF x))),.int .u64 (l2 (ck (cF x))),.int .u64 (l3 (ck (cF x)))],.int .i64 0])∧Below w.heap.size w w'):=fun w hm=>by
    have:=qL (ag am _) w hm (x:=cF x)
    rw [hr] at this;exact this
   unfold kj dW oV
   rw [if_pos ok,if_pos ok,if_pos ok]
   cases i with
   | false=>exact sC C1 (fun w hm=>i8 hx w hm) C3 w hm
   | true=>exact vB C1 (fun w hm=>i8 hx w hm) C3 (fun w hm=>oA (xZ _) w hm) w hm
  ·have no:¬d7 x:=fun h=>hr h.2
   unfold kj dW oV
   ((try unfold Rt);(try unfold U4);(try unfold P9);rw [if_neg no,if_neg no,if_neg no,z0,z1,z2,z3])
   exact sw C1 (fun w hm=>i8 hx w hm) (fun w hm=>qL (ag am _) w hm) hr w hm
 ·have no:¬d7 x:=fun h=>hp h.1
  unfold kj dW oV
  ((try unfold Rt);(try unfold U4);(try unfold P9);rw [if_neg no,if_neg no,if_neg no,z0,z1,z2,z3])
  exact sv (fun w hm=>by
   have:=dF hx w hm
   rw [decide_eq_false hp] at this;exact this) w hm
end Go.Proofs.YtjoandmehahfgaaGreatDoor
namespace Go.Proofs.YtjoandmehahfgaaGreatDoor.EC
inductive Pt where
 | o:Pt
 | a:F→F→Pt
def OnC (b:F):Pt→Prop
 | .o=>True
 | .a x y=>y*y=x*x*x+b
def Pt.neg:Pt→Pt
 | .o=>.o
 | .a x y=>.a x (-y)
def Sl (x1 y1 x2 y2 l:F):Prop:=l*(x1-x2)=y1-y2∧l*(y1+y2)=x1*x1+x1*x2+x2*x2
def bG (x1 y1 x2 y2:F):F:=if x1=x2 then 3*(x1*x1)*iv (2*y1) else (y2-y1)*iv (x2-x1)
def Pt.add:Pt→Pt→Pt
 | .o,q=>q
 | .a x y,.o=>.a x y
 | .a x1 y1,.a x2 y2 =>
  if x1=x2∧y1 = -y2 then .o else
   .a (bG x1 y1 x2 y2*bG x1 y1 x2 y2-x1-x2)
    (bG x1 y1 x2 y2*(x1-(bG x1 y1 x2 y2*bG x1 y1 x2 y2-x1-x2))-y1)
theorem c9 (x1 y1 x2 y2:F):Pt.add (.a x1 y1) (.a x2 y2) =
  if x1=x2∧y1 = -y2 then .o else
   .a (bG x1 y1 x2 y2*bG x1 y1 x2 y2-x1-x2)
    (bG x1 y1 x2 y2*(x1-(bG x1 y1 x2 y2*bG x1 y1 x2 y2-x1-x2))-y1):=rfl
theorem dX {a b:F} (h:a*b=0) (ha:a≠0):b=0:=by
 have:=xX ha
 generalize iv a=c at *
 grind -lia -linarith
theorem rT5 {a b:F} (h:a-b=0):a=b:=by grind -lia -linarith
theorem rG1 {l x1 x y1 y:F} (hy:y=l*(x1-x)-y1) : -l*(x1-x) = -y1-y:=by grind -lia -linarith
theorem rG2 {l x1 x2 x y1 y2 y:F} (s1:l*(x1-x2)=y1-y2) (s2:l*(y1+y2)=x1*x1+x1*x2+x2*x2) (hx:x=l*l-x1-x2) (hy:y=l*(x1-x)-y1) :
  -l*(-y1+y)=x1*x1+x1*x+x*x:=by grind -lia -linarith
theorem rG3 {l x1 x2 x:F} (hx:x=l*l-x1-x2) : -l * -l-x1-x=x2:=by grind -lia -linarith
theorem rG4 {l x1 x2 x y1 y2:F} (s1:l*(x1-x2)=y1-y2) (hx:x=l*l-x1-x2) :
  -l*(x1-(-l * -l-x1-x)) - -y1=y2:=by rw [rG3 hx];grind -lia -linarith
theorem rK1 {l x1 x2 y1 y2:F} (s1:l*(x1-x2)=y1-y2) (s2:l*(y1+y2)=x1*x1+x1*x2+x2*x2) :
  2*l*y2=x1*x1+x1*x2+x2*x2-l*l*(x1-x2):=by grind -lia -linarith
theorem rK2 {l x1 x2 y1 y2:F} (s1:l*(x1-x2)=y1-y2) (s2:l*(y1+y2)=x1*x1+x1*x2+x2*x2) :
  2*l*y1=x2*x2+x2*x1+x1*x1-l*l*(x2-x1):=by grind -lia -linarith
theorem rK3 {l x1 x2 x y1 y2 y:F} (s1:l*(x1-x2)=y1-y2) (hy:y=l*(x1-x)-y1):y=l*(x2-x)-y2:=by grind -lia -linarith
theorem rK4 {m x2 x3 y2 y3:F} (b1:m*(x2-x3)=y2-y3):y3=y2+m*(x3-x2):=by grind -lia -linarith
theorem rK {l m x1 x2 x3 x y2 y3 y:F} (r1:2*l*y2=x1*x1+x1*x2+x2*x2-l*l*(x1-x2)) (r2:2*m*y2=x3*x3+x3*x2+x2*x2-m*m*(x3-x2))
  (hx:x=l*l-x1-x2) (hy:y=l*(x2-x)-y2) (h3:y3=y2+m*(x3-x2)) :
  (x1-x3-l*(l-m))*(x-x3)=(l-m)*(y-y3):=by
 subst hx;subst hy;subst h3
 have e:∀ A B C D:F,A=B→C=D→A-B-(C-D)=0:=by grind -lia -linarith
 have e':=e _ _ _ _ r1 r2
 refine rT5 (Eq.trans ?_ e')
 clear e e' r1 r2
 grind -lia -linarith
theorem rT1 {l m x2 x y2 y:F} (hy:y=l*(x2-x)-y2) (b1:m*(x2-x)=y2-y):(l-m)*(x2-x)=2*y:=by grind -lia -linarith
theorem rT2 {l x1 x2 x y1 y2 y:F} (s1:l*(x1-x2)=y1-y2) (s2:l*(y1+y2)=x1*x1+x1*x2+x2*x2) (hx:x=l*l-x1-x2) (hy:y=l*(x1-x)-y1) :
  2*(l*y)+3*(x*x)=(x2-x)*(x1-x):=by grind -lia -linarith
theorem rT3 {n x y:F} (c:n*(y+y)=x*x+x*x+x*x):2*(n*y)=3*(x*x):=by grind -lia -linarith
theorem rT4 {l m n x1 x2 x y:F} (g1:(l-m)*(x2-x)=2*y) (g2:2*(l*y)+3*(x*x)=(x2-x)*(x1-x)) (g3:2*(n*y)=3*(x*x)) :
  2*y*((l+n)*(l-m)-(x1-x))=0:=by grind -lia -linarith
theorem rT6 {a b:F} (h:¬a=b):a-b≠0:=by grind -lia -linarith
theorem rT7 {l m n x1 x3 x y y3:F} (k:(x1-x3-l*(l-m))*(x-x3)=(l-m)*(y-y3)) (c:n*(x-x3)=y-y3) :
  (x-x3)*((l+n)*(l-m)-(x1-x3))=0:=by grind -lia -linarith
theorem rS1 {m x2 x3 y2 y3:F} (g:m*(x2-x3)=y2-y3):m*(x3-(m*m-x3-x2))-y3=m*(x2-(m*m-x2-x3))-y2:=by grind -lia -linarith
theorem rS2 {m x2 x3:F}:m*m-x3-x2=m*m-x2-x3:=by grind -lia -linarith
theorem rS3 {a b:F} (h:a = -b):b = -a:=by grind -lia -linarith
theorem rS4 {l v x1 x3:F} (h:(l+v)*(l-l)=x1-x3):x1=x3:=by grind -lia -linarith
theorem rS5 {l x1 x2 y1 y2 y3:F} (g1:l*(x1-x2)=y1-y2) (g2:l*(x2-x1)=y2-y3):y1=y3:=by grind -lia -linarith
theorem rS6 {l m v w x1 x3:F} (k1:(l+v)*(l-m)=x1-x3) (k2:(m+w)*(m-l)=x3-x1):(l-m)*((l+v)-(m+w))=0:=by grind -lia -linarith
theorem rS7 {l m v w:F} (h:(l+v)-(m+w)=0):w=l+v-m:=by grind -lia -linarith
theorem rS8 {l m v x1 x2 x3:F} (k1:(l+v)*(l-m)=x1-x3) :
  v*v-(l*l-x1-x2)-x3=(l+v-m)*(l+v-m)-x1-(m*m-x2-x3):=by grind -lia -linarith
theorem rS9 {l m v x1 x2 x3 x:F} (k1:(l+v)*(l-m)=x1-x3) (hx:x=v*v-(l*l-x1-x2)-x3) :
  (l-m)*x=(l+v)*(x1-x3)-2*(l*(x1-x3))+(l-m)*(x1+x2-x3):=by grind -lia -linarith
theorem Ee {l m v x1 x2 x3 y1 y2 y3 x:F} (g1:l*(x1-x2)=y1-y2) (g2:m*(x2-x3)=y2-y3)
  (g3:v*(l*l-x1-x2-x3)=l*(x1-(l*l-x1-x2))-y1-y3)
  (k3:(l-m)*x=(l+v)*(x1-x3)-2*(l*(x1-x3))+(l-m)*(x1+x2-x3)) :
  v*(l*l-x1-x2-x)-(l*(x1-(l*l-x1-x2))-y1)=(l+v-m)*(x1-x)-y1:=by
 have e:∀ A B C D A' B' C' D':F,A=B→C=D→A'=B'→C'=D'→A-B+(C-D)-(A'-B')-(C'-D')=0:=by grind -lia -linarith
 have e':=e _ _ _ _ _ _ _ _ g3 k3 g1 g2
 refine rT5 (Eq.trans ?_ e')
 clear e e' g1 g2 g3 k3
 grind -lia -linarith
theorem mD {b x y1 y2:F} (h1:y1*y1=x*x*x+b) (h2:y2*y2=x*x*x+b) (hn:¬y1 = -y2):y1=y2:=by
 have h:(y1+y2)*(y1-y2)=0:=by grind -lia -linarith
 have h':=dX h (by grind -lia -linarith)
 grind -lia -linarith
theorem cA {b x1 y1 x2 y2:F} (h2:(2:F)≠0) (p1:y1*y1=x1*x1*x1+b) (p2:y2*y2=x2*x2*x2+b)
  (hn:¬(x1=x2∧y1 = -y2)):Sl x1 y1 x2 y2 (bG x1 y1 x2 y2):=by
 unfold Sl bG
 by_cases hx:x1=x2
 ·subst hx
  have hy:=mD p1 p2 (fun h=>hn ⟨rfl,h⟩)
  subst hy
  rw [if_pos rfl]
  have:2*y1≠0:=by
   intro h;have:=dX h h2;grind -lia -linarith
  have:=xX this
  grind -lia -linarith
 ·rw [if_neg hx]
  have hd:x2-x1≠0:=by grind -lia -linarith
  have:=xX hd
  refine ⟨by grind -lia -linarith,?_⟩
  have e:(x2-x1)*((y2-y1)*iv (x2-x1)*(y1+y2)-(x1*x1+x1*x2+x2*x2))=0:=by grind -lia -linarith
  have:=dX e hd
  grind -lia -linarith
theorem Af {x1 y1 x2 y2 l m:F} (hn:¬(x1=x2∧y1 = -y2)) (hl:Sl x1 y1 x2 y2 l) (hm:Sl x1 y1 x2 y2 m):l=m:=by
 obtain ⟨a,b⟩:=hl;obtain ⟨c,d⟩:=hm
 by_cases hx:x1=x2
 ·have hy:y1+y2≠0:=by grind -lia -linarith
  have e:(y1+y2)*(l-m)=0:=by grind -lia -linarith
  have:=dX e hy;grind -lia -linarith
 ·have hd:x1-x2≠0:=by grind -lia -linarith
  have e:(x1-x2)*(l-m)=0:=by grind -lia -linarith
  have:=dX e hd;grind -lia -linarith
theorem dG {b x1 y1 x2 y2 l:F} (h2:(2:F)≠0) (p1:y1*y1=x1*x1*x1+b) (p2:y2*y2=x2*x2*x2+b)
  (hn:¬(x1=x2∧y1 = -y2)) (hl:Sl x1 y1 x2 y2 l) :
  Pt.add (.a x1 y1) (.a x2 y2) = .a (l*l-x1-x2) (l*(x1-(l*l-x1-x2))-y1):=by
 have e:=Af hn (cA h2 p1 p2 hn) hl
 rw [c9,if_neg hn,e]
theorem qP {b x1 y1 x2 y2 l:F} (p1:y1*y1=x1*x1*x1+b) (hl:Sl x1 y1 x2 y2 l) :
  (l*(x1-(l*l-x1-x2))-y1)*(l*(x1-(l*l-x1-x2))-y1)=(l*l-x1-x2)*(l*l-x1-x2)*(l*l-x1-x2)+b:=by
 obtain ⟨h1,h3⟩:=hl
 grind -lia -linarith
theorem jD {b:F} (h2:(2:F)≠0) {p q:Pt} (hp:OnC b p) (hq:OnC b q):OnC b (p.add q):=by
 cases p with
 | o=>exact hq
 | a x1 y1 =>
  cases q with
  | o=>exact hp
  | a x2 y2 =>
   by_cases hn:x1=x2∧y1 = -y2
   ·rw [c9,if_pos hn];trivial
   ·rw [dG h2 hp hq hn (cA h2 hp hq hn)]
    exact qP hp (cA h2 hp hq hn)
theorem cm {b:F} {p:Pt} (hp:OnC b p):OnC b p.neg:=by
 cases p with
 | o=>trivial
 | a x y=>unfold OnC Pt.neg at *; grind -lia -linarith
theorem gZ (p:Pt):p.neg.neg=p:=by
 cases p with
 | o=>rfl
 | a x y=>show Pt.a x (- -y)=_;rw [show - -y=y by grind -lia -linarith]
theorem add_o (p:Pt):p.add .o=p:=by cases p<;>rfl
theorem t6 (p:Pt):Pt.add .o p=p:=rfl
theorem fB (p:Pt):p.add p.neg = .o:=by
 cases p with
 | o=>rfl
 | a x y=>show Pt.add (.a x y) (.a x (-y))=_;rw [c9,if_pos ⟨rfl,by grind -lia -linarith⟩]
theorem mE {x1 y1 x2 y2 l:F} (h:Sl x1 y1 x2 y2 l):Sl x2 y2 x1 y1 l:=by
 obtain ⟨a,b⟩:=h;exact ⟨by grind -lia -linarith,by grind -lia -linarith⟩
theorem add_comm {b:F} (h2:(2:F)≠0) {p q:Pt} (hp:OnC b p) (hq:OnC b q):p.add q=q.add p:=by
 cases p with
 | o=>exact (add_o q).symm
 | a x1 y1 =>
  cases q with
  | o=>rfl
  | a x2 y2 =>
   by_cases hn:x1=x2∧y1 = -y2
   ·have hn':x2=x1∧y2 = -y1:=⟨hn.1.symm,by grind -lia -linarith⟩
    rw [c9,c9,if_pos hn,if_pos hn']
   ·have hn':¬(x2=x1∧y2 = -y1):=fun h=>hn ⟨h.1.symm,by grind -lia -linarith⟩
    have s:=cA h2 hp hq hn
    rw [dG h2 hp hq hn s,dG h2 hq hp hn' (mE s)]
    obtain ⟨e1,e2⟩:=s
    congr 1<;>grind -lia -linarith
theorem fa {b:F} (h2:(2:F)≠0) (h3:(3:F)≠0) (hb:b≠0) {p q:Pt} (hp:OnC b p) (hq:OnC b q):p.neg.add (p.add q)=q:=by
 cases p with
 | o=>rfl
 | a x1 y1 =>
  cases q with
  | o=>rw [add_o,add_comm h2 (cm hp) hp,fB]
  | a x2 y2 =>
   by_cases hn:x1=x2∧y1 = -y2
   ·have e:Pt.add (.a x1 y1) (.a x2 y2) = .o:=by rw [c9,if_pos hn]
    rw [e,add_o];show Pt.a x1 (-y1)=_;rw [hn.1,hn.2,show - -y2=y2 by grind -lia -linarith]
   ·have s:=cA h2 hp hq hn
    have hon:=qP hp s
    rw [dG h2 hp hq hn s]
    generalize bG x1 y1 x2 y2=l at s hon ⊢
    obtain ⟨s1,s2⟩:=s
    obtain ⟨x,hx⟩:∃ x,x=l*l-x1-x2:=⟨_,rfl⟩
    obtain ⟨y,hy⟩:∃ y,y=l*(x1-x)-y1:=⟨_,rfl⟩
    rw [←hx,←hy] at hon ⊢
    have hs:Sl x1 (-y1) x y (-l):=⟨rG1 hy,rG2 s1 s2 hx hy⟩
    have hn':¬(x1=x∧-y1 = -y):=by
     intro ⟨e1,e2⟩
     have e3:2*y1=0:=by grind -lia -linarith
     have e4:=dX e3 h2
     obtain ⟨s3,s4⟩:=hs
     have e5:3*(x1*x1)=0:=by grind -lia -linarith
     have e6:=dX e5 h3
     have e7:x1=0:=by
      by_cases h:x1=0
      ·exact h
      ·exact dX e6 h
     unfold OnC at hp
     exact hb (by grind -lia -linarith)
    unfold Pt.neg
    rw [dG h2 (cm hp) hon hn' hs,rG4 s1 hx,rG3 hx]
theorem key {x1 x2 x3 y1 y2 y3 l m n:F} {b:F} (h2:(2:F)≠0)
  (p1:y1*y1=x1*x1*x1+b) (p3:y3*y3=x3*x3*x3+b)
  (sl:Sl x1 y1 x2 y2 l) (sm:Sl x2 y2 x3 y3 m)
  (hn:¬(l*l-x1-x2=x3∧l*(x1-(l*l-x1-x2))-y1 = -y3))
  (sn:Sl (l*l-x1-x2) (l*(x1-(l*l-x1-x2))-y1) x3 y3 n) :
  (l+n)*(l-m)=x1-x3:=by
 obtain ⟨a1,a2⟩:=sl;obtain ⟨b1,b2⟩:=sm;obtain ⟨c1,c2⟩:=sn
 obtain ⟨x,hx⟩:∃ x,x=l*l-x1-x2:=⟨_,rfl⟩
 obtain ⟨y,hy⟩:∃ y,y=l*(x1-x)-y1:=⟨_,rfl⟩
 rw [←hx,←hy] at hn c1 c2
 have k:(x1-x3-l*(l-m))*(x-x3)=(l-m)*(y-y3):=by
  exact rK (rK1 a1 a2) (rK2 b1 b2) hx (rK3 a1 hy) (rK4 b1)
 by_cases hd:x=x3
 ·have hon:y*y=x*x*x+b:=by rw [hy,hx];exact qP p1 ⟨a1,a2⟩
  subst hd
  have hy3:=mD hon p3 (fun h=>hn ⟨rfl,h⟩)
  subst hy3
  have hy0:2*y≠0:=by
   intro h;have:=dX h h2;exact hn ⟨rfl,by grind -lia -linarith⟩
  have e:2*y*((l+n)*(l-m)-(x1-x))=0:=by
   exact rT4 (rT1 (rK3 a1 hy) b1) (rT2 a1 a2 hx hy) (rT3 c2)
  exact rT5 (dX e hy0)
 ·exact rT5 (dX (rT7 k c1) (rT6 hd))
theorem mF {b:F} (h2:(2:F)≠0) {p q:Pt} (hp:OnC b p) (hq:OnC b q):(p.add q).neg=p.neg.add q.neg:=by
 cases p with
 | o=>rfl
 | a x1 y1 =>
  cases q with
  | o=>rfl
  | a x2 y2 =>
   show (Pt.add (.a x1 y1) (.a x2 y2)).neg=Pt.add (.a x1 (-y1)) (.a x2 (-y2))
   by_cases hn:x1=x2∧y1 = -y2
   ·have hn':x1=x2∧-y1 = - -y2:=⟨hn.1,by grind -lia -linarith⟩
    rw [c9,c9,if_pos hn,if_pos hn'];rfl
   ·have hn':¬(x1=x2∧-y1 = - -y2):=fun h=>hn ⟨h.1,by grind -lia -linarith⟩
    have s:=cA h2 hp hq hn
    have s':Sl x1 (-y1) x2 (-y2) (-bG x1 y1 x2 y2):=by
     obtain ⟨g1,g2⟩:=s
     exact ⟨by grind -lia -linarith,by grind -lia -linarith⟩
    rw [dG h2 hp hq hn s,dG h2 (cm hp) (cm hq) hn' s']
    generalize bG x1 y1 x2 y2=l
    show Pt.a _ (-_)=_
    congr 1<;>grind -lia -linarith
theorem assoc {b:F} (h2:(2:F)≠0) (h3:(3:F)≠0) (hb:b≠0) {p q r:Pt} (hp:OnC b p) (hq:OnC b q) (hr:OnC b r) :
  (p.add q).add r=p.add (q.add r):=by
 by_cases e1:p.add q = .o
 ·-- q = -p
  have hqp:q=p.neg:=by
   have:=fa h2 h3 hb hp hq
   rw [e1,add_o] at this;exact this.symm
  rw [e1,t6,hqp]
  have:=fa h2 h3 hb (cm hp) hr
  rw [gZ] at this;exact this.symm
 by_cases e2:q.add r = .o
 ·have hrq:r=q.neg:=by
   have:=fa h2 h3 hb hq hr
   rw [e2,add_o] at this;exact this.symm
  rw [e2,add_o,hrq,add_comm h2 hp hq,add_comm h2 (jD h2 hq hp) (cm hq)]
  exact fa h2 h3 hb hq hp
 by_cases e3:(p.add q).add r = .o
 ·have hd:r=(p.add q).neg:=by
   have:=fa h2 h3 hb (jD h2 hp hq) hr
   rw [e3,add_o] at this;exact this.symm
  rw [e3,hd,mF h2 hp hq,add_comm h2 (cm hp) (cm hq)]
  have:=fa h2 h3 hb (cm hq) (cm hp)
  rw [gZ] at this
  rw [this,fB]
 by_cases e4:p.add (q.add r) = .o
 ·have hd:p=(q.add r).neg:=by
   have:=fa h2 h3 hb (jD h2 hq hr) hp
   rw [add_comm h2 (jD h2 hq hr) hp,e4,add_o] at this;exact this.symm
  have h5:p.add q=r.neg:=by
   rw [hd,mF h2 hq hr,add_comm h2 (jD h2 (cm hq) (cm hr)) hq]
   have:=fa h2 h3 hb (cm hq) (cm hr)
   rw [gZ] at this
   exact this
  rw [e4,h5,add_comm h2 (cm hr) hr,fB]
 by_cases e5:p=r
 ·rw [e5,add_comm h2 (jD h2 hr hq) hr,add_comm h2 hr hq]
 cases p with
 | o=>rfl
 | a x1 y1 =>
 cases q with
 | o=>rfl
 | a x2 y2 =>
 cases r with
 | o=>rw [add_o,add_o]
 | a x3 y3 =>
  have hp':y1*y1=x1*x1*x1+b:=hp
  have hq':y2*y2=x2*x2*x2+b:=hq
  have hr':y3*y3=x3*x3*x3+b:=hr
  have n1:¬(x1=x2∧y1 = -y2):=fun h=>e1 (by rw [c9,if_pos h])
  have n2:¬(x2=x3∧y2 = -y3):=fun h=>e2 (by rw [c9,if_pos h])
  have s1:=cA h2 hp' hq' n1
  have s2:=cA h2 hq' hr' n2
  have a1:=dG h2 hp' hq' n1 s1
  have a2:=dG h2 hq' hr' n2 s2
  rw [a1] at e3 ⊢; rw [a2] at e4 ⊢
  have o1:=qP hp' s1
  have o2:=qP hq' s2
  have n3:¬(bG x1 y1 x2 y2*bG x1 y1 x2 y2-x1-x2=x3 ∧
   bG x1 y1 x2 y2*(x1-(bG x1 y1 x2 y2*bG x1 y1 x2 y2-x1-x2))-y1 = -y3):=fun h=>e3 (by rw [c9,if_pos h])
  have n4:¬(x1=bG x2 y2 x3 y3*bG x2 y2 x3 y3-x2-x3 ∧
   y1 = -(bG x2 y2 x3 y3*(x2-(bG x2 y2 x3 y3*bG x2 y2 x3 y3-x2-x3))-y2)):=fun h=>e4 (by rw [c9,if_pos h])
  have s3:=cA h2 o1 hr' n3
  have s4:=cA h2 hp' o2 n4
  rw [dG h2 o1 hr' n3 s3,dG h2 hp' o2 n4 s4]
  generalize bG (bG x1 y1 x2 y2*bG x1 y1 x2 y2-x1-x2) _ x3 y3=v at s3 ⊢
  generalize bG x1 y1 (bG x2 y2 x3 y3*bG x2 y2 x3 y3-x2-x3) _=w at s4 ⊢
  generalize bG x1 y1 x2 y2=l at *
  generalize bG x2 y2 x3 y3=m at *
  have k1:=key h2 hp' hr' s1 s2 n3 s3
  have k2:(m+w)*(m-l)=x3-x1:=by
   have yy:m*(x3-(m*m-x3-x2))-y3=m*(x2-(m*m-x2-x3))-y2:=by
    exact rS1 s2.1
   have xx:m*m-x3-x2=m*m-x2-x3:=rS2
   refine key (n:=w) h2 hr' hp' (mE s2) (mE s1) ?_ ?_
   ·rw [yy,xx];intro h;exact n4 ⟨h.1.symm,rS3 h.2⟩
   ·rw [yy,xx];exact mE s4
  by_cases hlm:l=m
  ·subst hlm
   have e:x1=x3:=rS4 k1
   subst e
   have ey:y1=y3:=rS5 s1.1 s2.1
   exact absurd (by rw [ey]) e5
  ·have hw:w=l+v-m:=rS7 (dX (rS6 k1 k2) (rT6 hlm))
   rw [hw,←rS8 (x2:=x2) k1,Ee s1.1 s2.1 s3.1 (rS9 k1 rfl)]
def pt (x y z:F):Pt:=if z=0 then .o else .a (x*(iv z*iv z)) (y*(iv z*iv z*iv z))
theorem pt_o {x y z:F} (h:z=0):pt x y z = .o:=by unfold pt;rw [if_pos h]
theorem pt_of {x y z u v:F} (h:z≠0) (hx:x=u*(z*z)) (hy:y=v*(z*z*z)):pt x y z = .a u v:=by
 unfold pt;rw [if_neg h]
 have:=xX h
 subst hx;subst hy
 generalize iv z=w at *
 congr 1<;>grind -lia -linarith
theorem pL {x y z:F} (h:z≠0):∃ u v,x=u*(z*z)∧y=v*(z*z*z)∧pt x y z = .a u v:=by
 have:=xX h
 refine ⟨x*(iv z*iv z),y*(iv z*iv z*iv z),?_,?_,?_⟩
 ·generalize iv z=w at *; grind -lia -linarith
 ·generalize iv z=w at *; grind -lia -linarith
 ·unfold pt;rw [if_neg h]
def dx (x y:F):F:=3*(x*x)*(3*(x*x))-2*(4*(x*(y*y)))
def dy (x y:F):F:=3*(x*x)*(4*(x*(y*y))-dx x y)-8*(y*y*(y*y))
def dz (y z:F):F:=2*(y*z)
theorem Ag {x y l:F} (h:l*(y+y)=3*(x*x)) (z:F):dx (x*(z*z)) (y*(z*z*z))=(l*l-x-x)*(dz (y*(z*z*z)) z*dz (y*(z*z*z)) z):=by
 unfold dx dz;grind -lia -linarith
theorem Ah {x y l:F} (h:l*(y+y)=3*(x*x)) (z:F):dy (x*(z*z)) (y*(z*z*z))=(l*(x-(l*l-x-x))-y)*(dz (y*(z*z*z)) z*dz (y*(z*z*z)) z*dz (y*(z*z*z)) z):=by
 unfold dy dx dz;grind -lia -linarith
theorem Cm {b x y z:F} (h2:(2:F)≠0) (hz:z≠0) (ho:OnC b (pt x y z)):pt (dx x y) (dy x y) (dz y z)=(pt x y z).add (pt x y z):=by
 obtain ⟨u,v,hx,hy,hp⟩:=pL (x:=x) (y:=y) hz
 rw [hp] at ho ⊢
 by_cases h0:v=0
 ·have e:dz y z=0:=by unfold dz;subst hy;subst h0;grind -lia -linarith
  rw [pt_o e,c9,if_pos ⟨rfl,by subst h0;grind -lia -linarith⟩]
 ·have hn:¬(u=u∧v = -v):=by
   intro ⟨_,h⟩
   have e:2*v=0:=by grind -lia -linarith
   exact h0 (dX e h2)
  have s:=cA h2 ho ho hn
  rw [dG h2 ho ho hn s]
  generalize bG u v u v=l at s
  have s2:l*(v+v)=3*(u*u):=by obtain ⟨_,h⟩:=s;clear hx hy hp ho;grind -lia -linarith
  have hd:dz y z≠0:=by
   intro h
   unfold dz at h
   have:=dX h h2
   have h':z*y=0:=by clear hx hy hp ho s s2 h;grind -lia -linarith
   have hy0:=dX h' hz
   rw [hy] at hy0
   have e3:z*(z*(z*v))=0:=by clear hx hy hp ho s s2 h this h';grind -lia -linarith
   exact h0 (dX (dX (dX e3 hz) hz) hz)
  subst hx;subst hy
  exact pt_of hd (Ag s2 z) (Ah s2 z)
def run (x1 z1 x2 z2:F):F:=x2*(z1*z1)-x1*(z2*z2)
def rise (y1 z1 y2 z2:F):F:=y2*(z1*z1*z1)-y1*(z2*z2*z2)
def ax (x1 z2 h r:F):F:=r*r-h*h*h-2*(x1*(z2*z2)*(h*h))
def ay (x1 y1 z2 h r:F):F:=r*(x1*(z2*z2)*(h*h)-ax x1 z2 h r)-y1*(z2*z2*z2)*(h*h*h)
def az (z1 z2 h:F):F:=z1*z2*h
theorem Cn {b x1 y1 z1 x2 y2 z2:F} (h2:(2:F)≠0) (hz1:z1≠0) (hz2:z2≠0)
  (ho:OnC b (pt x1 y1 z1)) (hq:OnC b (pt x2 y2 z2)) :
  (run x1 z1 x2 z2≠0→pt (ax x1 z2 (run x1 z1 x2 z2) (rise y1 z1 y2 z2)) (ay x1 y1 z2 (run x1 z1 x2 z2) (rise y1 z1 y2 z2)) (az z1 z2 (run x1 z1 x2 z2))=(pt x1 y1 z1).add (pt x2 y2 z2)) ∧
  (run x1 z1 x2 z2=0→rise y1 z1 y2 z2=0→pt x2 y2 z2=pt x1 y1 z1) ∧
  (run x1 z1 x2 z2=0→rise y1 z1 y2 z2≠0→(pt x1 y1 z1).add (pt x2 y2 z2) = .o):=by
 obtain ⟨u1,v1,hx1,hy1,hp1⟩:=pL (x:=x1) (y:=y1) hz1
 obtain ⟨u2,v2,hx2,hy2,hp2⟩:=pL (x:=x2) (y:=y2) hz2
 rw [hp1] at ho;rw [hp2] at hq;rw [hp1,hp2]
 have hw:z1*z2≠0:=fun h=>hz2 (dX h hz1)
 have er:run x1 z1 x2 z2=z1*z2*(z1*z2*(u2-u1)):=by unfold run;subst hx1;subst hx2;clear hp1 hp2 ho hq hw;grind -lia -linarith
 have es:rise y1 z1 y2 z2=z1*z2*(z1*z2*(z1*z2*(v2-v1))):=by unfold rise;subst hy1;subst hy2;clear hp1 hp2 ho hq hw;grind -lia -linarith
 have hu:run x1 z1 x2 z2=0→u1=u2:=by
  intro h;rw [er] at h
  have:=dX (dX h hw) hw
  clear hx1 hy1 hp1 hx2 hy2 hp2 ho hq er es h;grind -lia -linarith
 refine ⟨fun h=>?_,fun h h'=>?_,fun h h'=>?_⟩
 ·have hd:u2-u1≠0:=by
   intro e;apply h;rw [er,e];clear hx1 hy1 hp1 hx2 hy2 hp2 ho hq er es h hu;grind -lia -linarith
  have hn:¬(u1=u2∧v1 = -v2):=by
   intro ⟨e,_⟩;apply hd;clear hx1 hy1 hp1 hx2 hy2 hp2 ho hq er es h hu;grind -lia -linarith
  have s:=cA h2 ho hq hn
  rw [dG h2 ho hq hn s]
  generalize bG u1 v1 u2 v2=l at s
  obtain ⟨s1,_⟩:=s
  have hz:az z1 z2 (run x1 z1 x2 z2)≠0:=by
   unfold az;intro e;exact h (dX e hw)
  have hs:rise y1 z1 y2 z2=l*(z1*z2*run x1 z1 x2 z2):=by
   rw [er,es];clear hx1 hy1 hp1 hx2 hy2 hp2 ho hq er es h hu hn hd hz;grind -lia -linarith
  refine pt_of hz ?_ ?_
  ·unfold ax az;rw [hs]
   clear hp1 hp2 ho hq es h hu hn hd hz hs hy1 hy2 s1
   have e2:run x1 z1 x2 z2=z1*z2*(z1*z2)*(u2-u1):=by rw [er];grind -lia -linarith
   generalize run x1 z1 x2 z2=r at *
   subst hx1
   clear hx2 er
   grind -lia -linarith
  ·unfold ay ax az;rw [hs]
   have e2:run x1 z1 x2 z2=z1*z2*(z1*z2)*(u2-u1):=by rw [er];clear hp1 hp2 ho hq es h hu hn hd hz hs hy1 hy2 s1;grind -lia -linarith
   have e3:y1=v1*(z1*z1*z1):=hy1
   clear hp1 hp2 ho hq es h hu hn hd hz hs hy1 hy2 er s1
   generalize run x1 z1 x2 z2=r at *
   subst hx1;subst e3
   clear hx2
   grind -lia -linarith
 ·have e:=hu h
  rw [es] at h'
  have:=dX (dX (dX h' hw) hw) hw
  have e':v2=v1:=by clear hx1 hy1 hp1 hx2 hy2 hp2 ho hq er es h hu h';grind -lia -linarith
  rw [e,e']
 ·have e:=hu h
  rw [c9,if_pos]
  refine ⟨e,?_⟩
  by_cases hv:v1 = -v2
  ·exact hv
  ·exfalso
   subst e
   have:=mD ho hq hv
   subst this
   apply h';rw [es]
   clear hx1 hy1 hp1 hx2 hy2 hp2 ho hq er es h hu h';grind -lia -linarith
abbrev On (p:Pt):Prop:=OnC 7 p
theorem two:(2:F)≠0:=by decide +kernel
theorem ya:(3:F)≠0:=by decide +kernel
theorem yb:(7:F)≠0:=by decide +kernel
theorem on_o:On .o:=trivial
theorem Pt.comm {p q:Pt} (hp:On p) (hq:On q):p.add q=q.add p:=add_comm two hp hq
theorem Pt.assoc {p q r:Pt} (hp:On p) (hq:On q) (hr:On r):(p.add q).add r=p.add (q.add r):=EC.assoc two ya yb hp hq hr
theorem Pt.on {p q:Pt} (hp:On p) (hq:On q):On (p.add q):=jD two hp hq
theorem Pt.back {p q:Pt} (hp:On p) (hq:On q):p.neg.add (p.add q)=q:=fa two ya yb hp hq
theorem Pt.left {p q r:Pt} (hp:On p) (hq:On q) (hr:On r) (h:p.add q=p.add r):q=r:=by
 have a:=Pt.back hp hq;have b:=Pt.back hp hr
 rw [h] at a;rw [←a,b]
theorem Pt.right {p q r:Pt} (hp:On p) (hq:On q) (hr:On r) (h:q.add p=r.add p):q=r:=by
 rw [Pt.comm hq hp,Pt.comm hr hp] at h;exact Pt.left hp hq hr h
theorem Pt.four {a b c d:Pt} (ha:On a) (hb:On b) (hc:On c) (hd:On d):(a.add b).add (c.add d)=(a.add c).add (b.add d):=by
 rw [Pt.assoc ha hb (Pt.on hc hd),←Pt.assoc hb hc hd,Pt.comm hb hc,Pt.assoc hc hb hd,←Pt.assoc ha hc (Pt.on hb hd)]
def smul:Nat→Pt→Pt
 | 0,_=>.o
 | k+1,p=>(smul k p).add p
theorem smul_on {p:Pt} (hp:On p):∀ k,On (smul k p)
 | 0=>on_o
 | k+1=>Pt.on (smul_on hp k) hp
theorem yc (p:Pt):smul 1 p=p:=rfl
theorem smul_add {p:Pt} (hp:On p) (a:Nat):∀ b,smul (a+b) p=(smul a p).add (smul b p)
 | 0=>(add_o _).symm
 | b+1=>by
  show (smul (a+b) p).add p=(smul a p).add ((smul b p).add p)
  rw [smul_add hp a b,Pt.assoc (smul_on hp a) (smul_on hp b) hp]
theorem smul_o:∀ k,smul k .o = .o
 | 0=>rfl
 | k+1=>by show (smul k .o).add .o = .o;rw [smul_o k];rfl
theorem smul_mul {p:Pt} (hp:On p) (a:Nat):∀ b,smul (a*b) p=smul b (smul a p)
 | 0=>rfl
 | b+1=>by
  show smul (a*(b+1)) p=(smul b (smul a p)).add (smul a p)
  rw [Nat.mul_succ,smul_add hp,smul_mul hp a b]
theorem php:∀ (M K:Nat) (f:Nat→Nat),(∀ i,i<K→f i<M)→(∀ i j,i<K→j<K→f i=f j→i=j)→K≤M
 | 0,K,f,h,_=>by
  cases K with
  | zero=>exact Nat.le_refl 0
  | succ K=>exact absurd (h 0 (Nat.succ_pos K)) (Nat.not_lt_zero _)
 | M+1,K,f,h,inj=>by
  cases K with
  | zero=>exact Nat.zero_le _
  | succ K =>
   refine Nat.succ_le_succ (php M K (fun i=>if f i=M then f K else f i) ?_ ?_)
   ·intro i hi
    show (if f i=M then f K else f i)<M
    have h1:=h i (Nat.lt_succ_of_lt hi)
    have h2:=h K (Nat.lt_succ_self K)
    split
    ·next e =>
     have:f K≠M:=fun e'=>by
      have:=inj i K (Nat.lt_succ_of_lt hi) (Nat.lt_succ_self K) (by rw [e,e'])
      omega
     omega
    ·next e=>omega
   ·intro i j hi hj e
    have e':(if f i=M then f K else f i)=(if f j=M then f K else f j):=e
    have I:=inj i j (Nat.lt_succ_of_lt hi) (Nat.lt_succ_of_lt hj)
    have I1:=inj K j (Nat.lt_succ_self K) (Nat.lt_succ_of_lt hj)
    have I2:=inj i K (Nat.lt_succ_of_lt hi) (Nat.lt_succ_self K)
    split at e'<;>split at e'
    ·next a b=>exact I (by rw [a,b])
    ·have:=I1 e';omega
    ·have:=I2 e';omega
    ·exact I e'
def sD:Pt→Nat
 | .o=>0
 | .a x y=>1+2*x.val+y.val%2
theorem Ai (p:Pt):sD p<231584178474632390847141970017375815706539969331281128078915168015817669343327:=by
 cases p with
 | o=>show 0<_;omega
 | a x y=>show 1+2*x.val+y.val%2<_;have:=x.isLt;omega
theorem Ef {p a b:Nat} (hb:b<p) (hp:p%2=1) (h:a=p-b) (e:a%2=b%2):a=b:=by omega
theorem Eg {p a b:Nat} (hb:b<p) (hp:p%2=1) (h:a=(p-b)%p) (e:a%2=b%2):a=b:=by
 by_cases h0:b=0
 ·subst h0;rw [h,Nat.sub_zero,Nat.mod_self]
 ·rw [Nat.mod_eq_of_lt (by omega)] at h;exact Ef hb hp h e
theorem yd {a b c d:Nat} (h:1+2*a+b%2=1+2*c+d%2):a=c∧b%2=d%2:=by omega
theorem pM (x y:F):sD (.a x y)=1+2*x.val+y.val%2:=rfl
theorem qQ (a b:Nat):1+2*a+b%2≠0:=by omega
theorem ye {p q:Pt} (hp:On p) (hq:On q) (h:sD p=sD q):p=q:=by
 cases p with
 | o =>
  cases q with
  | o=>rfl
  | a x y=>rw [pM] at h;exact absurd h.symm (qQ _ _)
 | a x1 y1 =>
  cases q with
  | o=>rw [pM] at h;exact absurd h (qQ _ _)
  | a x2 y2 =>
   rw [pM,pM] at h
   obtain ⟨h1,h3⟩:=yd h
   have hx:x1=x2:=Fin.ext h1
   subst hx
   by_cases hn:y1 = -y2
   ·have hy:y1=y2:=Fin.ext (Eg y2.isLt (by decide +kernel) (by rw [hn,Fin.neg_def]) h3)
    rw [hy]
   ·rw [mD hp hq hn]
def qR:Prop:=∀ x:F,x*x*x+7≠0
theorem Co (h:qR) {p:Pt} (hp:On p) (e:p.add p = .o):p = .o:=by
 cases p with
 | o=>rfl
 | a x y =>
  rw [c9] at e
  by_cases hn:x=x∧y = -y
  ·exfalso
   have e2:2*y=0:=by have:=hn.2;grind -lia -linarith
   have e3:=dX e2 two
   have hp':y*y=x*x*x+7:=hp
   rw [e3] at hp'
   exact h x (by rw [←hp'];rfl)
  ·rw [if_neg hn] at e;cases e
structure Base (n:Nat) (g:Pt):Prop where
 on:On g
 ord:smul n g = .o
 low:∀ k,0<k→k<n→smul k g≠.o
 odd:n%2=1
 big:231584178474632390847141970017375815706539969331281128078915168015817669343327<3*n
theorem Base.inj {n:Nat} {g:Pt} (h:Base n g) {i j:Nat} (hi:i<n) (hj:j<n) (e:smul i g=smul j g):i=j:=by
 have key:∀ i j,i<n→j<n→i<j→smul i g=smul j g→False:=by
  intro i j _ hj hlt e
  have e1:smul i g=(smul i g).add (smul (j-i) g):=by
   rw [←smul_add h.on,Nat.add_sub_of_le (Nat.le_of_lt hlt)];exact e
  have e2:(smul i g).add .o=(smul i g).add (smul (j-i) g):=by rw [add_o];exact e1
  have e3:=Pt.left (smul_on h.on i) on_o (smul_on h.on _) e2
  exact h.low (j-i) (by omega) (by omega) e3.symm
 rcases Nat.lt_trichotomy i j with hlt|heq|hgt
 ·exact (key i j hi hj hlt e).elim
 ·exact heq
 ·exact (key j i hj hi hgt e.symm).elim
theorem Base.neg {n:Nat} {g:Pt} (h:Base n g) {i:Nat} (hi:i≤n):(smul i g).neg=smul (n-i) g:=by
 have e:(smul i g).add (smul (n-i) g)=(smul i g).add (smul i g).neg:=by
  rw [←smul_add h.on,Nat.add_sub_of_le hi,h.ord,fB]
 exact (Pt.left (smul_on h.on i) (smul_on h.on _) (cm (smul_on h.on i)) e).symm
theorem Base.mod {n:Nat} {g:Pt} (h:Base n g) (k:Nat):smul k g=smul (k%n) g:=by
 have e:=Nat.div_add_mod k n
 conv=>lhs;rw [←e]
 rw [smul_add h.on,smul_mul h.on,h.ord,smul_o];rfl
def Of (g p:Pt):Prop:=∃ k,p=smul k g
theorem Base.of_neg {n:Nat} {g p:Pt} (h:Base n g) (hn:0<n) (hp:Of g p):Of g p.neg:=by
 obtain ⟨k,rfl⟩:=hp
 rw [h.mod k,h.neg (Nat.le_of_lt (Nat.mod_lt k hn))]
 exact ⟨_,rfl⟩
theorem Base.of_add {n:Nat} {g p q:Pt} (h:Base n g) (hp:Of g p) (hq:Of g q):Of g (p.add q):=by
 obtain ⟨k,rfl⟩:=hp;obtain ⟨l,rfl⟩:=hq
 exact ⟨k+l,(smul_add h.on k l).symm⟩
theorem Base.half {n:Nat} {g p:Pt} (hz:qR) (h:Base n g) (hp:On p) (h2:Of g (p.add p)):Of g p:=by
 obtain ⟨k,hk⟩:=h2
 have:∃ j,smul k g=smul (j+j) g:=by
  have:=h.odd
  by_cases hk2:k%2=0
  ·exact ⟨k/2,by rw [show k/2+k/2=k by omega]⟩
  ·refine ⟨(k+n)/2,?_⟩
   rw [show (k+n)/2+(k+n)/2=k+n by omega,smul_add h.on,h.ord,add_o]
 obtain ⟨j,hj⟩:=this
 have hjn:=cm (smul_on h.on j)
 have e:(p.add (smul j g).neg).add (p.add (smul j g).neg) = .o:=by
  rw [Pt.four hp hjn hp hjn,←mF two (smul_on h.on j) (smul_on h.on j),hk,hj,smul_add h.on,fB]
 have e1:=Co hz (Pt.on hp hjn) e
 have e2:p=smul j g:=by
  have:p.add (smul j g).neg=(smul j g).add (smul j g).neg:=by rw [e1,fB]
  exact Pt.right hjn hp (smul_on h.on j) this
 exact ⟨j,e2⟩
theorem Base.all {n:Nat} {g:Pt} (hz:qR) (h:Base n g) {p:Pt} (hp:On p):Of g p:=by
 have hn:0<n:=by have:=h.odd;omega
 apply Classical.byContradiction
 intro hno
 have hpn:=cm hp
 have neg_no:¬Of g p.neg:=fun hc=>hno (by have:=h.of_neg hn hc;rwa [gZ] at this)
 have two_no:¬Of g (p.add p):=fun hc=>hno (h.half hz hp hc)
 have twn_no:¬Of g (p.neg.add p.neg):=fun hc=>two_no (by
  have:=h.of_neg hn hc
  rw [mF two hpn hpn,gZ] at this;exact this)
 let e:Nat→Pt:=fun j=>if j=0 then .o else if j=1 then p else p.neg
 have eon:∀ j,On (e j):=by
  intro j;show On (if j=0 then .o else if j=1 then p else p.neg)
  split
  ·exact on_o
  ·split
   ·exact hp
   ·exact hpn
 -- a difference of two of the ya
 have diff:∀ a b,a<3→b<3→a≠b→¬Of g ((e a).add (e b).neg):=by
  intro a b ha hb hab
  have e0:e 0 = .o:=rfl
  have e1:e 1=p:=rfl
  have e2:e 2=p.neg:=rfl
  have c:(a=0∨a=1∨a=2)∧(b=0∨b=1∨b=2):=by omega
  obtain ⟨ca,cb⟩:=c
  rcases ca with rfl|rfl|rfl<;>rcases cb with rfl|rfl|rfl
  ·exact absurd rfl hab
  ·rw [e0,e1,t6];exact neg_no
  ·rw [e0,e2,t6,gZ];exact hno
  ·rw [e0,e1];show ¬Of g (p.add .o);rw [add_o];exact hno
  ·exact absurd rfl hab
  ·rw [e1,e2,gZ];exact two_no
  ·rw [e0,e2];show ¬Of g (p.neg.add .o);rw [add_o];exact neg_no
  ·rw [e1,e2];exact twn_no
  ·exact absurd rfl hab
 have hb:=h.big
 have:=php 231584178474632390847141970017375815706539969331281128078915168015817669343327 (3*n)
  (fun i=>sD ((smul (i/3) g).add (e (i%3)))) (fun i _=>Ai _) ?_
 ·omega
 ·intro i j hi hj hc
  have hc':sD ((smul (i/3) g).add (e (i%3)))=sD ((smul (j/3) g).add (e (j%3))):=hc
  have A:=smul_on h.on (i/3)
  have B:=smul_on h.on (j/3)
  have he:=ye (Pt.on A (eon _)) (Pt.on B (eon _)) hc'
  by_cases hm:i%3=j%3
  ·rw [hm] at he
   have:=h.inj (by omega) (by omega) (Pt.right (eon _) A B he)
   omega
  ·exfalso
   refine diff _ _ (Nat.mod_lt i (by omega)) (Nat.mod_lt j (by omega)) hm ?_
   -- e a-e b=B-A
   have hx:(e (i%3)).add (e (j%3)).neg=(smul (j/3) g).add (smul (i/3) g).neg:=by
    have An:=cm A
    have En:=cm (eon (j%3))
    have l:((smul (i/3) g).add (e (i%3))).add ((smul (i/3) g).neg.add (e (j%3)).neg)=(e (i%3)).add (e (j%3)).neg:=by
     rw [Pt.four A (eon _) An En,fB,t6]
    have r:((smul (j/3) g).add (e (j%3))).add ((smul (i/3) g).neg.add (e (j%3)).neg)=(smul (j/3) g).add (smul (i/3) g).neg:=by
     rw [Pt.four B (eon _) An En,fB,add_o]
    rw [←l,he,r]
   rw [hx]
   exact h.of_add ⟨_,rfl⟩ (h.of_neg hn ⟨_,rfl⟩)
theorem Base.zero {n:Nat} {g:Pt} (hz:qR) (h:Base n g) {p:Pt} (hp:On p):smul n p = .o:=by
 obtain ⟨k,rfl⟩:=h.all hz hp
 rw [←smul_mul h.on,Nat.mul_comm,smul_mul h.on,h.ord,smul_o]
structure J where
 x:F
 y:F
 z:F
def J.pt (t:J):Pt:=EC.pt t.x t.y t.z
def J.o:J:=⟨0,0,0⟩
def jd (t:J):J:=if t.z=0 then t else ⟨dx t.x t.y,dy t.x t.y,dz t.y t.z⟩
def ja (t u:J):J :=
 if t.z=0 then u else if u.z=0 then t else
 if run t.x t.z u.x u.z=0 then (if rise t.y t.z u.y u.z=0 then jd t else J.o) else
  ⟨ax t.x u.z (run t.x t.z u.x u.z) (rise t.y t.z u.y u.z),ay t.x t.y u.z (run t.x t.z u.x u.z) (rise t.y t.z u.y u.z),az t.z u.z (run t.x t.z u.x u.z)⟩
theorem J.pt_o:J.o.pt = .o:=EC.pt_o rfl
theorem jd_pt {t:J} (h:On t.pt):(jd t).pt=t.pt.add t.pt:=by
 unfold jd
 by_cases hz:t.z=0
 ·rw [if_pos hz]
  have e:t.pt = .o:=EC.pt_o hz
  rw [e];rfl
 ·rw [if_neg hz];exact Cm two hz h
theorem ja_pt {t u:J} (h:On t.pt) (h':On u.pt):(ja t u).pt=t.pt.add u.pt:=by
 unfold ja
 by_cases hz:t.z=0
 ·rw [if_pos hz]
  have e:t.pt = .o:=EC.pt_o hz
  rw [e];rfl
 ·rw [if_neg hz]
  by_cases hu:u.z=0
  ·rw [if_pos hu]
   have e:u.pt = .o:=EC.pt_o hu
   rw [e,add_o]
  ·rw [if_neg hu]
   obtain ⟨a,b,c⟩:=Cn two hz hu h h'
   by_cases hr:run t.x t.z u.x u.z=0
   ·rw [if_pos hr]
    by_cases hs:rise t.y t.z u.y u.z=0
    ·rw [if_pos hs,jd_pt h]
     have e:u.pt=t.pt:=b hr hs
     rw [e]
    ·rw [if_neg hs,J.pt_o];exact (c hr hs).symm
   ·rw [if_neg hr];exact a hr
def jm:Nat→Nat→J→J
 | 0,_,_=>J.o
 | f+1,k,t=>if k%2=1 then ja (jd (jm f (k/2) t)) t else jd (jm f (k/2) t)
theorem jm_pt {t:J} (h:On t.pt):∀ f k,k<2 ^ f→(jm f k t).pt=smul k t.pt
 | 0,k,hk=>by
  have:k=0:=by rw [Nat.pow_zero] at hk;omega
  subst this;exact J.pt_o
 | f+1,k,hk=>by
  have ih:=jm_pt h f (k/2) (by rw [Nat.pow_succ] at hk;omega)
  have hon:On (jm f (k/2) t).pt:=by rw [ih];exact smul_on h _
  have e2:(jd (jm f (k/2) t)).pt=smul (k/2+k/2) t.pt:=by rw [jd_pt hon,ih,smul_add h]
  unfold jm
  split
  ·next ho =>
   rw [ja_pt (by rw [e2];exact smul_on h _) h,e2]
   conv=>rhs;rw [show k=k/2+k/2+1 by omega]
   rfl
  ·next ho =>
   rw [e2];congr 1;omega
def gJ:J:=⟨55066263022277343669578718895168534326250603453777594175500187360389116729240,32670510020758816978083085130507043184471273380659243275938904335757337482424,1⟩
theorem Eh:gJ.z≠0:=by decide +kernel
theorem Cp:gJ.y*gJ.y=gJ.x*gJ.x*gJ.x+7:=by decide +kernel
theorem BI:gJ.pt = .a gJ.x gJ.y:=by
 have e:gJ.z=1:=rfl
 refine pt_of Eh ?_ ?_
 ·rw [e];grind -lia -linarith
 ·rw [e];grind -lia -linarith
theorem gJ_on:On gJ.pt:=by rw [BI];exact Cp
theorem t7:(jm 256 115792089237316195423570985008687907852837564279074904382605163141518161494337 gJ).z=0:=by decide +kernel
theorem yf {p x a e:Nat} (hp:NT.Prime p) (he:p-1=3*e) (hx:¬p∣x) (ha:x*x*x%p=a%p):a ^ e%p=1:=by
 have h:=NT.fermat hp hx
 rw [he,Nat.pow_mul] at h
 rw [Nat.pow_mod,←ha,←Nat.pow_mod,show x*x*x=x ^ 3 by rw [Nat.pow_succ,Nat.pow_succ,Nat.pow_succ,Nat.pow_zero,Nat.one_mul]]
 exact h
theorem yg:NT.pm 115792089237316195423570985008687907853269984665640564039457584007908834671663 256 115792089237316195423570985008687907853269984665640564039457584007908834671656 38597363079105398474523661669562635951089994888546854679819194669302944890554≠1:=by decide +kernel
theorem Aj:((115792089237316195423570985008687907853269984665640564039457584007908834671656:F)+7)=0:=by decide +kernel
theorem Ak:(115792089237316195423570985008687907853269984665640564039457584007908834671656:F).val=115792089237316195423570985008687907853269984665640564039457584007908834671656:=by decide +kernel
theorem no_two_p:qR:=by
 intro x h
 have hx:x*x*x=(115792089237316195423570985008687907853269984665640564039457584007908834671656:F):=by
  have:=Aj
  generalize (115792089237316195423570985008687907853269984665640564039457584007908834671656:F)=a at *
  grind -lia -linarith
 have hv:x.val*x.val*x.val%115792089237316195423570985008687907853269984665640564039457584007908834671663=115792089237316195423570985008687907853269984665640564039457584007908834671656%115792089237316195423570985008687907853269984665640564039457584007908834671663:=by
  have e1:=congrArg Fin.val hx
  rw [Ak,Fin.val_mul,Fin.val_mul,Nat.mod_mul_mod] at e1
  rw [e1]
 have hn:¬115792089237316195423570985008687907853269984665640564039457584007908834671663∣x.val:=by
  intro ⟨q,hq⟩
  have h0:x.val=0:=by
   have:=x.isLt
   rcases Nat.eq_zero_or_pos q with h0|h0
   ·rw [hq,h0,Nat.mul_zero]
   ·omega
  rw [h0] at hv
  exact absurd hv (by decide +kernel)
 have c:=yf (e:=38597363079105398474523661669562635951089994888546854679819194669302944890554) NT.prime_115792089237316195423570985008687907853269984665640564039457584007908834671663 (by decide +kernel) hn hv
 exact yg ((NT.pm_eq _ _ _ _ (by decide +kernel)).trans c)
theorem Al {n i k q:Nat} {g:Pt} (hg:On g) (h0:g≠.o) (hn:smul n g = .o) (e:k*i=n*q+1):smul k g≠.o:=by
 intro hk
 have a:=smul_mul hg k i
 rw [hk,smul_o,e,smul_add hg,smul_mul hg,hn,smul_o,yc] at a
 exact h0 a
theorem inv_n {x:Int} (x0:0≤x) (h:ab nN x≠0):ab nN (x*cQ nN x)=1:=by
 have e:=fA Dy x0 h
 unfold cQ
 rw [Int.mul_comm,i7 nN x (by decide),show nN-2+1=nN-1 by decide];exact e
theorem Am {k n:Nat} {i:Int} (i0:0≤i) (h:(k:Int)*i%(n:Int)=1):∃ j q,k*j=n*q+1:=by
 obtain ⟨j,rfl⟩:=Int.eq_ofNat_of_zero_le i0
 refine ⟨j,k*j/n,?_⟩
 have e:((k*j%n:Nat):Int)=1:=by rw [Int.natCast_emod,Int.natCast_mul];exact h
 have:=Nat.div_add_mod (k*j) n
 omega
theorem nN_is:nN=((115792089237316195423570985008687907852837564279074904382605163141518161494337:Nat):Int):=rfl
theorem base_g:Base 115792089237316195423570985008687907852837564279074904382605163141518161494337 gJ.pt where
 on:=gJ_on
 ord:=by
  rw [←jm_pt gJ_on 256 _ (by decide +kernel)]
  exact EC.pt_o t7
 low:=by
  intro k h0 hk
  have hm:ab nN (k:Int)=(k:Int):=cO (by omega) (by rw [nN_is];omega)
  have e:=inv_n (x:=(k:Int)) (by omega) (by rw [hm];omega)
  unfold ab at e
  rw [nN_is] at e
  obtain ⟨j,q,hj⟩:=Am (fy fX _ _).1 e
  refine Al gJ_on ?_ ?_ hj
  ·rw [BI];intro h;cases h
  ·rw [←jm_pt gJ_on 256 _ (by decide +kernel)]
   exact EC.pt_o t7
 odd:=by decide +kernel
 big:=by decide +kernel
theorem ord_all {p:Pt} (hp:On p):smul 115792089237316195423570985008687907852837564279074904382605163141518161494337 p = .o:=base_g.zero no_two_p hp
end Go.Proofs.YtjoandmehahfgaaGreatDoor.EC
namespace Go.Proofs.YtjoandmehahfgaaGreatDoor
open Go.RowKit Go.Sort
theorem Ao {x y z:Int} (C0:Hid (∀ w,Rt 46 #[.agg #[.int .u64 (l0 x),.int .u64 (l1 x),.int .u64 (l2 x),.int .u64 (l3 x),.int .u64 (l0 y),.int .u64 (l1 y),.int .u64 (l2 y),.int .u64 (l3 y),.int .u64 (l0 z),.int .u64 (l1 z),.int .u64 (l2 z),.int .u64 (l3 z)]] w (.bool true))) (w:World) :
  Rt 41 #[.agg #[.int .u64 (l0 x),.int .u64 (l1 x),.int .u64 (l2 x),.int .u64 (l3 x),.int .u64 (l0 y),.int .u64 (l1 y),.int .u64 (l2 y),.int .u64 (l3 y),.int .u64 (l0 z),.int .u64 (l1 z),.int .u64 (l2 z),.int .u64 (l3 z)]] w (.agg #[.int .u64 (l0 x),.int .u64 (l1 x),.int .u64 (l2 x),.int .u64 (l3 x),.int .u64 (l0 y),.int .u64 (l1 y),.int .u64 (l2 y),.int .u64 (l3 y),.int .u64 (l0 z),.int .u64 (l1 z),.int .u64 (l2 z),.int .u64 (l3 z)]):=by
 go_enter Tryz.func41,Tryz.ntmps41
 go_wp2_with fail
 refine aa (fun W=>Below w.heap.size w W∧Thr W w.heap.size x y z∧aR W (w.heap.size+1)) ⟨by repeat (first|with_reducible exact Below.refl _ _|with_reducible refine Below.alloc ?_ (by first|omega|(simp;done)|(simp;omega)) _),(Thr.new rfl).alloc _,aR.new (by simp)⟩ ?_
 rintro W ⟨B,hT,hR⟩
 have o3:w.heap.size≤w.heap.size+1:=by omega
 generalize w.heap.size+1=br at *
 with_reducible refine (C0.out _).mono ?_
 rintro e w1 ⟨rfl,hb⟩
 replace B:=B.trans (hb.mono B.size)
 replace hR:=hR.keep hb;replace hT:=hT.keep hb
 have gT:=hT.cells
 clear hb W hT
 have gR:=hR.cells;have fR:=hR.free
 go_wp2
 simp [bodyPost,results,Tryz.results41,go_sem,gR]
 repeat (first|with_reducible exact B|with_reducible refine Below.setCell ?_ o3 _)
theorem Cq {x y z x2 y2 z2:Int} (C0:Hid (∀ w,Rt 46 #[.agg #[.int .u64 (l0 x),.int .u64 (l1 x),.int .u64 (l2 x),.int .u64 (l3 x),.int .u64 (l0 y),.int .u64 (l1 y),.int .u64 (l2 y),.int .u64 (l3 y),.int .u64 (l0 z),.int .u64 (l1 z),.int .u64 (l2 z),.int .u64 (l3 z)]] w (.bool true))) (w:World) :
  Rt 42 #[.agg #[.int .u64 (l0 x),.int .u64 (l1 x),.int .u64 (l2 x),.int .u64 (l3 x),.int .u64 (l0 y),.int .u64 (l1 y),.int .u64 (l2 y),.int .u64 (l3 y),.int .u64 (l0 z),.int .u64 (l1 z),.int .u64 (l2 z),.int .u64 (l3 z)],.agg #[.int .u64 (l0 x2),.int .u64 (l1 x2),.int .u64 (l2 x2),.int .u64 (l3 x2),.int .u64 (l0 y2),.int .u64 (l1 y2),.int .u64 (l2 y2),.int .u64 (l3 y2),.int .u64 (l0 z2),.int .u64 (l1 z2),.int .u64 (l2 z2),.int .u64 (l3 z2)]] w (.agg #[.int .u64 (l0 x2),.int .u64 (l1 x2),.int .u64 (l2 x2),.int .u64 (l3 x2),.int .u64 (l0 y2),.int .u64 (l1 y2),.int .u64 (l2 y2),.int .u64 (l3 y2),.int .u64 (l0 z2),.int .u64 (l1 z2),.int .u64 (l2 z2),.int .u64 (l3 z2)]):=by
 go_enter Tryz.func42,Tryz.ntmps42
 go_wp2_with fail
 refine aa (fun W=>Below w.heap.size w W∧Thr W (w.heap.size+1) x2 y2 z2∧aR W (w.heap.size+1+1)) ⟨by repeat (first|with_reducible exact Below.refl _ _|with_reducible refine Below.alloc ?_ (by first|omega|(simp;done)|(simp;omega)) _),(Thr.new (by simp)).alloc _,aR.new (by simp)⟩ ?_
 rintro W ⟨B,hT,hR⟩
 have o3:w.heap.size≤w.heap.size+1+1:=by omega
 generalize w.heap.size+1+1=br at *
 generalize w.heap.size+1=bo at *
 with_reducible refine (C0.out _).mono ?_
 rintro e w1 ⟨rfl,hb⟩
 replace B:=B.trans (hb.mono B.size)
 replace hR:=hR.keep hb;replace hT:=hT.keep hb
 have gT:=hT.cells
 clear hb W hT
 have gR:=hR.cells;have fR:=hR.free
 go_wp2
 simp [bodyPost,results,Tryz.results42,go_sem,gR]
 repeat (first|with_reducible exact B|with_reducible refine Below.setCell ?_ o3 _)
theorem Cr {x y z x2 y2 z2:Int} (C0:Hid (∀ w,Rt 46 #[.agg #[.int .u64 (l0 x),.int .u64 (l1 x),.int .u64 (l2 x),.int .u64 (l3 x),.int .u64 (l0 y),.int .u64 (l1 y),.int .u64 (l2 y),.int .u64 (l3 y),.int .u64 (l0 z),.int .u64 (l1 z),.int .u64 (l2 z),.int .u64 (l3 z)]] w (.bool false))) (C1:Hid (∀ w,Rt 46 #[.agg #[.int .u64 (l0 x2),.int .u64 (l1 x2),.int .u64 (l2 x2),.int .u64 (l3 x2),.int .u64 (l0 y2),.int .u64 (l1 y2),.int .u64 (l2 y2),.int .u64 (l3 y2),.int .u64 (l0 z2),.int .u64 (l1 z2),.int .u64 (l2 z2),.int .u64 (l3 z2)]] w (.bool true))) (w:World) :
  Rt 42 #[.agg #[.int .u64 (l0 x),.int .u64 (l1 x),.int .u64 (l2 x),.int .u64 (l3 x),.int .u64 (l0 y),.int .u64 (l1 y),.int .u64 (l2 y),.int .u64 (l3 y),.int .u64 (l0 z),.int .u64 (l1 z),.int .u64 (l2 z),.int .u64 (l3 z)],.agg #[.int .u64 (l0 x2),.int .u64 (l1 x2),.int .u64 (l2 x2),.int .u64 (l3 x2),.int .u64 (l0 y2),.int .u64 (l1 y2),.int .u64 (l2 y2),.int .u64 (l3 y2),.int .u64 (l0 z2),.int .u64 (l1 z2),.int .u64 (l2 z2),.int .u64 (l3 z2)]] w (.agg #[.int .u64 (l0 x),.int .u64 (l1 x),.int .u64 (l2 x),.int .u64 (l3 x),.int .u64 (l0 y),.int .u64 (l1 y),.int .u64 (l2 y),.int .u64 (l3 y),.int .u64 (l0 z),.int .u64 (l1 z),.int .u64 (l2 z),.int .u64 (l3 z)]):=by
 go_enter Tryz.func42,Tryz.ntmps42
 go_wp2_with fail
 refine aa (fun W=>Below w.heap.size w W∧Thr W w.heap.size x y z∧Thr W (w.heap.size+1) x2 y2 z2∧aR W (w.heap.size+1+1)) ⟨by repeat (first|with_reducible exact Below.refl _ _|with_reducible refine Below.alloc ?_ (by first|omega|(simp;done)|(simp;omega)) _),((Thr.new rfl).alloc _).alloc _,(Thr.new (by simp)).alloc _,aR.new (by simp)⟩ ?_
 rintro W ⟨B,hT,hO,hR⟩
 have o3:w.heap.size≤w.heap.size+1+1:=by omega
 generalize w.heap.size+1+1=br at *
 generalize w.heap.size+1=bo at *
 with_reducible refine (C0.out _).mono ?_
 rintro e w1 ⟨rfl,hb⟩
 replace B:=B.trans (hb.mono B.size)
 replace hR:=hR.keep hb;replace hT:=hT.keep hb;replace hO:=hO.keep hb
 clear hb W
 have gO:=hO.cells
 go_wp2_with fail
 refine aa (fun W=>Below w.heap.size w W∧Thr W w.heap.size x y z∧aR W br) ⟨B,hT,hR⟩ ?_
 clear B hT hO hR gO
 rintro W ⟨B,hT,hR⟩
 with_reducible refine (C1.out _).mono ?_
 rintro e w2 ⟨rfl,hb⟩
 replace B:=B.trans (hb.mono B.size)
 replace hR:=hR.keep hb;replace hT:=hT.keep hb
 have gT:=hT.cells
 clear hb W hT
 have gR:=hR.cells;have fR:=hR.free
 go_wp2
 simp [bodyPost,results,Tryz.results42,go_sem,gR]
 repeat (first|with_reducible exact B|with_reducible refine Below.setCell ?_ o3 _)
open EC in
def J3 (x y z:Int):EC.J:=⟨EC.fp x,EC.fp y,EC.fp z⟩
theorem oW {x:Int} (h:EC.Low x) (h0:x≠0):EC.fp x≠0:=fun e=>h0 (EC.fp_inj h ⟨by decide,by decide⟩ (by rw [e,EC.fp_zero]))
theorem nk {x y z:Int} (hx:EC.Low x) (hy:EC.Low y) (hz:EC.Low z):∃ x' y' z',EC.Low x'∧EC.Low y'∧EC.Low z'∧J3 x' y' z'=EC.jd (J3 x y z) ∧
  ∀ w,Mds w→Rt 41 #[.agg #[.int .u64 (l0 x),.int .u64 (l1 x),.int .u64 (l2 x),.int .u64 (l3 x),.int .u64 (l0 y),.int .u64 (l1 y),.int .u64 (l2 y),.int .u64 (l3 y),.int .u64 (l0 z),.int .u64 (l1 z),.int .u64 (l2 z),.int .u64 (l3 z)]] w (.agg #[.int .u64 (l0 x'),.int .u64 (l1 x'),.int .u64 (l2 x'),.int .u64 (l3 x'),.int .u64 (l0 y'),.int .u64 (l1 y'),.int .u64 (l2 y'),.int .u64 (l3 y'),.int .u64 (l0 z'),.int .u64 (l1 z'),.int .u64 (l2 z'),.int .u64 (l3 z')]):=by
 by_cases h0:z=0
 ·refine ⟨x,y,z,hx,hy,hz,?_,fun w _=>Ao (fun w=>?_) w⟩
  ·unfold EC.jd
   rw [if_pos (by show EC.fp z=0;rw [h0,EC.fp_zero])]
  ·have:=dc (x:=x) (y:=y) hz.num w
   rw [decide_eq_true h0] at this;exact this
 ·have C0:Hid (∀ w,Rt 46 #[.agg #[.int .u64 (l0 x),.int .u64 (l1 x),.int .u64 (l2 x),.int .u64 (l3 x),.int .u64 (l0 y),.int .u64 (l1 y),.int .u64 (l2 y),.int .u64 (l3 y),.int .u64 (l0 z),.int .u64 (l1 z),.int .u64 (l2 z),.int .u64 (l3 z)]] w (.bool false)):=fun w=>by
   have:=dc (x:=x) (y:=y) hz.num w
   rw [decide_eq_false h0] at this;exact this
  refine ⟨_,_,_,EC.low_mod _,EC.low_mod _,EC.low_mod _,?_,fun w hm=>vv C0 (fun w hm=>aY hy.num w hm) (fun w hm=>aY (ag am _) w hm) (fun w hm=>aY hx.num w hm)
   (fun w hm=>cw (ag am _) w hm) (fun w hm=>k9 (ag am _) (ag am _) w hm) (fun w hm=>aD hx.num (ag am _) w hm) (fun w hm=>cw (ag am _) w hm) (fun w hm=>cw (ag am _) w hm)
   (fun w hm=>aY (ag am _) w hm) (fun w hm=>cw (ag am _) w hm) (fun w hm=>bK (ag am _) (ag am _) w hm) (fun w hm=>bK (ag am _) (ag am _) w hm) (fun w hm=>aD (ag am _) (ag am _) w hm)
   (fun w hm=>cw (ag am _) w hm) (fun w hm=>cw (ag am _) w hm) (fun w hm=>cw (ag am _) w hm) (fun w hm=>bK (ag am _) (ag am _) w hm) (fun w hm=>aD hy.num hz.num w hm) (fun w hm=>cw (ag am _) w hm) w hm⟩
  unfold EC.jd
  rw [if_neg (show ¬(J3 x y z).z=0 from oW hz h0)]
  unfold J3
  simp only [EC.fp_mod,EC.fp_mul,EC.fp_add,EC.fp_sub]
  generalize EC.fp x=X;generalize EC.fp y=Y;generalize EC.fp z=Z
  congr 1
  ·unfold EC.dx;grind -lia -linarith
  ·unfold EC.dy EC.dx;grind -lia -linarith
  ·unfold EC.dz;grind -lia -linarith
theorem nq {x y z x2 y2 z2:Int} (hx:EC.Low x) (hy:EC.Low y) (hz:EC.Low z) (hx2:EC.Low x2) (hy2:EC.Low y2) (hz2:EC.Low z2):∃ x' y' z',EC.Low x'∧EC.Low y'∧EC.Low z'∧J3 x' y' z'=EC.ja (J3 x y z) (J3 x2 y2 z2) ∧
  ∀ w,Mds w→Rt 42 #[.agg #[.int .u64 (l0 x),.int .u64 (l1 x),.int .u64 (l2 x),.int .u64 (l3 x),.int .u64 (l0 y),.int .u64 (l1 y),.int .u64 (l2 y),.int .u64 (l3 y),.int .u64 (l0 z),.int .u64 (l1 z),.int .u64 (l2 z),.int .u64 (l3 z)],.agg #[.int .u64 (l0 x2),.int .u64 (l1 x2),.int .u64 (l2 x2),.int .u64 (l3 x2),.int .u64 (l0 y2),.int .u64 (l1 y2),.int .u64 (l2 y2),.int .u64 (l3 y2),.int .u64 (l0 z2),.int .u64 (l1 z2),.int .u64 (l2 z2),.int .u64 (l3 z2)]] w (.agg #[.int .u64 (l0 x'),.int .u64 (l1 x'),.int .u64 (l2 x'),.int .u64 (l3 x'),.int .u64 (l0 y'),.int .u64 (l1 y'),.int .u64 (l2 y'),.int .u64 (l3 y'),.int .u64 (l0 z'),.int .u64 (l1 z'),.int .u64 (l2 z'),.int .u64 (l3 z')]):=by
 by_cases h0:z=0
 ·refine ⟨x2,y2,z2,hx2,hy2,hz2,?_,fun w _=>Cq (fun w=>?_) w⟩
  ·unfold EC.ja
   rw [if_pos (show (J3 x y z).z=0 by show EC.fp z=0;rw [h0,EC.fp_zero])]
  ·have:=dc (x:=x) (y:=y) hz.num w
   rw [decide_eq_true h0] at this;exact this
 have C0:Hid (∀ w,Rt 46 #[.agg #[.int .u64 (l0 x),.int .u64 (l1 x),.int .u64 (l2 x),.int .u64 (l3 x),.int .u64 (l0 y),.int .u64 (l1 y),.int .u64 (l2 y),.int .u64 (l3 y),.int .u64 (l0 z),.int .u64 (l1 z),.int .u64 (l2 z),.int .u64 (l3 z)]] w (.bool false)):=fun w=>by
  have:=dc (x:=x) (y:=y) hz.num w
  rw [decide_eq_false h0] at this;exact this
 have n0:¬(J3 x y z).z=0:=oW hz h0
 by_cases h2:z2=0
 ·refine ⟨x,y,z,hx,hy,hz,?_,fun w _=>Cr C0 (fun w=>?_) w⟩
  ·unfold EC.ja
   rw [if_neg n0,if_pos (show (J3 x2 y2 z2).z=0 by show EC.fp z2=0;rw [h2,EC.fp_zero])]
  ·have:=dc (x:=x2) (y:=y2) hz2.num w
   rw [decide_eq_true h2] at this;exact this
 have C1:Hid (∀ w,Rt 46 #[.agg #[.int .u64 (l0 x2),.int .u64 (l1 x2),.int .u64 (l2 x2),.int .u64 (l3 x2),.int .u64 (l0 y2),.int .u64 (l1 y2),.int .u64 (l2 y2),.int .u64 (l3 y2),.int .u64 (l0 z2),.int .u64 (l1 z2),.int .u64 (l2 z2),.int .u64 (l3 z2)]] w (.bool false)):=fun w=>by
  have:=dc (x:=x2) (y:=y2) hz2.num w
  rw [decide_eq_false h2] at this;exact this
 have n2:¬(J3 x2 y2 z2).z=0:=oW hz2 h2
 obtain ⟨h,eh⟩:∃ h,h=ab pN (ab pN (x2*ab pN (z*z))-ab pN (x*ab pN (z2*z2))):=⟨_,rfl⟩
 obtain ⟨r,er⟩:∃ r,r=ab pN (ab pN (y2*ab pN (ab pN (z*z)*z))-ab pN (y*ab pN (ab pN (z2*z2)*z2))):=⟨_,rfl⟩
 have lh:EC.Low h:=by rw [eh];exact EC.low_mod _
 have lr:EC.Low r:=by rw [er];exact EC.low_mod _
 have fh:EC.fp h=EC.run (J3 x y z).x (J3 x y z).z (J3 x2 y2 z2).x (J3 x2 y2 z2).z:=by
  rw [eh];simp only [EC.fp_mod,EC.fp_mul,EC.fp_sub];rfl
 have fr:EC.fp r=EC.rise (J3 x y z).y (J3 x y z).z (J3 x2 y2 z2).y (J3 x2 y2 z2).z:=by
  rw [er];simp only [EC.fp_mod,EC.fp_mul,EC.fp_sub];rfl
 by_cases hh:h=0
 ·have e0:EC.run (J3 x y z).x (J3 x y z).z (J3 x2 y2 z2).x (J3 x2 y2 z2).z=0:=by rw [←fh,hh,EC.fp_zero]
  have he:∀ w,(Op.equalIn 10000 24 (U4 h) (.agg #[.int .u64 0,.int .u64 0,.int .u64 0,.int .u64 0])).run Tryz.prog w = .ok true w:=fun w=>by
   have:=ik lh.num (m:=0) ⟨by decide,by decide⟩ w
   obtain ⟨z0,z1,z2,z3⟩:=ap
   ((try unfold Rt at this);(try unfold U4 at this);(try unfold P9 at this);rw [z0,z1,z2,z3,decide_eq_true hh] at this)
   exact this
  have key:∃ x' y' z',EC.Low x'∧EC.Low y'∧EC.Low z'∧J3 x' y' z'=EC.ja (J3 x y z) (J3 x2 y2 z2)∧Hid (∀ w,Mds w→Rt 79 #[.agg #[.int .u64 (l0 x),.int .u64 (l1 x),.int .u64 (l2 x),.int .u64 (l3 x),.int .u64 (l0 y),.int .u64 (l1 y),.int .u64 (l2 y),.int .u64 (l3 y),.int .u64 (l0 z),.int .u64 (l1 z),.int .u64 (l2 z),.int .u64 (l3 z)],U4 r] w (.agg #[.int .u64 (l0 x'),.int .u64 (l1 x'),.int .u64 (l2 x'),.int .u64 (l3 x'),.int .u64 (l0 y'),.int .u64 (l1 y'),.int .u64 (l2 y'),.int .u64 (l3 y'),.int .u64 (l0 z'),.int .u64 (l1 z'),.int .u64 (l2 z'),.int .u64 (l3 z')])):=by
   by_cases hr:r=0
   ·obtain ⟨x',y',z',l1,l2,l3,ej,cj⟩:=nk hx hy hz
    refine ⟨x',y',z',l1,l2,l3,?_,fun w hm=>?_⟩
    ·rw [ej];unfold EC.ja
     rw [if_neg n0,if_neg n2,if_pos e0,if_pos (by rw [←fr,hr,EC.fp_zero])]
    ·rw [hr];exact so cj w hm
   ·refine ⟨0,0,0,⟨by decide,by decide⟩,⟨by decide,by decide⟩,⟨by decide,by decide⟩,?_,fun w _=>vn lr.num hr w⟩
    unfold EC.ja
    rw [if_neg n0,if_neg n2,if_pos e0,if_neg (by rw [←fr];exact oW lr hr)]
    unfold J3 EC.J.o
    rw [EC.fp_zero]
  obtain ⟨x',y',z',l1,l2,l3,ej,cj⟩:=key
  subst eh;subst er
  exact ⟨x',y',z',l1,l2,l3,ej,fun w hm=>oU C0 C1 (fun w hm=>aY hz.num w hm) (fun w hm=>aY hz2.num w hm) (fun w hm=>aD hx.num (ag am _) w hm) (fun w hm=>aD (ag am _) hz2.num w hm) (fun w hm=>aD hy.num (ag am _) w hm) (fun w hm=>aD hx2.num (ag am _) w hm) (fun w hm=>bK (ag am _) (ag am _) w hm) (fun w hm=>aD (ag am _) hz.num w hm) (fun w hm=>aD hy2.num (ag am _) w hm) (fun w hm=>bK (ag am _) (ag am _) w hm) (.inl ⟨he,cj⟩) w hm⟩
 ·have e0:¬EC.run (J3 x y z).x (J3 x y z).z (J3 x2 y2 z2).x (J3 x2 y2 z2).z=0:=by rw [←fh];exact oW lh hh
  have he:∀ w,(Op.equalIn 10000 24 (U4 h) (.agg #[.int .u64 0,.int .u64 0,.int .u64 0,.int .u64 0])).run Tryz.prog w = .ok false w:=fun w=>by
   have:=ik lh.num (m:=0) ⟨by decide,by decide⟩ w
   obtain ⟨z0,z1,z2,z3⟩:=ap
   ((try unfold Rt at this);(try unfold U4 at this);(try unfold P9 at this);rw [z0,z1,z2,z3,decide_eq_false hh] at this)
   exact this
  subst eh;subst er
  refine ⟨_,_,_,EC.low_mod _,EC.low_mod _,EC.low_mod _,?_,fun w hm=>oU C0 C1 (fun w hm=>aY hz.num w hm) (fun w hm=>aY hz2.num w hm) (fun w hm=>aD hx.num (ag am _) w hm) (fun w hm=>aD (ag am _) hz2.num w hm) (fun w hm=>aD hy.num (ag am _) w hm) (fun w hm=>aD hx2.num (ag am _) w hm) (fun w hm=>bK (ag am _) (ag am _) w hm) (fun w hm=>aD (ag am _) hz.num w hm) (fun w hm=>aD hy2.num (ag am _) w hm) (fun w hm=>bK (ag am _) (ag am _) w hm) (.inr ⟨he,_,_,_,_,_,_,_,_,_,_,⟨(fun w hm=>aY (ag am _) w hm),(fun w hm=>aD (ag am _) (ag am _) w hm),(fun w hm=>aD (ag am _) (ag am _) w hm),(fun w hm=>aY (ag am _) w hm),(fun w hm=>bK (ag am _) (ag am _) w hm),(fun w hm=>cw (ag am _) w hm),(fun w hm=>bK (ag am _) (ag am _) w hm),(fun w hm=>bK (ag am _) (ag am _) w hm),(fun w hm=>aD (ag am _) (ag am _) w hm),(fun w hm=>aD (ag am _) (ag am _) w hm),(fun w hm=>bK (ag am _) (ag am _) w hm),(fun w hm=>aD hz.num hz2.num w hm),(fun w hm=>aD (ag am _) (ag am _) w hm)⟩⟩) w hm⟩
  unfold EC.ja
  rw [if_neg n0,if_neg n2,if_neg e0,←fh,←fr]
  unfold J3
  simp only [EC.fp_mod,EC.fp_mul,EC.fp_add,EC.fp_sub]
  generalize EC.fp x=X;generalize EC.fp y=Y;generalize EC.fp z=Z;generalize EC.fp x2=X2;generalize EC.fp y2=Y2;generalize EC.fp z2=Z2
  generalize X2*(Z*Z)-X*(Z2*Z2)=H
  generalize Y2*(Z*Z*Z)-Y*(Z2*Z2*Z2)=R
  congr 1
  ·unfold EC.ax;grind -lia -linarith
  ·unfold EC.ay EC.ax;grind -lia -linarith
open Go.RowKit Go.Sort
theorem Ap (a0 a1 a2 a3 b0 b1 b2 b3:Int) (w:World):(Op.equalIn 9999 24 (.agg #[.int .u64 a0,.int .u64 a1,.int .u64 a2,.int .u64 a3]) (.agg #[.int .u64 b0,.int .u64 b1,.int .u64 b2,.int .u64 b3])).run Tryz.prog w = .ok (a0==b0&&(a1==b1&&(a2==b2&&a3==b3))) w:=by
 have tu:=Tryz.underlying22
 have ta:=Tryz.isAgg22
 have tz:=Tryz.sizeOf22
 rw [show (9999:Nat)=9998+1 from rfl,Op.equalIn]
 simp only [Sem.run_bind,run_underlying Tryz.underlying24,Result.andThen_ok]
 simp only [Std.Legacy.Range.forIn_eq_forIn_range',Std.Legacy.Range.size,Nat.sub_zero,Nat.add_sub_cancel,Nat.div_one,List.range'_succ,List.range'_zero,List.forIn_cons,List.forIn_nil]
 go_simp
 by_cases h1:a0=b0<;>by_cases h2:a1=b1<;>by_cases h3:a2=b2<;>by_cases h4:a3=b3<;>simp [h1,h2,h3,h4]
theorem t8 {n m:Int} (hn:Num n) (hm:Num m) (w:World):(Op.equalIn 9999 24 (U4 n) (U4 m)).run Tryz.prog w = .ok (decide (n=m)) w:=by
 rw [Ap]
 congr 1
 by_cases h:n=m
 ·subst h;simp
 ·have:¬(l0 n=l0 m∧l1 n=l1 m∧l2 n=l2 m∧l3 n=l3 m):=fun ⟨a,b,c,d⟩=>h (tM hn hm a b c d)
  simp [h]
  intro a b c d
  exact this ⟨a,b,c,d⟩
theorem vD {x y x' y':Int} {i j:Bool} (hx:Num x) (hy:Num y) (hx':Num x') (hy':Num y') (w:World) :
  (Op.equalIn 10000 40 (P9 x y i) (P9 x' y' j)).run Tryz.prog w = .ok (decide (x=x')&&(decide (y=y')&&(i==j))) w:=by
 have e1:=t8 hx hx'
 have e2:=t8 hy hy'
 have tf : (Tryz.prog.fieldsOf 40) = #[{ name := "X", type := 24, offset := 0, embedded := false, tag := "", pkgPath := "", byteOffset := 0 }, { name := "Y", type := 24, offset := 4, embedded := false, tag := "", pkgPath := "", byteOffset := 32 }, { name := "Identity", type := 4, offset := 8, embedded := false, tag := "", pkgPath := "", byteOffset := 64 }] := by
  unfold Program.fieldsOf;rw [Tryz.underlying40]
 rw [show (10000:Nat)=9999+1 from rfl,run_equalIn_struct w 9999 _ _ _ (by rw [tf];exact Tryz.underlying40) (by kernel_rfl),tf]
 have tu:=Tryz.underlying4
 have ta:=Tryz.isAgg4
 have tz:=Tryz.sizeOf4
 have ta':=Tryz.isAgg24
 have tz':=Tryz.sizeOf24
 simp only [Op.eqFields]
 go_simp
 by_cases h1:x=x'<;>by_cases h2:y=y'<;>by_cases h3:i=j<;>simp [h1,h2,h3]
open Go.RowKit Go.Sort
theorem Cs {x y:Int} (hx:Num x) (hy:Num y) (w:World) :
  Rt 66 #[P9 x y true] w (.bool (decide (x=0)&&decide (y=0))):=by
 have he:∀ w,(Op.equalIn 10000 40 (P9 x y true) (.agg #[.int .u64 0,.int .u64 0,.int .u64 0,.int .u64 0,.int .u64 0,.int .u64 0,.int .u64 0,.int .u64 0,.bool true])).run Tryz.prog w = .ok (decide (x=0)&&decide (y=0)) w:=fun w=>by
  have:=vD (i:=true) (j:=true) hx hy (x':=0) (y':=0) ⟨by decide,by decide⟩ ⟨by decide,by decide⟩ w
  obtain ⟨z0,z1,z2,z3⟩:=ap
  ((try unfold Rt at this);(try unfold U4 at this);(try unfold P9 at this);rw [z0,z1,z2,z3] at this)
  rw [this];simp
 generalize (decide (x=0)&&decide (y=0))=r at *
 clear hx hy
 go_enter Tryz.func66,Tryz.ntmps66
 go_wp2
 simp [bodyPost,results,Tryz.results66,go_sem]
 repeat (first|with_reducible exact Below.refl _ _|with_reducible refine Below.alloc ?_ (by first|omega|(simp;done)|(simp;omega)) _)
theorem DA {x y:Int} (C1:Hid (∀ w,Mds w→Rt 62 #[U4 x] w (.bool false))) (w:World) (hm:Mds w) :
    Rt 66 #[P9 x y false] w (.bool false):=by
  go_enter Tryz.func66,Tryz.ntmps66
  go_wp2_with fail
  refine ah (fun W=>Below w.heap.size w W∧Mds W∧Pnt W w.heap.size x y false) ⟨by repeat (first|with_reducible exact Below.refl _ _|with_reducible refine Below.alloc ?_ (by first|omega|(simp;done)|(simp;omega)) _),hm.alloc _,Pnt.new rfl⟩ ?_
  rintro W ⟨B,hD,hP⟩
  have ghP:=hP.grown
  have hDg:∀ d os,Mds (grow (redrawn W d) os):=fun d os=>hD.keep (below_regrown W d os)
  refine wp_region_quiet_below (by kernel_rfl) (by kernel_rfl) ?_
  repeat
    first
      | go_big_quiet_skip
      | (go_big_quiet_want;go_big_quiet_op;go_big_quiet_on)
      | (go_big_quiet_want
         go_big_quiet_op
         apply Exists.intro
         refine ⟨fun p=>?_,?_⟩
         · (first|(go_at_call 62;with_reducible exact Calls.regrown_of (C1.out _ (hDg p.d p.os))))
         go_big_quiet_on)
  refine wpQuiet_nil ?_
  rintro w1 ⟨p,rfl⟩
  have hb:=below_regrown W p.d p.os
  generalize grow (redrawn W p.d) p.os=w1 at *
  replace B:=B.trans (hb.mono B.size)
  replace hD:=hD.keep hb;replace hP:=hP.keep hb
  clear hb W ghP hDg
  clear hD hP
  go_wp2
  simp [bodyPost,results,Tryz.results66,go_sem]
  exact B
theorem DB {x y:Int} (C1:Hid (∀ w,Mds w→Rt 62 #[U4 x] w (.bool true))) (C2:Hid (∀ w,Mds w→Rt 62 #[U4 y] w (.bool false))) (w:World) (hm:Mds w) :
    Rt 66 #[P9 x y false] w (.bool false):=by
  go_enter Tryz.func66,Tryz.ntmps66
  go_wp2_with fail
  refine ah (fun W=>Below w.heap.size w W∧Mds W∧Pnt W w.heap.size x y false) ⟨by repeat (first|with_reducible exact Below.refl _ _|with_reducible refine Below.alloc ?_ (by first|omega|(simp;done)|(simp;omega)) _),hm.alloc _,Pnt.new rfl⟩ ?_
  rintro W ⟨B,hD,hP⟩
  have ghP:=hP.grown
  have hDg:∀ d os,Mds (grow (redrawn W d) os):=fun d os=>hD.keep (below_regrown W d os)
  refine wp_region_quiet_below (by kernel_rfl) (by kernel_rfl) ?_
  repeat
    first
      | go_big_quiet_skip
      | (go_big_quiet_want;go_big_quiet_op;go_big_quiet_on)
      | (go_big_quiet_want
         go_big_quiet_op
         apply Exists.intro
         refine ⟨fun p=>?_,?_⟩
         · (first|(go_at_call 62;with_reducible exact Calls.regrown_of (C1.out _ (hDg p.d p.os)))|(go_at_call 62;with_reducible exact Calls.regrown_of (C2.out _ (hDg p.d p.os))))
         go_big_quiet_on)
  refine wpQuiet_nil ?_
  rintro w1 ⟨p,rfl⟩
  have hb:=below_regrown W p.d p.os
  generalize grow (redrawn W p.d) p.os=w1 at *
  replace B:=B.trans (hb.mono B.size)
  replace hD:=hD.keep hb;replace hP:=hP.keep hb
  clear hb W ghP hDg
  clear hD hP
  go_wp2
  simp [bodyPost,results,Tryz.results66,go_sem]
  exact B
theorem DC {x y a b:Int} {r:Bool} (C1:Hid (∀ w,Mds w→Rt 62 #[U4 x] w (.bool true))) (C2:Hid (∀ w,Mds w→Rt 62 #[U4 y] w (.bool true))) (C3:Hid (∀ w,Mds w→Rt 48 #[U4 y] w (U4 a))) (C4:Hid (∀ w,Mds w→Rt 64 #[U4 x] w (U4 b))) (he:∀ w,(Op.equalIn 10000 24 (U4 a) (U4 b)).run Tryz.prog w = .ok r w) (w:World) (hm:Mds w) :
    Rt 66 #[P9 x y false] w (.bool r):=by
  go_enter Tryz.func66,Tryz.ntmps66
  go_wp2_with fail
  refine ah (fun W=>Below w.heap.size w W∧Mds W∧Pnt W w.heap.size x y false) ⟨by repeat (first|with_reducible exact Below.refl _ _|with_reducible refine Below.alloc ?_ (by first|omega|(simp;done)|(simp;omega)) _),hm.alloc _,Pnt.new rfl⟩ ?_
  rintro W ⟨B,hD,hP⟩
  have ghP:=hP.grown
  have hDg:∀ d os,Mds (grow (redrawn W d) os):=fun d os=>hD.keep (below_regrown W d os)
  refine wp_region_quiet_below (by kernel_rfl) (by kernel_rfl) ?_
  repeat
    first
      | go_big_quiet_skip
      | (go_big_quiet_want;go_big_quiet_op;go_big_quiet_on)
      | (go_big_quiet_want
         go_big_quiet_op
         apply Exists.intro
         refine ⟨fun p=>?_,?_⟩
         · (first|(go_at_call 62;with_reducible exact Calls.regrown_of (C1.out _ (hDg p.d p.os)))|(go_at_call 62;with_reducible exact Calls.regrown_of (C2.out _ (hDg p.d p.os)))|(go_at_call 48;with_reducible exact Calls.regrown_of (C3.out _ (hDg p.d p.os)))|(go_at_call 64;with_reducible exact Calls.regrown_of (C4.out _ (hDg p.d p.os))))
         go_big_quiet_on)
  refine wpQuiet_nil ?_
  rintro w1 ⟨p,rfl⟩
  have hb:=below_regrown W p.d p.os
  generalize grow (redrawn W p.d) p.os=w1 at *
  replace B:=B.trans (hb.mono B.size)
  replace hD:=hD.keep hb;replace hP:=hP.keep hb
  clear hb W ghP hDg
  clear hD hP
  go_wp2
  simp [bodyPost,results,Tryz.results66,go_sem]
  exact B
def bD (x y:Int) (i:Bool):EC.Pt:=if i then .o else .a (EC.fp x) (EC.fp y)
def Vd (x y:Int) (i:Bool):Prop:=if i then x=0∧y=0 else EC.Low x∧EC.Low y∧EC.On (bD x y false)
instance (x:Int):Decidable (EC.Low x):=inferInstanceAs (Decidable (_∧_))
instance (x y:Int):Decidable (EC.On (bD x y false)):=inferInstanceAs (Decidable (_=_))
instance (x y:Int) (i:Bool):Decidable (Vd x y i):=by unfold Vd;cases i<;>infer_instance
theorem Vd.on {x y:Int} {i:Bool} (h:Vd x y i):EC.On (bD x y i):=by
 cases i with
 | true=>exact EC.on_o
 | false=>exact h.2.2
theorem Vd.low {x y:Int} {i:Bool} (h:Vd x y i):EC.Low x∧EC.Low y:=by
 cases i with
 | true=>obtain ⟨rfl,rfl⟩:=h;exact ⟨⟨by decide,by decide⟩,⟨by decide,by decide⟩⟩
 | false=>exact ⟨h.1,h.2.1⟩
theorem Vd.inj {x y x' y':Int} {i j:Bool} (h:Vd x y i) (h':Vd x' y' j) (e:bD x y i=bD x' y' j):x=x'∧y=y'∧i=j:=by
 cases i<;>cases j
 ·have e':EC.Pt.a (EC.fp x) (EC.fp y) = .a (EC.fp x') (EC.fp y'):=e
  injection e' with e1 e2
  exact ⟨EC.fp_inj h.1 h'.1 e1,EC.fp_inj h.2.1 h'.2.1 e2,rfl⟩
 ·have e':EC.Pt.a (EC.fp x) (EC.fp y) = .o:=e
  cases e'
 ·have e':EC.Pt.o = .a (EC.fp x') (EC.fp y'):=e
  cases e'
 ·obtain ⟨rfl,rfl⟩:=h;obtain ⟨rfl,rfl⟩:=h';exact ⟨rfl,rfl,rfl⟩
theorem Aq {x y:Int} {i:Bool} (hx:Num x) (hy:Num y) (w:World) (hm:Mds w) :
  Rt 66 #[P9 x y i] w (.bool (decide (Vd x y i))):=by
 cases i with
 | true =>
  have:=Cs hx hy w
  rw [show (decide (x=0)&&decide (y=0))=decide (Vd x y true) by rw [←Bool.decide_and];rfl] at this
  exact this
 | false =>
  by_cases h1:x<pN
  ·have C1:Hid (∀ w,Mds w→Rt 62 #[U4 x] w (.bool true)):=fun w hm=>by
    have:=dF hx w hm
    rw [decide_eq_true h1] at this;exact this
   by_cases h2:y<pN
   ·have C2:Hid (∀ w,Mds w→Rt 62 #[U4 y] w (.bool true)):=fun w hm=>by
     have:=dF hy w hm
     rw [decide_eq_true h2] at this;exact this
    have lx:EC.Low x:=⟨hx.1,h1⟩
    have ly:EC.Low y:=⟨hy.1,h2⟩
    have key:decide (ab pN (y*y)=cF x)=decide (Vd x y false):=by
     apply decide_eq_decide.2
     constructor
     ·intro e
      refine ⟨lx,ly,?_⟩
      have:=congrArg EC.fp e
      unfold cF at this
      simp only [EC.fp_mod,EC.fp_mul,EC.fp_add] at this
      rw [show EC.fp 7=7 by decide +kernel] at this
      exact this
     ·intro ⟨_,_,e⟩
      have e':EC.fp y*EC.fp y=EC.fp x*EC.fp x*EC.fp x+7:=e
      unfold cF
      refine EC.fp_inj (EC.low_mod _) (EC.low_mod _) ?_
      simp only [EC.fp_mod,EC.fp_mul,EC.fp_add]
      rw [show EC.fp 7=7 by decide +kernel]
      exact e'
    rw [←key]
    exact DC C1 C2 (fun w hm=>aY hy w hm) (fun w hm=>i8 hx w hm) (fun w=>ik (ag am _) (ag am _) w) w hm
   ·rw [decide_eq_false (show ¬Vd x y false from fun h=>h2 h.2.1.2)]
    exact DB C1 (fun w hm=>by
     have:=dF hy w hm
     rw [decide_eq_false h2] at this;exact this) w hm
  ·rw [decide_eq_false (show ¬Vd x y false from fun h=>h1 h.1.2)]
   exact DA (fun w hm=>by
    have:=dF hx w hm
    rw [decide_eq_false h1] at this;exact this) w hm
theorem nu {x y:Int} {i:Bool} (h:Vd x y i):∃ x' y' z',EC.Low x'∧EC.Low y'∧EC.Low z'∧(J3 x' y' z').pt=bD x y i ∧
  ∀ w,Rt 44 #[P9 x y i] w (.agg #[.int .u64 (l0 x'),.int .u64 (l1 x'),.int .u64 (l2 x'),.int .u64 (l3 x'),.int .u64 (l0 y'),.int .u64 (l1 y'),.int .u64 (l2 y'),.int .u64 (l3 y'),.int .u64 (l0 z'),.int .u64 (l1 z'),.int .u64 (l2 z'),.int .u64 (l3 z')]):=by
 cases i with
 | true =>
  refine ⟨0,0,0,⟨by decide,by decide⟩,⟨by decide,by decide⟩,⟨by decide,by decide⟩,?_,fun w=>vk w⟩
  exact EC.pt_o EC.fp_zero
 | false =>
  refine ⟨x,y,1,h.1,h.2.1,⟨by decide,by decide⟩,?_,fun w=>vm w⟩
  show EC.pt (EC.fp x) (EC.fp y) (EC.fp 1) = .a (EC.fp x) (EC.fp y)
  rw [EC.fp_one]
  refine EC.pt_of (by decide +kernel) ?_ ?_<;>grind -lia -linarith
theorem qS {x y z:Int} (hx:EC.Low x) (hy:EC.Low y) (hz:EC.Low z):∃ x' y' i,EC.Low x'∧EC.Low y'∧(i=true→x'=0∧y'=0)∧bD x' y' i=(J3 x y z).pt ∧
  ∀ w,Mds w→Rt 19 #[.agg #[.int .u64 (l0 x),.int .u64 (l1 x),.int .u64 (l2 x),.int .u64 (l3 x),.int .u64 (l0 y),.int .u64 (l1 y),.int .u64 (l2 y),.int .u64 (l3 y),.int .u64 (l0 z),.int .u64 (l1 z),.int .u64 (l2 z),.int .u64 (l3 z)]] w (P9 x' y' i):=by
 by_cases h0:z=0
 ·subst h0
  exact ⟨0,0,true,⟨by decide,by decide⟩,⟨by decide,by decide⟩,fun _=>⟨rfl,rfl⟩,(EC.pt_o EC.fp_zero).symm,fun w _=>xJ w⟩
 ·have hm0:ab pN z≠0:=by rw [cO hz.1 hz.2];exact h0
  refine ⟨_,_,false,EC.low_mod _,EC.low_mod _,(fun e=>by cases e),?_,fun w hm=>qE (v:=cQ pN z) (fun w=>?_) (fun w hm=>kg mU hz.num hm0 w hm) (fun w hm=>aY (dV am _ _) w hm)
   (fun w hm=>aD hx.num (ag am _) w hm) (fun w hm=>aD (ag am _) (dV am _ _) w hm) (fun w hm=>aD hy.num (ag am _) w hm) w hm⟩
  ·show EC.Pt.a _ _=EC.pt (EC.fp x) (EC.fp y) (EC.fp z)
   unfold EC.pt
   rw [if_neg (oW hz h0)]
   have ei:EC.fp (aL pN z (pN-2))=EC.iv (EC.fp z):=EC.fp_inv hz
   simp only [EC.fp_mod,EC.fp_mul,ei]
  ·have:=dc (x:=x) (y:=y) hz.num w
   rw [decide_eq_false h0] at this;exact this
open Go.RowKit Go.Sort
theorem Ar {key non dig x y:Int} {i:Bool} (C0:Hid (∀ w,Mds w→Rt 51 #[U4 x] w (.bool false))) (w:World) (hm:Mds w) :
  Rt 54 #[U4 key,U4 non,U4 dig,P9 x y i] w (.tuple #[.agg #[.int .u64 (l0 0),.int .u64 (l1 0),.int .u64 (l2 0),.int .u64 (l3 0),.int .u64 (l0 0),.int .u64 (l1 0),.int .u64 (l2 0),.int .u64 (l3 0),.bool false],.int .i64 64]):=by
 obtain ⟨z0,z1,z2,z3⟩:=ap
 ((try unfold Rt);(try unfold U4);(try unfold P9);rw [z0,z1,z2,z3])
 clear z0 z1 z2 z3
 go_enter Tryz.func54,Tryz.ntmps54
 go_wp2_with fail
 refine aa (fun W=>Below w.heap.size w W∧Mds W∧ae W w.heap.size key∧ae W (w.heap.size+1) non∧ae W (w.heap.size+1+1) dig∧Pnt W (w.heap.size+1+1+1) x y i∧Bk9 W (w.heap.size+1+1+1+1)) ⟨by repeat (first|with_reducible exact Below.refl _ _|with_reducible refine Below.alloc ?_ (by first|omega|(simp;done)|(simp;omega)) _),((((hm.alloc _).alloc _).alloc _).alloc _).alloc _,((((ae.new _ _ _).alloc _).alloc _).alloc _).alloc _,(((ae.fresh (by simp)).alloc _).alloc _).alloc _,((ae.fresh (by simp)).alloc _).alloc _,(Pnt.new (by simp)).alloc _,Bk9.new (by simp)⟩ ?_
 rintro W ⟨B,hD,hK,hE,hG,hP,hR⟩
 have o3:w.heap.size≤w.heap.size+1+1+1+1:=by omega
 generalize w.heap.size+1+1+1+1=br at *
 generalize w.heap.size+1+1+1=bp at *
 generalize w.heap.size+1+1=bg at *
 generalize w.heap.size+1=bn at *
 with_reducible refine (C0.out _ hD).mono ?_
 rintro e w9 ⟨rfl,hb⟩
 replace B:=B.trans (hb.mono B.size)
 replace hD:=hD.keep hb;replace hK:=hK.keep hb;replace hE:=hE.keep hb;replace hG:=hG.keep hb;replace hP:=hP.keep hb;replace hR:=hR.keep hb
 clear hb W hD hK hE hG hP
 have gR:=hR.cells;have fR:=hR.free
 go_wp2
 simp [bodyPost,results,Tryz.results54,go_sem,gR]
 repeat (first|with_reducible exact B|with_reducible refine Below.setCell ?_ o3 _)
theorem yh {key non dig x y a b v s:Int} {i:Bool} (C0:Hid (∀ w,Mds w→Rt 51 #[U4 x] w (.bool true))) (A1:Hid (∀ w,Mds w→Rt 33 #[U4 x,U4 key] w (U4 a))) (A2:Hid (∀ w,Mds w→Rt 86 #[U4 dig,U4 a] w (U4 b))) (A3:Hid (∀ w,Mds w→Rt 31 #[U4 non] w (U4 v))) (A4:Hid (∀ w,Mds w→Rt 33 #[U4 b,U4 v] w (U4 s))) (Z1:Hid (∀ w,Rt 50 #[U4 x] w (.bool true))) (w:World) (hm:Mds w) :
    Rt 54 #[U4 key,U4 non,U4 dig,P9 x y i] w (.tuple #[.agg #[.int .u64 (l0 0),.int .u64 (l1 0),.int .u64 (l2 0),.int .u64 (l3 0),.int .u64 (l0 0),.int .u64 (l1 0),.int .u64 (l2 0),.int .u64 (l3 0),.bool false],.int .i64 65]):=by
  obtain ⟨z0,z1,z2,z3⟩:=ap
  ((try unfold Rt);(try unfold U4);(try unfold P9);rw [z0,z1,z2,z3])
  clear z0 z1 z2 z3
  go_enter Tryz.func54,Tryz.ntmps54
  go_wp2_with fail
  refine aa (fun W=>Below w.heap.size w W∧Mds W∧ae W w.heap.size key∧ae W (w.heap.size+1) non∧ae W (w.heap.size+1+1) dig∧Pnt W (w.heap.size+1+1+1) x y i∧Bk9 W (w.heap.size+1+1+1+1)) ⟨by repeat (first|with_reducible exact Below.refl _ _|with_reducible refine Below.alloc ?_ (by first|omega|(simp;done)|(simp;omega)) _),((((hm.alloc _).alloc _).alloc _).alloc _).alloc _,((((ae.new _ _ _).alloc _).alloc _).alloc _).alloc _,(((ae.fresh (by simp)).alloc _).alloc _).alloc _,((ae.fresh (by simp)).alloc _).alloc _,(Pnt.new (by simp)).alloc _,Bk9.new (by simp)⟩ ?_
  rintro W ⟨B,hD,hK,hE,hG,hP,hR⟩
  have o3:w.heap.size≤w.heap.size+1+1+1+1:=by omega
  generalize w.heap.size+1+1+1+1=br at *
  generalize w.heap.size+1+1+1=bp at *
  generalize w.heap.size+1+1=bg at *
  generalize w.heap.size+1=bn at *
  with_reducible refine (C0.out _ hD).mono ?_
  rintro e w1 ⟨rfl,hb⟩
  replace B:=B.trans (hb.mono B.size)
  replace hD:=hD.keep hb;replace hK:=hK.keep hb;replace hE:=hE.keep hb;replace hG:=hG.keep hb;replace hP:=hP.keep hb;replace hR:=hR.keep hb
  clear hb W
  go_wp2_with fail
  refine ah (fun W=>Below w.heap.size w W∧Mds W∧ae W w.heap.size key∧ae W bn non∧ae W bg dig∧Pnt W bp x y i∧Bk9 W br) ⟨B,hD,hK,hE,hG,hP,hR⟩ ?_
  clear B hD hK hE hG hP hR
  rintro W ⟨B,hD,hK,hE,hG,hP,hR⟩
  refine bS (A:=?AA1) 9 (by kernel_rfl) (by kernel_rfl) rfl rfl (bE _ _ _) (fun V hV=>?HH1) (fun V w1 hV hw=>?TT1)
  case HH1 =>
    have hDg:∀ d os,Mds (grow (redrawn V d) os):=fun d os=>(hD.keep hV).keep (below_regrown V d os)
    have ghK:=(hK.keep hV).grown
    have ghE:=(hE.keep hV).grown
    have ghG:=(hG.keep hV).grown
    have ghP:=(hP.keep hV).grown
    unfold Gr
    simp only [List.take_succ_cons,List.take_zero]
    repeat
      first
        | go_big_quiet_skip
        | (go_big_quiet_want;go_big_quiet_op;go_big_quiet_on)
        | (go_big_quiet_want
           go_big_quiet_op
           apply Exists.intro
           refine ⟨fun p=>?_,?_⟩
           · (first|(go_at_call 33;with_reducible exact Calls.regrown_of (A1.out _ (hDg p.d p.os)))|(go_at_call 86;with_reducible exact Calls.regrown_of (A2.out _ (hDg p.d p.os)))|(go_at_call 31;with_reducible exact Calls.regrown_of (A3.out _ (hDg p.d p.os)))|(go_at_call 33;with_reducible exact Calls.regrown_of (A4.out _ (hDg p.d p.os))))
           go_big_quiet_on)
    refine wpQuiet_nil ?_
    exact rfl
  case TT1 =>
    have hb:=au hV hw
    have hN:=(af.new rfl).keep hw
    have nhD:V.heap.size≠1:=Nat.ne_of_gt (Nat.lt_of_lt_of_le (hD.lt) hV.size)
    have nhK:V.heap.size≠w.heap.size:=Nat.ne_of_gt (Nat.lt_of_lt_of_le (World.block_lt_of_cell? _ _ hK.1) hV.size)
    have nhE:V.heap.size≠bn:=Nat.ne_of_gt (Nat.lt_of_lt_of_le (World.block_lt_of_cell? _ _ hE.1) hV.size)
    have nhG:V.heap.size≠bg:=Nat.ne_of_gt (Nat.lt_of_lt_of_le (World.block_lt_of_cell? _ _ hG.1) hV.size)
    have nhP:V.heap.size≠bp:=Nat.ne_of_gt (Nat.lt_of_lt_of_le (hP.lt) hV.size)
    have nhR:V.heap.size≠br:=Nat.ne_of_gt (Nat.lt_of_lt_of_le (hR.lt) hV.size)
    have gn:w.heap.size≤V.heap.size:=Nat.le_trans B.size hV.size
    replace B:=B.trans (hb.mono B.size)
    replace hD:=hD.keep hb;replace hK:=hK.keep hb;replace hE:=hE.keep hb;replace hG:=hG.keep hb;replace hP:=hP.keep hb;replace hR:=hR.keep hb
    clear hb hw hV W
    generalize V.heap.size=bs at *
    clear V
    have gN:=hN.1.all4;have qN:=hN.2.all4
    have ghP:=hP.cells
    have mhD:=nhD.symm
    have mhK:=nhK.symm
    have mhE:=nhE.symm
    have mhG:=nhG.symm
    have mhP:=nhP.symm
    have mhR:=nhR.symm
    simp only [List.drop_succ_cons,List.drop_zero,Act.put,List.setIfInBounds_toArray,List.set_cons_zero,List.set_cons_succ]
    go_wp2_with fail
    refine aa (fun W=>Below w.heap.size w W∧Mds W∧ae W w.heap.size key∧ae W bn non∧ae W bg dig∧Pnt W bp x y i∧Bk9 W br∧ae W bs s) ⟨ak B gn _ _ _ _,hD.set4 nhD _ _ _ _,hK.set4 nhK _ _ _ _,hE.set4 nhE _ _ _ _,hG.set4 nhG _ _ _ _,hP.set4 nhP _ _ _ _,hR.set4 nhR _ _ _ _,ae.sets4 (af.has hN)⟩ ?_
    clear B hN gN qN hD hK hE hG hP hR nhD mhD nhK mhK nhE mhE nhG mhG nhP mhP nhR mhR ghP gn
    rintro W ⟨B,hD,hK,hE,hG,hP,hR,hS⟩
    clear w1
    clear hK hE hG
    with_reducible refine (Z1.out _).mono ?_
    rintro e w9 ⟨rfl,hb⟩
    replace B:=B.trans (hb.mono B.size)
    replace hD:=hD.keep hb;replace hP:=hP.keep hb;replace hR:=hR.keep hb;replace hS:=hS.keep hb
    clear hb W hD hP hS
    have gR:=hR.cells;have fR:=hR.free
    go_wp2
    simp [bodyPost,results,Tryz.results54,go_sem,gR]
    repeat (first|with_reducible exact B|with_reducible refine Below.setCell ?_ o3 _)
theorem yi {key non dig x y a b v s:Int} {i:Bool} (C0:Hid (∀ w,Mds w→Rt 51 #[U4 x] w (.bool true))) (A1:Hid (∀ w,Mds w→Rt 33 #[U4 x,U4 key] w (U4 a))) (A2:Hid (∀ w,Mds w→Rt 86 #[U4 dig,U4 a] w (U4 b))) (A3:Hid (∀ w,Mds w→Rt 31 #[U4 non] w (U4 v))) (A4:Hid (∀ w,Mds w→Rt 33 #[U4 b,U4 v] w (U4 s))) (Z1:Hid (∀ w,Rt 50 #[U4 x] w (.bool false))) (Z2:Hid (∀ w,Rt 50 #[U4 s] w (.bool true))) (w:World) (hm:Mds w) :
    Rt 54 #[U4 key,U4 non,U4 dig,P9 x y i] w (.tuple #[.agg #[.int .u64 (l0 0),.int .u64 (l1 0),.int .u64 (l2 0),.int .u64 (l3 0),.int .u64 (l0 0),.int .u64 (l1 0),.int .u64 (l2 0),.int .u64 (l3 0),.bool false],.int .i64 65]):=by
  obtain ⟨z0,z1,z2,z3⟩:=ap
  ((try unfold Rt);(try unfold U4);(try unfold P9);rw [z0,z1,z2,z3])
  clear z0 z1 z2 z3
  go_enter Tryz.func54,Tryz.ntmps54
  go_wp2_with fail
  refine aa (fun W=>Below w.heap.size w W∧Mds W∧ae W w.heap.size key∧ae W (w.heap.size+1) non∧ae W (w.heap.size+1+1) dig∧Pnt W (w.heap.size+1+1+1) x y i∧Bk9 W (w.heap.size+1+1+1+1)) ⟨by repeat (first|with_reducible exact Below.refl _ _|with_reducible refine Below.alloc ?_ (by first|omega|(simp;done)|(simp;omega)) _),((((hm.alloc _).alloc _).alloc _).alloc _).alloc _,((((ae.new _ _ _).alloc _).alloc _).alloc _).alloc _,(((ae.fresh (by simp)).alloc _).alloc _).alloc _,((ae.fresh (by simp)).alloc _).alloc _,(Pnt.new (by simp)).alloc _,Bk9.new (by simp)⟩ ?_
  rintro W ⟨B,hD,hK,hE,hG,hP,hR⟩
  have o3:w.heap.size≤w.heap.size+1+1+1+1:=by omega
  generalize w.heap.size+1+1+1+1=br at *
  generalize w.heap.size+1+1+1=bp at *
  generalize w.heap.size+1+1=bg at *
  generalize w.heap.size+1=bn at *
  with_reducible refine (C0.out _ hD).mono ?_
  rintro e w1 ⟨rfl,hb⟩
  replace B:=B.trans (hb.mono B.size)
  replace hD:=hD.keep hb;replace hK:=hK.keep hb;replace hE:=hE.keep hb;replace hG:=hG.keep hb;replace hP:=hP.keep hb;replace hR:=hR.keep hb
  clear hb W
  go_wp2_with fail
  refine ah (fun W=>Below w.heap.size w W∧Mds W∧ae W w.heap.size key∧ae W bn non∧ae W bg dig∧Pnt W bp x y i∧Bk9 W br) ⟨B,hD,hK,hE,hG,hP,hR⟩ ?_
  clear B hD hK hE hG hP hR
  rintro W ⟨B,hD,hK,hE,hG,hP,hR⟩
  refine bS (A:=?AA1) 9 (by kernel_rfl) (by kernel_rfl) rfl rfl (bE _ _ _) (fun V hV=>?HH1) (fun V w1 hV hw=>?TT1)
  case HH1 =>
    have hDg:∀ d os,Mds (grow (redrawn V d) os):=fun d os=>(hD.keep hV).keep (below_regrown V d os)
    have ghK:=(hK.keep hV).grown
    have ghE:=(hE.keep hV).grown
    have ghG:=(hG.keep hV).grown
    have ghP:=(hP.keep hV).grown
    unfold Gr
    simp only [List.take_succ_cons,List.take_zero]
    repeat
      first
        | go_big_quiet_skip
        | (go_big_quiet_want;go_big_quiet_op;go_big_quiet_on)
        | (go_big_quiet_want
           go_big_quiet_op
           apply Exists.intro
           refine ⟨fun p=>?_,?_⟩
           · (first|(go_at_call 33;with_reducible exact Calls.regrown_of (A1.out _ (hDg p.d p.os)))|(go_at_call 86;with_reducible exact Calls.regrown_of (A2.out _ (hDg p.d p.os)))|(go_at_call 31;with_reducible exact Calls.regrown_of (A3.out _ (hDg p.d p.os)))|(go_at_call 33;with_reducible exact Calls.regrown_of (A4.out _ (hDg p.d p.os))))
           go_big_quiet_on)
    refine wpQuiet_nil ?_
    exact rfl
  case TT1 =>
    have hb:=au hV hw
    have hN:=(af.new rfl).keep hw
    have nhD:V.heap.size≠1:=Nat.ne_of_gt (Nat.lt_of_lt_of_le (hD.lt) hV.size)
    have nhK:V.heap.size≠w.heap.size:=Nat.ne_of_gt (Nat.lt_of_lt_of_le (World.block_lt_of_cell? _ _ hK.1) hV.size)
    have nhE:V.heap.size≠bn:=Nat.ne_of_gt (Nat.lt_of_lt_of_le (World.block_lt_of_cell? _ _ hE.1) hV.size)
    have nhG:V.heap.size≠bg:=Nat.ne_of_gt (Nat.lt_of_lt_of_le (World.block_lt_of_cell? _ _ hG.1) hV.size)
    have nhP:V.heap.size≠bp:=Nat.ne_of_gt (Nat.lt_of_lt_of_le (hP.lt) hV.size)
    have nhR:V.heap.size≠br:=Nat.ne_of_gt (Nat.lt_of_lt_of_le (hR.lt) hV.size)
    have gn:w.heap.size≤V.heap.size:=Nat.le_trans B.size hV.size
    replace B:=B.trans (hb.mono B.size)
    replace hD:=hD.keep hb;replace hK:=hK.keep hb;replace hE:=hE.keep hb;replace hG:=hG.keep hb;replace hP:=hP.keep hb;replace hR:=hR.keep hb
    clear hb hw hV W
    generalize V.heap.size=bs at *
    clear V
    have gN:=hN.1.all4;have qN:=hN.2.all4
    have ghP:=hP.cells
    have mhD:=nhD.symm
    have mhK:=nhK.symm
    have mhE:=nhE.symm
    have mhG:=nhG.symm
    have mhP:=nhP.symm
    have mhR:=nhR.symm
    simp only [List.drop_succ_cons,List.drop_zero,Act.put,List.setIfInBounds_toArray,List.set_cons_zero,List.set_cons_succ]
    go_wp2_with fail
    refine aa (fun W=>Below w.heap.size w W∧Mds W∧ae W w.heap.size key∧ae W bn non∧ae W bg dig∧Pnt W bp x y i∧Bk9 W br∧ae W bs s) ⟨ak B gn _ _ _ _,hD.set4 nhD _ _ _ _,hK.set4 nhK _ _ _ _,hE.set4 nhE _ _ _ _,hG.set4 nhG _ _ _ _,hP.set4 nhP _ _ _ _,hR.set4 nhR _ _ _ _,ae.sets4 (af.has hN)⟩ ?_
    clear B hN gN qN hD hK hE hG hP hR nhD mhD nhK mhK nhE mhE nhG mhG nhP mhP nhR mhR ghP gn
    rintro W ⟨B,hD,hK,hE,hG,hP,hR,hS⟩
    clear w1
    clear hK hE hG
    with_reducible refine (Z1.out _).mono ?_
    rintro e w2 ⟨rfl,hb⟩
    replace B:=B.trans (hb.mono B.size)
    replace hD:=hD.keep hb;replace hP:=hP.keep hb;replace hR:=hR.keep hb;replace hS:=hS.keep hb
    clear hb W
    have ghS:=hS.cells
    go_wp2_with fail
    refine aa (fun W=>Below w.heap.size w W∧Mds W∧Pnt W bp x y i∧Bk9 W br∧ae W bs s) ⟨B,hD,hP,hR,hS⟩ ?_
    clear B hD hP hR hS ghS
    rintro W ⟨B,hD,hP,hR,hS⟩
    with_reducible refine (Z2.out _).mono ?_
    rintro e w9 ⟨rfl,hb⟩
    replace B:=B.trans (hb.mono B.size)
    replace hD:=hD.keep hb;replace hP:=hP.keep hb;replace hR:=hR.keep hb;replace hS:=hS.keep hb
    clear hb W hD hP hS
    have gR:=hR.cells;have fR:=hR.free
    go_wp2
    simp [bodyPost,results,Tryz.results54,go_sem,gR]
    repeat (first|with_reducible exact B|with_reducible refine Below.setCell ?_ o3 _)
theorem yj {key non dig x y a b v s:Int} {i od:Bool} (C0:Hid (∀ w,Mds w→Rt 51 #[U4 x] w (.bool true))) (A1:Hid (∀ w,Mds w→Rt 33 #[U4 x,U4 key] w (U4 a))) (A2:Hid (∀ w,Mds w→Rt 86 #[U4 dig,U4 a] w (U4 b))) (A3:Hid (∀ w,Mds w→Rt 31 #[U4 non] w (U4 v))) (A4:Hid (∀ w,Mds w→Rt 33 #[U4 b,U4 v] w (U4 s))) (Z1:Hid (∀ w,Rt 50 #[U4 x] w (.bool false))) (Z2:Hid (∀ w,Rt 50 #[U4 s] w (.bool false))) (D:Hid (∀ w,Rt 87 #[U4 y] w (.bool od))) (w:World) (hm:Mds w) :
    Rt 54 #[U4 key,U4 non,U4 dig,P9 x y i] w (.tuple #[P9 x s od,.int .i64 0]):=by
  go_enter Tryz.func54,Tryz.ntmps54
  go_wp2_with fail
  refine aa (fun W=>Below w.heap.size w W∧Mds W∧ae W w.heap.size key∧ae W (w.heap.size+1) non∧ae W (w.heap.size+1+1) dig∧Pnt W (w.heap.size+1+1+1) x y i∧Bk9 W (w.heap.size+1+1+1+1)) ⟨by repeat (first|with_reducible exact Below.refl _ _|with_reducible refine Below.alloc ?_ (by first|omega|(simp;done)|(simp;omega)) _),((((hm.alloc _).alloc _).alloc _).alloc _).alloc _,((((ae.new _ _ _).alloc _).alloc _).alloc _).alloc _,(((ae.fresh (by simp)).alloc _).alloc _).alloc _,((ae.fresh (by simp)).alloc _).alloc _,(Pnt.new (by simp)).alloc _,Bk9.new (by simp)⟩ ?_
  rintro W ⟨B,hD,hK,hE,hG,hP,hR⟩
  have o3:w.heap.size≤w.heap.size+1+1+1+1:=by omega
  generalize w.heap.size+1+1+1+1=br at *
  generalize w.heap.size+1+1+1=bp at *
  generalize w.heap.size+1+1=bg at *
  generalize w.heap.size+1=bn at *
  with_reducible refine (C0.out _ hD).mono ?_
  rintro e w1 ⟨rfl,hb⟩
  replace B:=B.trans (hb.mono B.size)
  replace hD:=hD.keep hb;replace hK:=hK.keep hb;replace hE:=hE.keep hb;replace hG:=hG.keep hb;replace hP:=hP.keep hb;replace hR:=hR.keep hb
  clear hb W
  go_wp2_with fail
  refine ah (fun W=>Below w.heap.size w W∧Mds W∧ae W w.heap.size key∧ae W bn non∧ae W bg dig∧Pnt W bp x y i∧Bk9 W br) ⟨B,hD,hK,hE,hG,hP,hR⟩ ?_
  clear B hD hK hE hG hP hR
  rintro W ⟨B,hD,hK,hE,hG,hP,hR⟩
  refine bS (A:=?AA1) 9 (by kernel_rfl) (by kernel_rfl) rfl rfl (bE _ _ _) (fun V hV=>?HH1) (fun V w1 hV hw=>?TT1)
  case HH1 =>
    have hDg:∀ d os,Mds (grow (redrawn V d) os):=fun d os=>(hD.keep hV).keep (below_regrown V d os)
    have ghK:=(hK.keep hV).grown
    have ghE:=(hE.keep hV).grown
    have ghG:=(hG.keep hV).grown
    have ghP:=(hP.keep hV).grown
    unfold Gr
    simp only [List.take_succ_cons,List.take_zero]
    repeat
      first
        | go_big_quiet_skip
        | (go_big_quiet_want;go_big_quiet_op;go_big_quiet_on)
        | (go_big_quiet_want
           go_big_quiet_op
           apply Exists.intro
           refine ⟨fun p=>?_,?_⟩
           · (first|(go_at_call 33;with_reducible exact Calls.regrown_of (A1.out _ (hDg p.d p.os)))|(go_at_call 86;with_reducible exact Calls.regrown_of (A2.out _ (hDg p.d p.os)))|(go_at_call 31;with_reducible exact Calls.regrown_of (A3.out _ (hDg p.d p.os)))|(go_at_call 33;with_reducible exact Calls.regrown_of (A4.out _ (hDg p.d p.os))))
           go_big_quiet_on)
    refine wpQuiet_nil ?_
    exact rfl
  case TT1 =>
    have hb:=au hV hw
    have hN:=(af.new rfl).keep hw
    have nhD:V.heap.size≠1:=Nat.ne_of_gt (Nat.lt_of_lt_of_le (hD.lt) hV.size)
    have nhK:V.heap.size≠w.heap.size:=Nat.ne_of_gt (Nat.lt_of_lt_of_le (World.block_lt_of_cell? _ _ hK.1) hV.size)
    have nhE:V.heap.size≠bn:=Nat.ne_of_gt (Nat.lt_of_lt_of_le (World.block_lt_of_cell? _ _ hE.1) hV.size)
    have nhG:V.heap.size≠bg:=Nat.ne_of_gt (Nat.lt_of_lt_of_le (World.block_lt_of_cell? _ _ hG.1) hV.size)
    have nhP:V.heap.size≠bp:=Nat.ne_of_gt (Nat.lt_of_lt_of_le (hP.lt) hV.size)
    have nhR:V.heap.size≠br:=Nat.ne_of_gt (Nat.lt_of_lt_of_le (hR.lt) hV.size)
    have gn:w.heap.size≤V.heap.size:=Nat.le_trans B.size hV.size
    replace B:=B.trans (hb.mono B.size)
    replace hD:=hD.keep hb;replace hK:=hK.keep hb;replace hE:=hE.keep hb;replace hG:=hG.keep hb;replace hP:=hP.keep hb;replace hR:=hR.keep hb
    clear hb hw hV W
    generalize V.heap.size=bs at *
    clear V
    have gN:=hN.1.all4;have qN:=hN.2.all4
    have ghP:=hP.cells
    have mhD:=nhD.symm
    have mhK:=nhK.symm
    have mhE:=nhE.symm
    have mhG:=nhG.symm
    have mhP:=nhP.symm
    have mhR:=nhR.symm
    simp only [List.drop_succ_cons,List.drop_zero,Act.put,List.setIfInBounds_toArray,List.set_cons_zero,List.set_cons_succ]
    go_wp2_with fail
    refine aa (fun W=>Below w.heap.size w W∧Mds W∧ae W w.heap.size key∧ae W bn non∧ae W bg dig∧Pnt W bp x y i∧Bk9 W br∧ae W bs s) ⟨ak B gn _ _ _ _,hD.set4 nhD _ _ _ _,hK.set4 nhK _ _ _ _,hE.set4 nhE _ _ _ _,hG.set4 nhG _ _ _ _,hP.set4 nhP _ _ _ _,hR.set4 nhR _ _ _ _,ae.sets4 (af.has hN)⟩ ?_
    clear B hN gN qN hD hK hE hG hP hR nhD mhD nhK mhK nhE mhE nhG mhG nhP mhP nhR mhR ghP gn
    rintro W ⟨B,hD,hK,hE,hG,hP,hR,hS⟩
    clear w1
    clear hK hE hG
    with_reducible refine (Z1.out _).mono ?_
    rintro e w2 ⟨rfl,hb⟩
    replace B:=B.trans (hb.mono B.size)
    replace hD:=hD.keep hb;replace hP:=hP.keep hb;replace hR:=hR.keep hb;replace hS:=hS.keep hb
    clear hb W
    have ghS:=hS.cells
    go_wp2_with fail
    refine aa (fun W=>Below w.heap.size w W∧Mds W∧Pnt W bp x y i∧Bk9 W br∧ae W bs s) ⟨B,hD,hP,hR,hS⟩ ?_
    clear B hD hP hR hS ghS
    rintro W ⟨B,hD,hP,hR,hS⟩
    with_reducible refine (Z2.out _).mono ?_
    rintro e w3 ⟨rfl,hb⟩
    replace B:=B.trans (hb.mono B.size)
    replace hD:=hD.keep hb;replace hP:=hP.keep hb;replace hR:=hR.keep hb;replace hS:=hS.keep hb
    clear hb W
    go_wp2_with fail
    refine ah (fun W=>Below w.heap.size w W∧Mds W∧Pnt W bp x y i∧Bk9 W br∧ae W bs s) ⟨B,hD,hP,hR,hS⟩ ?_
    clear B hD hP hR hS
    rintro W ⟨B,hD,hP,hR,hS⟩
    have ghP:=hP.grown
    have ghS:=hS.grown
    have hDg:∀ d os,Mds (grow (redrawn W d) os):=fun d os=>hD.keep (below_regrown W d os)
    refine bj 7 (by kernel_rfl) (by kernel_rfl) ?_
    simp only [List.take_succ_cons,List.take_zero,List.drop_succ_cons,List.drop_zero]
    repeat
      first
        | go_big_quiet_skip
        | (go_big_quiet_want;go_big_quiet_op;go_big_quiet_on)
        | (go_big_quiet_want
           go_big_quiet_op
           apply Exists.intro
           refine ⟨fun p=>?_,?_⟩
           · (first|(go_at_call 87;with_reducible exact Calls.regrown_of (D.out _)))
           go_big_quiet_on)
    refine wpQuiet_nil ?_
    rintro w4 ⟨p,rfl⟩
    have hb:=below_regrown W p.d p.os
    generalize grow (redrawn W p.d) p.os=w4 at *
    replace B:=B.trans (hb.mono B.size)
    replace hD:=hD.keep hb;replace hP:=hP.keep hb;replace hR:=hR.keep hb;replace hS:=hS.keep hb
    clear hb W ghP ghS hDg
    clear hD hP hS
    have gR:=hR.cells;have fR:=hR.free
    go_wp2
    simp [bodyPost,results,Tryz.results54,go_sem,gR]
    repeat (first|with_reducible exact B|with_reducible refine Below.setCell ?_ o3 _)
theorem pO {r s:Int} {od:Bool} (C0:Hid (∀ w,Mds w→Rt 36 #[U4 s] w (.bool true))) (w:World) (hm:Mds w) :
  Rt 55 #[P9 r s od] w (P9 r s od):=by
 go_enter Tryz.func55,Tryz.ntmps55
 go_wp2_with fail
 refine aa (fun W=>Below w.heap.size w W∧Mds W∧Pnt W w.heap.size r s od∧Bk9 W (w.heap.size+1)) ⟨by repeat (first|with_reducible exact Below.refl _ _|with_reducible refine Below.alloc ?_ (by first|omega|(simp;done)|(simp;omega)) _),(hm.alloc _).alloc _,(Pnt.new rfl).alloc _,Bk9.new (by simp)⟩ ?_
 rintro W ⟨B,hD,hP,hR⟩
 have o3:w.heap.size≤w.heap.size+1:=by omega
 generalize w.heap.size+1=br at *
 with_reducible refine (C0.out _ hD).mono ?_
 rintro e w9 ⟨rfl,hb⟩
 replace B:=B.trans (hb.mono B.size)
 replace hD:=hD.keep hb;replace hP:=hP.keep hb;replace hR:=hR.keep hb
 clear hb W hD
 have gP:=hP.cells
 clear hP
 have gR:=hR.cells;have fR:=hR.free
 go_wp2
 simp [bodyPost,results,Tryz.results55,go_sem,gR]
 repeat (first|with_reducible exact B|with_reducible refine Below.setCell ?_ o3 _)
theorem qT {r s t:Int} {od:Bool} (C0:Hid (∀ w,Mds w→Rt 36 #[U4 s] w (.bool false))) (C1:Hid (∀ w,Mds w→Rt 34 #[U4 s] w (U4 t))) (w:World) (hm:Mds w) :
    Rt 55 #[P9 r s od] w (P9 r t (!od)):=by
  go_enter Tryz.func55,Tryz.ntmps55
  go_wp2_with fail
  refine aa (fun W=>Below w.heap.size w W∧Mds W∧Pnt W w.heap.size r s od∧Bk9 W (w.heap.size+1)) ⟨by repeat (first|with_reducible exact Below.refl _ _|with_reducible refine Below.alloc ?_ (by first|omega|(simp;done)|(simp;omega)) _),(hm.alloc _).alloc _,(Pnt.new rfl).alloc _,Bk9.new (by simp)⟩ ?_
  rintro W ⟨B,hD,hP,hR⟩
  have o3:w.heap.size≤w.heap.size+1:=by omega
  generalize w.heap.size+1=br at *
  with_reducible refine (C0.out _ hD).mono ?_
  rintro e w1 ⟨rfl,hb⟩
  replace B:=B.trans (hb.mono B.size)
  replace hD:=hD.keep hb;replace hP:=hP.keep hb;replace hR:=hR.keep hb
  clear hb W
  go_wp2_with fail
  refine ah (fun W=>Below w.heap.size w W∧Mds W∧Pnt W w.heap.size r s od∧Bk9 W br) ⟨B,hD,hP,hR⟩ ?_
  clear B hD hP hR
  rintro W ⟨B,hD,hP,hR⟩
  have ghP:=hP.grown
  have hDg:∀ d os,Mds (grow (redrawn W d) os):=fun d os=>hD.keep (below_regrown W d os)
  refine bj 9 (by kernel_rfl) (by kernel_rfl) ?_
  simp only [List.take_succ_cons,List.take_zero,List.drop_succ_cons,List.drop_zero]
  repeat
    first
      | go_big_quiet_skip
      | (go_big_quiet_want;go_big_quiet_op;go_big_quiet_on)
      | (go_big_quiet_want
         go_big_quiet_op
         apply Exists.intro
         refine ⟨fun p=>?_,?_⟩
         · (first|(go_at_call 34;with_reducible exact Calls.regrown_of (C1.out _ (hDg p.d p.os))))
         go_big_quiet_on)
  refine wpQuiet_nil ?_
  rintro w2 ⟨p,rfl⟩
  have hb:=below_regrown W p.d p.os
  generalize grow (redrawn W p.d) p.os=w2 at *
  replace B:=B.trans (hb.mono B.size)
  replace hD:=hD.keep hb;replace hP:=hP.keep hb;replace hR:=hR.keep hb
  clear hb W ghP hDg
  clear hD hP
  have gR:=hR.cells;have fR:=hR.free
  go_wp2
  simp [bodyPost,results,Tryz.results55,go_sem,gR]
  repeat (first|with_reducible exact B|with_reducible refine Below.setCell ?_ o3 _)
end Go.Proofs.YtjoandmehahfgaaGreatDoor
