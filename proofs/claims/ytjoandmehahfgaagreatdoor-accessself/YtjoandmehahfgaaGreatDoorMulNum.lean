import Derived.Test.YtjoandmehahfgaaGreatDoorNum
import Derived.WalkKit
namespace Go.Proofs.YtjoandmehahfgaaGreatDoor
theorem fQ (x y0 y1 y2 y3:Int):x*num y0 y1 y2 y3=num (x*y0) (x*y1) (x*y2) (x*y3):=by
 unfold num
 rw [Int.mul_add,Int.mul_add,Int.mul_add,Int.mul_left_comm x _ y1,Int.mul_left_comm x _ y2,Int.mul_left_comm x _ y3]
theorem jQ (x0 x1 x2 x3 y:Int):num x0 x1 x2 x3*y=num (x0*y) (x1*y) (x2*y) (x3*y):=by
 rw [Int.mul_comm,fQ,Int.mul_comm y,Int.mul_comm y,Int.mul_comm y,Int.mul_comm y]
theorem mz {x y0 y1 y2 y3 a0 a1 a2 a3 p0 p1 p2 p3 c0 c1 c2 c3:Int}
  (e0:p0+18446744073709551616*c0=x*y0+a0+0) (e1:p1+18446744073709551616*c1=x*y1+a1+c0)
  (e2:p2+18446744073709551616*c2=x*y2+a2+c1) (e3:p3+18446744073709551616*c3=x*y3+a3+c2) :
  num p0 p1 p2 p3+115792089237316195423570985008687907853269984665640564039457584007913129639936*c3=num a0 a1 a2 a3+x*num y0 y1 y2 y3:=by
 rw [fQ]
 unfold num
 generalize x*y0=z0 at *; generalize x*y1=z1 at *; generalize x*y2=z2 at *; generalize x*y3=z3 at *
 omega
theorem wT {x0 x1 x2 x3 Y:Int} {p00 p01 p02 p03 c03 p10 p11 p12 p13 c13 p20 p21 p22 p23 c23 p30 p31 p32 p33 c33:Int}
  (r0:num p00 p01 p02 p03+115792089237316195423570985008687907853269984665640564039457584007913129639936*c03=num 0 0 0 0+x0*Y)
  (r1:num p10 p11 p12 p13+115792089237316195423570985008687907853269984665640564039457584007913129639936*c13=num p01 p02 p03 c03+x1*Y)
  (r2:num p20 p21 p22 p23+115792089237316195423570985008687907853269984665640564039457584007913129639936*c23=num p11 p12 p13 c13+x2*Y)
  (r3:num p30 p31 p32 p33+115792089237316195423570985008687907853269984665640564039457584007913129639936*c33=num p21 p22 p23 c23+x3*Y) :
  num p00 p10 p20 p30+115792089237316195423570985008687907853269984665640564039457584007913129639936*num p31 p32 p33 c33=num x0 x1 x2 x3*Y:=by
 rw [jQ]
 generalize x0*Y=z0 at *; generalize x1*Y=z1 at *; generalize x2*Y=z2 at *; generalize x3*Y=z3 at *
 unfold num at *
 omega
theorem BX {n m h l:Int} (hl:Num l) (e:l+115792089237316195423570985008687907853269984665640564039457584007913129639936*h=n*m):hiN n m=h∧loN n m=l:=by
 obtain ⟨_,_⟩:=hl
 unfold hiN loN
 generalize n*m=p at *
 omega
def val:List Int→Int
 | []=>0
 | x :: xs=>x+18446744073709551616*val xs
def Er (l:List Int):Prop:=∀ x∈l,aj x
theorem mul_mod (a b c:Int):a*(b%c)%c=a*b%c:=by rw [Int.mul_emod,Int.emod_emod,←Int.mul_emod]
open Go.RowKit
theorem im {s:Int} (s0:0≤s) (s1:s≤63):(2:Int) ^ s.toNat*2 ^ (64-s).toNat=18446744073709551616∧1≤(2:Int) ^ s.toNat∧2≤(2:Int) ^ (64-s).toNat:=by
 refine ⟨?_,?_,?_⟩
 ·rw [←Int.pow_add,show s.toNat+(64-s).toNat=64 by omega];decide
 ·exact Int.pow_pos (by decide)
 ·obtain ⟨k,hk⟩:∃ k,(64-s).toNat=k+1:=⟨(64-s).toNat-1,by omega⟩
  rw [hk,Int.pow_succ]
  have:(0:Int)<2 ^ k:=Int.pow_pos (by decide)
  omega
theorem rX (i k b:Nat) (hb:b<2 ^ i) (ha:2 ^ i*k<18446744073709551616) (hb':b<18446744073709551616) :
  bits .or .u64 ((2 ^ i*k:Nat):Int) (b:Int)=((2 ^ i*k+b:Nat):Int):=by
 rw [bits_or_u64_nat _ _ ha hb',←Nat.two_pow_add_eq_or_of_lt hb k]
theorem or_comm (a b:Nat) (ha:a<18446744073709551616) (hb:b<18446744073709551616):bits .or .u64 (a:Int) (b:Int)=bits .or .u64 (b:Int) (a:Int):=by
 rw [bits_or_u64_nat _ _ ha hb,bits_or_u64_nat _ _ hb ha,Nat.or_comm]
theorem iV {x s:Int} (hx:aj x) (s0:0≤s) (s1:s≤63) :
  ∃ k,IntKind.u64.wrap (x*2 ^ s.toNat)=2 ^ s.toNat*k∧0≤k∧2 ^ s.toNat*k+2 ^ s.toNat≤18446744073709551616 ∧
   x*2 ^ s.toNat=2 ^ s.toNat*k+18446744073709551616*(x/2 ^ (64-s).toNat)∧0≤x/2 ^ (64-s).toNat∧x/2 ^ (64-s).toNat<2 ^ s.toNat:=by
 obtain ⟨e,p1,r1⟩:=im s0 s1
 obtain ⟨x0,x1⟩:=hx
 rw [IntKind.wrap_u64]
 generalize (2:Int) ^ s.toNat=P at *
 generalize (2:Int) ^ (64-s).toNat=R at *
 have hR:R≠0:=by omega
 have d:=Int.emod_add_mul_ediv x R
 have m0:=Int.emod_nonneg x hR
 have m1:=Int.emod_lt_of_pos x (show 0<R by omega)
 have q0:0≤x/R:=Int.ediv_nonneg x0 (by omega)
 have q1:x/R<P:=Int.ediv_lt_of_lt_mul (by omega) (by rw [e];exact x1)
 generalize x/R=h at *
 generalize x%R=k at *
 have hk:P*k+P≤18446744073709551616:=by
  rw [←e]
  have:P*(k+1)≤P*R:=Int.mul_le_mul_of_nonneg_left (by omega) (by omega)
  rw [Int.mul_add,Int.mul_one] at this
  exact this
 have hx:x*P=P*k+18446744073709551616*h:=by
  rw [←d,Int.add_mul,Int.mul_comm k P,←e,Int.mul_comm (R*h) P,Int.mul_assoc]
 have hk0:0≤P*k:=Int.mul_nonneg (by omega) m0
 refine ⟨k,?_,m0,hk,hx,q0,q1⟩
 rw [hx]
 generalize P*k=t at *
 omega
theorem wU {x y s:Int} (hx:aj x) (hy:aj y) (s0:0≤s) (s1:s≤63) :
  bits .or .u64 (IntKind.u64.wrap (x*2 ^ s.toNat)) (y/2 ^ (64-s).toNat)=IntKind.u64.wrap (x*2 ^ s.toNat)+y/2 ^ (64-s).toNat:=by
 obtain ⟨k,e,k0,k1,_,_,_⟩:=iV hx s0 s1
 obtain ⟨_,_,_,_,_,h0,h1⟩:=iV hy s0 s1
 rw [e]
 generalize y/2 ^ (64-s).toNat=h at *
 obtain ⟨k,rfl⟩:=Int.eq_ofNat_of_zero_le k0
 obtain ⟨h,rfl⟩:=Int.eq_ofNat_of_zero_le h0
 have c:((2:Int) ^ s.toNat)=((2 ^ s.toNat:Nat):Int):=by simp
 rw [c] at k1 h1 ⊢
 rw [←Int.natCast_mul] at k1 ⊢
 rw [rX s.toNat k h (by omega) (by omega) (by omega),Int.natCast_add]
def upN (n:Int) (k:Int):Int:=n*2 ^ k.toNat%115792089237316195423570985008687907853269984665640564039457584007913129639936
def fo (n:Int) (k:Int):Int:=n/2 ^ k.toNat
theorem zJ {x0 x1 x2 x3 s:Int} (h0:aj x0) (h1:aj x1) (h2:aj x2) (h3:aj x3) (s0:0≤s) (s1:s≤63) :
  ∃ t0 t1 t2 t3 t4:Int,aj t0∧aj t1∧aj t2∧aj t3∧aj t4∧num x0 x1 x2 x3*2 ^ s.toNat=num t0 t1 t2 t3+115792089237316195423570985008687907853269984665640564039457584007913129639936*t4 ∧
   IntKind.u64.wrap (x0*2 ^ s.toNat)=t0∧bits .or .u64 (IntKind.u64.wrap (x1*2 ^ s.toNat)) (x0/2 ^ (64-s).toNat)=t1 ∧
   bits .or .u64 (IntKind.u64.wrap (x2*2 ^ s.toNat)) (x1/2 ^ (64-s).toNat)=t2∧bits .or .u64 (IntKind.u64.wrap (x3*2 ^ s.toNat)) (x2/2 ^ (64-s).toNat)=t3∧x3/2 ^ (64-s).toNat=t4:=by
 rw [wU h1 h0 s0 s1,wU h2 h1 s0 s1,wU h3 h2 s0 s1]
 obtain ⟨k0,e0,a0,b0,c0,d0,f0⟩:=iV h0 s0 s1
 obtain ⟨k1,e1,a1,b1,c1,d1,f1⟩:=iV h1 s0 s1
 obtain ⟨k2,e2,a2,b2,c2,d2,f2⟩:=iV h2 s0 s1
 obtain ⟨k3,e3,a3,b3,c3,d3,f3⟩:=iV h3 s0 s1
 rw [jQ,e0,e1,e2,e3]
 obtain ⟨_,p1,_⟩:=im s0 s1
 have z0:0≤2 ^ s.toNat*k0:=Int.mul_nonneg (by omega) a0
 have z1:0≤2 ^ s.toNat*k1:=Int.mul_nonneg (by omega) a1
 have z2:0≤2 ^ s.toNat*k2:=Int.mul_nonneg (by omega) a2
 have z3:0≤2 ^ s.toNat*k3:=Int.mul_nonneg (by omega) a3
 rw [c0,c1,c2,c3]
 generalize x0/2 ^ (64-s).toNat=g0 at *
 generalize x1/2 ^ (64-s).toNat=g1 at *
 generalize x2/2 ^ (64-s).toNat=g2 at *
 generalize x3/2 ^ (64-s).toNat=g3 at *
 generalize 2 ^ s.toNat*k0=r0 at *
 generalize 2 ^ s.toNat*k1=r1 at *
 generalize 2 ^ s.toNat*k2=r2 at *
 generalize 2 ^ s.toNat*k3=r3 at *
 clear c0 c1 c2 c3 e0 e1 e2 e3
 generalize (2:Int) ^ s.toNat=P at *
 refine ⟨_,_,_,_,_,?_,?_,?_,?_,?_,?_,rfl,rfl,rfl,rfl,rfl⟩
 ·unfold aj;omega
 ·unfold aj;omega
 ·unfold aj;omega
 ·unfold aj;omega
 ·unfold aj;omega
 ·unfold num;omega
theorem eI {x s:Int} (hx:aj x) (s0:0≤s) (s1:s≤63) :
  ∃ b,IntKind.u64.wrap (x*2 ^ (64-s).toNat)=2 ^ (64-s).toNat*b∧0≤b∧b<2 ^ s.toNat∧2 ^ (64-s).toNat*b+2 ^ (64-s).toNat≤18446744073709551616 ∧
   x=b+2 ^ s.toNat*(x/2 ^ s.toNat)∧0≤x/2 ^ s.toNat∧x/2 ^ s.toNat<2 ^ (64-s).toNat∧2 ^ s.toNat*(2 ^ (64-s).toNat*b)=18446744073709551616*b:=by
 obtain ⟨e,p1,r1⟩:=im s0 s1
 obtain ⟨x0,x1⟩:=hx
 rw [IntKind.wrap_u64]
 generalize (2:Int) ^ s.toNat=P at *
 generalize (2:Int) ^ (64-s).toNat=R at *
 have hP:P≠0:=by omega
 have d:=Int.emod_add_mul_ediv x P
 have m0:=Int.emod_nonneg x hP
 have m1:=Int.emod_lt_of_pos x (show 0<P by omega)
 have q0:0≤x/P:=Int.ediv_nonneg x0 (by omega)
 have q1:x/P<R:=Int.ediv_lt_of_lt_mul (by omega) (by rw [Int.mul_comm,e];exact x1)
 generalize x/P=h at *
 generalize x%P=b at *
 have hb:R*b+R≤18446744073709551616:=by
  rw [←e,Int.mul_comm P R]
  have:R*(b+1)≤R*P:=Int.mul_le_mul_of_nonneg_left (by omega) (by omega)
  rw [Int.mul_add,Int.mul_one] at this
  exact this
 have hx:x*R=R*b+18446744073709551616*h:=by
  rw [←d,Int.add_mul,Int.mul_comm b R,←e,Int.mul_right_comm P h R]
 have hb0:0≤R*b:=Int.mul_nonneg (by omega) m0
 refine ⟨b,?_,m0,m1,hb,d.symm,q0,q1,?_⟩
 ·rw [hx]
  generalize R*b=t at *
  omega
 ·rw [←Int.mul_assoc,e]
theorem mA {x y s:Int} (hx:aj x) (hy:aj y) (s0:0≤s) (s1:s≤63) :
  bits .or .u64 (x/2 ^ s.toNat) (IntKind.u64.wrap (y*2 ^ (64-s).toNat))=x/2 ^ s.toNat+IntKind.u64.wrap (y*2 ^ (64-s).toNat):=by
 obtain ⟨_,_,_,_,_,_,h0,h1,_⟩:=eI hx s0 s1
 obtain ⟨b,e,b0,_,b1,_,_,_,_⟩:=eI hy s0 s1
 rw [e]
 generalize x/2 ^ s.toNat=h at *
 obtain ⟨b,rfl⟩:=Int.eq_ofNat_of_zero_le b0
 obtain ⟨h,rfl⟩:=Int.eq_ofNat_of_zero_le h0
 have c:((2:Int) ^ (64-s).toNat)=((2 ^ (64-s).toNat:Nat):Int):=by simp
 rw [c] at b1 h1 ⊢
 rw [←Int.natCast_mul] at b1 ⊢
 rw [or_comm _ _ (by omega) (by omega),rX (64-s).toNat b h (by omega) (by omega) (by omega),Int.natCast_add,Int.add_comm]
theorem iW {x0 x1 x2 x3 s:Int} (h0:aj x0) (h1:aj x1) (h2:aj x2) (h3:aj x3) (s0:0≤s) (s1:s≤63) :
  ∃ t0 t1 t2 t3:Int,aj t0∧aj t1∧aj t2∧aj t3∧num x0 x1 x2 x3/2 ^ s.toNat=num t0 t1 t2 t3 ∧
   bits .or .u64 (x0/2 ^ s.toNat) (IntKind.u64.wrap (x1*2 ^ (64-s).toNat))=t0∧bits .or .u64 (x1/2 ^ s.toNat) (IntKind.u64.wrap (x2*2 ^ (64-s).toNat))=t1 ∧
   bits .or .u64 (x2/2 ^ s.toNat) (IntKind.u64.wrap (x3*2 ^ (64-s).toNat))=t2∧x3/2 ^ s.toNat=t3:=by
 rw [mA h0 h1 s0 s1,mA h1 h2 s0 s1,mA h2 h3 s0 s1]
 obtain ⟨b0,_,a0,f0,_,d0,q0,r0,_⟩:=eI h0 s0 s1
 obtain ⟨b1,e1,a1,f1,c1,d1,q1,r1,g1⟩:=eI h1 s0 s1
 obtain ⟨b2,e2,a2,f2,c2,d2,q2,r2,g2⟩:=eI h2 s0 s1
 obtain ⟨b3,e3,a3,f3,c3,d3,q3,r3,g3⟩:=eI h3 s0 s1
 obtain ⟨e,p1,rr⟩:=im s0 s1
 rw [e1,e2,e3]
 have z1:0≤2 ^ (64-s).toNat*b1:=Int.mul_nonneg (by omega) a1
 have z2:0≤2 ^ (64-s).toNat*b2:=Int.mul_nonneg (by omega) a2
 have z3:0≤2 ^ (64-s).toNat*b3:=Int.mul_nonneg (by omega) a3
 have pr:(2:Int) ^ (64-s).toNat≤18446744073709551616:=by omega
 generalize x0/2 ^ s.toNat=k0 at *
 generalize x1/2 ^ s.toNat=k1 at *
 generalize x2/2 ^ s.toNat=k2 at *
 generalize x3/2 ^ s.toNat=k3 at *
 clear e e1 e2 e3
 generalize 2 ^ (64-s).toNat*b1=u1 at *
 generalize 2 ^ (64-s).toNat*b2=u2 at *
 generalize 2 ^ (64-s).toNat*b3=u3 at *
 generalize (2:Int) ^ (64-s).toNat=R at *
 generalize (2:Int) ^ s.toNat=P at *
 refine ⟨_,_,_,_,?_,?_,?_,?_,?_,rfl,rfl,rfl,rfl⟩
 ·unfold aj;omega
 ·unfold aj;omega
 ·unfold aj;omega
 ·unfold aj;omega
 ·refine ((Int.ediv_emod_unique (by omega)).2 ⟨?_,a0,f0⟩).1
  rw [fQ,Int.mul_add,Int.mul_add,Int.mul_add,g1,g2,g3]
  generalize P*k0=v0 at *; generalize P*k1=v1 at *; generalize P*k2=v2 at *; generalize P*k3=v3 at *
  unfold num;omega
end Go.Proofs.YtjoandmehahfgaaGreatDoor
