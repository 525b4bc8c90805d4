import Derived.Test.YtjoandmehahfgaaGreatDoorMul2
import Derived.Test.YtjoandmehahfgaaGreatDoorShelf
import Derived.Lib.ItoaNum
import Derived.Test.YtjoandmehahfgaaGreatDoorMulNum
set_option maxHeartbeats 1000000
namespace Go.Proofs.YtjoandmehahfgaaGreatDoor
open Go.RowKit
def jy (n k:Int):Int:=if k<0∨255<k then 0 else n/2 ^ k.toNat%2
def iy (n:Int):Int:=if n=0 then 0 else (Nat.log2 n.toNat:Int)+1
theorem mC {n:Int} {k:Nat} (h0:(2:Int) ^ k≤n) (h1:n<(2:Int) ^ (k+1)):iy n=(k:Int)+1:=by
 have p:(0:Int)<2 ^ k:=Int.pow_pos (by decide)
 obtain ⟨m,rfl⟩:=Int.eq_ofNat_of_zero_le (show 0≤n by omega)
 have hm:m≠0:=by omega
 unfold iy
 rw [if_neg (by omega),Int.toNat_natCast]
 have c0:2 ^ k≤m:=by exact_mod_cast h0
 have c1:m<2 ^ (k+1):=by exact_mod_cast h1
 have a:k≤Nat.log2 m:=(Nat.le_log2 hm).2 c0
 have b:Nat.log2 m<k+1:=(Nat.log2_lt hm).2 c1
 omega
theorem gc {x s:Int} (hx:aj x):bits .and .u64 (x/2 ^ s.toNat) 1=x/2 ^ s.toNat%2:=by
 obtain ⟨x0,x1⟩:=hx
 have p:(0:Int)<2 ^ s.toNat:=Int.pow_pos (by decide)
 have q0:0≤x/2 ^ s.toNat:=Int.ediv_nonneg x0 (by omega)
 have q1:x/2 ^ s.toNat≤x:=Int.ediv_le_self _ x0
 generalize x/2 ^ s.toNat=y at *
 obtain ⟨y,rfl⟩:=Int.eq_ofNat_of_zero_le q0
 refine (bits_and_u64_nat y 1 (by omega) (by decide)).trans ?_
 rw [Nat.and_one_is_mod]
 omega
theorem Do {x0 x1 x2 x3 k s:Int} (hx0:aj x0) (_k0:0≤k) (_k1:k≤255) (_s0:0≤s) (_s1:s≤63) (hq:k/64=0) (hr:k%64=s) (w:World) :
  Calls Tryz.prog 98 #[.agg #[.int .u64 x0,.int .u64 x1,.int .u64 x2,.int .u64 x3],.int .i64 k] w fun e w'=>e = .returned (.int .i64 (x0/2 ^ s.toNat%2))∧Below w.heap.size w w':=by
 have b0:=gc (s:=s) hx0
 obtain ⟨_,_⟩:=hx0
 go_enter Tryz.func98,Tryz.ntmps98
 go_wp2
 go_ret
 exact ⟨rfl,(Below.refl _ _).alloc (Nat.le_refl _) _⟩
theorem Dp {x0 x1 x2 x3 k s:Int} (hx1:aj x1) (_k0:0≤k) (_k1:k≤255) (_s0:0≤s) (_s1:s≤63) (hq:k/64=1) (hr:k%64=s) (w:World) :
  Calls Tryz.prog 98 #[.agg #[.int .u64 x0,.int .u64 x1,.int .u64 x2,.int .u64 x3],.int .i64 k] w fun e w'=>e = .returned (.int .i64 (x1/2 ^ s.toNat%2))∧Below w.heap.size w w':=by
 have b1:=gc (s:=s) hx1
 obtain ⟨_,_⟩:=hx1
 go_enter Tryz.func98,Tryz.ntmps98
 go_wp2
 go_ret
 exact ⟨rfl,(Below.refl _ _).alloc (Nat.le_refl _) _⟩
theorem Dq {x0 x1 x2 x3 k s:Int} (hx2:aj x2) (_k0:0≤k) (_k1:k≤255) (_s0:0≤s) (_s1:s≤63) (hq:k/64=2) (hr:k%64=s) (w:World) :
  Calls Tryz.prog 98 #[.agg #[.int .u64 x0,.int .u64 x1,.int .u64 x2,.int .u64 x3],.int .i64 k] w fun e w'=>e = .returned (.int .i64 (x2/2 ^ s.toNat%2))∧Below w.heap.size w w':=by
 have b2:=gc (s:=s) hx2
 obtain ⟨_,_⟩:=hx2
 go_enter Tryz.func98,Tryz.ntmps98
 go_wp2
 go_ret
 exact ⟨rfl,(Below.refl _ _).alloc (Nat.le_refl _) _⟩
theorem Dr {x0 x1 x2 x3 k s:Int} (hx3:aj x3) (_k0:0≤k) (_k1:k≤255) (_s0:0≤s) (_s1:s≤63) (hq:k/64=3) (hr:k%64=s) (w:World) :
  Calls Tryz.prog 98 #[.agg #[.int .u64 x0,.int .u64 x1,.int .u64 x2,.int .u64 x3],.int .i64 k] w fun e w'=>e = .returned (.int .i64 (x3/2 ^ s.toNat%2))∧Below w.heap.size w w':=by
 have b3:=gc (s:=s) hx3
 obtain ⟨_,_⟩:=hx3
 go_enter Tryz.func98,Tryz.ntmps98
 go_wp2
 go_ret
 exact ⟨rfl,(Below.refl _ _).alloc (Nat.le_refl _) _⟩
theorem pB {x y s:Int} (s0:0≤s) (s1:s≤63):(x+18446744073709551616*y)/2 ^ s.toNat%2=x/2 ^ s.toNat%2:=by
 obtain ⟨e,p1,_⟩:=im s0 s1
 have hR:∃ r,(2:Int) ^ (64-s).toNat=2*r:=by
  obtain ⟨k,hk⟩:∃ k,(64-s).toNat=k+1:=⟨(64-s).toNat-1,by omega⟩
  exact ⟨2 ^ k,by rw [hk,Int.pow_succ,Int.mul_comm]⟩
 obtain ⟨r,hr⟩:=hR
 rw [hr] at e
 rw [←e,Int.mul_assoc,Int.add_mul_ediv_left _ _ (by omega),Int.mul_assoc]
 omega
theorem zU {x0 x1 x2 x3 k:Int} (h0:aj x0) (h1:aj x1) (h2:aj x2) :
  (k/64=0→num x0 x1 x2 x3/2 ^ k.toNat%2=x0/2 ^ (k%64).toNat%2)∧(k/64=1→num x0 x1 x2 x3/2 ^ k.toNat%2=x1/2 ^ (k%64).toNat%2) ∧
  (k/64=2→num x0 x1 x2 x3/2 ^ k.toNat%2=x2/2 ^ (k%64).toNat%2)∧(k/64=3→num x0 x1 x2 x3/2 ^ k.toNat%2=x3/2 ^ (k%64).toNat%2):=by
 have s0:0≤k%64:=by omega
 have s1:k%64≤63:=by omega
 refine ⟨fun hq=>?_,fun hq=>?_,fun hq=>?_,fun hq=>?_⟩
 ·rw [bU 0 s0 (show k=64*(0:Nat)+k%64 by omega),show (2:Int) ^ (64*0)=1 by decide,←Int.ediv_ediv_of_nonneg (by decide),
   show num x0 x1 x2 x3/1=x0+18446744073709551616*(x1+18446744073709551616*x2+340282366920938463463374607431768211456*x3) by unfold num aj at *; omega]
  exact pB s0 s1
 ·rw [bU 1 s0 (show k=64*(1:Nat)+k%64 by omega),show (2:Int) ^ (64*1)=18446744073709551616 by decide,←Int.ediv_ediv_of_nonneg (by decide),
   show num x0 x1 x2 x3/18446744073709551616=x1+18446744073709551616*(x2+18446744073709551616*x3) by unfold num aj at *; omega]
  exact pB s0 s1
 ·rw [bU 2 s0 (show k=64*(2:Nat)+k%64 by omega),show (2:Int) ^ (64*2)=340282366920938463463374607431768211456 by decide,←Int.ediv_ediv_of_nonneg (by decide),
   show num x0 x1 x2 x3/340282366920938463463374607431768211456=x2+18446744073709551616*(x3) by unfold num aj at *; omega]
  exact pB s0 s1
 ·rw [bU 3 s0 (show k=64*(3:Nat)+k%64 by omega),show (2:Int) ^ (64*3)=6277101735386680763835789423207666416102355444464034512896 by decide,←Int.ediv_ediv_of_nonneg (by decide),
   show num x0 x1 x2 x3/6277101735386680763835789423207666416102355444464034512896=x3+18446744073709551616*(0) by unfold num aj at *; omega]
  exact pB s0 s1
theorem zW {n k:Int} (h:k<0∨255<k) (w:World) :
  Calls Tryz.prog 98 #[.agg #[.int .u64 (l0 n),.int .u64 (l1 n),.int .u64 (l2 n),.int .u64 (l3 n)],.int .i64 k] w fun e w'=>e = .returned (.int .i64 0)∧Below w.heap.size w w':=by
 rcases h with h|h
 ·go_enter Tryz.func98,Tryz.ntmps98
  go_wp2
  go_ret
  exact ⟨rfl,(Below.refl _ _).alloc (Nat.le_refl _) _⟩
 ·have h':¬k<0:=by omega
  go_enter Tryz.func98,Tryz.ntmps98
  go_wp2
  go_ret
  exact ⟨rfl,(Below.refl _ _).alloc (Nat.le_refl _) _⟩
theorem pD {n k:Int} (hn:Num n) (w:World) :
  Calls Tryz.prog 98 #[.agg #[.int .u64 (l0 n),.int .u64 (l1 n),.int .u64 (l2 n),.int .u64 (l3 n)],.int .i64 k] w fun e w'=>e = .returned (.int .i64 (jy n k))∧Below w.heap.size w w':=by
 unfold jy
 split
 ·rename_i h;exact zW h w
 ·rename_i h
  obtain ⟨r0,r1,r2,r3⟩:=zU (x3:=l3 n) (bW n) (bX n) (k:=k) (bY n)
  rw [ie hn] at r0 r1 r2 r3
  rcases (show k/64=0∨k/64=1∨k/64=2∨k/64=3 by omega) with hq|hq|hq|hq
  ·rw [r0 hq];exact Do (bW n) (by omega) (by omega) (by omega) (by omega) hq rfl w
  ·rw [r1 hq];exact Dp (bX n) (by omega) (by omega) (by omega) (by omega) hq rfl w
  ·rw [r2 hq];exact Dq (bY n) (by omega) (by omega) (by omega) (by omega) hq rfl w
  ·rw [r3 hq];exact Dr (cf n) (by omega) (by omega) (by omega) (by omega) hq rfl w
theorem j9 {x:Int} (h:aj x) (hx:x≠0):∃ b:Nat,(Lib.bitLen x.toNat:Int)=(b:Int)+1∧b≤63∧(2:Int) ^ b≤x∧x<(2:Int) ^ (b+1):=by
 obtain ⟨h0,h1⟩:=h
 obtain ⟨m,rfl⟩:=Int.eq_ofNat_of_zero_le h0
 rw [Int.toNat_natCast]
 obtain ⟨a,b,c⟩:=Lib.bitLenAux_bounds 64 m (by omega) (by omega)
 have d:=Lib.bitLen_le m 64 (by omega) (by omega)
 unfold Lib.bitLen at *
 obtain ⟨k,hk⟩:∃ k,Lib.bitLenAux 64 m=k+1:=⟨Lib.bitLenAux 64 m-1,by omega⟩
 rw [hk] at a b c d ⊢
 refine ⟨k,by omega,by omega,?_,?_⟩
 ·exact_mod_cast b
 ·exact_mod_cast c
theorem Ds {x0 x1 x2 x3:Int} (hx3:aj x3) (hz:x3≠0) (w:World) :
  Calls Tryz.prog 92 #[.agg #[.int .u64 x0,.int .u64 x1,.int .u64 x2,.int .u64 x3]] w fun e w'=>e = .returned (.int .i64 (192+(Lib.bitLen x3.toNat:Int)))∧Below w.heap.size w w':=by
 have hb:=Lib.bitLen_le x3.toNat 64 (by omega) (by obtain ⟨_,_⟩:=hx3;omega)
 have c:=Tryz.bits_Len64 x3
 obtain ⟨h0,h1⟩:=hx3
 have c:=fun w=>c w h0 (by omega)
 have C:Hid (∀ w,Calls Tryz.prog 123 #[.int .u64 x3] w fun e w'=>e = .returned (.int .i64 (Lib.bitLen x3.toNat))∧w'=w):=c
 clear c
 generalize Lib.bitLen x3.toNat=b at *
 subst_vars
 have hz':(x3==0)=false:=by simpa using hz
 go_enter Tryz.func92,Tryz.ntmps92
 go_wp2
 refine wp_loop_rounds 5 ?_
 rw [rounds_succ]
 go_wp2_with (go_at_call 123;refine (C.out _).mono ?_;rintro e w' ⟨rfl,rfl⟩)
 go_ret
 exact ⟨rfl,(Below.refl _ _).alloc (Nat.le_refl _) _⟩
theorem Dt {x0 x1 x2 x3:Int} (hx2:aj x2) (hz:x2≠0) (z3:x3=0) (w:World) :
  Calls Tryz.prog 92 #[.agg #[.int .u64 x0,.int .u64 x1,.int .u64 x2,.int .u64 x3]] w fun e w'=>e = .returned (.int .i64 (128+(Lib.bitLen x2.toNat:Int)))∧Below w.heap.size w w':=by
 have hb:=Lib.bitLen_le x2.toNat 64 (by omega) (by obtain ⟨_,_⟩:=hx2;omega)
 have c:=Tryz.bits_Len64 x2
 obtain ⟨h0,h1⟩:=hx2
 have c:=fun w=>c w h0 (by omega)
 have C:Hid (∀ w,Calls Tryz.prog 123 #[.int .u64 x2] w fun e w'=>e = .returned (.int .i64 (Lib.bitLen x2.toNat))∧w'=w):=c
 clear c
 generalize Lib.bitLen x2.toNat=b at *
 subst_vars
 have hz':(x2==0)=false:=by simpa using hz
 go_enter Tryz.func92,Tryz.ntmps92
 go_wp2
 refine wp_loop_rounds 5 ?_
 rw [rounds_succ];go_wp2
 rw [rounds_succ]
 go_wp2_with (go_at_call 123;refine (C.out _).mono ?_;rintro e w' ⟨rfl,rfl⟩)
 go_ret
 exact ⟨rfl,(Below.refl _ _).alloc (Nat.le_refl _) _⟩
theorem Du {x0 x1 x2 x3:Int} (hx1:aj x1) (hz:x1≠0) (z2:x2=0) (z3:x3=0) (w:World) :
  Calls Tryz.prog 92 #[.agg #[.int .u64 x0,.int .u64 x1,.int .u64 x2,.int .u64 x3]] w fun e w'=>e = .returned (.int .i64 (64+(Lib.bitLen x1.toNat:Int)))∧Below w.heap.size w w':=by
 have hb:=Lib.bitLen_le x1.toNat 64 (by omega) (by obtain ⟨_,_⟩:=hx1;omega)
 have c:=Tryz.bits_Len64 x1
 obtain ⟨h0,h1⟩:=hx1
 have c:=fun w=>c w h0 (by omega)
 have C:Hid (∀ w,Calls Tryz.prog 123 #[.int .u64 x1] w fun e w'=>e = .returned (.int .i64 (Lib.bitLen x1.toNat))∧w'=w):=c
 clear c
 generalize Lib.bitLen x1.toNat=b at *
 subst_vars
 have hz':(x1==0)=false:=by simpa using hz
 go_enter Tryz.func92,Tryz.ntmps92
 go_wp2
 refine wp_loop_rounds 5 ?_
 rw [rounds_succ];go_wp2
 rw [rounds_succ];go_wp2
 rw [rounds_succ]
 go_wp2_with (go_at_call 123;refine (C.out _).mono ?_;rintro e w' ⟨rfl,rfl⟩)
 go_ret
 exact ⟨rfl,(Below.refl _ _).alloc (Nat.le_refl _) _⟩
theorem Dv {x0 x1 x2 x3:Int} (hx0:aj x0) (hz:x0≠0) (z1:x1=0) (z2:x2=0) (z3:x3=0) (w:World) :
  Calls Tryz.prog 92 #[.agg #[.int .u64 x0,.int .u64 x1,.int .u64 x2,.int .u64 x3]] w fun e w'=>e = .returned (.int .i64 (Lib.bitLen x0.toNat:Int))∧Below w.heap.size w w':=by
 have hb:=Lib.bitLen_le x0.toNat 64 (by omega) (by obtain ⟨_,_⟩:=hx0;omega)
 have c:=Tryz.bits_Len64 x0
 obtain ⟨h0,h1⟩:=hx0
 have c:=fun w=>c w h0 (by omega)
 have C:Hid (∀ w,Calls Tryz.prog 123 #[.int .u64 x0] w fun e w'=>e = .returned (.int .i64 (Lib.bitLen x0.toNat))∧w'=w):=c
 clear c
 generalize Lib.bitLen x0.toNat=b at *
 subst_vars
 have hz':(x0==0)=false:=by simpa using hz
 go_enter Tryz.func92,Tryz.ntmps92
 go_wp2
 refine wp_loop_rounds 5 ?_
 rw [rounds_succ];go_wp2
 rw [rounds_succ];go_wp2
 rw [rounds_succ];go_wp2
 rw [rounds_succ]
 go_wp2_with (go_at_call 123;refine (C.out _).mono ?_;rintro e w' ⟨rfl,rfl⟩)
 go_ret
 exact ⟨rfl,(Below.refl _ _).alloc (Nat.le_refl _) _⟩
theorem xv (w:World) :
  Calls Tryz.prog 92 #[.agg #[.int .u64 0,.int .u64 0,.int .u64 0,.int .u64 0]] w fun e w'=>e = .returned (.int .i64 0)∧Below w.heap.size w w':=by
 go_enter Tryz.func92,Tryz.ntmps92
 go_wp2
 refine wp_loop_rounds 5 ?_
 rw [rounds_succ];go_wp2
 rw [rounds_succ];go_wp2
 rw [rounds_succ];go_wp2
 rw [rounds_succ];go_wp2
 rw [rounds_succ];go_wp2
 go_ret
 exact ⟨rfl,(Below.refl _ _).alloc (Nat.le_refl _) _⟩
theorem uV {x0:Int} {b:Nat}  (l:(2:Int) ^ b≤x0) (u:x0<(2:Int) ^ (b+1)):iy (num x0 0 0 0)=0+((b:Int)+1):=by
 have r:=mC (n:=num x0 0 0 0) (k:=0+b) (by rw [Int.pow_add,show (2:Int) ^ 0=1 by decide];unfold num;omega)
  (by rw [Nat.add_assoc,Int.pow_add,show (2:Int) ^ 0=1 by decide];unfold num;omega)
 rw [r];omega
theorem uW {x0 x1:Int} {b:Nat} (h0:aj x0) (l:(2:Int) ^ b≤x1) (u:x1<(2:Int) ^ (b+1)):iy (num x0 x1 0 0)=64+((b:Int)+1):=by
 have r:=mC (n:=num x0 x1 0 0) (k:=64+b) (by rw [Int.pow_add,show (2:Int) ^ 64=18446744073709551616 by decide];unfold num aj at *; omega)
  (by rw [Nat.add_assoc,Int.pow_add,show (2:Int) ^ 64=18446744073709551616 by decide];unfold num aj at *; omega)
 rw [r];omega
theorem uX {x0 x1 x2:Int} {b:Nat} (h0:aj x0) (h1:aj x1) (l:(2:Int) ^ b≤x2) (u:x2<(2:Int) ^ (b+1)):iy (num x0 x1 x2 0)=128+((b:Int)+1):=by
 have r:=mC (n:=num x0 x1 x2 0) (k:=128+b) (by rw [Int.pow_add,show (2:Int) ^ 128=340282366920938463463374607431768211456 by decide];unfold num aj at *; omega)
  (by rw [Nat.add_assoc,Int.pow_add,show (2:Int) ^ 128=340282366920938463463374607431768211456 by decide];unfold num aj at *; omega)
 rw [r];omega
theorem uY {x0 x1 x2 x3:Int} {b:Nat} (h0:aj x0) (h1:aj x1) (h2:aj x2) (l:(2:Int) ^ b≤x3) (u:x3<(2:Int) ^ (b+1)):iy (num x0 x1 x2 x3)=192+((b:Int)+1):=by
 have r:=mC (n:=num x0 x1 x2 x3) (k:=192+b) (by rw [Int.pow_add,show (2:Int) ^ 192=6277101735386680763835789423207666416102355444464034512896 by decide];unfold num aj at *; omega)
  (by rw [Nat.add_assoc,Int.pow_add,show (2:Int) ^ 192=6277101735386680763835789423207666416102355444464034512896 by decide];unfold num aj at *; omega)
 rw [r];omega
theorem pE {n:Int} (hn:Num n) (w:World) :
  Calls Tryz.prog 92 #[.agg #[.int .u64 (l0 n),.int .u64 (l1 n),.int .u64 (l2 n),.int .u64 (l3 n)]] w fun e w'=>e = .returned (.int .i64 (iy n))∧Below w.heap.size w w':=by
 have h0:=bW n;have h1:=bX n;have h2:=bY n;have h3:=cf n
 have en:=ie hn
 generalize l0 n=x0 at *; generalize l1 n=x1 at *; generalize l2 n=x2 at *; generalize l3 n=x3 at *
 subst en
 by_cases z3:x3=0
 ·subst z3
  by_cases z2:x2=0
  ·subst z2
   by_cases z1:x1=0
   ·subst z1
    by_cases z0:x0=0
    ·subst z0
     exact xv w
    ·obtain ⟨b,e,_,l,u⟩:=j9 h0 z0
     have r:=Dv (x1:=0) (x2:=0) (x3:=0) h0 z0 rfl rfl rfl w
     rw [e] at r
     rw [uV l u,show (0:Int)+((b:Int)+1)=(b:Int)+1 by omega]
     exact r
   ·obtain ⟨b,e,_,l,u⟩:=j9 h1 z1
    have r:=Du (x0:=x0) (x2:=0) (x3:=0) h1 z1 rfl rfl w
    rw [e] at r
    rw [uW h0 l u]
    exact r
  ·obtain ⟨b,e,_,l,u⟩:=j9 h2 z2
   have r:=Dt (x0:=x0) (x1:=x1) (x3:=0) h2 z2 rfl w
   rw [e] at r
   rw [uX h0 h1 l u]
   exact r
 ·obtain ⟨b,e,_,l,u⟩:=j9 h3 z3
  have r:=Ds (x0:=x0) (x1:=x1) (x2:=x2) h3 z3 w
  rw [e] at r
  rw [uY h0 h1 h2 l u]
  exact r
theorem xw (m:Int) (j:Nat):m/2 ^ j=2*(m/2 ^ (j+1))+m/2 ^ j%2:=by
 have e:m/2 ^ (j+1)=m/2 ^ j/2:=by rw [Int.pow_succ,←Int.ediv_ediv_of_nonneg (Int.le_of_lt (Int.pow_pos (by decide)))]
 rw [e]
 omega
theorem sf {m:Int} (hm:Num m):∃ j:Nat,iy m=j∧j≤256∧m<2 ^ j∧m/2 ^ j=0:=by
 obtain ⟨m0,m1⟩:=hm
 by_cases h:m=0
 ·subst h;exact ⟨0,by unfold iy;simp,by omega,by decide,by decide⟩
 ·have hn:m.toNat≠0:=by omega
  have a:Nat.log2 m.toNat<256:=(Nat.log2_lt hn).2 (by
   have:(2:Nat) ^ 256=115792089237316195423570985008687907853269984665640564039457584007913129639936:=by decide
   omega)
  have b:m.toNat<2 ^ (Nat.log2 m.toNat+1):=(Nat.log2_lt hn).1 (Nat.lt_succ_self _)
  have c:m<2 ^ (Nat.log2 m.toNat+1):=by
   have:((m.toNat:Nat):Int)<((2 ^ (Nat.log2 m.toNat+1):Nat):Int):=by exact_mod_cast b
   rw [Int.toNat_of_nonneg m0] at this
   simpa using this
  refine ⟨Nat.log2 m.toNat+1,?_,by omega,c,Int.ediv_eq_zero_of_lt m0 c⟩
  unfold iy
  rw [if_neg h]
  rfl
theorem zX (m:Int) {j:Nat} (h:j<256):jy m j=m/2 ^ j%2:=by
 unfold jy
 rw [if_neg (by omega),Int.toNat_natCast]
end Go.Proofs.YtjoandmehahfgaaGreatDoor
