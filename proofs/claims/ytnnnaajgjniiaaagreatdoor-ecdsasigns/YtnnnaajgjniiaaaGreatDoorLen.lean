import Derived.Test.YtnnnaajgjniiaaaGreatDoorMul2
import Derived.Test.YtnnnaajgjniiaaaGreatDoorShelf
import Derived.Lib.ItoaNum
import Derived.Test.YtnnnaajgjniiaaaGreatDoorFNum
set_option maxHeartbeats 1000000
namespace Go.Proofs.YtnnnaajgjniiaaaGreatDoor
open Go.RowKit
def cG (n k:Int):Int:=if k<0∨255<k then 0 else n/2 ^ k.toNat%2
def jI (n:Int):Int:=if n=0 then 0 else (Nat.log2 n.toNat:Int)+1
theorem jl {n:Int} {k:Nat} (h0:(2:Int) ^ k≤n) (h1:n<(2:Int) ^ (k+1)):jI n=(k:Int)+1:=by
 have p:(0:Int)<2 ^ k:=Int.pow_pos (by decide)
 obtain ⟨m,rfl⟩:=Int.eq_ofNat_of_zero_le (show 0≤n by omega)
 have hm:m≠0:=by omega
 unfold jI
 rw [if_neg (by omega),Int.toNat_natCast]
 have c0:2 ^ k≤m:=by exact_mod_cast h0
 have c1:m<2 ^ (k+1):=by exact_mod_cast h1
 have a:k≤Nat.log2 m:=(Nat.le_log2 hm).2 c0
 have b:Nat.log2 m<k+1:=(Nat.log2_lt hm).2 c1
 omega
theorem fg {x s:Int} (hx:al x):bits .and .u64 (x/2 ^ s.toNat) 1=x/2 ^ s.toNat%2:=by
 obtain ⟨x0,x1⟩:=hx
 have p:(0:Int)<2 ^ s.toNat:=Int.pow_pos (by decide)
 have q0:0≤x/2 ^ s.toNat:=Int.ediv_nonneg x0 (by omega)
 have q1:x/2 ^ s.toNat≤x:=Int.ediv_le_self _ x0
 generalize x/2 ^ s.toNat=y at *
 obtain ⟨y,rfl⟩:=Int.eq_ofNat_of_zero_le q0
 refine (bits_and_u64_nat y 1 (by omega) (by decide)).trans ?_
 rw [Nat.and_one_is_mod]
 omega
theorem AF {x0 x1 x2 x3 k s:Int} (hx0:al x0) (_k0:0≤k) (_k1:k≤255) (_s0:0≤s) (_s1:s≤63) (hq:k/64=0) (hr:k%64=s) (w:World) :
  Calls Tryz.prog 106 #[.agg #[.int .u64 x0,.int .u64 x1,.int .u64 x2,.int .u64 x3],.int .i64 k] w fun e w'=>e = .returned (.int .i64 (x0/2 ^ s.toNat%2))∧Below w.heap.size w w':=by
 have b0:=fg (s:=s) hx0
 obtain ⟨_,_⟩:=hx0
 go_enter Tryz.func106,Tryz.ntmps106
 go_wp2
 go_ret
 exact ⟨rfl,(Below.refl _ _).alloc (Nat.le_refl _) _⟩
theorem AG {x0 x1 x2 x3 k s:Int} (hx1:al x1) (_k0:0≤k) (_k1:k≤255) (_s0:0≤s) (_s1:s≤63) (hq:k/64=1) (hr:k%64=s) (w:World) :
  Calls Tryz.prog 106 #[.agg #[.int .u64 x0,.int .u64 x1,.int .u64 x2,.int .u64 x3],.int .i64 k] w fun e w'=>e = .returned (.int .i64 (x1/2 ^ s.toNat%2))∧Below w.heap.size w w':=by
 have b1:=fg (s:=s) hx1
 obtain ⟨_,_⟩:=hx1
 go_enter Tryz.func106,Tryz.ntmps106
 go_wp2
 go_ret
 exact ⟨rfl,(Below.refl _ _).alloc (Nat.le_refl _) _⟩
theorem AH {x0 x1 x2 x3 k s:Int} (hx2:al x2) (_k0:0≤k) (_k1:k≤255) (_s0:0≤s) (_s1:s≤63) (hq:k/64=2) (hr:k%64=s) (w:World) :
  Calls Tryz.prog 106 #[.agg #[.int .u64 x0,.int .u64 x1,.int .u64 x2,.int .u64 x3],.int .i64 k] w fun e w'=>e = .returned (.int .i64 (x2/2 ^ s.toNat%2))∧Below w.heap.size w w':=by
 have b2:=fg (s:=s) hx2
 obtain ⟨_,_⟩:=hx2
 go_enter Tryz.func106,Tryz.ntmps106
 go_wp2
 go_ret
 exact ⟨rfl,(Below.refl _ _).alloc (Nat.le_refl _) _⟩
theorem AJ {x0 x1 x2 x3 k s:Int} (hx3:al x3) (_k0:0≤k) (_k1:k≤255) (_s0:0≤s) (_s1:s≤63) (hq:k/64=3) (hr:k%64=s) (w:World) :
  Calls Tryz.prog 106 #[.agg #[.int .u64 x0,.int .u64 x1,.int .u64 x2,.int .u64 x3],.int .i64 k] w fun e w'=>e = .returned (.int .i64 (x3/2 ^ s.toNat%2))∧Below w.heap.size w w':=by
 have b3:=fg (s:=s) hx3
 obtain ⟨_,_⟩:=hx3
 go_enter Tryz.func106,Tryz.ntmps106
 go_wp2
 go_ret
 exact ⟨rfl,(Below.refl _ _).alloc (Nat.le_refl _) _⟩
theorem ow {x y s:Int} (s0:0≤s) (s1:s≤63):(x+18446744073709551616*y)/2 ^ s.toNat%2=x/2 ^ s.toNat%2:=by
 obtain ⟨e,p1,_⟩:=cF s0 s1
 have hR:∃ r,(2:Int) ^ (64-s).toNat=2*r:=by
  obtain ⟨k,hk⟩:∃ k,(64-s).toNat=k+1:=⟨(64-s).toNat-1,by omega⟩
  exact ⟨2 ^ k,by rw [hk,Int.pow_succ,Int.mul_comm]⟩
 obtain ⟨r,hr⟩:=hR
 rw [hr] at e
 rw [←e,Int.mul_assoc,Int.add_mul_ediv_left _ _ (by omega),Int.mul_assoc]
 omega
theorem r8 {x0 x1 x2 x3 k:Int} (h0:al x0) (h1:al x1) (h2:al x2) :
  (k/64=0→num x0 x1 x2 x3/2 ^ k.toNat%2=x0/2 ^ (k%64).toNat%2)∧(k/64=1→num x0 x1 x2 x3/2 ^ k.toNat%2=x1/2 ^ (k%64).toNat%2) ∧
  (k/64=2→num x0 x1 x2 x3/2 ^ k.toNat%2=x2/2 ^ (k%64).toNat%2)∧(k/64=3→num x0 x1 x2 x3/2 ^ k.toNat%2=x3/2 ^ (k%64).toNat%2):=by
 have s0:0≤k%64:=by omega
 have s1:k%64≤63:=by omega
 refine ⟨fun hq=>?_,fun hq=>?_,fun hq=>?_,fun hq=>?_⟩
 ·rw [bA 0 s0 (show k=64*(0:Nat)+k%64 by omega),show (2:Int) ^ (64*0)=1 by decide,←Int.ediv_ediv_of_nonneg (by decide),
   show num x0 x1 x2 x3/1=x0+18446744073709551616*(x1+18446744073709551616*x2+340282366920938463463374607431768211456*x3) by unfold num al at *; omega]
  exact ow s0 s1
 ·rw [bA 1 s0 (show k=64*(1:Nat)+k%64 by omega),show (2:Int) ^ (64*1)=18446744073709551616 by decide,←Int.ediv_ediv_of_nonneg (by decide),
   show num x0 x1 x2 x3/18446744073709551616=x1+18446744073709551616*(x2+18446744073709551616*x3) by unfold num al at *; omega]
  exact ow s0 s1
 ·rw [bA 2 s0 (show k=64*(2:Nat)+k%64 by omega),show (2:Int) ^ (64*2)=340282366920938463463374607431768211456 by decide,←Int.ediv_ediv_of_nonneg (by decide),
   show num x0 x1 x2 x3/340282366920938463463374607431768211456=x2+18446744073709551616*(x3) by unfold num al at *; omega]
  exact ow s0 s1
 ·rw [bA 3 s0 (show k=64*(3:Nat)+k%64 by omega),show (2:Int) ^ (64*3)=6277101735386680763835789423207666416102355444464034512896 by decide,←Int.ediv_ediv_of_nonneg (by decide),
   show num x0 x1 x2 x3/6277101735386680763835789423207666416102355444464034512896=x3+18446744073709551616*(0) by unfold num al at *; omega]
  exact ow s0 s1
theorem xV {n k:Int} (h:k<0∨255<k) (w:World) :
  Calls Tryz.prog 106 #[.agg #[.int .u64 (l0 n),.int .u64 (l1 n),.int .u64 (l2 n),.int .u64 (l3 n)],.int .i64 k] w fun e w'=>e = .returned (.int .i64 0)∧Below w.heap.size w w':=by
 rcases h with h|h
 ·go_enter Tryz.func106,Tryz.ntmps106
  go_wp2
  go_ret
  exact ⟨rfl,(Below.refl _ _).alloc (Nat.le_refl _) _⟩
 ·have h':¬k<0:=by omega
  go_enter Tryz.func106,Tryz.ntmps106
  go_wp2
  go_ret
  exact ⟨rfl,(Below.refl _ _).alloc (Nat.le_refl _) _⟩
theorem r9 {n k:Int} (hn:Num n) (w:World) :
  Calls Tryz.prog 106 #[.agg #[.int .u64 (l0 n),.int .u64 (l1 n),.int .u64 (l2 n),.int .u64 (l3 n)],.int .i64 k] w fun e w'=>e = .returned (.int .i64 (cG n k))∧Below w.heap.size w w':=by
 unfold cG
 split
 ·rename_i h;exact xV h w
 ·rename_i h
  obtain ⟨r0,r1,r2,r3⟩:=r8 (x3:=l3 n) (aU n) (aV n) (k:=k) (aW n)
  rw [du hn] at r0 r1 r2 r3
  rcases (show k/64=0∨k/64=1∨k/64=2∨k/64=3 by omega) with hq|hq|hq|hq
  ·rw [r0 hq];exact AF (aU n) (by omega) (by omega) (by omega) (by omega) hq rfl w
  ·rw [r1 hq];exact AG (aV n) (by omega) (by omega) (by omega) (by omega) hq rfl w
  ·rw [r2 hq];exact AH (aW n) (by omega) (by omega) (by omega) (by omega) hq rfl w
  ·rw [r3 hq];exact AJ (bj n) (by omega) (by omega) (by omega) (by omega) hq rfl w
theorem jn {x:Int} (h:al x) (hx:x≠0):∃ b:Nat,(Lib.bitLen x.toNat:Int)=(b:Int)+1∧b≤63∧(2:Int) ^ b≤x∧x<(2:Int) ^ (b+1):=by
 obtain ⟨h0,h1⟩:=h
 obtain ⟨m,rfl⟩:=Int.eq_ofNat_of_zero_le h0
 rw [Int.toNat_natCast]
 obtain ⟨a,b,c⟩:=Lib.bitLenAux_bounds 64 m (by omega) (by omega)
 have d:=Lib.bitLen_le m 64 (by omega) (by omega)
 unfold Lib.bitLen at *
 obtain ⟨k,hk⟩:∃ k,Lib.bitLenAux 64 m=k+1:=⟨Lib.bitLenAux 64 m-1,by omega⟩
 rw [hk] at a b c d ⊢
 refine ⟨k,by omega,by omega,?_,?_⟩
 ·exact_mod_cast b
 ·exact_mod_cast c
theorem AK {x0 x1 x2 x3:Int} (hx3:al x3) (hz:x3≠0) (w:World) :
  Calls Tryz.prog 168 #[.agg #[.int .u64 x0,.int .u64 x1,.int .u64 x2,.int .u64 x3]] w fun e w'=>e = .returned (.int .i64 (192+(Lib.bitLen x3.toNat:Int)))∧Below w.heap.size w w':=by
 have hb:=Lib.bitLen_le x3.toNat 64 (by omega) (by obtain ⟨_,_⟩:=hx3;omega)
 have c:=Tryz.bits_Len64 x3
 obtain ⟨h0,h1⟩:=hx3
 have c:=fun w=>c w h0 (by omega)
 have C:Hid (∀ w,Calls Tryz.prog 184 #[.int .u64 x3] w fun e w'=>e = .returned (.int .i64 (Lib.bitLen x3.toNat))∧w'=w):=c
 clear c
 generalize Lib.bitLen x3.toNat=b at *
 subst_vars
 have hz':(x3==0)=false:=by simpa using hz
 go_enter Tryz.func168,Tryz.ntmps168
 go_wp2
 refine wp_loop_rounds 5 ?_
 rw [rounds_succ]
 go_wp2_with (go_at_call 184;refine (C.out _).mono ?_;rintro e w' ⟨rfl,rfl⟩)
 go_ret
 exact ⟨rfl,(Below.refl _ _).alloc (Nat.le_refl _) _⟩
theorem AL {x0 x1 x2 x3:Int} (hx2:al x2) (hz:x2≠0) (z3:x3=0) (w:World) :
  Calls Tryz.prog 168 #[.agg #[.int .u64 x0,.int .u64 x1,.int .u64 x2,.int .u64 x3]] w fun e w'=>e = .returned (.int .i64 (128+(Lib.bitLen x2.toNat:Int)))∧Below w.heap.size w w':=by
 have hb:=Lib.bitLen_le x2.toNat 64 (by omega) (by obtain ⟨_,_⟩:=hx2;omega)
 have c:=Tryz.bits_Len64 x2
 obtain ⟨h0,h1⟩:=hx2
 have c:=fun w=>c w h0 (by omega)
 have C:Hid (∀ w,Calls Tryz.prog 184 #[.int .u64 x2] w fun e w'=>e = .returned (.int .i64 (Lib.bitLen x2.toNat))∧w'=w):=c
 clear c
 generalize Lib.bitLen x2.toNat=b at *
 subst_vars
 have hz':(x2==0)=false:=by simpa using hz
 go_enter Tryz.func168,Tryz.ntmps168
 go_wp2
 refine wp_loop_rounds 5 ?_
 rw [rounds_succ];go_wp2
 rw [rounds_succ]
 go_wp2_with (go_at_call 184;refine (C.out _).mono ?_;rintro e w' ⟨rfl,rfl⟩)
 go_ret
 exact ⟨rfl,(Below.refl _ _).alloc (Nat.le_refl _) _⟩
theorem AM {x0 x1 x2 x3:Int} (hx1:al x1) (hz:x1≠0) (z2:x2=0) (z3:x3=0) (w:World) :
  Calls Tryz.prog 168 #[.agg #[.int .u64 x0,.int .u64 x1,.int .u64 x2,.int .u64 x3]] w fun e w'=>e = .returned (.int .i64 (64+(Lib.bitLen x1.toNat:Int)))∧Below w.heap.size w w':=by
 have hb:=Lib.bitLen_le x1.toNat 64 (by omega) (by obtain ⟨_,_⟩:=hx1;omega)
 have c:=Tryz.bits_Len64 x1
 obtain ⟨h0,h1⟩:=hx1
 have c:=fun w=>c w h0 (by omega)
 have C:Hid (∀ w,Calls Tryz.prog 184 #[.int .u64 x1] w fun e w'=>e = .returned (.int .i64 (Lib.bitLen x1.toNat))∧w'=w):=c
 clear c
 generalize Lib.bitLen x1.toNat=b at *
 subst_vars
 have hz':(x1==0)=false:=by simpa using hz
 go_enter Tryz.func168,Tryz.ntmps168
 go_wp2
 refine wp_loop_rounds 5 ?_
 rw [rounds_succ];go_wp2
 rw [rounds_succ];go_wp2
 rw [rounds_succ]
 go_wp2_with (go_at_call 184;refine (C.out _).mono ?_;rintro e w' ⟨rfl,rfl⟩)
 go_ret
 exact ⟨rfl,(Below.refl _ _).alloc (Nat.le_refl _) _⟩
theorem AN {x0 x1 x2 x3:Int} (hx0:al x0) (hz:x0≠0) (z1:x1=0) (z2:x2=0) (z3:x3=0) (w:World) :
  Calls Tryz.prog 168 #[.agg #[.int .u64 x0,.int .u64 x1,.int .u64 x2,.int .u64 x3]] w fun e w'=>e = .returned (.int .i64 (Lib.bitLen x0.toNat:Int))∧Below w.heap.size w w':=by
 have hb:=Lib.bitLen_le x0.toNat 64 (by omega) (by obtain ⟨_,_⟩:=hx0;omega)
 have c:=Tryz.bits_Len64 x0
 obtain ⟨h0,h1⟩:=hx0
 have c:=fun w=>c w h0 (by omega)
 have C:Hid (∀ w,Calls Tryz.prog 184 #[.int .u64 x0] w fun e w'=>e = .returned (.int .i64 (Lib.bitLen x0.toNat))∧w'=w):=c
 clear c
 generalize Lib.bitLen x0.toNat=b at *
 subst_vars
 have hz':(x0==0)=false:=by simpa using hz
 go_enter Tryz.func168,Tryz.ntmps168
 go_wp2
 refine wp_loop_rounds 5 ?_
 rw [rounds_succ];go_wp2
 rw [rounds_succ];go_wp2
 rw [rounds_succ];go_wp2
 rw [rounds_succ]
 go_wp2_with (go_at_call 184;refine (C.out _).mono ?_;rintro e w' ⟨rfl,rfl⟩)
 go_ret
 exact ⟨rfl,(Below.refl _ _).alloc (Nat.le_refl _) _⟩
theorem vu (w:World) :
  Calls Tryz.prog 168 #[.agg #[.int .u64 0,.int .u64 0,.int .u64 0,.int .u64 0]] w fun e w'=>e = .returned (.int .i64 0)∧Below w.heap.size w w':=by
 go_enter Tryz.func168,Tryz.ntmps168
 go_wp2
 refine wp_loop_rounds 5 ?_
 rw [rounds_succ];go_wp2
 rw [rounds_succ];go_wp2
 rw [rounds_succ];go_wp2
 rw [rounds_succ];go_wp2
 rw [rounds_succ];go_wp2
 go_ret
 exact ⟨rfl,(Below.refl _ _).alloc (Nat.le_refl _) _⟩
theorem sZ {x0:Int} {b:Nat}  (l:(2:Int) ^ b≤x0) (u:x0<(2:Int) ^ (b+1)):jI (num x0 0 0 0)=0+((b:Int)+1):=by
 have r:=jl (n:=num x0 0 0 0) (k:=0+b) (by rw [Int.pow_add,show (2:Int) ^ 0=1 by decide];unfold num;omega)
  (by rw [Nat.add_assoc,Int.pow_add,show (2:Int) ^ 0=1 by decide];unfold num;omega)
 rw [r];omega
theorem s8 {x0 x1:Int} {b:Nat} (h0:al x0) (l:(2:Int) ^ b≤x1) (u:x1<(2:Int) ^ (b+1)):jI (num x0 x1 0 0)=64+((b:Int)+1):=by
 have r:=jl (n:=num x0 x1 0 0) (k:=64+b) (by rw [Int.pow_add,show (2:Int) ^ 64=18446744073709551616 by decide];unfold num al at *; omega)
  (by rw [Nat.add_assoc,Int.pow_add,show (2:Int) ^ 64=18446744073709551616 by decide];unfold num al at *; omega)
 rw [r];omega
theorem s9 {x0 x1 x2:Int} {b:Nat} (h0:al x0) (h1:al x1) (l:(2:Int) ^ b≤x2) (u:x2<(2:Int) ^ (b+1)):jI (num x0 x1 x2 0)=128+((b:Int)+1):=by
 have r:=jl (n:=num x0 x1 x2 0) (k:=128+b) (by rw [Int.pow_add,show (2:Int) ^ 128=340282366920938463463374607431768211456 by decide];unfold num al at *; omega)
  (by rw [Nat.add_assoc,Int.pow_add,show (2:Int) ^ 128=340282366920938463463374607431768211456 by decide];unfold num al at *; omega)
 rw [r];omega
theorem tc {x0 x1 x2 x3:Int} {b:Nat} (h0:al x0) (h1:al x1) (h2:al x2) (l:(2:Int) ^ b≤x3) (u:x3<(2:Int) ^ (b+1)):jI (num x0 x1 x2 x3)=192+((b:Int)+1):=by
 have r:=jl (n:=num x0 x1 x2 x3) (k:=192+b) (by rw [Int.pow_add,show (2:Int) ^ 192=6277101735386680763835789423207666416102355444464034512896 by decide];unfold num al at *; omega)
  (by rw [Nat.add_assoc,Int.pow_add,show (2:Int) ^ 192=6277101735386680763835789423207666416102355444464034512896 by decide];unfold num al at *; omega)
 rw [r];omega
theorem xW {n:Int} (hn:Num n) (w:World) :
  Calls Tryz.prog 168 #[.agg #[.int .u64 (l0 n),.int .u64 (l1 n),.int .u64 (l2 n),.int .u64 (l3 n)]] w fun e w'=>e = .returned (.int .i64 (jI n))∧Below w.heap.size w w':=by
 have h0:=aU n;have h1:=aV n;have h2:=aW n;have h3:=bj n
 have en:=du hn
 generalize l0 n=x0 at *; generalize l1 n=x1 at *; generalize l2 n=x2 at *; generalize l3 n=x3 at *
 subst en
 by_cases z3:x3=0
 ·subst z3
  by_cases z2:x2=0
  ·subst z2
   by_cases z1:x1=0
   ·subst z1
    by_cases z0:x0=0
    ·subst z0
     exact vu w
    ·obtain ⟨b,e,_,l,u⟩:=jn h0 z0
     have r:=AN (x1:=0) (x2:=0) (x3:=0) h0 z0 rfl rfl rfl w
     rw [e] at r
     rw [sZ l u,show (0:Int)+((b:Int)+1)=(b:Int)+1 by omega]
     exact r
   ·obtain ⟨b,e,_,l,u⟩:=jn h1 z1
    have r:=AM (x0:=x0) (x2:=0) (x3:=0) h1 z1 rfl rfl w
    rw [e] at r
    rw [s8 h0 l u]
    exact r
  ·obtain ⟨b,e,_,l,u⟩:=jn h2 z2
   have r:=AL (x0:=x0) (x1:=x1) (x3:=0) h2 z2 rfl w
   rw [e] at r
   rw [s9 h0 h1 l u]
   exact r
 ·obtain ⟨b,e,_,l,u⟩:=jn h3 z3
  have r:=AK (x0:=x0) (x1:=x1) (x2:=x2) h3 z3 w
  rw [e] at r
  rw [tc h0 h1 h2 l u]
  exact r
theorem pd (m:Int) (j:Nat):m/2 ^ j=2*(m/2 ^ (j+1))+m/2 ^ j%2:=by
 have e:m/2 ^ (j+1)=m/2 ^ j/2:=by rw [Int.pow_succ,←Int.ediv_ediv_of_nonneg (Int.le_of_lt (Int.pow_pos (by decide)))]
 rw [e]
 omega
theorem lG {m:Int} (hm:Num m):∃ j:Nat,jI m=j∧j≤256∧m<2 ^ j∧m/2 ^ j=0:=by
 obtain ⟨m0,m1⟩:=hm
 by_cases h:m=0
 ·subst h;exact ⟨0,by unfold jI;simp,by omega,by decide,by decide⟩
 ·have hn:m.toNat≠0:=by omega
  have a:Nat.log2 m.toNat<256:=(Nat.log2_lt hn).2 (by
   have:(2:Nat) ^ 256=115792089237316195423570985008687907853269984665640564039457584007913129639936:=by decide
   omega)
  have b:m.toNat<2 ^ (Nat.log2 m.toNat+1):=(Nat.log2_lt hn).1 (Nat.lt_succ_self _)
  have c:m<2 ^ (Nat.log2 m.toNat+1):=by
   have:((m.toNat:Nat):Int)<((2 ^ (Nat.log2 m.toNat+1):Nat):Int):=by exact_mod_cast b
   rw [Int.toNat_of_nonneg m0] at this
   simpa using this
  refine ⟨Nat.log2 m.toNat+1,?_,by omega,c,Int.ediv_eq_zero_of_lt m0 c⟩
  unfold jI
  rw [if_neg h]
  rfl
theorem sa (m:Int) {j:Nat} (h:j<256):cG m j=m/2 ^ j%2:=by
 unfold cG
 rw [if_neg (by omega),Int.toNat_natCast]
theorem dD (k:Nat):(0:Int)<2 ^ k:=Int.pow_pos (by decide)
theorem vw {n:Int} (hn:Num n) (k:Int):Num (kg n k):=by
 unfold kg
 split
 ·exact ⟨by decide,by decide⟩
 ·split
  ·exact sV hn
  ·exact xN n k
theorem zP {n:Int} (k i:Nat) (hi:i≤255):n*2 ^ k%115792089237316195423570985008687907853269984665640564039457584007913129639936/2 ^ i%2=if i<k then 0 else n/2 ^ (i-k)%2:=by
 have e:(115792089237316195423570985008687907853269984665640564039457584007913129639936:Int)=2 ^ i*(2*2 ^ (255-i)):=by
  rw [←Int.pow_succ',←Int.pow_add,show i+(255-i+1)=256 by omega];decide
 have hp:=dD i
 have d:=Int.emod_add_mul_ediv (n*2 ^ k) 115792089237316195423570985008687907853269984665640564039457584007913129639936
 generalize n*2 ^ k%115792089237316195423570985008687907853269984665640564039457584007913129639936=r at *
 generalize n*2 ^ k/115792089237316195423570985008687907853269984665640564039457584007913129639936=t at *
 have h1:n*2 ^ k/2 ^ i%2=r/2 ^ i%2:=by
  rw [←d,e,Int.mul_assoc,Int.add_mul_ediv_left _ _ (by omega),Int.mul_assoc]
  omega
 rw [←h1]
 split
 ·rename_i h
  have e2:n*2 ^ k=2 ^ i*(2*(n*2 ^ (k-i-1))):=by
   rw [show (2:Int) ^ k=2 ^ i*2*2 ^ (k-i-1) by rw [←Int.pow_succ,←Int.pow_add];congr 1;omega,Int.mul_assoc (2 ^ i),Int.mul_left_comm n (2 ^ i),Int.mul_left_comm n 2]
  rw [e2,Int.mul_ediv_cancel_left _ (by omega)]
  omega
 ·rename_i h
  conv=>lhs;rw [show i=k+(i-k) by omega,Int.pow_add,Int.mul_comm n,←Int.ediv_ediv_of_nonneg (Int.le_of_lt (dD k)),Int.mul_ediv_cancel_left _ (by have:=dD k;omega)]
theorem xX {n k:Int} (hn:Num n) (k0 : -255≤k) (k1:k≤255) (i:Nat) (hi:i≤255):cG n (i-k)=kg n k/2 ^ i%2:=by
 unfold kg cG
 rw [if_neg (show ¬(k≤-256∨256≤k) by omega)]
 by_cases h:k<0
 ·rw [if_pos h]
  unfold de
  rw [Int.ediv_ediv_of_nonneg (Int.le_of_lt (dD _)),←Int.pow_add]
  split
  ·rename_i h2
   have h3:256≤(-k).toNat+i:=by omega
   rw [Int.ediv_eq_zero_of_lt hn.1]
   ·rfl
   ·have:(2:Int) ^ 256≤2 ^ ((-k).toNat+i):=by
     rw [show (-k).toNat+i=256+((-k).toNat+i-256) by omega,Int.pow_add]
     have:=dD ((-k).toNat+i-256)
     have:=Int.mul_le_mul_of_nonneg_left (show (1:Int)≤2 ^ ((-k).toNat+i-256) by omega) (show (0:Int)≤2 ^ 256 by decide)
     omega
    have e:(2:Int) ^ 256=115792089237316195423570985008687907853269984665640564039457584007913129639936:=by decide
    have:=hn.2
    omega
  ·rw [show ((i:Int)-k).toNat=(-k).toNat+i by omega]
 ·rw [if_neg h]
  unfold upN
  rw [zP k.toNat i hi]
  by_cases h2:i<k.toNat
  ·rw [if_pos h2,if_pos (by omega)]
  ·rw [if_neg h2,if_neg (by omega),show ((i:Int)-k).toNat=i-k.toNat by omega]
theorem vx (Y:Int) (j:Nat):Y%2 ^ (j+1)=Y%2 ^ j+Y/2 ^ j%2*2 ^ j:=by
 have p:=dD j
 have d1:=Int.emod_add_mul_ediv Y (2 ^ j)
 have d2:=Int.emod_add_mul_ediv (Y/2 ^ j) 2
 have m0:=Int.emod_nonneg Y (show (2:Int) ^ j≠0 by omega)
 have m1:=Int.emod_lt_of_pos Y p
 have hb:0≤Y/2 ^ j%2∧Y/2 ^ j%2≤1:=by omega
 rw [Int.pow_succ]
 refine ((Int.ediv_emod_unique (a:=Y) (b:=2 ^ j*2) (r:=Y%2 ^ j+Y/2 ^ j%2*2 ^ j) (q:=Y/2 ^ j/2) (by omega)).2 ⟨?_,?_,?_⟩).2
 ·generalize Y/2 ^ j/2=c at *
  generalize Y/2 ^ j%2=b at *
  rw [←d2,Int.mul_add] at d1
  rw [Int.mul_comm b,Int.mul_assoc]
  omega
 ·have:=Int.mul_nonneg hb.1 (Int.le_of_lt p);omega
 ·have:=Int.mul_le_mul_of_nonneg_right hb.2 (Int.le_of_lt p);omega
theorem xY {Y:Int} (h:Num Y):Y%2 ^ 256=Y:=Int.emod_eq_of_lt h.1 (by have:=h.2;rw [show (2:Int) ^ 256=115792089237316195423570985008687907853269984665640564039457584007913129639936 by decide];exact this)
theorem xZ {Y:Int} (h:Num Y) (j:Nat):Num (Y%2 ^ j)∧Y%2 ^ j<2 ^ j:=by
 have p:=dD j
 have m0:=Int.emod_nonneg Y (show (2:Int) ^ j≠0 by omega)
 have m1:=Int.emod_lt_of_pos Y p
 refine ⟨⟨m0,?_⟩,m1⟩
 have d:=Int.emod_add_mul_ediv Y (2 ^ j)
 have q:0≤2 ^ j*(Y/2 ^ j):=Int.mul_nonneg (by omega) (Int.ediv_nonneg h.1 (by omega))
 have:=h.2
 omega
end Go.Proofs.YtnnnaajgjniiaaaGreatDoor
