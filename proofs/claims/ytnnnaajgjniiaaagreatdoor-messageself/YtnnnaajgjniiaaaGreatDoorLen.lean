import Derived.Test.YtnnnaajgjniiaaaGreatDoorMul2
import Derived.Test.YtnnnaajgjniiaaaGreatDoorShelf
import Derived.Lib.ItoaNum
import Derived.Test.YtnnnaajgjniiaaaGreatDoorMulNum
set_option maxHeartbeats 1000000
namespace Go.Proofs.YtnnnaajgjniiaaaGreatDoor
open Go.RowKit
def ij (n k:Int):Int:=if k<0∨255<k then 0 else n/2 ^ k.toNat%2
def l5 (n:Int):Int:=if n=0 then 0 else (Nat.log2 n.toNat:Int)+1
theorem jY {n:Int} {k:Nat} (h0:(2:Int) ^ k≤n) (h1:n<(2:Int) ^ (k+1)):l5 n=(k:Int)+1:=by
 have p:(0:Int)<2 ^ k:=Int.pow_pos (by decide)
 obtain ⟨m,rfl⟩:=Int.eq_ofNat_of_zero_le (show 0≤n by omega)
 have hm:m≠0:=by omega
 unfold l5
 rw [if_neg (by omega),Int.toNat_natCast]
 have c0:2 ^ k≤m:=by exact_mod_cast h0
 have c1:m<2 ^ (k+1):=by exact_mod_cast h1
 have a:k≤Nat.log2 m:=(Nat.le_log2 hm).2 c0
 have b:Nat.log2 m<k+1:=(Nat.log2_lt hm).2 c1
 omega
theorem eX {x s:Int} (hx:ai x):bits .and .u64 (x/2 ^ s.toNat) 1=x/2 ^ s.toNat%2:=by
 obtain ⟨x0,x1⟩:=hx
 have p:(0:Int)<2 ^ s.toNat:=Int.pow_pos (by decide)
 have q0:0≤x/2 ^ s.toNat:=Int.ediv_nonneg x0 (by omega)
 have q1:x/2 ^ s.toNat≤x:=Int.ediv_le_self _ x0
 generalize x/2 ^ s.toNat=y at *
 obtain ⟨y,rfl⟩:=Int.eq_ofNat_of_zero_le q0
 refine (bits_and_u64_nat y 1 (by omega) (by decide)).trans ?_
 rw [Nat.and_one_is_mod]
 omega
theorem yY {x0 x1 x2 x3 k s:Int} (hx0:ai x0) (_k0:0≤k) (_k1:k≤255) (_s0:0≤s) (_s1:s≤63) (hq:k/64=0) (hr:k%64=s) (w:World) :
  Calls Tryz.prog 106 #[.agg #[.int .u64 x0,.int .u64 x1,.int .u64 x2,.int .u64 x3],.int .i64 k] w fun e w'=>e = .returned (.int .i64 (x0/2 ^ s.toNat%2))∧Below w.heap.size w w':=by
 have b0:=eX (s:=s) hx0
 obtain ⟨_,_⟩:=hx0
 go_enter Tryz.func106,Tryz.ntmps106
 go_wp2
 go_ret
 exact ⟨rfl,(Below.refl _ _).alloc (Nat.le_refl _) _⟩
theorem yZ {x0 x1 x2 x3 k s:Int} (hx1:ai x1) (_k0:0≤k) (_k1:k≤255) (_s0:0≤s) (_s1:s≤63) (hq:k/64=1) (hr:k%64=s) (w:World) :
  Calls Tryz.prog 106 #[.agg #[.int .u64 x0,.int .u64 x1,.int .u64 x2,.int .u64 x3],.int .i64 k] w fun e w'=>e = .returned (.int .i64 (x1/2 ^ s.toNat%2))∧Below w.heap.size w w':=by
 have b1:=eX (s:=s) hx1
 obtain ⟨_,_⟩:=hx1
 go_enter Tryz.func106,Tryz.ntmps106
 go_wp2
 go_ret
 exact ⟨rfl,(Below.refl _ _).alloc (Nat.le_refl _) _⟩
theorem y4 {x0 x1 x2 x3 k s:Int} (hx2:ai x2) (_k0:0≤k) (_k1:k≤255) (_s0:0≤s) (_s1:s≤63) (hq:k/64=2) (hr:k%64=s) (w:World) :
  Calls Tryz.prog 106 #[.agg #[.int .u64 x0,.int .u64 x1,.int .u64 x2,.int .u64 x3],.int .i64 k] w fun e w'=>e = .returned (.int .i64 (x2/2 ^ s.toNat%2))∧Below w.heap.size w w':=by
 have b2:=eX (s:=s) hx2
 obtain ⟨_,_⟩:=hx2
 go_enter Tryz.func106,Tryz.ntmps106
 go_wp2
 go_ret
 exact ⟨rfl,(Below.refl _ _).alloc (Nat.le_refl _) _⟩
theorem y5 {x0 x1 x2 x3 k s:Int} (hx3:ai x3) (_k0:0≤k) (_k1:k≤255) (_s0:0≤s) (_s1:s≤63) (hq:k/64=3) (hr:k%64=s) (w:World) :
  Calls Tryz.prog 106 #[.agg #[.int .u64 x0,.int .u64 x1,.int .u64 x2,.int .u64 x3],.int .i64 k] w fun e w'=>e = .returned (.int .i64 (x3/2 ^ s.toNat%2))∧Below w.heap.size w w':=by
 have b3:=eX (s:=s) hx3
 obtain ⟨_,_⟩:=hx3
 go_enter Tryz.func106,Tryz.ntmps106
 go_wp2
 go_ret
 exact ⟨rfl,(Below.refl _ _).alloc (Nat.le_refl _) _⟩
theorem mS {x y s:Int} (s0:0≤s) (s1:s≤63):(x+18446744073709551616*y)/2 ^ s.toNat%2=x/2 ^ s.toNat%2:=by
 obtain ⟨e,p1,_⟩:=fE s0 s1
 have hR:∃ r,(2:Int) ^ (64-s).toNat=2*r:=by
  obtain ⟨k,hk⟩:∃ k,(64-s).toNat=k+1:=⟨(64-s).toNat-1,by omega⟩
  exact ⟨2 ^ k,by rw [hk,Int.pow_succ,Int.mul_comm]⟩
 obtain ⟨r,hr⟩:=hR
 rw [hr] at e
 rw [←e,Int.mul_assoc,Int.add_mul_ediv_left _ _ (by omega),Int.mul_assoc]
 omega
theorem wC {x0 x1 x2 x3 k:Int} (h0:ai x0) (h1:ai x1) (h2:ai x2) :
  (k/64=0→num x0 x1 x2 x3/2 ^ k.toNat%2=x0/2 ^ (k%64).toNat%2)∧(k/64=1→num x0 x1 x2 x3/2 ^ k.toNat%2=x1/2 ^ (k%64).toNat%2) ∧
  (k/64=2→num x0 x1 x2 x3/2 ^ k.toNat%2=x2/2 ^ (k%64).toNat%2)∧(k/64=3→num x0 x1 x2 x3/2 ^ k.toNat%2=x3/2 ^ (k%64).toNat%2):=by
 have s0:0≤k%64:=by omega
 have s1:k%64≤63:=by omega
 refine ⟨fun hq=>?_,fun hq=>?_,fun hq=>?_,fun hq=>?_⟩
 ·rw [bH 0 s0 (show k=64*(0:Nat)+k%64 by omega),show (2:Int) ^ (64*0)=1 by decide,←Int.ediv_ediv_of_nonneg (by decide),
   show num x0 x1 x2 x3/1=x0+18446744073709551616*(x1+18446744073709551616*x2+340282366920938463463374607431768211456*x3) by unfold num ai at *; omega]
  exact mS s0 s1
 ·rw [bH 1 s0 (show k=64*(1:Nat)+k%64 by omega),show (2:Int) ^ (64*1)=18446744073709551616 by decide,←Int.ediv_ediv_of_nonneg (by decide),
   show num x0 x1 x2 x3/18446744073709551616=x1+18446744073709551616*(x2+18446744073709551616*x3) by unfold num ai at *; omega]
  exact mS s0 s1
 ·rw [bH 2 s0 (show k=64*(2:Nat)+k%64 by omega),show (2:Int) ^ (64*2)=340282366920938463463374607431768211456 by decide,←Int.ediv_ediv_of_nonneg (by decide),
   show num x0 x1 x2 x3/340282366920938463463374607431768211456=x2+18446744073709551616*(x3) by unfold num ai at *; omega]
  exact mS s0 s1
 ·rw [bH 3 s0 (show k=64*(3:Nat)+k%64 by omega),show (2:Int) ^ (64*3)=6277101735386680763835789423207666416102355444464034512896 by decide,←Int.ediv_ediv_of_nonneg (by decide),
   show num x0 x1 x2 x3/6277101735386680763835789423207666416102355444464034512896=x3+18446744073709551616*(0) by unfold num ai at *; omega]
  exact mS s0 s1
theorem wD {n k:Int} (h:k<0∨255<k) (w:World) :
  Calls Tryz.prog 106 #[.agg #[.int .u64 (l0 n),.int .u64 (l1 n),.int .u64 (l2 n),.int .u64 (l3 n)],.int .i64 k] w fun e w'=>e = .returned (.int .i64 0)∧Below w.heap.size w w':=by
 rcases h with h|h
 ·go_enter Tryz.func106,Tryz.ntmps106
  go_wp2
  go_ret
  exact ⟨rfl,(Below.refl _ _).alloc (Nat.le_refl _) _⟩
 ·have h':¬k<0:=by omega
  go_enter Tryz.func106,Tryz.ntmps106
  go_wp2
  go_ret
  exact ⟨rfl,(Below.refl _ _).alloc (Nat.le_refl _) _⟩
theorem mT {n k:Int} (hn:Num n) (w:World) :
  Calls Tryz.prog 106 #[.agg #[.int .u64 (l0 n),.int .u64 (l1 n),.int .u64 (l2 n),.int .u64 (l3 n)],.int .i64 k] w fun e w'=>e = .returned (.int .i64 (ij n k))∧Below w.heap.size w w':=by
 unfold ij
 split
 ·rename_i h;exact wD h w
 ·rename_i h
  obtain ⟨r0,r1,r2,r3⟩:=wC (x3:=l3 n) (bJ n) (bK n) (k:=k) (bL n)
  rw [fw hn] at r0 r1 r2 r3
  rcases (show k/64=0∨k/64=1∨k/64=2∨k/64=3 by omega) with hq|hq|hq|hq
  ·rw [r0 hq];exact yY (bJ n) (by omega) (by omega) (by omega) (by omega) hq rfl w
  ·rw [r1 hq];exact yZ (bK n) (by omega) (by omega) (by omega) (by omega) hq rfl w
  ·rw [r2 hq];exact y4 (bL n) (by omega) (by omega) (by omega) (by omega) hq rfl w
  ·rw [r3 hq];exact y5 (bO n) (by omega) (by omega) (by omega) (by omega) hq rfl w
theorem iP {x:Int} (h:ai x) (hx:x≠0):∃ b:Nat,(Lib.bitLen x.toNat:Int)=(b:Int)+1∧b≤63∧(2:Int) ^ b≤x∧x<(2:Int) ^ (b+1):=by
 obtain ⟨h0,h1⟩:=h
 obtain ⟨m,rfl⟩:=Int.eq_ofNat_of_zero_le h0
 rw [Int.toNat_natCast]
 obtain ⟨a,b,c⟩:=Lib.bitLenAux_bounds 64 m (by omega) (by omega)
 have d:=Lib.bitLen_le m 64 (by omega) (by omega)
 unfold Lib.bitLen at *
 obtain ⟨k,hk⟩:∃ k,Lib.bitLenAux 64 m=k+1:=⟨Lib.bitLenAux 64 m-1,by omega⟩
 rw [hk] at a b c d ⊢
 refine ⟨k,by omega,by omega,?_,?_⟩
 ·exact_mod_cast b
 ·exact_mod_cast c
theorem y9 {x0 x1 x2 x3:Int} (hx3:ai x3) (hz:x3≠0) (w:World) :
  Calls Tryz.prog 168 #[.agg #[.int .u64 x0,.int .u64 x1,.int .u64 x2,.int .u64 x3]] w fun e w'=>e = .returned (.int .i64 (192+(Lib.bitLen x3.toNat:Int)))∧Below w.heap.size w w':=by
 have hb:=Lib.bitLen_le x3.toNat 64 (by omega) (by obtain ⟨_,_⟩:=hx3;omega)
 have c:=Tryz.bits_Len64 x3
 obtain ⟨h0,h1⟩:=hx3
 have c:=fun w=>c w h0 (by omega)
 have C:Hid (∀ w,Calls Tryz.prog 184 #[.int .u64 x3] w fun e w'=>e = .returned (.int .i64 (Lib.bitLen x3.toNat))∧w'=w):=c
 clear c
 generalize Lib.bitLen x3.toNat=b at *
 subst_vars
 have hz':(x3==0)=false:=by simpa using hz
 go_enter Tryz.func168,Tryz.ntmps168
 go_wp2
 refine wp_loop_rounds 5 ?_
 rw [rounds_succ]
 go_wp2_with (go_at_call 184;refine (C.out _).mono ?_;rintro e w' ⟨rfl,rfl⟩)
 go_ret
 exact ⟨rfl,(Below.refl _ _).alloc (Nat.le_refl _) _⟩
theorem za {x0 x1 x2 x3:Int} (hx2:ai x2) (hz:x2≠0) (z3:x3=0) (w:World) :
  Calls Tryz.prog 168 #[.agg #[.int .u64 x0,.int .u64 x1,.int .u64 x2,.int .u64 x3]] w fun e w'=>e = .returned (.int .i64 (128+(Lib.bitLen x2.toNat:Int)))∧Below w.heap.size w w':=by
 have hb:=Lib.bitLen_le x2.toNat 64 (by omega) (by obtain ⟨_,_⟩:=hx2;omega)
 have c:=Tryz.bits_Len64 x2
 obtain ⟨h0,h1⟩:=hx2
 have c:=fun w=>c w h0 (by omega)
 have C:Hid (∀ w,Calls Tryz.prog 184 #[.int .u64 x2] w fun e w'=>e = .returned (.int .i64 (Lib.bitLen x2.toNat))∧w'=w):=c
 clear c
 generalize Lib.bitLen x2.toNat=b at *
 subst_vars
 have hz':(x2==0)=false:=by simpa using hz
 go_enter Tryz.func168,Tryz.ntmps168
 go_wp2
 refine wp_loop_rounds 5 ?_
 rw [rounds_succ];go_wp2
 rw [rounds_succ]
 go_wp2_with (go_at_call 184;refine (C.out _).mono ?_;rintro e w' ⟨rfl,rfl⟩)
 go_ret
 exact ⟨rfl,(Below.refl _ _).alloc (Nat.le_refl _) _⟩
theorem zb {x0 x1 x2 x3:Int} (hx1:ai x1) (hz:x1≠0) (z2:x2=0) (z3:x3=0) (w:World) :
  Calls Tryz.prog 168 #[.agg #[.int .u64 x0,.int .u64 x1,.int .u64 x2,.int .u64 x3]] w fun e w'=>e = .returned (.int .i64 (64+(Lib.bitLen x1.toNat:Int)))∧Below w.heap.size w w':=by
 have hb:=Lib.bitLen_le x1.toNat 64 (by omega) (by obtain ⟨_,_⟩:=hx1;omega)
 have c:=Tryz.bits_Len64 x1
 obtain ⟨h0,h1⟩:=hx1
 have c:=fun w=>c w h0 (by omega)
 have C:Hid (∀ w,Calls Tryz.prog 184 #[.int .u64 x1] w fun e w'=>e = .returned (.int .i64 (Lib.bitLen x1.toNat))∧w'=w):=c
 clear c
 generalize Lib.bitLen x1.toNat=b at *
 subst_vars
 have hz':(x1==0)=false:=by simpa using hz
 go_enter Tryz.func168,Tryz.ntmps168
 go_wp2
 refine wp_loop_rounds 5 ?_
 rw [rounds_succ];go_wp2
 rw [rounds_succ];go_wp2
 rw [rounds_succ]
 go_wp2_with (go_at_call 184;refine (C.out _).mono ?_;rintro e w' ⟨rfl,rfl⟩)
 go_ret
 exact ⟨rfl,(Below.refl _ _).alloc (Nat.le_refl _) _⟩
theorem zc {x0 x1 x2 x3:Int} (hx0:ai x0) (hz:x0≠0) (z1:x1=0) (z2:x2=0) (z3:x3=0) (w:World) :
  Calls Tryz.prog 168 #[.agg #[.int .u64 x0,.int .u64 x1,.int .u64 x2,.int .u64 x3]] w fun e w'=>e = .returned (.int .i64 (Lib.bitLen x0.toNat:Int))∧Below w.heap.size w w':=by
 have hb:=Lib.bitLen_le x0.toNat 64 (by omega) (by obtain ⟨_,_⟩:=hx0;omega)
 have c:=Tryz.bits_Len64 x0
 obtain ⟨h0,h1⟩:=hx0
 have c:=fun w=>c w h0 (by omega)
 have C:Hid (∀ w,Calls Tryz.prog 184 #[.int .u64 x0] w fun e w'=>e = .returned (.int .i64 (Lib.bitLen x0.toNat))∧w'=w):=c
 clear c
 generalize Lib.bitLen x0.toNat=b at *
 subst_vars
 have hz':(x0==0)=false:=by simpa using hz
 go_enter Tryz.func168,Tryz.ntmps168
 go_wp2
 refine wp_loop_rounds 5 ?_
 rw [rounds_succ];go_wp2
 rw [rounds_succ];go_wp2
 rw [rounds_succ];go_wp2
 rw [rounds_succ]
 go_wp2_with (go_at_call 184;refine (C.out _).mono ?_;rintro e w' ⟨rfl,rfl⟩)
 go_ret
 exact ⟨rfl,(Below.refl _ _).alloc (Nat.le_refl _) _⟩
theorem tP (w:World) :
  Calls Tryz.prog 168 #[.agg #[.int .u64 0,.int .u64 0,.int .u64 0,.int .u64 0]] w fun e w'=>e = .returned (.int .i64 0)∧Below w.heap.size w w':=by
 go_enter Tryz.func168,Tryz.ntmps168
 go_wp2
 refine wp_loop_rounds 5 ?_
 rw [rounds_succ];go_wp2
 rw [rounds_succ];go_wp2
 rw [rounds_succ];go_wp2
 rw [rounds_succ];go_wp2
 rw [rounds_succ];go_wp2
 go_ret
 exact ⟨rfl,(Below.refl _ _).alloc (Nat.le_refl _) _⟩
theorem rI {x0:Int} {b:Nat}  (l:(2:Int) ^ b≤x0) (u:x0<(2:Int) ^ (b+1)):l5 (num x0 0 0 0)=0+((b:Int)+1):=by
 have r:=jY (n:=num x0 0 0 0) (k:=0+b) (by rw [Int.pow_add,show (2:Int) ^ 0=1 by decide];unfold num;omega)
  (by rw [Nat.add_assoc,Int.pow_add,show (2:Int) ^ 0=1 by decide];unfold num;omega)
 rw [r];omega
theorem rJ {x0 x1:Int} {b:Nat} (h0:ai x0) (l:(2:Int) ^ b≤x1) (u:x1<(2:Int) ^ (b+1)):l5 (num x0 x1 0 0)=64+((b:Int)+1):=by
 have r:=jY (n:=num x0 x1 0 0) (k:=64+b) (by rw [Int.pow_add,show (2:Int) ^ 64=18446744073709551616 by decide];unfold num ai at *; omega)
  (by rw [Nat.add_assoc,Int.pow_add,show (2:Int) ^ 64=18446744073709551616 by decide];unfold num ai at *; omega)
 rw [r];omega
theorem rL {x0 x1 x2:Int} {b:Nat} (h0:ai x0) (h1:ai x1) (l:(2:Int) ^ b≤x2) (u:x2<(2:Int) ^ (b+1)):l5 (num x0 x1 x2 0)=128+((b:Int)+1):=by
 have r:=jY (n:=num x0 x1 x2 0) (k:=128+b) (by rw [Int.pow_add,show (2:Int) ^ 128=340282366920938463463374607431768211456 by decide];unfold num ai at *; omega)
  (by rw [Nat.add_assoc,Int.pow_add,show (2:Int) ^ 128=340282366920938463463374607431768211456 by decide];unfold num ai at *; omega)
 rw [r];omega
theorem rM {x0 x1 x2 x3:Int} {b:Nat} (h0:ai x0) (h1:ai x1) (h2:ai x2) (l:(2:Int) ^ b≤x3) (u:x3<(2:Int) ^ (b+1)):l5 (num x0 x1 x2 x3)=192+((b:Int)+1):=by
 have r:=jY (n:=num x0 x1 x2 x3) (k:=192+b) (by rw [Int.pow_add,show (2:Int) ^ 192=6277101735386680763835789423207666416102355444464034512896 by decide];unfold num ai at *; omega)
  (by rw [Nat.add_assoc,Int.pow_add,show (2:Int) ^ 192=6277101735386680763835789423207666416102355444464034512896 by decide];unfold num ai at *; omega)
 rw [r];omega
theorem wE {n:Int} (hn:Num n) (w:World) :
  Calls Tryz.prog 168 #[.agg #[.int .u64 (l0 n),.int .u64 (l1 n),.int .u64 (l2 n),.int .u64 (l3 n)]] w fun e w'=>e = .returned (.int .i64 (l5 n))∧Below w.heap.size w w':=by
 have h0:=bJ n;have h1:=bK n;have h2:=bL n;have h3:=bO n
 have en:=fw hn
 generalize l0 n=x0 at *; generalize l1 n=x1 at *; generalize l2 n=x2 at *; generalize l3 n=x3 at *
 subst en
 by_cases z3:x3=0
 ·subst z3
  by_cases z2:x2=0
  ·subst z2
   by_cases z1:x1=0
   ·subst z1
    by_cases z0:x0=0
    ·subst z0
     exact tP w
    ·obtain ⟨b,e,_,l,u⟩:=iP h0 z0
     have r:=zc (x1:=0) (x2:=0) (x3:=0) h0 z0 rfl rfl rfl w
     rw [e] at r
     rw [rI l u,show (0:Int)+((b:Int)+1)=(b:Int)+1 by omega]
     exact r
   ·obtain ⟨b,e,_,l,u⟩:=iP h1 z1
    have r:=zb (x0:=x0) (x2:=0) (x3:=0) h1 z1 rfl rfl w
    rw [e] at r
    rw [rJ h0 l u]
    exact r
  ·obtain ⟨b,e,_,l,u⟩:=iP h2 z2
   have r:=za (x0:=x0) (x1:=x1) (x3:=0) h2 z2 rfl w
   rw [e] at r
   rw [rL h0 h1 l u]
   exact r
 ·obtain ⟨b,e,_,l,u⟩:=iP h3 z3
  have r:=y9 (x0:=x0) (x1:=x1) (x2:=x2) h3 z3 w
  rw [e] at r
  rw [rM h0 h1 h2 l u]
  exact r
theorem tQ (m:Int) (j:Nat):m/2 ^ j=2*(m/2 ^ (j+1))+m/2 ^ j%2:=by
 have e:m/2 ^ (j+1)=m/2 ^ j/2:=by rw [Int.pow_succ,←Int.ediv_ediv_of_nonneg (Int.le_of_lt (Int.pow_pos (by decide)))]
 rw [e]
 omega
theorem pJ {m:Int} (hm:Num m):∃ j:Nat,l5 m=j∧j≤256∧m<2 ^ j∧m/2 ^ j=0:=by
 obtain ⟨m0,m1⟩:=hm
 by_cases h:m=0
 ·subst h;exact ⟨0,by unfold l5;simp,by omega,by decide,by decide⟩
 ·have hn:m.toNat≠0:=by omega
  have a:Nat.log2 m.toNat<256:=(Nat.log2_lt hn).2 (by
   have:(2:Nat) ^ 256=115792089237316195423570985008687907853269984665640564039457584007913129639936:=by decide
   omega)
  have b:m.toNat<2 ^ (Nat.log2 m.toNat+1):=(Nat.log2_lt hn).1 (Nat.lt_succ_self _)
  have c:m<2 ^ (Nat.log2 m.toNat+1):=by
   have:((m.toNat:Nat):Int)<((2 ^ (Nat.log2 m.toNat+1):Nat):Int):=by exact_mod_cast b
   rw [Int.toNat_of_nonneg m0] at this
   simpa using this
  refine ⟨Nat.log2 m.toNat+1,?_,by omega,c,Int.ediv_eq_zero_of_lt m0 c⟩
  unfold l5
  rw [if_neg h]
  rfl
theorem wF (m:Int) {j:Nat} (h:j<256):ij m j=m/2 ^ j%2:=by
 unfold ij
 rw [if_neg (by omega),Int.toNat_natCast]
end Go.Proofs.YtnnnaajgjniiaaaGreatDoor
