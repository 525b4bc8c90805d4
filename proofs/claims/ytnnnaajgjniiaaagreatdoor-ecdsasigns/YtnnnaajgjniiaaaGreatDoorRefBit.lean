import Derived.Test.YtnnnaajgjniiaaaGreatDoorLen
import Derived.Test.YtnnnaajgjniiaaaGreatDoorHold
import Derived.Test.YtnnnaajgjniiaaaGreatDoorAb
import Derived.Test.YtnnnaajgjniiaaaGreatDoorFNum
set_option maxRecDepth 100000
set_option maxHeartbeats 4000000
namespace Go.Proofs.YtnnnaajgjniiaaaGreatDoor
open Go.RowKit
theorem zR {x0 x1 x2 x3 k s:Int} (hx0:al x0) (_k0:0≤k) (_k1:k≤255) (_s0:0≤s) (_s1:s≤63) (hq:k/64=0) (hr:k%64=s) (w:World) :
  Calls Tryz.prog 150 #[.agg #[.int .u64 x0,.int .u64 x1,.int .u64 x2,.int .u64 x3],.int .i64 k] w fun e w'=>e = .returned (.int .i64 (x0/2 ^ s.toNat%2))∧Below w.heap.size w w':=by
 have p:(0:Int)<2 ^ s.toNat:=Int.pow_pos (by decide)
 have b0:0≤x0/2 ^ s.toNat:=Int.ediv_nonneg hx0.1 (by omega)
 have b1:x0/2 ^ s.toNat≤x0:=Int.ediv_le_self _ hx0.1
 obtain ⟨_,_⟩:=hx0
 go_enter Tryz.func150,Tryz.ntmps150
 go_wp2
 go_ret
 exact ⟨rfl,(Below.refl _ _).alloc (Nat.le_refl _) _⟩
theorem zS {x0 x1 x2 x3 k s:Int} (hx1:al x1) (_k0:0≤k) (_k1:k≤255) (_s0:0≤s) (_s1:s≤63) (hq:k/64=1) (hr:k%64=s) (w:World) :
  Calls Tryz.prog 150 #[.agg #[.int .u64 x0,.int .u64 x1,.int .u64 x2,.int .u64 x3],.int .i64 k] w fun e w'=>e = .returned (.int .i64 (x1/2 ^ s.toNat%2))∧Below w.heap.size w w':=by
 have p:(0:Int)<2 ^ s.toNat:=Int.pow_pos (by decide)
 have b0:0≤x1/2 ^ s.toNat:=Int.ediv_nonneg hx1.1 (by omega)
 have b1:x1/2 ^ s.toNat≤x1:=Int.ediv_le_self _ hx1.1
 obtain ⟨_,_⟩:=hx1
 go_enter Tryz.func150,Tryz.ntmps150
 go_wp2
 go_ret
 exact ⟨rfl,(Below.refl _ _).alloc (Nat.le_refl _) _⟩
theorem zT {x0 x1 x2 x3 k s:Int} (hx2:al x2) (_k0:0≤k) (_k1:k≤255) (_s0:0≤s) (_s1:s≤63) (hq:k/64=2) (hr:k%64=s) (w:World) :
  Calls Tryz.prog 150 #[.agg #[.int .u64 x0,.int .u64 x1,.int .u64 x2,.int .u64 x3],.int .i64 k] w fun e w'=>e = .returned (.int .i64 (x2/2 ^ s.toNat%2))∧Below w.heap.size w w':=by
 have p:(0:Int)<2 ^ s.toNat:=Int.pow_pos (by decide)
 have b0:0≤x2/2 ^ s.toNat:=Int.ediv_nonneg hx2.1 (by omega)
 have b1:x2/2 ^ s.toNat≤x2:=Int.ediv_le_self _ hx2.1
 obtain ⟨_,_⟩:=hx2
 go_enter Tryz.func150,Tryz.ntmps150
 go_wp2
 go_ret
 exact ⟨rfl,(Below.refl _ _).alloc (Nat.le_refl _) _⟩
theorem zU {x0 x1 x2 x3 k s:Int} (hx3:al x3) (_k0:0≤k) (_k1:k≤255) (_s0:0≤s) (_s1:s≤63) (hq:k/64=3) (hr:k%64=s) (w:World) :
  Calls Tryz.prog 150 #[.agg #[.int .u64 x0,.int .u64 x1,.int .u64 x2,.int .u64 x3],.int .i64 k] w fun e w'=>e = .returned (.int .i64 (x3/2 ^ s.toNat%2))∧Below w.heap.size w w':=by
 have p:(0:Int)<2 ^ s.toNat:=Int.pow_pos (by decide)
 have b0:0≤x3/2 ^ s.toNat:=Int.ediv_nonneg hx3.1 (by omega)
 have b1:x3/2 ^ s.toNat≤x3:=Int.ediv_le_self _ hx3.1
 obtain ⟨_,_⟩:=hx3
 go_enter Tryz.func150,Tryz.ntmps150
 go_wp2
 go_ret
 exact ⟨rfl,(Below.refl _ _).alloc (Nat.le_refl _) _⟩
theorem vD {n k:Int} (h:k<0∨255<k) (w:World) :
  Calls Tryz.prog 150 #[.agg #[.int .u64 (l0 n),.int .u64 (l1 n),.int .u64 (l2 n),.int .u64 (l3 n)],.int .i64 k] w fun e w'=>e = .returned (.int .i64 0)∧Below w.heap.size w w':=by
 rcases h with h|h
 ·go_enter Tryz.func150,Tryz.ntmps150
  go_wp2
  go_ret
  exact ⟨rfl,(Below.refl _ _).alloc (Nat.le_refl _) _⟩
 ·have h':¬k<0:=by omega
  go_enter Tryz.func150,Tryz.ntmps150
  go_wp2
  go_ret
  exact ⟨rfl,(Below.refl _ _).alloc (Nat.le_refl _) _⟩
theorem gG {n k:Int} (hn:Num n) (w:World) :
  Calls Tryz.prog 150 #[.agg #[.int .u64 (l0 n),.int .u64 (l1 n),.int .u64 (l2 n),.int .u64 (l3 n)],.int .i64 k] w fun e w'=>e = .returned (.int .i64 (cG n k))∧Below w.heap.size w w':=by
 unfold cG
 split
 ·rename_i h;exact vD h w
 ·rename_i h
  obtain ⟨r0,r1,r2,r3⟩:=r8 (x3:=l3 n) (aU n) (aV n) (k:=k) (aW n)
  rw [du hn] at r0 r1 r2 r3
  rcases (show k/64=0∨k/64=1∨k/64=2∨k/64=3 by omega) with hq|hq|hq|hq
  ·rw [r0 hq];exact zR (aU n) (by omega) (by omega) (by omega) (by omega) hq rfl w
  ·rw [r1 hq];exact zS (aV n) (by omega) (by omega) (by omega) (by omega) hq rfl w
  ·rw [r2 hq];exact zT (aW n) (by omega) (by omega) (by omega) (by omega) hq rfl w
  ·rw [r3 hq];exact zU (bj n) (by omega) (by omega) (by omega) (by omega) hq rfl w
theorem zV {x0 x1 x2 x3 k s:Int} (_k0:0≤k) (_k1:k≤255) (_s0:0≤s) (_s1:s≤63) (hq:k/64=0) (hr:k%64=s) (w:World) :
  Calls Tryz.prog 157 #[.agg #[.int .u64 x0,.int .u64 x1,.int .u64 x2,.int .u64 x3],.int .i64 k] w fun e w'=>e = .returned (.agg #[.int .u64 (bits .or .u64 x0 (2 ^ s.toNat)),.int .u64 x1,.int .u64 x2,.int .u64 x3])∧Below w.heap.size w w':=by
 obtain ⟨e,p1,p2⟩:=cF _s0 _s1
 have pw:IntKind.u64.wrap (2 ^ s.toNat)=2 ^ s.toNat:=by
  rw [IntKind.wrap_u64]
  have:(2:Int) ^ s.toNat*2≤2 ^ s.toNat*2 ^ (64-s).toNat:=Int.mul_le_mul_of_nonneg_left p2 (show (0:Int)≤2 ^ s.toNat by omega)
  omega
 clear e p1 p2
 go_enter Tryz.func157,Tryz.ntmps157
 go_wp2
 simp [bodyPost,results,Tryz.results157,go_sem]
 repeat (first|with_reducible exact Below.refl _ _|with_reducible refine Below.drew ?_|with_reducible refine Below.alloc ?_ (by first|omega|(simp;done)|(simp;omega)) _)
theorem zW {x0 x1 x2 x3 k s:Int} (_k0:0≤k) (_k1:k≤255) (_s0:0≤s) (_s1:s≤63) (hq:k/64=1) (hr:k%64=s) (w:World) :
  Calls Tryz.prog 157 #[.agg #[.int .u64 x0,.int .u64 x1,.int .u64 x2,.int .u64 x3],.int .i64 k] w fun e w'=>e = .returned (.agg #[.int .u64 x0,.int .u64 (bits .or .u64 x1 (2 ^ s.toNat)),.int .u64 x2,.int .u64 x3])∧Below w.heap.size w w':=by
 obtain ⟨e,p1,p2⟩:=cF _s0 _s1
 have pw:IntKind.u64.wrap (2 ^ s.toNat)=2 ^ s.toNat:=by
  rw [IntKind.wrap_u64]
  have:(2:Int) ^ s.toNat*2≤2 ^ s.toNat*2 ^ (64-s).toNat:=Int.mul_le_mul_of_nonneg_left p2 (show (0:Int)≤2 ^ s.toNat by omega)
  omega
 clear e p1 p2
 go_enter Tryz.func157,Tryz.ntmps157
 go_wp2
 simp [bodyPost,results,Tryz.results157,go_sem]
 repeat (first|with_reducible exact Below.refl _ _|with_reducible refine Below.drew ?_|with_reducible refine Below.alloc ?_ (by first|omega|(simp;done)|(simp;omega)) _)
theorem zX {x0 x1 x2 x3 k s:Int} (_k0:0≤k) (_k1:k≤255) (_s0:0≤s) (_s1:s≤63) (hq:k/64=2) (hr:k%64=s) (w:World) :
  Calls Tryz.prog 157 #[.agg #[.int .u64 x0,.int .u64 x1,.int .u64 x2,.int .u64 x3],.int .i64 k] w fun e w'=>e = .returned (.agg #[.int .u64 x0,.int .u64 x1,.int .u64 (bits .or .u64 x2 (2 ^ s.toNat)),.int .u64 x3])∧Below w.heap.size w w':=by
 obtain ⟨e,p1,p2⟩:=cF _s0 _s1
 have pw:IntKind.u64.wrap (2 ^ s.toNat)=2 ^ s.toNat:=by
  rw [IntKind.wrap_u64]
  have:(2:Int) ^ s.toNat*2≤2 ^ s.toNat*2 ^ (64-s).toNat:=Int.mul_le_mul_of_nonneg_left p2 (show (0:Int)≤2 ^ s.toNat by omega)
  omega
 clear e p1 p2
 go_enter Tryz.func157,Tryz.ntmps157
 go_wp2
 simp [bodyPost,results,Tryz.results157,go_sem]
 repeat (first|with_reducible exact Below.refl _ _|with_reducible refine Below.drew ?_|with_reducible refine Below.alloc ?_ (by first|omega|(simp;done)|(simp;omega)) _)
theorem zY {x0 x1 x2 x3 k s:Int} (_k0:0≤k) (_k1:k≤255) (_s0:0≤s) (_s1:s≤63) (hq:k/64=3) (hr:k%64=s) (w:World) :
  Calls Tryz.prog 157 #[.agg #[.int .u64 x0,.int .u64 x1,.int .u64 x2,.int .u64 x3],.int .i64 k] w fun e w'=>e = .returned (.agg #[.int .u64 x0,.int .u64 x1,.int .u64 x2,.int .u64 (bits .or .u64 x3 (2 ^ s.toNat))])∧Below w.heap.size w w':=by
 obtain ⟨e,p1,p2⟩:=cF _s0 _s1
 have pw:IntKind.u64.wrap (2 ^ s.toNat)=2 ^ s.toNat:=by
  rw [IntKind.wrap_u64]
  have:(2:Int) ^ s.toNat*2≤2 ^ s.toNat*2 ^ (64-s).toNat:=Int.mul_le_mul_of_nonneg_left p2 (show (0:Int)≤2 ^ s.toNat by omega)
  omega
 clear e p1 p2
 go_enter Tryz.func157,Tryz.ntmps157
 go_wp2
 simp [bodyPost,results,Tryz.results157,go_sem]
 repeat (first|with_reducible exact Below.refl _ _|with_reducible refine Below.drew ?_|with_reducible refine Below.alloc ?_ (by first|omega|(simp;done)|(simp;omega)) _)
theorem oA {x s:Int} (x0:0≤x) (hx:x<2 ^ s.toNat) (s0:0≤s) (s1:s≤63):bits .or .u64 x (2 ^ s.toNat)=x+2 ^ s.toNat:=by
 obtain ⟨e,p1,p2⟩:=cF s0 s1
 have h2:(2:Int) ^ s.toNat*2≤2 ^ s.toNat*2 ^ (64-s).toNat:=Int.mul_le_mul_of_nonneg_left p2 (show (0:Int)≤2 ^ s.toNat by omega)
 rw [e] at h2
 obtain ⟨x,rfl⟩:=Int.eq_ofNat_of_zero_le x0
 have c:((2:Int) ^ s.toNat)=((2 ^ s.toNat:Nat):Int):=by simp
 rw [c] at hx h2 ⊢
 have r:=oq s.toNat 1 x (by omega) (by omega) (by omega)
 rw [Nat.mul_one] at r
 rw [or_comm _ _ (by omega) (by omega),r,Int.natCast_add,Int.add_comm]
theorem vE {n k:Int} (hn:Num n) (k0:0≤k) (k1:k≤255) (hk:n<2 ^ k.toNat) (w:World) :
  Calls Tryz.prog 157 #[.agg #[.int .u64 (l0 n),.int .u64 (l1 n),.int .u64 (l2 n),.int .u64 (l3 n)],.int .i64 k] w fun e w'=>e = .returned (.agg #[.int .u64 (l0 (n+2 ^ k.toNat)),.int .u64 (l1 (n+2 ^ k.toNat)),.int .u64 (l2 (n+2 ^ k.toNat)),.int .u64 (l3 (n+2 ^ k.toNat))])∧Below w.heap.size w w':=by
 have h0:=aU n;have h1:=aV n;have h2:=aW n;have h3:=bj n
 have en:=du hn
 have s0:0≤k%64:=by omega
 have s1:k%64≤63:=by omega
 obtain ⟨e,p1,p2⟩:=cF s0 s1
 have p3:(2:Int) ^ (k%64).toNat*2≤2 ^ (k%64).toNat*2 ^ (64-k%64).toNat:=Int.mul_le_mul_of_nonneg_left p2 (show (0:Int)≤2 ^ (k%64).toNat by omega)
 rw [e] at p3
 generalize l0 n=x0 at *; generalize l1 n=x1 at *; generalize l2 n=x2 at *; generalize l3 n=x3 at *
 rw [←en] at hk ⊢
 clear en hn e p2
 rcases (show k/64=0∨k/64=1∨k/64=2∨k/64=3 by omega) with hq|hq|hq|hq
 ·have hk2:=bA 0 s0 (show k=64*(0:Nat)+k%64 by omega)
  rw [hk2,show (2:Int) ^ (64*0)=1 by decide] at hk ⊢
  generalize hP:(2:Int) ^ (k%64).toNat=P at *
  obtain ⟨rfl,rfl,rfl,lt⟩:x1=0∧x2=0∧x3=0∧x0<2 ^ (k%64).toNat:=by unfold num al at *; omega
  have wq:al (x0+P):=by unfold al at *; omega
  have o:=oA (s:=k%64) h0.1 lt s0 s1
  rw [hP] at o
  obtain ⟨r0,r1,r2,r3⟩:=aZ (n:=num x0 0 0 0+1*P) wq ⟨by decide,by decide⟩ ⟨by decide,by decide⟩ ⟨by decide,by decide⟩ (show _=num (x0+P) 0 0 0 by unfold num;omega)
  rw [r0,r1,r2,r3,←o,←hP]
  exact zV k0 k1 s0 s1 hq rfl w
 ·have hk2:=bA 1 s0 (show k=64*(1:Nat)+k%64 by omega)
  rw [hk2,show (2:Int) ^ (64*1)=18446744073709551616 by decide] at hk ⊢
  generalize hP:(2:Int) ^ (k%64).toNat=P at *
  obtain ⟨rfl,rfl,lt⟩:x2=0∧x3=0∧x1<2 ^ (k%64).toNat:=by unfold num al at *; omega
  have wq:al (x1+P):=by unfold al at *; omega
  have o:=oA (s:=k%64) h1.1 lt s0 s1
  rw [hP] at o
  obtain ⟨r0,r1,r2,r3⟩:=aZ (n:=num x0 x1 0 0+18446744073709551616*P) h0 wq ⟨by decide,by decide⟩ ⟨by decide,by decide⟩ (show _=num x0 (x1+P) 0 0 by unfold num;omega)
  rw [r0,r1,r2,r3,←o,←hP]
  exact zW k0 k1 s0 s1 hq rfl w
 ·have hk2:=bA 2 s0 (show k=64*(2:Nat)+k%64 by omega)
  rw [hk2,show (2:Int) ^ (64*2)=340282366920938463463374607431768211456 by decide] at hk ⊢
  generalize hP:(2:Int) ^ (k%64).toNat=P at *
  obtain ⟨rfl,lt⟩:x3=0∧x2<2 ^ (k%64).toNat:=by unfold num al at *; omega
  have wq:al (x2+P):=by unfold al at *; omega
  have o:=oA (s:=k%64) h2.1 lt s0 s1
  rw [hP] at o
  obtain ⟨r0,r1,r2,r3⟩:=aZ (n:=num x0 x1 x2 0+340282366920938463463374607431768211456*P) h0 h1 wq ⟨by decide,by decide⟩ (show _=num x0 x1 (x2+P) 0 by unfold num;omega)
  rw [r0,r1,r2,r3,←o,←hP]
  exact zX k0 k1 s0 s1 hq rfl w
 ·have hk2:=bA 3 s0 (show k=64*(3:Nat)+k%64 by omega)
  rw [hk2,show (2:Int) ^ (64*3)=6277101735386680763835789423207666416102355444464034512896 by decide] at hk ⊢
  generalize hP:(2:Int) ^ (k%64).toNat=P at *
  obtain lt:x3<2 ^ (k%64).toNat:=by unfold num al at *; omega
  have wq:al (x3+P):=by unfold al at *; omega
  have o:=oA (s:=k%64) h3.1 lt s0 s1
  rw [hP] at o
  obtain ⟨r0,r1,r2,r3⟩:=aZ (n:=num x0 x1 x2 x3+6277101735386680763835789423207666416102355444464034512896*P) h0 h1 h2 wq (show _=num x0 x1 x2 (x3+P) by unfold num;omega)
  rw [r0,r1,r2,r3,←o,←hP]
  exact zY k0 k1 s0 s1 hq rfl w
open Go.RowKit
theorem tg {n k:Int} (hn:Num n) (k0 : -255≤k) (k1:k≤255) (w:World) :
  Rt 119 #[U4 n,.int .i64 k] w (U4 (kg n k)):=by
 have hY:=vw hn k
 have hbit:Hid (∀ i:Nat,i≤255→cG n (i-k)=kg n k/2 ^ i%2):=fun i hi=>xX hn k0 k1 i hi
 generalize kg n k=Y at *
 have g0:¬k < -255:=by omega
 have g1:¬255<k:=by omega
 go_enter Tryz.func119,Tryz.ntmps119
 go_wp2_with fail
 refine af (fun W=>Below w.heap.size w W∧ab W w.heap.size n∧Row W (w.heap.size+1) [0,0,0,0]∧au W (w.heap.size+1) 4∧ab W (w.heap.size+1+1) 0∧au W (w.heap.size+1+1) 4) ⟨?_,?_,?_,?_,?_,?_⟩ ?_
 ·repeat (first|with_reducible exact Below.refl _ _|with_reducible refine Below.alloc ?_ (by first|omega|(simp;done)|(simp;omega)) _)
 ·exact ((ab.new w n _).alloc _).alloc _
 ·have:=Row.new (w.alloc (.cells #[.int .u64 (l0 n),.int .u64 (l1 n),.int .u64 (l2 n),.int .u64 (l3 n)] 24)) [0,0,0,0] 24
  simp at this
  exact this.alloc _
 ·have:=au.new (w.alloc (.cells #[.int .u64 (l0 n),.int .u64 (l1 n),.int .u64 (l2 n),.int .u64 (l3 n)] 24)) #[.int .u64 0,.int .u64 0,.int .u64 0,.int .u64 0] 24 4
  simp at this
  exact this.alloc (by simp) _
 ·have:=Row.new ((w.alloc (.cells #[.int .u64 (l0 n),.int .u64 (l1 n),.int .u64 (l2 n),.int .u64 (l3 n)] 24)).alloc (.cells #[.int .u64 0,.int .u64 0,.int .u64 0,.int .u64 0] 24)) [0,0,0,0] 24
  simp at this
  exact Row.hold this
 ·have:=au.new ((w.alloc (.cells #[.int .u64 (l0 n),.int .u64 (l1 n),.int .u64 (l2 n),.int .u64 (l3 n)] 24)).alloc (.cells #[.int .u64 0,.int .u64 0,.int .u64 0,.int .u64 0] 24)) #[.int .u64 0,.int .u64 0,.int .u64 0,.int .u64 0] 24 4
  simp at this
  exact this
 rintro W ⟨B,hX,hR,lR,hYY,lY⟩
 have o1:w.heap.size≤w.heap.size+1:=by omega
 have o2:w.heap.size≤w.heap.size+1+1:=by omega
 have c1:w.heap.size+1+1≠w.heap.size:=by omega
 have c2:w.heap.size+1+1≠w.heap.size+1:=by omega
 generalize w.heap.size+1+1=by' at *
 generalize w.heap.size+1=br at *
 go_loopw [6] (fun a wr=>∃ j:Nat,j≤256∧a = .int .i64 j∧Below w.heap.size w wr∧ab wr w.heap.size n∧Row wr br [0,0,0,0]∧au wr br 4∧ab wr by' (Y%2 ^ j)∧au wr by' 4) (fun a _=>(256-intOf a).toNat)
 case atStart=>exact ⟨0,by omega,rfl,B,hX,hR,lR,by simpa using hYY,lY⟩
 case round =>
  clear B hX hR lR hYY lY
  obtain ⟨j,hj,rfl,B,hX,hR,lR,hYY,lY⟩:=hrel
  by_cases hlt:j<256
  ·have hm:=xZ hY j
   have gX:=hX.cells
   have hb:=hbit.out j (by omega)
   have hs:=vx Y j
   have bt:cG n (j-k)=0∨cG n (j-k)=1:=by rw [hb];omega
   rw [←hb] at hs
   have HS:Hid (Y%2 ^ (j+1)=Y%2 ^ j+cG n (j-k)*2 ^ j):=hs
   clear hb hs
   go_wp2_with fail
   refine (gG hn _).mono ?_
   rintro e w1 ⟨rfl,hb⟩
   have l1':=hR.lt (by simp)
   have l2':=hYY.row.lt (by simp)
   replace B:=B.trans (hb.mono B.size)
   replace hX:=hX.keep hb;replace hR:=hR.keep hb;replace hYY:=hYY.keep hb
   replace lR:=lR.keep hb l1';replace lY:=lY.keep hb l2'
   clear hb gX l1' l2'
   rcases bt with bt|bt
   ·have HS':Hid (Y%2 ^ (j+1)=Y%2 ^ j):=by have:=HS.out;rw [bt] at this;simpa [Hid] using this
    clear HS
    go_wp2
    go_roundw
    case rel=>exact ⟨j+1,by omega,by go_num,B,hX,hR,lR,by rw [HS'.out];exact hYY,lY⟩
    case measure=>simp [intOf];omega
   ·have HS':Hid (Y%2 ^ (j+1)=Y%2 ^ j+2 ^ j):=by have:=HS.out;rw [bt] at this;simpa [Hid] using this
    clear HS
    have gY:=hYY.cells
    go_wp2_with fail
    have wa:=fun W=>vE (k:=(j:Int)) hm.1 (by omega) (by omega) (by rw [Int.toNat_natCast];exact hm.2) W
    rw [Int.toNat_natCast] at wa
    refine (wa _).mono ?_
    rw [←HS'.out]
    rintro e w2 ⟨rfl,hb⟩
    have l1':=hR.lt (by simp)
    have l2':=hYY.row.lt (by simp)
    replace B:=B.trans (hb.mono B.size)
    replace hX:=hX.keep hb;replace hR:=hR.keep hb;replace hYY:=hYY.keep hb
    replace lR:=lR.keep hb l1';replace lY:=lY.keep hb l2'
    clear hb gY l1' l2' wa
    have gY:=hYY.cells
    have fY:=lY.cells4
    go_wp2
    go_roundw
    case rel =>
     refine ⟨j+1,by omega,by go_num,?_,?_,?_,?_,?_,?_⟩
     ·exact (((B.setCell o2 _).setCell o2 _).setCell o2 _).setCell o2 _
     ·exact Row.hold ((((hX.row.setOther c1 _).setOther c1 _).setOther c1 _).setOther c1 _)
     ·exact (((hR.setOther c2 _).setOther c2 _).setOther c2 _).setOther c2 _
     ·exact (((lR.set _ _).set _ _).set _ _).set _ _
     ·exact Row.hold ((((hYY.row.set 0 (by simp) _).set 1 (by simp) _).set 2 (by simp) _).set 3 (by simp) _)
     ·exact (((lY.set _ _).set _ _).set _ _).set _ _
    case measure=>simp [intOf];omega
  ·obtain rfl:j=256:=by omega
   rw [xY hY] at hYY
   have gY:=hYY.cells
   have gR:wr.cell? ⟨br,0,none⟩=some (.int .u64 0)∧wr.cell? ⟨br,1,none⟩=some (.int .u64 0)∧wr.cell? ⟨br,2,none⟩=some (.int .u64 0)∧wr.cell? ⟨br,3,none⟩=some (.int .u64 0):=⟨hR 0 (by simp),hR 1 (by simp),hR 2 (by simp),hR 3 (by simp)⟩
   have fR:=lR.cells4
   go_wp2
   simp [bodyPost,results,Tryz.results119,go_sem,gR]
   exact (((B.setCell o1 _).setCell o1 _).setCell o1 _).setCell o1 _
theorem vF {n k:Int} (h:k≤-256∨256≤k) (w:World) :
  Rt 119 #[U4 n,.int .i64 k] w (.agg #[.int .u64 (l0 0),.int .u64 (l1 0),.int .u64 (l2 0),.int .u64 (l3 0)]):=by
 obtain ⟨z0,z1,z2,z3⟩:=aq
 ((try delta U4 P9 Rt);rw [z0,z1,z2,z3])
 clear z0 z1 z2 z3
 rcases h with h|h
 ·go_enter Tryz.func119,Tryz.ntmps119
  go_wp2
  simp [bodyPost,results,Tryz.results119,go_sem]
  repeat (first|with_reducible exact Below.refl _ _|with_reducible refine Below.drew ?_|with_reducible refine Below.alloc ?_ (by first|omega|(simp;done)|(simp;omega)) _)
 ·have h':¬k < -255:=by omega
  go_enter Tryz.func119,Tryz.ntmps119
  go_wp2
  simp [bodyPost,results,Tryz.results119,go_sem]
  repeat (first|with_reducible exact Below.refl _ _|with_reducible refine Below.drew ?_|with_reducible refine Below.alloc ?_ (by first|omega|(simp;done)|(simp;omega)) _)
theorem vG {n k:Int} (hn:Num n) (w:World) :
  Rt 119 #[U4 n,.int .i64 k] w (U4 (kg n k)):=by
 by_cases h:k≤-256∨256≤k
 ·rw [show kg n k=0 by unfold kg;rw [if_pos h]]
  exact vF h w
 ·exact tg hn (by omega) (by omega) w
theorem x8 {n k:Int} (hn:Num n) (h0 : -255≤k) (h1:k≤255):kg n (-k)=mJ n k:=by
 unfold kg mJ
 rw [if_neg (show ¬(-k≤-256∨256≤-k) by omega),if_neg (show ¬(k≤-256∨256≤k) by omega)]
 by_cases h:k=0
 ·subst h
  rw [if_neg (show ¬(-(0:Int))<0 by decide),if_neg (show ¬(0:Int)<0 by decide)]
  unfold upN de
  have:=hn.1;have:=hn.2
  simp
  omega
 ·by_cases h2:k<0
  ·rw [if_neg (show ¬ -k<0 by omega),if_pos h2]
  ·rw [if_pos (show -k<0 by omega),if_neg h2,Int.neg_neg]
theorem vH {n k:Int} (h:k≤-256∨256≤k) (w:World) :
  Rt 73 #[U4 n,.int .i64 k] w (.agg #[.int .u64 (l0 0),.int .u64 (l1 0),.int .u64 (l2 0),.int .u64 (l3 0)]):=by
 obtain ⟨z0,z1,z2,z3⟩:=aq
 ((try delta U4 P9 Rt);rw [z0,z1,z2,z3])
 clear z0 z1 z2 z3
 have hb:=bC
 rcases h with h|h
 ·go_enter Tryz.func73,Tryz.ntmps73
  go_wp2
  simp [bodyPost,results,Tryz.results73,go_sem]
  repeat (first|with_reducible exact Below.refl _ _|with_reducible refine Below.drew ?_|with_reducible refine Below.alloc ?_ (by first|omega|(simp;done)|(simp;omega)) _)
 ·have h':¬k < -255:=by omega
  go_enter Tryz.func73,Tryz.ntmps73
  go_wp2
  simp [bodyPost,results,Tryz.results73,go_sem]
  repeat (first|with_reducible exact Below.refl _ _|with_reducible refine Below.drew ?_|with_reducible refine Below.alloc ?_ (by first|omega|(simp;done)|(simp;omega)) _)
theorem ti {n k:Int} (hn:Num n) (h0 : -255≤k) (h1:k≤255) (w:World) :
  Rt 73 #[U4 n,.int .i64 k] w (U4 (mJ n k)):=by
 rw [←x8 hn h0 h1]
 have g0:¬k < -255:=by omega
 have g1:¬255<k:=by omega
 go_enter Tryz.func73,Tryz.ntmps73
 go_wp2_with fail
 refine (vG hn _).mono ?_
 rintro e w' ⟨rfl,hw⟩
 have hc:=aj hw
 go_wp2
 simp [bodyPost,results,Tryz.results73,go_sem,hc]
 clear hc
 have hz:=hw.size
 simp at hz
 repeat (first|with_reducible exact Below.refl _ _|with_reducible refine Below.drew ?_|with_reducible refine Below.setCell ?_ (by first|omega|(simp;done)|(simp;omega)) _|with_reducible refine Below.alloc ?_ (by first|omega|(simp;done)|(simp;omega)) _|with_reducible refine Below.trans ?_ (Below.mono hw (by first|omega|(simp;done)|(simp;omega))))
theorem vI {n k:Int} (hn:Num n) (w:World) :
  Rt 73 #[U4 n,.int .i64 k] w (U4 (mJ n k)):=by
 by_cases h:k≤-256∨256≤k
 ·rw [show mJ n k=0 by unfold mJ;rw [if_pos h]]
  exact vH h w
 ·exact ti hn (by omega) (by omega) w
theorem x9 {n:Int} {j:Nat} (h0:0≤n) (h:n<2 ^ (j+1)):(n/2 ^ j%2=1→2 ^ j≤n)∧(n/2 ^ j%2=0→n<2 ^ j):=by
 have p:=dD j
 rw [Int.pow_succ] at h
 have q0:0≤n/2 ^ j:=Int.ediv_nonneg h0 (by omega)
 have q1:n/2 ^ j<2:=Int.ediv_lt_of_lt_mul p (by rw [Int.mul_comm];exact h)
 have d:=Int.emod_add_mul_ediv n (2 ^ j)
 have m0:=Int.emod_nonneg n (show (2:Int) ^ j≠0 by omega)
 have m1:=Int.emod_lt_of_pos n p
 constructor
 ·intro e
  have:n/2 ^ j=1:=by omega
  rw [this] at d;omega
 ·intro e
  have:n/2 ^ j=0:=by omega
  rw [this] at d;omega
theorem vJ {n:Int} (hn:Num n) (w:World) :
  Rt 181 #[U4 n] w (.int .i64 (jI n)):=by
 have n0:=hn.1
 have top:Hid (n<2 ^ 256):=by
  have:=hn.2
  show n<2 ^ 256
  rw [show (2:Int) ^ 256=115792089237316195423570985008687907853269984665640564039457584007913129639936 by decide]
  exact this
 go_enter Tryz.func181,Tryz.ntmps181
 go_wp2_with fail
 refine af (fun W=>Below w.heap.size w W∧ab W w.heap.size n) ⟨(Below.refl _ _).alloc (Nat.le_refl _) _,ab.new w n _⟩ ?_
 rintro W ⟨B,hX⟩
 go_loopw [3] (fun a wr=>∃ j:Nat,j≤256∧a = .int .i64 ((j:Int)-1)∧Below w.heap.size w wr∧ab wr w.heap.size n∧Hid (n<2 ^ j)) (fun a _=>(intOf a+1).toNat)
 case atStart=>exact ⟨256,by omega,rfl,B,hX,top⟩
 case round =>
  clear B hX
  obtain ⟨j,hj,rfl,B,hX,hl⟩:=hrel
  by_cases hz:j=0
  ·subst hz
   obtain rfl:n=0:=by have:=hl.out;simp at this;omega
   go_wp2
   go_ret
   rw [show jI 0=0 by rfl]
   exact ⟨rfl,B⟩
  ·obtain ⟨i,rfl⟩:∃ i,j=i+1:=⟨j-1,by omega⟩
   have e1:((i+1:Nat):Int)-1=i:=by omega
   have bt:=x9 n0 hl.out
   have eb:cG n i=n/2 ^ i%2:=by unfold cG;rw [if_neg (by omega),Int.toNat_natCast]
   have br:cG n i=0∨cG n i=1:=by rw [eb];omega
   rw [←eb] at bt
   have gX:=hX.cells
   have ea:Hid (((i+1:Nat):Int)-1=i):=e1
   rw [e1]
   clear e1 eb
   rcases br with br|br
   ·have lo:Hid (n<2 ^ i):=bt.2 br
    clear bt
    go_wp2_with fail
    refine (gG hn _).mono ?_
    rintro e w1 ⟨rfl,hb⟩
    replace B:=B.trans (hb.mono B.size)
    replace hX:=hX.keep hb
    clear hb gX
    go_wp2
    go_roundw
    case rel=>exact ⟨i,by omega,by go_num,B,hX,lo⟩
    case measure=>first|(simp [intOf];done)|(simp [intOf];omega)
   ·have le:Hid (jI n=(i:Int)+1):=jl (bt.1 br) hl.out
    clear bt
    go_wp2_with fail
    refine (gG hn _).mono ?_
    rintro e w1 ⟨rfl,hb⟩
    replace B:=B.trans (hb.mono B.size)
    clear hb gX
    go_wp2
    go_ret
    rw [le.out]
    exact ⟨rfl,B⟩
open Go.RowKit Go.Sort
theorem iz {x:Int} (hx:al x) (s:Nat):bits .and .u64 (x/2 ^ s) 15=((x.toNat/2 ^ s%16:Nat):Int):=by
 obtain ⟨n,rfl⟩:=Int.eq_ofNat_of_zero_le hx.1
 have e:((n:Int)/2 ^ s)=((n/2 ^ s:Nat):Int):=by rw [Int.natCast_ediv,Int.natCast_pow];rfl
 have hl:n/2 ^ s<18446744073709551616:=Nat.lt_of_le_of_lt (Nat.div_le_self _ _) (by have:=hx.2;omega)
 rw [e]
 refine (bits_and_u64_nat _ 15 hl (by decide)).trans ?_
 rw [show (15:Nat)=2 ^ 4-1 by decide,Nat.and_two_pow_sub_one_eq_mod]
 rfl
theorem vK {b i:Int} (h0:0≤i) (h1:i<64) (w:World) :
  Rt 81 #[U4 b,.int .i64 i] w (.int .u64 (fe b i.toNat)):=by
 have q:i.tdiv 64=0:=by rw [Int.tdiv_eq_ediv_of_nonneg (by omega)];omega
 obtain ⟨s,hs⟩:∃ s,s=i-0:=⟨_,rfl⟩
 have r:i.tmod 64=s:=by rw [Int.tmod_eq_emod_of_nonneg (by omega)];omega
 have r0:0≤s:=by omega
 have r1:s<64:=by omega
 have hs':i.toNat/64=0∧i.toNat%64=s.toNat:=by omega
 clear hs
 go_enter Tryz.func81,Tryz.ntmps81
 go_wp2
 simp [bodyPost,results,Tryz.results81,go_sem]
 refine ⟨?_,(Below.refl _ _).alloc (Nat.le_refl _) _⟩
 have e:=iz (aU b) s.toNat
 unfold fe
 rw [hs'.1,hs'.2]
 exact e
theorem vM {b i:Int} (h0:64≤i) (h1:i<128) (w:World) :
  Rt 81 #[U4 b,.int .i64 i] w (.int .u64 (fe b i.toNat)):=by
 have q:i.tdiv 64=1:=by rw [Int.tdiv_eq_ediv_of_nonneg (by omega)];omega
 obtain ⟨s,hs⟩:∃ s,s=i-64:=⟨_,rfl⟩
 have r:i.tmod 64=s:=by rw [Int.tmod_eq_emod_of_nonneg (by omega)];omega
 have r0:0≤s:=by omega
 have r1:s<64:=by omega
 have hs':i.toNat/64=1∧i.toNat%64=s.toNat:=by omega
 clear hs
 go_enter Tryz.func81,Tryz.ntmps81
 go_wp2
 simp [bodyPost,results,Tryz.results81,go_sem]
 refine ⟨?_,(Below.refl _ _).alloc (Nat.le_refl _) _⟩
 have e:=iz (aV b) s.toNat
 unfold fe
 rw [hs'.1,hs'.2]
 exact e
theorem vN {b i:Int} (h0:128≤i) (h1:i<192) (w:World) :
  Rt 81 #[U4 b,.int .i64 i] w (.int .u64 (fe b i.toNat)):=by
 have q:i.tdiv 64=2:=by rw [Int.tdiv_eq_ediv_of_nonneg (by omega)];omega
 obtain ⟨s,hs⟩:∃ s,s=i-128:=⟨_,rfl⟩
 have r:i.tmod 64=s:=by rw [Int.tmod_eq_emod_of_nonneg (by omega)];omega
 have r0:0≤s:=by omega
 have r1:s<64:=by omega
 have hs':i.toNat/64=2∧i.toNat%64=s.toNat:=by omega
 clear hs
 go_enter Tryz.func81,Tryz.ntmps81
 go_wp2
 simp [bodyPost,results,Tryz.results81,go_sem]
 refine ⟨?_,(Below.refl _ _).alloc (Nat.le_refl _) _⟩
 have e:=iz (aW b) s.toNat
 unfold fe
 rw [hs'.1,hs'.2]
 exact e
theorem vO {b i:Int} (h0:192≤i) (h1:i<256) (w:World) :
  Rt 81 #[U4 b,.int .i64 i] w (.int .u64 (fe b i.toNat)):=by
 have q:i.tdiv 64=3:=by rw [Int.tdiv_eq_ediv_of_nonneg (by omega)];omega
 obtain ⟨s,hs⟩:∃ s,s=i-192:=⟨_,rfl⟩
 have r:i.tmod 64=s:=by rw [Int.tmod_eq_emod_of_nonneg (by omega)];omega
 have r0:0≤s:=by omega
 have r1:s<64:=by omega
 have hs':i.toNat/64=3∧i.toNat%64=s.toNat:=by omega
 clear hs
 go_enter Tryz.func81,Tryz.ntmps81
 go_wp2
 simp [bodyPost,results,Tryz.results81,go_sem]
 refine ⟨?_,(Below.refl _ _).alloc (Nat.le_refl _) _⟩
 have e:=iz (bj b) s.toNat
 unfold fe
 rw [hs'.1,hs'.2]
 exact e
theorem lT (b:Int) {i:Int} (h0:0≤i) (h1:i<256) (w:World) :
  Rt 81 #[U4 b,.int .i64 i] w (.int .u64 (fe b i.toNat)):=by
 by_cases k1:i<64
 ·exact vK h0 k1 w
 ·by_cases k2:i<128
  ·exact vM (by omega) k2 w
  ·by_cases k3:i<192
   ·exact vN (by omega) k3 w
   ·exact vO (by omega) h1 w
theorem fB {x:Int} (hx:al x) (s:Nat):bits .and .u64 (x/2 ^ s) 1=((x.toNat/2 ^ s%2:Nat):Int):=by
 have:=fg (s:=(s:Int)) hx
 simp only [Int.toNat_natCast] at this
 rw [this]
 obtain ⟨n,rfl⟩:=Int.eq_ofNat_of_zero_le hx.1
 simp
theorem j4 (a:Int) {i:Int} (h0:0≤i) (h1:i<64) (w:World) :
  Rt 83 #[U4 a,.int .i64 i] w (.int .u64 (kf a i.toNat)):=by
 have b0:=fB (aU a) i.toNat;have b1:=fB (aV a) i.toNat;have b2:=fB (aW a) i.toNat;have b3:=fB (bj a) i.toNat
 have HB:Hid (kf a i.toNat=(l0 a).toNat/2 ^ i.toNat%2+2*((l1 a).toNat/2 ^ i.toNat%2)+4*((l2 a).toNat/2 ^ i.toNat%2)+8*((l3 a).toNat/2 ^ i.toNat%2)):=rfl
 have c0:=Nat.mod_two_eq_zero_or_one ((l0 a).toNat/2 ^ i.toNat)
 have c1:=Nat.mod_two_eq_zero_or_one ((l1 a).toNat/2 ^ i.toNat)
 have c2:=Nat.mod_two_eq_zero_or_one ((l2 a).toNat/2 ^ i.toNat)
 have c3:=Nat.mod_two_eq_zero_or_one ((l3 a).toNat/2 ^ i.toNat)
 generalize (l0 a).toNat/2 ^ i.toNat%2=e0 at *
 generalize (l1 a).toNat/2 ^ i.toNat%2=e1 at *
 generalize (l2 a).toNat/2 ^ i.toNat%2=e2 at *
 generalize (l3 a).toNat/2 ^ i.toNat%2=e3 at *
 go_enter Tryz.func83,Tryz.ntmps83
 obtain ⟨s0,s1,s2,s3⟩:(∀ w,(Instr.index 24 (U4 a) (.int .i64 0)).run Tryz.prog w = .ok (.int .u64 (l0 a)) w)∧(∀ w,(Instr.index 24 (U4 a) (.int .i64 1)).run Tryz.prog w = .ok (.int .u64 (l1 a)) w)∧(∀ w,(Instr.index 24 (U4 a) (.int .i64 2)).run Tryz.prog w = .ok (.int .u64 (l2 a)) w)∧(∀ w,(Instr.index 24 (U4 a) (.int .i64 3)).run Tryz.prog w = .ok (.int .u64 (l3 a)) w):=⟨fun _=>by kernel_rfl,fun _=>by kernel_rfl,fun _=>by kernel_rfl,fun _=>by kernel_rfl⟩
 rcases c0 with rfl|rfl<;>rcases c1 with rfl|rfl<;>rcases c2 with rfl|rfl<;>rcases c3 with rfl|rfl
 all_goals
  go_wp2
  refine wp_loop_rounds 5 ?_
  rw [rounds_succ];go_wp2
  rw [rounds_succ];go_wp2
  rw [rounds_succ];go_wp2
  rw [rounds_succ];go_wp2
  rw [rounds_succ];go_wp2
  simp [bodyPost,results,Tryz.results83,go_sem,HB.out]
  exact ⟨by decide,(Below.refl _ _).alloc (Nat.le_refl _) _⟩
end Go.Proofs.YtnnnaajgjniiaaaGreatDoor
