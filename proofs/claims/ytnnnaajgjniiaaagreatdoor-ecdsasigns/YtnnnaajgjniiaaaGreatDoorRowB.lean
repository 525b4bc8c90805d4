import Derived.Test.YtnnnaajgjniiaaaGreatDoorHold
import Derived.Deep.MidRow
import Derived.Lib.LazyBuf
import Derived.Test.YtnnnaajgjniiaaaGreatDoorShiftNum
namespace Go.Proofs.YtnnnaajgjniiaaaGreatDoor
open Go.RowKit
def wj (W:World) (b:Nat) (l:List Int):Prop:=∀ i,i<l.length→W.cell? ⟨b,i,none⟩=some (.int .u8 (l.getD i 0))
theorem wj.lt {W:World} {b:Nat} {l:List Int} (h:wj W b l) (hl:0<l.length):b<W.heap.size:=World.block_lt_of_cell? W ⟨b,0,none⟩ (h 0 hl)
def Bts (W:World) (b:Nat) (l:List Int):Prop:=wj W b l∧au W b l.length
theorem Bts.keep {W w1:World} {b:Nat} {l:List Int} (h:Bts W b l) (hl:0<l.length) (hb:Below W.heap.size W w1):Bts w1 b l:=⟨fun i hi=>cell_keep hb (h.1 i hi),h.2.keep hb (h.1.lt hl)⟩
theorem Bts.alloc {W:World} {b:Nat} {l:List Int} (h:Bts W b l) (hl:0<l.length) (o:Obj):Bts (W.alloc o) b l:=h.keep hl ((Below.refl _ _).alloc (Nat.le_refl _) o)
theorem Bts.new {W:World} {b:Nat} (l:List Int) (t:TypeId) (e:b=W.heap.size):Bts (W.alloc (.cells (l.map (Value.int .u8)).toArray t)) b l:=by
 subst e
 refine ⟨?_,au.new _ _ _ _⟩
 intro i hi
 rw [World.cell?_alloc_mark]
 simp [List.getElem?_map,List.getD,List.getElem?_eq_getElem hi]
theorem Bts.set {W:World} {b:Nat} {l:List Int} (h:Bts W b l) (i:Nat) (hi:i<l.length) (v:Int):Bts (W.setCell ⟨b,i,none⟩ (.int .u8 v)) b (l.set i v):=by
 refine ⟨?_,by rw [List.length_set];exact h.2.set _ _⟩
 intro j hj
 simp at hj
 by_cases e:i=j
 ·subst e
  rw [World.cell?_setCell_same _ _ _ (h.1 i hi)]
  simp [List.getD,hi]
 ·have ne:(⟨b,i,none⟩:Addr)≠⟨b,j,none⟩:=by first|(simp;done)|(simp;omega)
  rw [World.cell?_setCell_other _ _ _ _ ne,h.1 j hj]
  simp [List.getD,List.getElem?_set_ne e]
theorem Bts.other {W:World} {b b' i:Nat} {l:List Int} (h:Bts W b l) (ne:b'≠b) (v:Value):Bts (W.setCell ⟨b',i,none⟩ v) b l:=⟨fun j hj=>by rw [World.cell?_setCell_far _ _ _ _ ne];exact h.1 j hj,h.2.set _ _⟩
theorem AP {l l':List Int} (h:l.length=l'.length) (e:∀ t,t<l.length→l.getD t 0=l'.getD t 0):l=l':=by
 apply List.ext_getElem h
 intro t h1 h2
 have:=e t h1
 simpa [List.getD,h1,h2] using this
theorem sc {l:List Int} {i t:Nat} (h:t≠i) (v:Int):(l.set i v).getD t 0=l.getD t 0:=by
 simp [List.getD,List.getElem?_set_ne (Ne.symm h)]
theorem sd {l:List Int} {i:Nat} (h:i<l.length) (v:Int):(l.set i v).getD i 0=v:=by
 simp [List.getD,h]
theorem wj.range {W:World} {b:Nat} {l:List Int} (h:wj W b l):W.rangeAt b 0 (l.map (Value.int .u8)):=by
 intro j v hv
 rw [List.getElem?_map] at hv
 obtain ⟨x,hx,rfl⟩:=Option.map_eq_some_iff.1 hv
 have hj:j<l.length:=(List.getElem?_eq_some_iff.1 hx).1
 rw [Nat.zero_add,h j hj]
 simp [List.getD,hx]
theorem Bts.there {W:World} {b:Nat} {l:List Int} (h:Bts W b l) {k:Nat} (e:l.length=k):W.there b 0 k:=by
 subst e
 intro j hj
 rw [Nat.zero_add]
 exact ⟨by rw [h.1 j hj];rfl,h.2 j hj⟩
theorem m8 (l:List Int):(l.map (Value.int .u8)).toArray.all (·.oneCell')=true:=all_oneCell_toArray (by
 intro v hv
 obtain ⟨x,_,rfl⟩:=List.mem_map.1 hv
 rfl)
def jr (n:Int):List Int:=(List.range 32).map fun t=>n/256 ^ (31-t)%256
theorem js (n:Int):(jr n).length=32:=by simp [jr]
theorem jL (n:Int) {t:Nat} (h:t<32):(jr n).getD t 0=n/256 ^ (31-t)%256:=by
 simp [jr,List.getD,List.getElem?_map,List.getElem?_range h]
theorem jt {y:Int} {s:Nat} (hs:s≤56):y%18446744073709551616/2 ^ s%256=y/2 ^ s%256:=by
 obtain ⟨T,eT⟩:∃ T:Int,2 ^ s*(256*T)=18446744073709551616:=⟨2 ^ (56-s),by
  rw [show (256:Int)=2 ^ 8 by decide,←Int.pow_add,←Int.pow_add,show s+(8+(56-s))=64 by omega];decide⟩
 have p0:(0:Int)<2 ^ s:=Int.pow_pos (by decide)
 rw [Int.emod_def y 18446744073709551616]
 generalize y/18446744073709551616=q
 rw [←eT,Int.mul_assoc,Int.sub_eq_add_neg,←Int.mul_neg,Int.add_mul_ediv_left _ _ (by omega),Int.mul_assoc 256,←Int.mul_neg,Int.add_mul_emod_self_left]
theorem m9 {n:Int} {i:Nat} (hi:i<32):[l0 n,l1 n,l2 n,l3 n].getD (i/8) 0/2 ^ (i%8*8)%256=n/256 ^ i%256:=by
 have e256:(256:Int) ^ i=2 ^ (8*i):=by rw [show (256:Int)=2 ^ 8 by decide,←Int.pow_mul]
 rw [e256]
 have hs:i%8*8≤56:=by omega
 rcases (show i/8=0∨i/8=1∨i/8=2∨i/8=3 by omega) with h|h|h|h
 ·rw [h];show l0 n/_%256=_;unfold l0;rw [jt hs,show 8*i=i%8*8 by omega]
 ·rw [h];show l1 n/_%256=_;unfold l1;rw [jt hs,Int.ediv_ediv_of_nonneg (by decide),show (18446744073709551616:Int)=2 ^ 64 by decide,←Int.pow_add,show 64+i%8*8=8*i by omega]
 ·rw [h];show l2 n/_%256=_;unfold l2;rw [jt hs,Int.ediv_ediv_of_nonneg (by decide),show (340282366920938463463374607431768211456:Int)=2 ^ 128 by decide,←Int.pow_add,show 128+i%8*8=8*i by omega]
 ·rw [h];show l3 n/_%256=_;unfold l3;rw [jt hs,Int.ediv_ediv_of_nonneg (by decide),show (6277101735386680763835789423207666416102355444464034512896:Int)=2 ^ 192 by decide,←Int.pow_add,show 192+i%8*8=8*i by omega]
def aS (A:List Int):Nat→Int
 | 0=>0
 | i+1=>aS A i+A.getD (A.length-1-i) 0*256 ^ i
def dR (A:List Int):Prop:=∀ i,0≤A.getD i 0∧A.getD i 0<256
theorem cS {A:List Int} (h:dR A):∀ i:Nat,0≤aS A i∧aS A i<256 ^ i
 | 0=>by simp [aS]
 | i+1=>by
  obtain ⟨a,b⟩:=cS h i
  obtain ⟨c,d⟩:=h (A.length-1-i)
  simp only [aS,Int.pow_succ]
  have p0:(0:Int)<256 ^ i:=Int.pow_pos (by decide)
  have h1:=Int.mul_nonneg c (Int.le_of_lt p0)
  have h2:=Int.mul_le_mul_of_nonneg_right (show A.getD (A.length-1-i) 0≤255 by omega) (Int.le_of_lt p0)
  generalize A.getD (A.length-1-i) 0*256 ^ i=z at *
  omega
theorem wk {X b:Int} {i:Nat} (hi:i<32) (X0:0≤X) (X1:X<256 ^ i) (b0:0≤b) (b1:b<256) :
  0≤[l0 X,l1 X,l2 X,l3 X].getD (i/8) 0∧[l0 X,l1 X,l2 X,l3 X].getD (i/8) 0<2 ^ (i%8*8)∧0≤b*2 ^ (i%8*8)∧[l0 X,l1 X,l2 X,l3 X].getD (i/8) 0+b*2 ^ (i%8*8)<18446744073709551616 ∧
  [l0 (X+b*256 ^ i),l1 (X+b*256 ^ i),l2 (X+b*256 ^ i),l3 (X+b*256 ^ i)]=[l0 X,l1 X,l2 X,l3 X].set (i/8) ([l0 X,l1 X,l2 X,l3 X].getD (i/8) 0+b*2 ^ (i%8*8)):=by
 have hs:i%8*8≤56:=by omega
 have pl:(2:Int) ^ (i%8*8)*256≤18446744073709551616:=by
  obtain ⟨T,eT,T0⟩:∃ T:Int,2 ^ (i%8*8)*256*T=18446744073709551616∧0<T:=⟨2 ^ (56-i%8*8),by
   rw [show (256:Int)=2 ^ 8 by decide,←Int.pow_add,←Int.pow_add,show i%8*8+8+(56-i%8*8)=64 by omega];decide,Int.pow_pos (show (0:Int)<2 by decide)⟩
  have p0:(0:Int)<2 ^ (i%8*8):=Int.pow_pos (by decide)
  have:=Int.mul_le_mul_of_nonneg_left (show 1≤T by omega) (show (0:Int)≤2 ^ (i%8*8)*256 by omega)
  omega
 have p0:(0:Int)<2 ^ (i%8*8):=Int.pow_pos (by decide)
 have e256:(256:Int) ^ i=2 ^ (64*(i/8))*2 ^ (i%8*8):=by rw [show (256:Int)=2 ^ 8 by decide,←Int.pow_mul,←Int.pow_add,show 64*(i/8)+i%8*8=8*i by omega]
 rw [e256] at X1 ⊢
 clear e256
 generalize (2:Int) ^ (i%8*8)=P at *
 have z0:=Int.mul_nonneg b0 (Int.le_of_lt p0)
 have z1:=Int.mul_le_mul_of_nonneg_right (show b≤255 by omega) (Int.le_of_lt p0)
 rcases (show i/8=0∨i/8=1∨i/8=2∨i/8=3 by omega) with h|h|h|h
 ·rw [h] at X1 ⊢
  rw [show (2:Int) ^ (64*0)=1 by decide] at X1 ⊢
  rw [show b*(1*P)=1*(b*P) by rw [Int.mul_left_comm]]
  generalize b*P=z at *
  simp only [List.getD_cons_zero,List.set_cons_zero]
  unfold l0 l1 l2 l3
  refine ⟨by omega,by omega,z0,by omega,?_⟩
  simp only [List.cons.injEq,and_true]
  omega
 ·rw [h] at X1 ⊢
  rw [show (2:Int) ^ (64*1)=18446744073709551616 by decide] at X1 ⊢
  rw [show b*(18446744073709551616*P)=18446744073709551616*(b*P) by rw [Int.mul_left_comm]]
  generalize b*P=z at *
  simp only [List.getD_cons_zero,List.getD_cons_succ,List.set_cons_zero,List.set_cons_succ]
  unfold l0 l1 l2 l3
  refine ⟨by omega,by omega,z0,by omega,?_⟩
  simp only [List.cons.injEq,and_true]
  omega
 ·rw [h] at X1 ⊢
  rw [show (2:Int) ^ (64*2)=340282366920938463463374607431768211456 by decide] at X1 ⊢
  rw [show b*(340282366920938463463374607431768211456*P)=340282366920938463463374607431768211456*(b*P) by rw [Int.mul_left_comm]]
  generalize b*P=z at *
  simp only [List.getD_cons_zero,List.getD_cons_succ,List.set_cons_zero,List.set_cons_succ]
  unfold l0 l1 l2 l3
  refine ⟨by omega,by omega,z0,by omega,?_⟩
  simp only [List.cons.injEq,and_true]
  omega
 ·rw [h] at X1 ⊢
  rw [show (2:Int) ^ (64*3)=6277101735386680763835789423207666416102355444464034512896 by decide] at X1 ⊢
  rw [show b*(6277101735386680763835789423207666416102355444464034512896*P)=6277101735386680763835789423207666416102355444464034512896*(b*P) by rw [Int.mul_left_comm]]
  generalize b*P=z at *
  simp only [List.getD_cons_zero,List.getD_cons_succ,List.set_cons_zero,List.set_cons_succ]
  unfold l0 l1 l2 l3
  refine ⟨by omega,by omega,z0,by omega,?_⟩
  simp only [List.cons.injEq,and_true]
  omega
def bQ (A:List Int):Nat→Int
 | 0=>0
 | i+1=>bQ A i+A.getD i 0*256 ^ (A.length-1-i)
theorem oG (A:List Int):∀ j:Nat,j≤A.length→bQ A j+aS A (A.length-j)=aS A A.length
 | 0,_=>by simp [bQ]
 | j+1,h=>by
  have:=oG A j (by omega)
  obtain ⟨k,hk⟩:∃ k,A.length-j=k+1:=⟨A.length-j-1,by omega⟩
  rw [hk,aS] at this
  rw [show A.length-(j+1)=k by omega,bQ,←this,show A.length-1-k=j by omega,show A.length-1-j=k by omega]
  omega
theorem ya (A:List Int):bQ A A.length=aS A A.length:=by
 have:=oG A A.length (Nat.le_refl _)
 rw [Nat.sub_self,aS,Int.add_zero] at this
 exact this
theorem pB {A:List Int} (h:dR A) (hl:A.length≤32) {i:Nat} (hi:i≤A.length):Num (bQ A i)∧∃ t,bQ A i=256 ^ (A.length-i)*t:=by
 have e:=oG A i hi
 obtain ⟨a0,a1⟩:=cS h A.length
 obtain ⟨b0,b1⟩:=cS h (A.length-i)
 have mul:∀ i,i≤A.length→∃ t,bQ A i=256 ^ (A.length-i)*t:=by
  intro i
  induction i with
  | zero=>intro _;exact ⟨0,by simp [bQ]⟩
  | succ i ih =>
   intro h'
   obtain ⟨t,ht⟩:=ih (by omega)
   refine ⟨256*t+A.getD i 0,?_⟩
   rw [bQ,ht,show A.length-i=A.length-(i+1)+1 by omega,Int.pow_succ,show A.length-1-i=A.length-(i+1) by omega,Int.mul_add,Int.mul_assoc,Int.mul_comm (A.getD i 0)]
 have p:(256:Int) ^ A.length≤115792089237316195423570985008687907853269984665640564039457584007913129639936:=by
  have h1:(256:Int) ^ A.length*256 ^ (32-A.length)=115792089237316195423570985008687907853269984665640564039457584007913129639936:=by rw [←Int.pow_add,show A.length+(32-A.length)=32 by omega];decide
  have h2:(0:Int)<256 ^ (32-A.length):=Int.pow_pos (by decide)
  have h3:(0:Int)<256 ^ A.length:=Int.pow_pos (by decide)
  have:=Int.mul_le_mul_of_nonneg_left (show 1≤(256:Int) ^ (32-A.length) by omega) (Int.le_of_lt h3)
  omega
 have n0:0≤bQ A i:=by
  obtain ⟨t,ht⟩:=mul i hi
  have p0:(0:Int)<256 ^ (A.length-i):=Int.pow_pos (by decide)
  by_cases c:0≤t
  ·rw [ht];exact Int.mul_nonneg (Int.le_of_lt p0) c
  ·have:=Int.mul_le_mul_of_nonneg_left (show t≤-1 by omega) (Int.le_of_lt p0)
   omega
 exact ⟨⟨n0,by omega⟩,mul i hi⟩
theorem kU {x u P t T B:Int} (h:x+B*u=256*(P*t)) (e:256*P*T=B):x=256*P*(t-T*u):=by
 rw [Int.mul_sub,←Int.mul_assoc (256*P) T u,e,Int.mul_assoc 256 P t]
 omega
theorem iA {x k P T B b:Int} (h:x=256*P*k) (e:256*P*T=B) (x1:x<B) (P0:0<P) (b1:b<256):x+b*P<B:=by
 have lt:k<T:=by
  by_cases c:k<T
  ·exact c
  ·have:=Int.mul_le_mul_of_nonneg_left (show T≤k by omega) (show 0≤256*P by omega)
   omega
 have h1:=Int.mul_le_mul_of_nonneg_left (show k+1≤T by omega) (show 0≤256*P by omega)
 have h2:=Int.mul_le_mul_of_nonneg_right (show b≤255 by omega) (Int.le_of_lt P0)
 rw [Int.mul_add,Int.mul_one] at h1
 omega
theorem wl {X b t:Int} {k:Nat} (hk:k<32) (hX:Num X) (ht:X=256 ^ (k+1)*t) (b0:0≤b) (b1:b<256) :
  0≤[l0 X,l1 X,l2 X,l3 X].getD (k/8) 0∧0≤b*2 ^ (8*(k%8))∧[l0 X,l1 X,l2 X,l3 X].getD (k/8) 0+b*2 ^ (8*(k%8))<18446744073709551616 ∧
  [l0 (X+b*256 ^ k),l1 (X+b*256 ^ k),l2 (X+b*256 ^ k),l3 (X+b*256 ^ k)]=[l0 X,l1 X,l2 X,l3 X].set (k/8) ([l0 X,l1 X,l2 X,l3 X].getD (k/8) 0+b*2 ^ (8*(k%8))):=by
 obtain ⟨T,eT⟩:∃ T:Int,256*2 ^ (8*(k%8))*T=18446744073709551616:=⟨2 ^ (56-8*(k%8)),by
  rw [show (256:Int)=2 ^ 8 by decide,←Int.pow_add,←Int.pow_add,show 8+8*(k%8)+(56-8*(k%8))=64 by omega];decide⟩
 have p0:(0:Int)<2 ^ (8*(k%8)):=Int.pow_pos (by decide)
 have e256:(256:Int) ^ k=2 ^ (64*(k/8))*2 ^ (8*(k%8)):=by rw [show (256:Int)=2 ^ 8 by decide,←Int.pow_mul,←Int.pow_add,show 64*(k/8)+8*(k%8)=8*k by omega]
 rw [Int.pow_succ,e256] at ht
 rw [e256]
 clear e256
 have en:=du hX
 have h0:=aU X;have h1:=aV X;have h2:=aW X;have h3:=bj X
 generalize (2:Int) ^ (8*(k%8))=P at *
 have z0:=Int.mul_nonneg b0 (Int.le_of_lt p0)
 rw [←en] at ht
 rcases (show k/8=0∨k/8=1∨k/8=2∨k/8=3 by omega) with h|h|h|h
 ·rw [h] at ht ⊢
  rw [show (2:Int) ^ (64*0)=1 by decide] at ht ⊢
  rw [show 1*P*256*t=1*(256*(P*t)) by rw [Int.mul_assoc,Int.mul_assoc,Int.mul_left_comm P 256 t]] at ht
  generalize hPt:P*t=Pt at ht
  have hx:l0 X=256*P*(t-T*(l1 X+18446744073709551616*l2 X+340282366920938463463374607431768211456*l3 X)):=kU (B:=18446744073709551616) (by rw [hPt];unfold num al at *; omega) eT
  have rm:=iA hx eT h0.2 p0 b1
  simp only [List.getD_cons_zero,List.set_cons_zero]
  refine ⟨h0.1,z0,rm,?_⟩
  rw [show b*(1*P)=1*(b*P) by rw [Int.mul_left_comm]]
  generalize b*P=z at *
  have hX':X+1*z=num (l0 X+z) (l1 X) (l2 X) (l3 X):=by unfold num at *; omega
  obtain ⟨r0,r1,r2,r3⟩:=aZ (⟨by have:=h0.1;omega,rm⟩:al (l0 X+z)) h1 h2 h3 hX'
  rw [r0,r1,r2,r3]
 ·rw [h] at ht ⊢
  rw [show (2:Int) ^ (64*1)=18446744073709551616 by decide] at ht ⊢
  rw [show 18446744073709551616*P*256*t=18446744073709551616*(256*(P*t)) by rw [Int.mul_assoc,Int.mul_assoc,Int.mul_left_comm P 256 t]] at ht
  generalize hPt:P*t=Pt at ht
  have w0:l0 X=0:=by unfold num al at *; omega
  have hx:l1 X=256*P*(t-T*(l2 X+18446744073709551616*l3 X)):=kU (B:=18446744073709551616) (by rw [hPt];unfold num al at *; omega) eT
  have rm:=iA hx eT h1.2 p0 b1
  simp only [List.getD_cons_zero,List.getD_cons_succ,List.set_cons_zero,List.set_cons_succ]
  refine ⟨h1.1,z0,rm,?_⟩
  rw [show b*(18446744073709551616*P)=18446744073709551616*(b*P) by rw [Int.mul_left_comm]]
  generalize b*P=z at *
  have hX':X+18446744073709551616*z=num (l0 X) (l1 X+z) (l2 X) (l3 X):=by unfold num at *; omega
  obtain ⟨r0,r1,r2,r3⟩:=aZ h0 (⟨by have:=h1.1;omega,rm⟩:al (l1 X+z)) h2 h3 hX'
  rw [r0,r1,r2,r3]
 ·rw [h] at ht ⊢
  rw [show (2:Int) ^ (64*2)=340282366920938463463374607431768211456 by decide] at ht ⊢
  rw [show 340282366920938463463374607431768211456*P*256*t=340282366920938463463374607431768211456*(256*(P*t)) by rw [Int.mul_assoc,Int.mul_assoc,Int.mul_left_comm P 256 t]] at ht
  generalize hPt:P*t=Pt at ht
  have w0:l0 X=0:=by unfold num al at *; omega
  have w1:l1 X=0:=by unfold num al at *; omega
  have hx:l2 X=256*P*(t-T*(l3 X)):=kU (B:=18446744073709551616) (by rw [hPt];unfold num al at *; omega) eT
  have rm:=iA hx eT h2.2 p0 b1
  simp only [List.getD_cons_zero,List.getD_cons_succ,List.set_cons_zero,List.set_cons_succ]
  refine ⟨h2.1,z0,rm,?_⟩
  rw [show b*(340282366920938463463374607431768211456*P)=340282366920938463463374607431768211456*(b*P) by rw [Int.mul_left_comm]]
  generalize b*P=z at *
  have hX':X+340282366920938463463374607431768211456*z=num (l0 X) (l1 X) (l2 X+z) (l3 X):=by unfold num at *; omega
  obtain ⟨r0,r1,r2,r3⟩:=aZ h0 h1 (⟨by have:=h2.1;omega,rm⟩:al (l2 X+z)) h3 hX'
  rw [r0,r1,r2,r3]
 ·rw [h] at ht ⊢
  rw [show (2:Int) ^ (64*3)=6277101735386680763835789423207666416102355444464034512896 by decide] at ht ⊢
  rw [show 6277101735386680763835789423207666416102355444464034512896*P*256*t=6277101735386680763835789423207666416102355444464034512896*(256*(P*t)) by rw [Int.mul_assoc,Int.mul_assoc,Int.mul_left_comm P 256 t]] at ht
  generalize hPt:P*t=Pt at ht
  have w0:l0 X=0:=by unfold num al at *; omega
  have w1:l1 X=0:=by unfold num al at *; omega
  have w2:l2 X=0:=by unfold num al at *; omega
  have hx:l3 X=256*P*(t-T*0):=kU (B:=18446744073709551616) (by rw [hPt];unfold num al at *; omega) eT
  have rm:=iA hx eT h3.2 p0 b1
  simp only [List.getD_cons_zero,List.getD_cons_succ,List.set_cons_zero,List.set_cons_succ]
  refine ⟨h3.1,z0,rm,?_⟩
  rw [show b*(6277101735386680763835789423207666416102355444464034512896*P)=6277101735386680763835789423207666416102355444464034512896*(b*P) by rw [Int.mul_left_comm]]
  generalize b*P=z at *
  have hX':X+6277101735386680763835789423207666416102355444464034512896*z=num (l0 X) (l1 X) (l2 X) (l3 X+z):=by unfold num at *; omega
  obtain ⟨r0,r1,r2,r3⟩:=aZ h0 h1 h2 (⟨by have:=h3.1;omega,rm⟩:al (l3 X+z)) hX'
  rw [r0,r1,r2,r3]
end Go.Proofs.YtnnnaajgjniiaaaGreatDoor
