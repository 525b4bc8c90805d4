import Derived.Test.YtjoandmehahfgaaGreatDoorMul2
import Derived.Deep.MidRow
import Derived.Lib.LazyBuf
import Derived.Test.YtjoandmehahfgaaGreatDoorMulNum
namespace Go.Proofs.YtjoandmehahfgaaGreatDoor
open Go.RowKit
def xh (W:World) (b:Nat) (l:List Int):Prop:=∀ i,i<l.length→W.cell? ⟨b,i,none⟩=some (.int .u8 (l.getD i 0))
theorem xh.lt {W:World} {b:Nat} {l:List Int} (h:xh W b l) (hl:0<l.length):b<W.heap.size:=World.block_lt_of_cell? W ⟨b,0,none⟩ (h 0 hl)
def Bts (W:World) (b:Nat) (l:List Int):Prop:=xh W b l∧ai W b l.length
theorem Bts.keep {W w1:World} {b:Nat} {l:List Int} (h:Bts W b l) (hl:0<l.length) (hb:Below W.heap.size W w1):Bts w1 b l:=⟨fun i hi=>cell_keep hb (h.1 i hi),h.2.keep hb (h.1.lt hl)⟩
theorem Bts.alloc {W:World} {b:Nat} {l:List Int} (h:Bts W b l) (hl:0<l.length) (o:Obj):Bts (W.alloc o) b l:=h.keep hl ((Below.refl _ _).alloc (Nat.le_refl _) o)
theorem Bts.new {W:World} {b:Nat} (l:List Int) (t:TypeId) (e:b=W.heap.size):Bts (W.alloc (.cells (l.map (Value.int .u8)).toArray t)) b l:=by
 subst e
 refine ⟨?_,ai.new _ _ _ _⟩
 intro i hi
 rw [World.cell?_alloc_mark]
 simp [List.getElem?_map,List.getD,List.getElem?_eq_getElem hi]
theorem Bts.set {W:World} {b:Nat} {l:List Int} (h:Bts W b l) (i:Nat) (hi:i<l.length) (v:Int):Bts (W.setCell ⟨b,i,none⟩ (.int .u8 v)) b (l.set i v):=by
 refine ⟨?_,by rw [List.length_set];exact h.2.set _ _⟩
 intro j hj
 simp at hj
 by_cases e:i=j
 ·subst e
  rw [World.cell?_setCell_same _ _ _ (h.1 i hi)]
  simp [List.getD,hi]
 ·have ne:(⟨b,i,none⟩:Addr)≠⟨b,j,none⟩:=by first|(simp;done)|(simp;omega)
  rw [World.cell?_setCell_other _ _ _ _ ne,h.1 j hj]
  simp [List.getD,List.getElem?_set_ne e]
theorem Bts.other {W:World} {b b' i:Nat} {l:List Int} (h:Bts W b l) (ne:b'≠b) (v:Value):Bts (W.setCell ⟨b',i,none⟩ v) b l:=⟨fun j hj=>by rw [World.cell?_setCell_far _ _ _ _ ne];exact h.1 j hj,h.2.set _ _⟩
theorem Cf {l l':List Int} (h:l.length=l'.length) (e:∀ t,t<l.length→l.getD t 0=l'.getD t 0):l=l':=by
 apply List.ext_getElem h
 intro t h1 h2
 have:=e t h1
 simpa [List.getD,h1,h2] using this
theorem zP {l:List Int} {i t:Nat} (h:t≠i) (v:Int):(l.set i v).getD t 0=l.getD t 0:=by
 simp [List.getD,List.getElem?_set_ne (Ne.symm h)]
theorem zQ {l:List Int} {i:Nat} (h:i<l.length) (v:Int):(l.set i v).getD i 0=v:=by
 simp [List.getD,h]
theorem xh.range {W:World} {b:Nat} {l:List Int} (h:xh W b l):W.rangeAt b 0 (l.map (Value.int .u8)):=by
 intro j v hv
 rw [List.getElem?_map] at hv
 obtain ⟨x,hx,rfl⟩:=Option.map_eq_some_iff.1 hv
 have hj:j<l.length:=(List.getElem?_eq_some_iff.1 hx).1
 rw [Nat.zero_add,h j hj]
 simp [List.getD,hx]
theorem Bts.there {W:World} {b:Nat} {l:List Int} (h:Bts W b l) {k:Nat} (e:l.length=k):W.there b 0 k:=by
 subst e
 intro j hj
 rw [Nat.zero_add]
 exact ⟨by rw [h.1 j hj];rfl,h.2 j hj⟩
theorem aU (l:List Int):(l.map (Value.int .u8)).toArray.all (·.oneCell')=true:=all_oneCell_toArray (by
 intro v hv
 obtain ⟨x,_,rfl⟩:=List.mem_map.1 hv
 rfl)
def aK (n:Int):List Int:=(List.range 32).map fun t=>n/256 ^ (31-t)%256
theorem aX (n:Int):(aK n).length=32:=by simp [aK]
theorem fY (n:Int) {t:Nat} (h:t<32):(aK n).getD t 0=n/256 ^ (31-t)%256:=by
 simp [aK,List.getD,List.getElem?_map,List.getElem?_range h]
theorem jV {y:Int} {s:Nat} (hs:s≤56):y%18446744073709551616/2 ^ s%256=y/2 ^ s%256:=by
 obtain ⟨T,eT⟩:∃ T:Int,2 ^ s*(256*T)=18446744073709551616:=⟨2 ^ (56-s),by
  rw [show (256:Int)=2 ^ 8 by decide,←Int.pow_add,←Int.pow_add,show s+(8+(56-s))=64 by omega];decide⟩
 have p0:(0:Int)<2 ^ s:=Int.pow_pos (by decide)
 rw [Int.emod_def y 18446744073709551616]
 generalize y/18446744073709551616=q
 rw [←eT,Int.mul_assoc,Int.sub_eq_add_neg,←Int.mul_neg,Int.add_mul_ediv_left _ _ (by omega),Int.mul_assoc 256,←Int.mul_neg,Int.add_mul_emod_self_left]
theorem uR {n:Int} {i:Nat} (hi:i<32):[l0 n,l1 n,l2 n,l3 n].getD (i/8) 0/2 ^ (i%8*8)%256=n/256 ^ i%256:=by
 have e256:(256:Int) ^ i=2 ^ (8*i):=by rw [show (256:Int)=2 ^ 8 by decide,←Int.pow_mul]
 rw [e256]
 have hs:i%8*8≤56:=by omega
 rcases (show i/8=0∨i/8=1∨i/8=2∨i/8=3 by omega) with h|h|h|h
 ·rw [h];show l0 n/_%256=_;unfold l0;rw [jV hs,show 8*i=i%8*8 by omega]
 ·rw [h];show l1 n/_%256=_;unfold l1;rw [jV hs,Int.ediv_ediv_of_nonneg (by decide),show (18446744073709551616:Int)=2 ^ 64 by decide,←Int.pow_add,show 64+i%8*8=8*i by omega]
 ·rw [h];show l2 n/_%256=_;unfold l2;rw [jV hs,Int.ediv_ediv_of_nonneg (by decide),show (340282366920938463463374607431768211456:Int)=2 ^ 128 by decide,←Int.pow_add,show 128+i%8*8=8*i by omega]
 ·rw [h];show l3 n/_%256=_;unfold l3;rw [jV hs,Int.ediv_ediv_of_nonneg (by decide),show (6277101735386680763835789423207666416102355444464034512896:Int)=2 ^ 192 by decide,←Int.pow_add,show 192+i%8*8=8*i by omega]
def bF (A:List Int):Nat→Int
 | 0=>0
 | i+1=>bF A i+A.getD (A.length-1-i) 0*256 ^ i
def iu (A:List Int):Prop:=∀ i,0≤A.getD i 0∧A.getD i 0<256
theorem gz {A:List Int} (h:iu A):∀ i:Nat,0≤bF A i∧bF A i<256 ^ i
 | 0=>by simp [bF]
 | i+1=>by
  obtain ⟨a,b⟩:=gz h i
  obtain ⟨c,d⟩:=h (A.length-1-i)
  simp only [bF,Int.pow_succ]
  have p0:(0:Int)<256 ^ i:=Int.pow_pos (by decide)
  have h1:=Int.mul_nonneg c (Int.le_of_lt p0)
  have h2:=Int.mul_le_mul_of_nonneg_right (show A.getD (A.length-1-i) 0≤255 by omega) (Int.le_of_lt p0)
  generalize A.getD (A.length-1-i) 0*256 ^ i=z at *
  omega
theorem xi {X b:Int} {i:Nat} (hi:i<32) (X0:0≤X) (X1:X<256 ^ i) (b0:0≤b) (b1:b<256) :
  0≤[l0 X,l1 X,l2 X,l3 X].getD (i/8) 0∧[l0 X,l1 X,l2 X,l3 X].getD (i/8) 0<2 ^ (i%8*8)∧0≤b*2 ^ (i%8*8)∧[l0 X,l1 X,l2 X,l3 X].getD (i/8) 0+b*2 ^ (i%8*8)<18446744073709551616 ∧
  [l0 (X+b*256 ^ i),l1 (X+b*256 ^ i),l2 (X+b*256 ^ i),l3 (X+b*256 ^ i)]=[l0 X,l1 X,l2 X,l3 X].set (i/8) ([l0 X,l1 X,l2 X,l3 X].getD (i/8) 0+b*2 ^ (i%8*8)):=by
 have hs:i%8*8≤56:=by omega
 have pl:(2:Int) ^ (i%8*8)*256≤18446744073709551616:=by
  obtain ⟨T,eT,T0⟩:∃ T:Int,2 ^ (i%8*8)*256*T=18446744073709551616∧0<T:=⟨2 ^ (56-i%8*8),by
   rw [show (256:Int)=2 ^ 8 by decide,←Int.pow_add,←Int.pow_add,show i%8*8+8+(56-i%8*8)=64 by omega];decide,Int.pow_pos (show (0:Int)<2 by decide)⟩
  have p0:(0:Int)<2 ^ (i%8*8):=Int.pow_pos (by decide)
  have:=Int.mul_le_mul_of_nonneg_left (show 1≤T by omega) (show (0:Int)≤2 ^ (i%8*8)*256 by omega)
  omega
 have p0:(0:Int)<2 ^ (i%8*8):=Int.pow_pos (by decide)
 have e256:(256:Int) ^ i=2 ^ (64*(i/8))*2 ^ (i%8*8):=by rw [show (256:Int)=2 ^ 8 by decide,←Int.pow_mul,←Int.pow_add,show 64*(i/8)+i%8*8=8*i by omega]
 rw [e256] at X1 ⊢
 clear e256
 generalize (2:Int) ^ (i%8*8)=P at *
 have z0:=Int.mul_nonneg b0 (Int.le_of_lt p0)
 have z1:=Int.mul_le_mul_of_nonneg_right (show b≤255 by omega) (Int.le_of_lt p0)
 rcases (show i/8=0∨i/8=1∨i/8=2∨i/8=3 by omega) with h|h|h|h
 ·rw [h] at X1 ⊢
  rw [show (2:Int) ^ (64*0)=1 by decide] at X1 ⊢
  rw [show b*(1*P)=1*(b*P) by rw [Int.mul_left_comm]]
  generalize b*P=z at *
  simp only [List.getD_cons_zero,List.set_cons_zero]
  unfold l0 l1 l2 l3
  refine ⟨by omega,by omega,z0,by omega,?_⟩
  simp only [List.cons.injEq,and_true]
  omega
 ·rw [h] at X1 ⊢
  rw [show (2:Int) ^ (64*1)=18446744073709551616 by decide] at X1 ⊢
  rw [show b*(18446744073709551616*P)=18446744073709551616*(b*P) by rw [Int.mul_left_comm]]
  generalize b*P=z at *
  simp only [List.getD_cons_zero,List.getD_cons_succ,List.set_cons_zero,List.set_cons_succ]
  unfold l0 l1 l2 l3
  refine ⟨by omega,by omega,z0,by omega,?_⟩
  simp only [List.cons.injEq,and_true]
  omega
 ·rw [h] at X1 ⊢
  rw [show (2:Int) ^ (64*2)=340282366920938463463374607431768211456 by decide] at X1 ⊢
  rw [show b*(340282366920938463463374607431768211456*P)=340282366920938463463374607431768211456*(b*P) by rw [Int.mul_left_comm]]
  generalize b*P=z at *
  simp only [List.getD_cons_zero,List.getD_cons_succ,List.set_cons_zero,List.set_cons_succ]
  unfold l0 l1 l2 l3
  refine ⟨by omega,by omega,z0,by omega,?_⟩
  simp only [List.cons.injEq,and_true]
  omega
 ·rw [h] at X1 ⊢
  rw [show (2:Int) ^ (64*3)=6277101735386680763835789423207666416102355444464034512896 by decide] at X1 ⊢
  rw [show b*(6277101735386680763835789423207666416102355444464034512896*P)=6277101735386680763835789423207666416102355444464034512896*(b*P) by rw [Int.mul_left_comm]]
  generalize b*P=z at *
  simp only [List.getD_cons_zero,List.getD_cons_succ,List.set_cons_zero,List.set_cons_succ]
  unfold l0 l1 l2 l3
  refine ⟨by omega,by omega,z0,by omega,?_⟩
  simp only [List.cons.injEq,and_true]
  omega
end Go.Proofs.YtjoandmehahfgaaGreatDoor
