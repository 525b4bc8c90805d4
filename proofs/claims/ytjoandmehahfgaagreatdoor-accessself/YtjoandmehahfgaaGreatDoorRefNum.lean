import Derived.Test.YtjoandmehahfgaaGreatDoorMulNum
import Derived.Test.YtjoandmehahfgaaGreatDoorNum
namespace Go.Proofs.YtjoandmehahfgaaGreatDoor
def vd:List Int→Int
 | []=>0
 | x :: xs=>x+4294967296*vd xs
theorem getD_set_ne {l:List Int} {i t:Nat} (h:t≠i) (v:Int):(l.set i v).getD t 0=l.getD t 0:=by
 simp [List.getD,List.getElem?_set_ne (Ne.symm h)]
namespace EC
def colK (c:Nat):Nat:=c%2+18446744073709551616*(c/2%2)+340282366920938463463374607431768211456*(c/4%2)+6277101735386680763835789423207666416102355444464034512896*(c/8%2)
end EC
def aAt (a:Int) (i:Nat):Nat:=(l0 a).toNat/2 ^ i+18446744073709551616*((l1 a).toNat/2 ^ i)+340282366920938463463374607431768211456*((l2 a).toNat/2 ^ i)+6277101735386680763835789423207666416102355444464034512896*((l3 a).toNat/2 ^ i)
def bAt (b:Nat) (i:Nat):Nat:=b/2 ^ (4*((i+3)/4))*2 ^ (4*((i+3)/4)-i)
def mp (a:Int) (i:Nat):Nat:=(l0 a).toNat/2 ^ i%2+2*((l1 a).toNat/2 ^ i%2)+4*((l2 a).toNat/2 ^ i%2)+8*((l3 a).toNat/2 ^ i%2)
theorem tV (a:Int) (i:Nat):mp a i<16:=by
 unfold mp
 have h1:=Nat.mod_lt ((l0 a).toNat/2 ^ i) (show 0<2 by decide)
 have h2:=Nat.mod_lt ((l1 a).toNat/2 ^ i) (show 0<2 by decide)
 have h3:=Nat.mod_lt ((l2 a).toNat/2 ^ i) (show 0<2 by decide)
 have h4:=Nat.mod_lt ((l3 a).toNat/2 ^ i) (show 0<2 by decide)
 omega
theorem Dw {a b c d:Nat} (ha:a<2) (hb:b<2) (hc:c<2) (hd:d<2):EC.colK (a+2*b+4*c+8*d)=a+18446744073709551616*b+340282366920938463463374607431768211456*c+6277101735386680763835789423207666416102355444464034512896*d:=by
 unfold EC.colK
 have e1:(a+2*b+4*c+8*d)%2=a:=by omega
 have e2:(a+2*b+4*c+8*d)/2%2=b:=by omega
 have e3:(a+2*b+4*c+8*d)/4%2=c:=by omega
 have e4:(a+2*b+4*c+8*d)/8%2=d:=by omega
 rw [e1,e2,e3,e4]
theorem kd (x i:Nat):x/2 ^ i=2*(x/2 ^ (i+1))+x/2 ^ i%2:=by
 have:x/2 ^ (i+1)=x/2 ^ i/2:=by rw [Nat.pow_succ,Nat.div_div_eq_div_mul]
 rw [this];omega
theorem qw (a:Int) (i:Nat):aAt a i=2*aAt a (i+1)+EC.colK (mp a i):=by
 have h1:=Nat.mod_lt ((l0 a).toNat/2 ^ i) (show 0<2 by decide)
 have h2:=Nat.mod_lt ((l1 a).toNat/2 ^ i) (show 0<2 by decide)
 have h3:=Nat.mod_lt ((l2 a).toNat/2 ^ i) (show 0<2 by decide)
 have h4:=Nat.mod_lt ((l3 a).toNat/2 ^ i) (show 0<2 by decide)
 unfold mp
 rw [Dw h1 h2 h3 h4]
 unfold aAt
 have k1:=kd (l0 a).toNat i
 have k2:=kd (l1 a).toNat i
 have k3:=kd (l2 a).toNat i
 have k4:=kd (l3 a).toNat i
 generalize (l0 a).toNat/2 ^ i%2=r1 at *
 generalize (l1 a).toNat/2 ^ i%2=r2 at *
 generalize (l2 a).toNat/2 ^ i%2=r3 at *
 generalize (l3 a).toNat/2 ^ i%2=r4 at *
 omega
theorem gI {x:Int} (h:aj x) {i:Nat} (hi:64≤i):x.toNat/2 ^ i=0:=by
 apply Nat.div_eq_of_lt
 have h1:x.toNat<2 ^ 64:=by obtain ⟨a,b⟩:=h;omega
 exact Nat.lt_of_lt_of_le h1 (Nat.pow_le_pow_right (by decide) hi)
theorem ke (a:Int) {i:Nat} (hi:64≤i):aAt a i=0:=by
 unfold aAt
 rw [gI (bW a) hi,gI (bX a) hi,gI (bY a) hi,gI (cf a) hi]
theorem xy {a:Int} (h:Num a):aAt a 0=a.toNat:=by
 unfold aAt l0 l1 l2 l3
 obtain ⟨h0,h1⟩:=h
 simp only [Nat.pow_zero,Nat.div_one]
 omega
theorem xz (b:Nat):bAt b 0=b:=by unfold bAt;simp
theorem zY {b:Nat} (h:b<2 ^ 256):bAt b 256=0:=by
 unfold bAt
 rw [Nat.div_eq_of_lt (by simpa using h),Nat.zero_mul]
theorem oS (b:Nat) {i:Nat} (hi:i%4=0):bAt b i=2*bAt b (i+1)+b/2 ^ i%16:=by
 unfold bAt
 have e1:4*((i+3)/4)=i:=by omega
 have e2:4*((i+1+3)/4)=i+4:=by omega
 rw [e1,e2,show i+4-(i+1)=3 by omega,show i-i=0 by omega,Nat.pow_add,←Nat.div_div_eq_div_mul]
 simp only [Nat.pow_zero,Nat.mul_one,Nat.reducePow]
 omega
theorem oT (b:Nat) {i:Nat} (hi:i%4≠0):bAt b i=2*bAt b (i+1):=by
 unfold bAt
 have e1:4*((i+1+3)/4)=4*((i+3)/4):=by omega
 have hle:i+1≤4*((i+3)/4):=by omega
 rw [e1,show 4*((i+3)/4)-i=(4*((i+3)/4)-(i+1))+1 by omega,Nat.pow_succ,←Nat.mul_assoc,Nat.mul_comm 2]
def xA (b:Int) (k:Nat):Int:=if k=0 then l0 b else if k=1 then l1 b else if k=2 then l2 b else l3 b
theorem nib (x r:Nat) {m:Nat} (hr:r+4≤m):x%2 ^ m/2 ^ r%16=x/2 ^ r%16:=by
 have e:2 ^ m=2 ^ r*(16*2 ^ (m-r-4)):=by
  rw [show (16:Nat)=2 ^ 4 by decide,←Nat.pow_add,←Nat.pow_add];congr 1;omega
 rw [e,Nat.mod_mul_right_div_self,Nat.mod_mul_right_mod]
theorem sg {b:Int} (h:Num b) {k:Nat} (hk:k<4):(xA b k).toNat=b.toNat/2 ^ (64*k)%2 ^ 64:=by
 obtain ⟨n,rfl⟩:=Int.eq_ofNat_of_zero_le h.1
 have hc:k=0∨k=1∨k=2∨k=3:=by omega
 rcases hc with rfl|rfl|rfl|rfl
 ·show (l0 n).toNat=_;unfold l0;simp only [Nat.mul_zero,Nat.pow_zero,Nat.div_one,Nat.reducePow];omega
 ·show (l1 n).toNat=_;unfold l1;simp only [Nat.mul_one,Nat.reducePow];omega
 ·show (l2 n).toNat=_;unfold l2;simp only [Nat.reduceMul,Nat.reducePow];omega
 ·show (l3 n).toNat=_;unfold l3;simp only [Nat.reduceMul,Nat.reducePow];omega
def ge (b:Int) (i:Nat):Nat:=(xA b (i/64)).toNat/2 ^ (i%64)%16
theorem tW {b:Int} (h:Num b) {i:Nat} (hi:i<256) (h4:i%4=0):ge b i=b.toNat/2 ^ i%16:=by
 unfold ge
 rw [sg h (by omega),nib _ _ (by omega),Nat.div_div_eq_div_mul,←Nat.pow_add,show 64*(i/64)+i%64=i by omega]
theorem tX (b:Int) (i:Nat):ge b i<16:=Nat.mod_lt _ (by decide)
end Go.Proofs.YtjoandmehahfgaaGreatDoor
