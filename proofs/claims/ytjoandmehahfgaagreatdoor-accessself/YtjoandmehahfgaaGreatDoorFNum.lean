import Derived.Test.YtjoandmehahfgaaGreatDoorNum
namespace Go.Proofs.YtjoandmehahfgaaGreatDoor
structure Fit (m c:Int):Prop where
 low:57896044618658097711785492504343953926634992332820282019728792003956564819968≤m
 pos:0<c
 sum:m+c=115792089237316195423570985008687907853269984665640564039457584007913129639936
theorem Fit.num {m c:Int} (h:Fit m c):Num m:=by obtain ⟨_,_,_⟩:=h;unfold Num;omega
theorem Fit.numc {m c:Int} (h:Fit m c):Num c:=by obtain ⟨_,_,_⟩:=h;unfold Num;omega
theorem Fit.pos' {m c:Int} (h:Fit m c):0<m:=by obtain ⟨_,_,_⟩:=h;omega
def ab (m n:Int):Int:=n%m
theorem ag {m c:Int} (h:Fit m c) (n:Int):Num (ab m n):=by
 obtain ⟨h1,h2,h3⟩:=h
 have a:=Int.emod_nonneg n (show m≠0 by omega)
 have b:=Int.emod_lt_of_pos n (show 0<m by omega)
 unfold ab Num;omega
theorem dl {m c:Int} (h:Fit m c) (n:Int):0≤ab m n∧ab m n<m:=by
 obtain ⟨h1,h2,h3⟩:=h
 exact ⟨Int.emod_nonneg n (show m≠0 by omega),Int.emod_lt_of_pos n (show 0<m by omega)⟩
theorem wV {m c n:Int} (h:Fit m c) (hn:Num n):(n<m→ab m n=n)∧(m≤n→ab m n=fN n m∧fW n m=0):=by
 obtain ⟨h1,h2,h3⟩:=h
 obtain ⟨a,b⟩:=hn
 refine ⟨fun hlt=>Int.emod_eq_of_lt a hlt,fun hle=>⟨?_,?_⟩⟩
 ·have e:n%m=(n-m)%m:=by rw [Int.sub_emod,Int.emod_self,Int.sub_zero,Int.emod_emod_of_dvd _ (Int.dvd_refl m)]
  unfold ab fN
  rw [e,Int.emod_eq_of_lt (by omega) (by omega),Int.emod_eq_of_lt (by omega) (by omega)]
 ·unfold fW;rw [if_neg (by omega)]
def dN (h l c:Int):Int:=(h*c+l)/115792089237316195423570985008687907853269984665640564039457584007913129639936
def dn (h l c:Int):Int:=(h*c+l)%115792089237316195423570985008687907853269984665640564039457584007913129639936
theorem oI (h l c:Int):Num (dn h l c):=⟨by unfold dn;omega,by unfold dn;omega⟩
theorem mL {m c h l:Int} (hf:Fit m c) (hh:Num h) (hl:Num l) :
  Num (dN h l c)∧fM (loN h c) l=dn h l c∧fM (hiN h c) (fm (loN h c) l)=dN h l c∧aj (fm (loN h c) l):=by
 obtain ⟨h1,h2,h3⟩:=hf
 obtain ⟨a,b⟩:=hh;obtain ⟨a',b'⟩:=hl
 have u:0≤h*c∧h*c≤115792089237316195423570985008687907853269984665640564039457584007913129639935*57896044618658097711785492504343953926634992332820282019728792003956564819968 :=
  ⟨Int.mul_nonneg (by omega) (by omega),Int.mul_le_mul (by omega) (by omega) (by omega) (by omega)⟩
 unfold Num dN dn fM loN hiN fm aj
 generalize h*c=p at *
 refine ⟨by omega,by omega,by omega,by omega⟩
theorem uK {m c h l:Int} (hf:Fit m c) (hh:Num h) (hz:h≠0) :
  (dN h l c*115792089237316195423570985008687907853269984665640564039457584007913129639936+dn h l c)%m=(h*115792089237316195423570985008687907853269984665640564039457584007913129639936+l)%m ∧
  dN h l c*115792089237316195423570985008687907853269984665640564039457584007913129639936+dn h l c<h*115792089237316195423570985008687907853269984665640564039457584007913129639936+l:=by
 obtain ⟨h1,h2,h3⟩:=hf
 obtain ⟨a,b⟩:=hh
 have e:dN h l c*115792089237316195423570985008687907853269984665640564039457584007913129639936+dn h l c=h*c+l:=by
  unfold dN dn;generalize h*c=p;omega
 have e2:h*115792089237316195423570985008687907853269984665640564039457584007913129639936+l=h*c+l+m*h:=by
  rw [←h3,Int.mul_add,Int.mul_comm h m];omega
 have e3:0<m*h:=Int.mul_pos (by omega) (by omega)
 rw [e,e2,Int.add_mul_emod_self_left]
 exact ⟨rfl,by omega⟩
def b8 (h l:Int):Int:=h*115792089237316195423570985008687907853269984665640564039457584007913129639936+l
theorem wW (x y:Int):b8 (hiN x y) (loN x y)=x*y:=by unfold b8 hiN loN;generalize x*y=p;omega
theorem lU {h l:Int} (hh:Num h) (hl:Num l):0≤b8 h l:=by
 obtain ⟨_,_⟩:=hh;obtain ⟨_,_⟩:=hl;unfold b8;omega
theorem uL {m c h l:Int} (hf:Fit m c) (hh:Num h) (hz:h≠0) :
  b8 (dN h l c) (dn h l c)%m=b8 h l%m∧b8 (dN h l c) (dn h l c)<b8 h l:=uK hf hh hz
theorem uM (l:Int):b8 0 l=l:=by unfold b8;omega
def pN:Int:=115792089237316195423570985008687907853269984665640564039457584007908834671663
def nN:Int:=115792089237316195423570985008687907852837564279074904382605163141518161494337
def pC:Int:=4294968273
def nC:Int:=432420386565659656852420866394968145599
theorem am:Fit pN pC:=⟨by decide,by decide,by decide⟩
theorem fX:Fit nN nC:=⟨by decide,by decide,by decide⟩
theorem zK:l0 pN=18446744069414583343∧l1 pN=18446744073709551615∧l2 pN=18446744073709551615∧l3 pN=18446744073709551615:=by decide
theorem wX:l0 pC=4294968273∧l1 pC=0∧l2 pC=0∧l3 pC=0:=by decide
theorem zL:l0 nN=13822214165235122497∧l1 nN=13451932020343611451∧l2 nN=18446744073709551614∧l3 nN=18446744073709551615:=by decide
theorem wY:l0 nC=4624529908474429119∧l1 nC=4994812053365940164∧l2 nC=1∧l3 nC=0:=by decide
end Go.Proofs.YtjoandmehahfgaaGreatDoor
namespace Go.Proofs.YtjoandmehahfgaaGreatDoor.K
def turnsN:List Nat:=[0,1,62,28,27,36,44,6,55,20,3,10,43,25,39,41,45,15,21,8,18,2,61,56,14]
def D4:List Nat:=[0,6,12,18,24,3,9,10,16,22,1,7,13,19,20,4,5,11,17,23,2,8,14,15,21]
def marksN:List (BitVec 64):=[1,32898,9223372036854808714,9223372039002292224,32907,2147483649,9223372039002292353,9223372036854808585,138,136,2147516425,2147483658,2147516555,9223372036854775947,9223372036854808713,9223372036854808579,9223372036854808578,9223372036854775936,32778,9223372039002259466,9223372039002292353,9223372036854808704,2147483649,9223372039002292232]
def rY (L:List (BitVec 64)) (x:Nat):BitVec 64:=L.getD x 0 ^^^ L.getD (x+5) 0 ^^^ L.getD (x+10) 0 ^^^ L.getD (x+15) 0 ^^^ L.getD (x+20) 0
def uN (L:List (BitVec 64)) (x:Nat):BitVec 64:=rY L ((x+4)%5) ^^^ (rY L ((x+1)%5)).rotateLeft 1
def dO (L:List (BitVec 64)) (i:Nat):BitVec 64:=(L.getD i 0 ^^^ uN L (i%5)).rotateLeft (turnsN.getD i 0)
def B5 (L:List (BitVec 64)) (p:Nat):BitVec 64:=dO L (D4.getD p 0)
def B8 (f:Nat→BitVec 64) (p:Nat):BitVec 64:=f p ^^^ (~~~ f ((p%5+1)%5+5*(p/5)) &&& f ((p%5+2)%5+5*(p/5)))
def rnd (L:List (BitVec 64)) (m:BitVec 64):List (BitVec 64):=((List.range 25).map (B8 (B5 L))).set 0 (B8 (B5 L) 0 ^^^ m)
def fU (L:List (BitVec 64)):Nat→List (BitVec 64)
 | 0=>L
 | n+1=>rnd (fU L n) (marksN.getD n 0)
def jt (L:List (BitVec 64)):List (BitVec 64):=fU L 24
theorem pz (L:List (BitVec 64)) (m:BitVec 64):(rnd L m).length=25:=by simp [rnd]
theorem wZ {L:List (BitVec 64)} (h:L.length=25):∀ n,(fU L n).length=25
 | 0=>h
 | _+1=>pz _ _
theorem jR {L:List (BitVec 64)} (h:L.length=25):(jt L).length=25:=wZ h 24
theorem Dj {α:Type} {l:List α} (h:l.length=25):∃ x0 x1 x2 x3 x4 x5 x6 x7 x8 x9 x10 x11 x12 x13 x14 x15 x16 x17 x18 x19 x20 x21 x22 x23 x24,l=[x0,x1,x2,x3,x4,x5,x6,x7,x8,x9,x10,x11,x12,x13,x14,x15,x16,x17,x18,x19,x20,x21,x22,x23,x24]:=by
 match l,h with
 | [x0,x1,x2,x3,x4,x5,x6,x7,x8,x9,x10,x11,x12,x13,x14,x15,x16,x17,x18,x19,x20,x21,x22,x23,x24],_=>exact ⟨x0,x1,x2,x3,x4,x5,x6,x7,x8,x9,x10,x11,x12,x13,x14,x15,x16,x17,x18,x19,x20,x21,x22,x23,x24,rfl⟩
end Go.Proofs.YtjoandmehahfgaaGreatDoor.K
