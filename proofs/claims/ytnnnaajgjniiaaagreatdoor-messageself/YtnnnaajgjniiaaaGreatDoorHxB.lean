import Derived.Test.YtnnnaajgjniiaaaGreatDoorLeaf
import Derived.Deep.LoopGhost
import Derived.Laws.IdiomStrings
import Derived.Test.YtnnnaajgjniiaaaGreatDoorNum
namespace Go.Proofs.YtnnnaajgjniiaaaGreatDoor
open Go.RowKit
def bt (s:ByteArray) (i:Nat):Int:=((s.data.toList.getD i 0).toNat:Int)
def tl (s:ByteArray):ByteArray:=s.extract 2 s.size
def dc (s:ByteArray) (o:Nat):Nat→Int
 | 0=>0
 | n+1=>dc s o n*10+(bt s (o+n)-48)
def DgA (s:ByteArray):Prop:=∀ i,i<s.size→48≤bt s i∧bt s i≤57
noncomputable def pe (s:ByteArray):Int:=by classical exact if DgA s∧s.size≠0 then (if 1<s.size∧bt s 0=48 then 13 else if dc s 0 s.size<115792089237316195423570985008687907853269984665640564039457584007913129639936 then 0 else 11) else 12
noncomputable def pv (s:ByteArray):Int:=by classical exact if pe s=0 then dc s 0 s.size else 0
def db (v:Int):UInt8:=UInt8.ofNat (48+v.toNat)
def tx (x:Int):Nat→List UInt8
 | 0=>[]
 | k+1=>db (x/10 ^ k%10) :: tx x k
def xP (x:Int) (k:Nat):Prop:=1≤k∧x/10 ^ k=0∧(k=1∨x/10 ^ (k-1)≠0)
theorem ph {x:Int}:∀ n:Nat,x/10 ^ (n+1)=0→∃ k,xP x k∧k≤n+1
 | 0,h=>⟨1,⟨Nat.le_refl _,h,.inl rfl⟩,Nat.le_refl _⟩
 | n+1,h=>by
  by_cases c:x/10 ^ (n+1)=0
  ·obtain ⟨k,h1,h2⟩:=ph n c
   exact ⟨k,h1,by omega⟩
  ·exact ⟨n+2,⟨by omega,h,.inr c⟩,Nat.le_refl _⟩
end Go.Proofs.YtnnnaajgjniiaaaGreatDoor
