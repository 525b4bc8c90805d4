import Derived.Test.YtnnnaajgjniiaaaGreatDoorSTx
import Derived.Test.YtnnnaajgjniiaaaGreatDoorENum
namespace Go.Proofs.YtnnnaajgjniiaaaGreatDoor
open Go.RowKit Go.Sort
noncomputable def ivZ (M:List (BitVec 8)):List Int:=M.map S.Y
theorem kY (M:List (BitVec 8)):(ivZ M).length=M.length:=by simp [ivZ]
theorem xh {M:List (BitVec 8)} {i:Nat} (h:i<M.length):(ivZ M).getD i 0=S.Y (M.getD i 0):=by
 simp [ivZ,List.getD,h]
theorem jD (M:List (BitVec 8)):dR (ivZ M):=fun i=>by
 by_cases h:i<M.length
 ·rw [xh h];exact ⟨S.Y_lo _,S.Y_hi _⟩
 ·have:(ivZ M).getD i 0=0:=by simp [ivZ,List.getD,List.getElem?_eq_none (Nat.le_of_not_lt h)]
  rw [this];decide
def bvZ (l:List Int):List (BitVec 8):=l.map (BitVec.ofInt 8)
theorem yU (l:List Int):(bvZ l).length=l.length:=by simp [bvZ]
theorem Bc {z:Int} (h0:0≤z) (h1:z<256):S.Y (BitVec.ofInt 8 z)=z:=by
 rw [S.Y_eq,BitVec.toNat_ofInt]
 omega
theorem Bd {l:List Int} (h:dR l) {i:Nat} (hi:i<l.length):S.Y ((bvZ l).getD i 0)=l.getD i 0:=by
 have hm:=h i
 rw [List.getD,List.getElem?_eq_getElem hi] at hm
 rw [bvZ,List.getD,List.getElem?_map,List.getElem?_eq_getElem hi,List.getD,List.getElem?_eq_getElem hi]
 exact Bc hm.1 hm.2
theorem qe {l:List Int} (h:dR l):S.byts (bvZ l)=l.map fun z=>Value.int .u8 z:=by
 apply List.ext_getElem? fun i=>?_
 by_cases hi:i<l.length
 ·have:=Bd h hi
  rw [List.getD,List.getD,List.getElem?_eq_getElem hi,bvZ,List.getElem?_map,List.getElem?_eq_getElem hi] at this
  rw [S.byts,bvZ,List.getElem?_map,List.getElem?_map,List.getElem?_map,List.getElem?_eq_getElem hi]
  simpa using this
 ·simp [S.byts,bvZ,List.getElem?_eq_none (Nat.le_of_not_lt hi)]
theorem dB (X T:List (BitVec 8)):(S.hmacL X T).length=32:=by rw [S.hmacL,S.shaL_len]
structure KvZ where
 k:List (BitVec 8)
 v:List (BitVec 8)
def aK (s:KvZ) (T:List (BitVec 8)):KvZ:=⟨S.hmacL s.k (s.v++T),S.hmacL (S.hmacL s.k (s.v++T)) s.v⟩
def dq (s:KvZ):KvZ:=⟨s.k,S.hmacL s.k s.v⟩
def kvZ (s:KvZ):Nat→KvZ
 | 0=>s
 | 1=>dq s
 | i+2=>dq (aK (kvZ s (i+1)) [0])
def xi (s:KvZ) (i:Nat):KvZ:=if i=0 then s else aK (kvZ s i) [0]
theorem mu (s:KvZ) (i:Nat):kvZ s (i+1)=dq (xi s i):=by
 cases i with
 | zero=>rfl
 | succ i=>rfl
def KvZ.ok (s:KvZ):Prop:=s.k.length=32∧s.v.length=32
theorem dH (s:KvZ) (T:List (BitVec 8)):(aK s T).ok:=⟨dB _ _,dB _ _⟩
noncomputable def aT (s:KvZ) (i:Nat):Int:=aS (ivZ (kvZ s (i+1)).v) 32
theorem xj (M:List (BitVec 8)):Num (aS (ivZ M) 32):=by
 have:=cS (jD M) 32
 exact ⟨this.1,by have:=this.2;simpa using this⟩
theorem mv (s:KvZ) (i:Nat):Num (aT s i):=xj _
def um (d e:List (BitVec 8)):KvZ:=aK (aK ⟨List.replicate 32 0,List.replicate 32 1⟩ ([0]++d++e)) ([1]++d++e)
theorem yV (d e:List (BitVec 8)):(um d e).ok:=dH _ _
def db (C:Nat→Int):Nat→Nat
 | 0=>0
 | n+1=>if cM (C n) then db C n+1 else db C n
theorem sC (C:Nat→Int):∀ n,db C n≤n
 | 0=>Nat.le_refl _
 | n+1=>by
  have:=sC C n
  rw [db]
  split<;>omega
def pkZ (C:Nat→Int) (w:Nat):Nat→Option Int
 | 0=>none
 | n+1=>(pkZ C w n).or (if cM (C n)=true∧db C n=w then some (C n) else none)
theorem xk {C:Nat→Int} {w n:Nat} {x:Int} (h:pkZ C w n=some x):pkZ C w (n+1)=some x:=by rw [pkZ,h];rfl
theorem mw {C:Nat→Int} {w n:Nat} {x:Int} (h:pkZ C w n=some x):∀ d,pkZ C w (n+d)=some x
 | 0=>h
 | d+1=>xk (mw h d)
theorem qf {C:Nat→Int} {w n:Nat} (h:pkZ C w n=none) (hf:cM (C n)=true) (hc:db C n=w):pkZ C w (n+1)=some (C n):=by
 rw [pkZ,h,if_pos ⟨hf,hc⟩];rfl
theorem nJ {C:Nat→Int} {w n:Nat} (h:pkZ C w n=none) (hf:cM (C n)=false):pkZ C w (n+1)=none:=by
 rw [pkZ,h,if_neg (fun k=>by rw [hf] at k;exact absurd k.1 (by decide))];rfl
theorem nM {C:Nat→Int} {w n:Nat} (h:pkZ C w n=none) (hc:db C n≠w):pkZ C w (n+1)=none:=by
 rw [pkZ,h,if_neg (fun k=>hc k.2)];rfl
theorem sD {C:Nat→Int} (hC:∀ i,Num (C i)) {w:Nat} {x:Int}:∀ {n:Nat},pkZ C w n=some x→Num x
 | 0,h=>by simp [pkZ] at h
 | n+1,h=>by
  rw [pkZ] at h
  cases e:pkZ C w n with
  | some y=>rw [e] at h;exact sD hC (n:=n) (by rw [e];exact h)
  | none =>
   rw [e] at h
   by_cases k:cM (C n)=true∧db C n=w
   ·rw [if_pos k] at h
    have:C n=x:=by simpa using h
    rw [←this];exact hC n
   ·rw [if_neg k] at h
    simp at h
end Go.Proofs.YtnnnaajgjniiaaaGreatDoor
