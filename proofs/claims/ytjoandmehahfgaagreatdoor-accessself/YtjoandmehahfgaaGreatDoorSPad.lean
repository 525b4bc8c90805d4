import Derived.Test.YtjoandmehahfgaaGreatDoorSBase
set_option maxRecDepth 100000
set_option maxHeartbeats 4000000
namespace Go.Proofs.YtjoandmehahfgaaGreatDoor.S
open Go.RowKit Go.Sort
theorem Ep {n i:Nat} {P:Nat} (hP:P=8*n%18446744073709551616):IntKind.u8.wrap ((P:Int)/2 ^ (56-8*i))=Y (lb n i):=by
 rw [IntKind.wrap_u8',Y_eq,lb,BitVec.toNat_ofNat,←hP]
 simp
def fG (n i:Nat):List (BitVec 8):=128 :: (List.replicate (zn n) 0++(lbs n i++List.replicate (8-i) 0))
theorem wm {n i:Nat} (h:i≤8):(fG n i).length=zn n+9:=by simp [fG,mI];omega
theorem wo {n i:Nat} (h:i<8):(fG n i).set (1+zn n+i) (lb n i)=fG n (i+1):=by
 obtain ⟨k,hk⟩:∃ k,8-i=k+1:=⟨7-i,by omega⟩
 rw [fG,fG,hk,show 8-(i+1)=k by omega,show 1+zn n+i=(zn n+i)+1 by omega,List.set_cons_succ,List.set_append_right _ _ (by simp),List.length_replicate,Nat.add_sub_cancel_left,List.set_append_right _ _ (by rw [mI];exact Nat.le_refl _),mI,Nat.sub_self,List.replicate_succ (n:=k),List.set_cons_zero,yP,List.append_assoc]
 rfl
theorem Bf (n:Nat):(List.replicate (zn n+9) (0:BitVec 8)).set 0 128=fG n 0:=by
 rw [fG,List.replicate_succ (n:=zn n+8),List.set_cons_zero,←List.replicate_append_replicate]
 rfl
theorem Bg (n:Nat):fG n 8=lI n:=by simp [fG,lI]
theorem ti (n:Nat):List.replicate n (Value.int .u8 0)=byts (List.replicate n 0):=by
 have h:Y 0#8=0:=Y_zero
 simp [byts,h]
theorem uq (n:Nat):zn n<64:=by rw [zn];omega
def W1 (w w1:World) (m:Nat):Prop:=w1.heap[w.heap.size]?=some (.cells (List.replicate m (Value.int .u8 0)).toArray 5 (0,0))∧Below w.heap.size w w1
theorem W1.own {w w1:World} {m:Nat} (h:W1 w w1 m) (hm:m≤maxLen):w1.ownsRow w.heap.size 5 1 (.slice (some ⟨w.heap.size,0,none⟩) m m) m (byts (List.replicate m 0)):=by
 refine ⟨by rw [byts_len,List.length_replicate,Nat.mul_one],.inr ⟨w.heap.size,m,(List.replicate m (Value.int .u8 0)).toArray,rfl,Nat.le_refl _,h.1,Nat.le_refl _,hm,by simp,?_⟩⟩
 rw [Nat.mul_one,←ti]
 exact List.take_of_length_le (by simp)
theorem W1.cell {w w1:World} {m i:Nat} (h:W1 w w1 m) (hi:i<m):w1.cell? ⟨w.heap.size,i,none⟩=some (.int .u8 0):=by
 rw [cell_of_row w1 w.heap.size i _ _ _ h.1]
 simp [hi]
theorem W1.loose {w w1:World} {m:Nat} (h:W1 w w1 m) (i:Nat):w1.frozen? ⟨w.heap.size,i,none⟩=false:=frozen_of_row w1 w.heap.size i _ _ h.1
theorem W1.stored {w w1:World} {m:Nat} (h:W1 w w1 m) (hm:m≤maxLen):(w1.setCell ⟨w.heap.size,0,none⟩ (.int .u8 128)).ownsRow w.heap.size 5 1 (.slice (some ⟨w.heap.size,0,none⟩) m m) m (byts ((List.replicate m 0).set 0 128)):=by
 have y:Y 128=128:=by rw [Y_eq];rfl
 have:=((h.own hm).stored 0 (.int .u8 128)).1
 rw [←y,mS,y] at this
 exact this
def yV (w W:World) (n i:Nat):Prop:=W.ownsRow w.heap.size 5 1 (.slice (some ⟨w.heap.size,0,none⟩) (zn n+9) (zn n+9)) (zn n+9) (byts (fG n i))
theorem Bh {n:Nat} (hn:n<9223372036854775808) (w:World) :
  Calls Tryz.prog 131 #[.int .i64 (n:Int)] w fun e w'=>e = .returned (.tuple #[.slice (some ⟨w.heap.size,0,none⟩) (lI n).length (lI n).length,.int .i64 0])∧Own w.heap.size w' (.slice (some ⟨w.heap.size,0,none⟩) (lI n).length (lI n).length) (lI n)∧Below w.heap.size w w':=by
 obtain ⟨i0,hi,hz0,hz1,hz2⟩:=info_parts dE
 have z1:(119-(n:Int)%64)%64=(zn n:Int):=by rw [zn];omega
 obtain ⟨P,hP⟩:∃ P:Nat,P=8*n%18446744073709551616:=⟨_,rfl⟩
 have p1:Hid ((8*(n:Int))%18446744073709551616=(P:Int)):=by have h:(8*(n:Int))%18446744073709551616=(P:Int):=(by rw [hP];omega);exact h
 have HP:Hid (P=8*n%18446744073709551616∧n<9223372036854775808∧(119-(n:Int)%64)%64=(zn n:Int)):=⟨hP,hn,z1⟩
 have hn':(n:Int)<9223372036854775808:=by omega
 clear hP hn z1
 have n0:¬((n:Int)<0):=by omega
 go_enter Tryz.func131,Tryz.ntmps131
 go_wp2_with (at_make;refine ig _ rfl _ _ 52 rfl 5 i0 (.int .u8 0) Tryz.underlying52 hi hz0 hz1 rfl hz2 .i64 .i64 _ _ (zn n+9) (zn n+9) rfl rfl (by have h9:=HP.out.2.2;omega) (by have h9:=HP.out.2.2;omega) (Nat.le_refl _) (by have h8:=uq n;omega) ?_;rw [mR];refine aF (fun W=>W1 w W (zn n+9)) ⟨qu _ _,(Below.refl _ _).alloc (Nat.le_refl _) _⟩ ?_;intro w1 h1;have H1:Hid (W1 w w1 (zn n+9)):=h1;have g0:=h1.cell (show 0<zn n+9 by omega);have f0:=h1.loose 0;clear h1)
 have HO:Hid (yV w (w1.setCell ⟨w.heap.size,0,none⟩ (.int .u8 128)) n 0∧Below w.heap.size w (w1.setCell ⟨w.heap.size,0,none⟩ (.int .u8 128))):=⟨by rw [yV,←Bf];exact H1.out.stored (by have:=uq n;unfold maxLen;omega),H1.out.2.setCell (Nat.le_refl _) _⟩
 have q1:(119-(n:Int))%64=(zn n:Int):=by have:=HP.out.2.2;omega
 have q2:IntKind.u64.wrap (8*(n:Int))=(P:Int):=by rw [IntKind.wrap_u64];exact p1.out
 rw [q1,q2]
 clear q1 q2 p1 g0 f0 H1 hi hz0 hz1 hz2 hn' n0
 generalize w1.setCell ⟨w.heap.size,0,none⟩ (.int .u8 128)=w2 at *
 have z9:=uq n
 have P0:(P:Int)<18446744073709551616:=by have:=HP.out.1;omega
 go_loopg [23] 8 (fun k iv wr=>∃ i:Nat,k=8-i∧i≤8∧iv = .int .i64 i∧yV w wr n i∧Below w.heap.size w wr)
 case atStart=>exact ⟨0,rfl,by decide,rfl,HO.out⟩
 case round =>
  clear HO
  obtain ⟨i,hk,hi,rfl,hO,hB⟩:=hrel
  have HK:Hid (gk=8-i):=hk
  have HF:Hid (yV w wr n i∧Below w.heap.size w wr):=⟨hO,hB⟩
  clear hk hO hB
  by_cases h8:i=8
  ·subst h8
   go_wp2
   refine bodyPost_ret (v:=.tuple #[.slice (some ⟨w.heap.size,0,none⟩) (zn n+9) (zn n+9),.int .i64 0]) ?_ rfl ?_
   ·simp [results,Tryz.results131,go_sem]
   ·have h:=HF.out
    rw [yV,Bg] at h
    rw [Own,kT]
    exact ⟨rfl,h⟩
  ·have hi':(i:Int)<8:=by omega
   have e1:(1+(zn n:Int)+(i:Int)).toNat=1+zn n+i:=by omega
   have e2:(56-8*(i:Int)).toNat=56-8*i:=by omega
   have e3:Hid (1+zn n+i<(fG n i).length):=by rw [wm (by omega)];have h:1+zn n+i<zn n+9:=(by omega);exact h
   have g1:wr.cell? ⟨w.heap.size,1+zn n+i,none⟩=some (.int .u8 (Y ((fG n i).getD (1+zn n+i) 0))):=by
    rw [World.ownsRow.cellAt HF.out.1 (1+zn n+i) (by omega)]
    simp [byts,List.getD,e3.out]
   have f1:=World.ownsRow.frozenAt HF.out.1 (1+zn n+i)
   have v1:IntKind.u8.wrap ((P:Int)/2 ^ (56-8*i))=Y (lb n i):=Ep HP.out.1
   generalize (fG n i).getD (1+zn n+i) 0=x at *
   go_wp2
   go_roundg (8-(i+1))
   case measure=>have:=HK.out;omega
   case rel =>
    refine ⟨i+1,rfl,by omega,by go_num,?_,HF.out.2.setCell (Nat.le_refl _) _⟩
    have h:=(World.ownsRow.stored HF.out.1 (1+zn n+i) (.int .u8 (Y (lb n i)))).1
    rw [mS,wo (by omega)] at h
    exact h
open Go.RowKit Go.Sort
def vh:List Int→Int
 | []=>0
 | x :: xs=>x+65536*vh xs
open Go.RowKit Go.Sort
def read (n len i:Nat):Nat:=8*n%18446744073709551616/2 ^ (8*(len-i))
end Go.Proofs.YtjoandmehahfgaaGreatDoor.S
