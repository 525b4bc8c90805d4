import Derived.Test.YtnnnaajgjniiaaaGreatDoorAb
import Derived.Test.YtnnnaajgjniiaaaGreatDoorRowB
import Derived.Test.YtnnnaajgjniiaaaGreatDoorHold
import Derived.Test.YtnnnaajgjniiaaaGreatDoorLen
import Derived.Test.YtnnnaajgjniiaaaGreatDoorAdd
import Derived.Test.YtnnnaajgjniiaaaGreatDoorMul2
import Derived.Deep.LoopGhost
set_option maxHeartbeats 4000000
namespace Go.Proofs.YtnnnaajgjniiaaaGreatDoor
open Go.RowKit
theorem yb {y b:Int} {s:Nat} (y0:0≤y) (y1:y<2 ^ s) (z0:0≤b*2 ^ s) (z1:y+b*2 ^ s<18446744073709551616) (b0:0≤b):bits .or .u64 y (b*2 ^ s)=y+b*2 ^ s:=by
 obtain ⟨y,rfl⟩:=Int.eq_ofNat_of_zero_le y0
 obtain ⟨b,rfl⟩:=Int.eq_ofNat_of_zero_le b0
 have c:(b:Int)*2 ^ s=((2 ^ s*b:Nat):Int):=by simp [Int.mul_comm]
 have c2:((2:Int) ^ s)=((2 ^ s:Nat):Int):=by simp
 rw [c] at z0 z1 ⊢
 rw [c2] at y1
 rw [or_comm _ _ (by omega) (by omega),oq s b y (by omega) (by omega) (by omega),Int.natCast_add,Int.add_comm]
theorem wm {A:List Int} {bb ob cb:Nat} (hA:dR A) (hl:A.length≤32) (w:World) (ha:∀ i,i<A.length→w.cell? ⟨bb,ob+i,none⟩=some (.int .u8 (A.getD i 0))) :
  Rt 103 #[.slice (some ⟨bb,ob,none⟩) A.length cb] w (.tuple #[U4 (aS A A.length),.int .i64 0]):=by
 have hl':(A.length:Int)≤32:=by omega
 have hb0:=bC
 go_enter Tryz.func103,Tryz.ntmps103
 go_wp2_with fail
 refine af (fun W=>Below w.heap.size w W∧ac W w.heap.size∧Row W (w.heap.size+1) [l0 0,l1 0,l2 0,l3 0]∧au W (w.heap.size+1) 4) ⟨?_,(ac.new rfl).alloc _,?_,?_⟩ ?_
 ·repeat (first|with_reducible exact Below.refl _ _|with_reducible refine Below.alloc ?_ (by first|omega|(simp;done)|(simp;omega)) _)
 ·obtain ⟨z0,z1,z2,z3⟩:=aq
  ((try delta U4 P9 Rt);rw [z0,z1,z2,z3])
  exact (ac.new (by simp)).1
 ·exact (ac.new (by simp)).2
 rintro W ⟨B,hR,hX,lX⟩
 have c1:w.heap.size+1≠w.heap.size:=by omega
 have o1:w.heap.size≤w.heap.size+1:=by omega
 generalize w.heap.size+1=bx at *
 have HA:Hid (dR A∧∀ i,i<A.length→w.cell? ⟨bb,ob+i,none⟩=some (.int .u8 (A.getD i 0))):=⟨hA,ha⟩
 clear hA ha
 go_loopg [12] A.length (fun k iv wr=>∃ i:Nat,k=A.length-i∧i≤A.length∧iv = .int .i64 i∧Below w.heap.size w wr∧ac wr w.heap.size∧Row wr bx [l0 (aS A i),l1 (aS A i),l2 (aS A i),l3 (aS A i)]∧au wr bx 4)
 case atStart=>exact ⟨0,rfl,Nat.zero_le _,rfl,B,hR,hX,lX⟩
 case round =>
  clear B hR hX lX
  obtain ⟨i,hk,hi,rfl,B,hR,hX,lX⟩:=hrel
  have HK:Hid (gk=A.length-i):=hk
  clear hk
  by_cases h8:i=A.length
  ·subst h8
   have gX:=hX.all4;have gR:=hR.1.all4;have fR:=hR.2.all4
   go_wp2
   simp [bodyPost,results,Tryz.results103,go_sem,gR]
   exact ah B (Nat.le_refl _) _ _ _ _
  ·have hi':(i:Int)<A.length:=by omega
   have hi2:(i:Int)<32:=by omega
   have lt:bb<w.heap.size:=World.block_lt_of_cell? w _ (HA.out.2 0 (by omega))
   have e1:((i:Int)/8).toNat=i/8:=by omega
   have e2:((A.length:Int)-1-(i:Int)).toNat=A.length-1-i:=by omega
   have gy:wr.cell? ⟨bb,ob+(A.length-1-i),none⟩=some (.int .u8 (A.getD (A.length-1-i) 0)):=by rw [B.cell (p:=⟨bb,ob+(A.length-1-i),none⟩) lt];exact HA.out.2 _ (by omega)
   have gx:=hX (i/8) (by simp;omega)
   have fx:=lX (i/8) (by omega)
   obtain ⟨b0,b1⟩:=HA.out.1 (A.length-1-i)
   obtain ⟨s0,s1⟩:=cS HA.out.1 i
   obtain ⟨y0,y1,z0,z1,ev⟩:=wk (show i<32 by omega) s0 s1 b0 b1
   have ob':=yb y0 y1 z0 z1 b0
   have EV:Hid ([l0 (aS A (i+1)),l1 (aS A (i+1)),l2 (aS A (i+1)),l3 (aS A (i+1))]=[l0 (aS A i),l1 (aS A i),l2 (aS A i),l3 (aS A i)].set (i/8) ([l0 (aS A i),l1 (aS A i),l2 (aS A i),l3 (aS A i)].getD (i/8) 0+A.getD (A.length-1-i) 0*2 ^ (i%8*8))):=ev
   have wz:IntKind.u64.wrap (A.getD (A.length-1-i) 0*2 ^ (i%8*8))=A.getD (A.length-1-i) 0*2 ^ (i%8*8):=by rw [IntKind.wrap_u64];omega
   clear ev s0 s1 y0 y1
   generalize hy:[l0 (aS A i),l1 (aS A i),l2 (aS A i),l3 (aS A i)].getD (i/8) 0=y at *
   generalize hv:A.getD (A.length-1-i) 0=v at *
   clear hy hv
   go_wp2
   go_region
   go_wp2
   go_roundg (A.length-(i+1))
   case measure=>have:=HK.out;omega
   case rel =>
    refine ⟨i+1,rfl,by omega,by go_num,B.drew.setCell o1 _,hR.drew.set c1 _,?_,lX.drew.set _ _⟩
    rw [EV.out]
    exact Row.set hX.drew (i/8) (by simp;omega) _
theorem ng {A:List Int} {bb ob cb:Nat} (hA:dR A) (hl:A.length≤32) (w:World) (ha:∀ i,i<A.length→w.cell? ⟨bb,ob+i,none⟩=some (.int .u8 (A.getD i 0))) :
  Rt 67 #[.slice (some ⟨bb,ob,none⟩) A.length cb] w (.tuple #[U4 (aS A A.length),.int .i64 0]):=by
 have hl':(A.length:Int)≤32:=by omega
 have hb0:=bC
 go_enter Tryz.func67,Tryz.ntmps67
 go_wp2_with fail
 refine af (fun W=>Below w.heap.size w W∧ac W w.heap.size∧Row W (w.heap.size+1) [l0 0,l1 0,l2 0,l3 0]∧au W (w.heap.size+1) 4) ⟨?_,(ac.new rfl).alloc _,?_,?_⟩ ?_
 ·repeat (first|with_reducible exact Below.refl _ _|with_reducible refine Below.alloc ?_ (by first|omega|(simp;done)|(simp;omega)) _)
 ·obtain ⟨z0,z1,z2,z3⟩:=aq
  ((try delta U4 P9 Rt);rw [z0,z1,z2,z3])
  exact (ac.new (by simp)).1
 ·exact (ac.new (by simp)).2
 rintro W ⟨B,hR,hX,lX⟩
 have c1:w.heap.size+1≠w.heap.size:=by omega
 have o1:w.heap.size≤w.heap.size+1:=by omega
 generalize w.heap.size+1=bx at *
 have HA:Hid (dR A∧∀ i,i<A.length→w.cell? ⟨bb,ob+i,none⟩=some (.int .u8 (A.getD i 0))):=⟨hA,ha⟩
 clear hA ha
 go_loopg [5] A.length (fun k iv wr=>∃ i:Nat,k=A.length-i∧i≤A.length∧iv = .int .i64 i∧Below w.heap.size w wr∧ac wr w.heap.size∧Row wr bx [l0 (bQ A i),l1 (bQ A i),l2 (bQ A i),l3 (bQ A i)]∧au wr bx 4)
 case atStart=>exact ⟨0,rfl,Nat.zero_le _,rfl,B,hR,hX,lX⟩
 case round =>
  clear B hR hX lX
  obtain ⟨i,hk,hi,rfl,B,hR,hX,lX⟩:=hrel
  have HK:Hid (gk=A.length-i):=hk
  clear hk
  by_cases h8:i=A.length
  ·subst h8
   rw [ya] at hX
   have gX:=hX.all4;have gR:=hR.1.all4;have fR:=hR.2.all4
   go_wp2
   simp [bodyPost,results,Tryz.results67,go_sem,gR]
   exact ah B (Nat.le_refl _) _ _ _ _
  ·have hi':(i:Int)<A.length:=by omega
   have hi2:(i:Int)<32:=by omega
   have lt:bb<w.heap.size:=World.block_lt_of_cell? w _ (HA.out.2 0 (by omega))
   obtain ⟨K,hK⟩:∃ K:Nat,A.length-1-i=K:=⟨_,rfl⟩
   have eK:(A.length:Int)-1-(i:Int)=(K:Int):=by omega
   have K1:(K:Int)<32:=by omega
   have e1:((K:Int)/8).toNat=K/8:=by omega
   have gy:wr.cell? ⟨bb,ob+i,none⟩=some (.int .u8 (A.getD i 0)):=by rw [B.cell (p:=⟨bb,ob+i,none⟩) lt];exact HA.out.2 _ (by omega)
   have gx:=hX (K/8) (by simp;omega)
   have fx:=lX (K/8) (by omega)
   obtain ⟨b0,b1⟩:=HA.out.1 i
   obtain ⟨nX,t,ht⟩:=pB HA.out.1 hl hi
   obtain ⟨y0,z0,z1,ev⟩:=wl (k:=K) (by omega) nX (by rw [ht,show A.length-i=K+1 by omega]) b0 b1
   have EV:Hid ([l0 (bQ A (i+1)),l1 (bQ A (i+1)),l2 (bQ A (i+1)),l3 (bQ A (i+1))]=[l0 (bQ A i),l1 (bQ A i),l2 (bQ A i),l3 (bQ A i)].set (K/8) ([l0 (bQ A i),l1 (bQ A i),l2 (bQ A i),l3 (bQ A i)].getD (K/8) 0+A.getD i 0*2 ^ (8*(K%8)))):=by rw [bQ,hK];exact ev
   clear ev ht nX
   generalize hy:[l0 (bQ A i),l1 (bQ A i),l2 (bQ A i),l3 (bQ A i)].getD (K/8) 0=y at *
   generalize hv:A.getD i 0=v at *
   clear hy hv
   have wz:IntKind.u64.wrap (v*2 ^ (8*(K%8)))=v*2 ^ (8*(K%8)):=by rw [IntKind.wrap_u64];omega
   have wy:IntKind.u64.wrap (y+v*2 ^ (8*(K%8)))=y+v*2 ^ (8*(K%8)):=by rw [IntKind.wrap_u64];omega
   go_wp2
   go_region
   go_wp2
   go_roundg (A.length-(i+1))
   case measure=>have:=HK.out;omega
   case rel =>
    refine ⟨i+1,rfl,by omega,by go_num,B.drew.setCell o1 _,hR.drew.set c1 _,?_,lX.drew.set _ _⟩
    rw [EV.out]
    exact Row.set hX.drew (K/8) (by simp;omega) _
open Go.RowKit
theorem nh {W:World} {b:Nat} {n:Int} (h:ab W b n) (k:Nat) (hk:k<4):W.cell? ⟨b,k,none⟩=some (.int .u64 ([l0 n,l1 n,l2 n,l3 n].getD k 0)):=h.row k (by simpa using hk)
theorem yc {n:Int} (w:World) :
  Rt 54 #[U4 n] w (.agg ((jr n).map (Value.int .u8)).toArray):=by
 go_enter Tryz.func54,Tryz.ntmps54
 go_wp2_with fail
 refine af (fun W=>Below w.heap.size w W∧ab W w.heap.size n∧Bts W (w.heap.size+1) (List.replicate 32 0)∧Bts W (w.heap.size+1+1) (List.replicate 32 0)) ⟨?_,?_,?_,?_⟩ ?_
 ·repeat (first|with_reducible exact Below.refl _ _|with_reducible refine Below.alloc ?_ (by first|omega|(simp;done)|(simp;omega)) _)
 ·exact ((ab.new w n _).alloc _).alloc _
 ·exact (Bts.new (List.replicate 32 0) _ (by simp)).alloc (by simp) _
 ·exact Bts.new (List.replicate 32 0) _ (by simp)
 rintro W ⟨B,hX,hR,hB⟩
 have c1:w.heap.size+1+1≠w.heap.size:=by omega
 have c3:w.heap.size+1+1≠w.heap.size+1:=by omega
 have o1:w.heap.size≤w.heap.size+1:=by omega
 have o2:w.heap.size≤w.heap.size+1+1:=by omega
 generalize w.heap.size+1+1=bb at *
 generalize w.heap.size+1=br at *
 go_loopg [5] 32 (fun k iv wr=>∃ (i:Nat) (L:List Int),k=32-i∧i≤32∧iv = .int .i64 i∧L.length=32∧(∀ t,32-i≤t→t<32→L.getD t 0=n/256 ^ (31-t)%256)∧Below w.heap.size w wr∧ab wr w.heap.size n∧Bts wr br (List.replicate 32 0)∧Bts wr bb L)
 case atStart=>exact ⟨0,_,rfl,by decide,rfl,by simp,fun t h1 h2=>by omega,B,hX,hR,hB⟩
 case round =>
  clear B hX hR hB
  obtain ⟨i,L,hk,hi,rfl,hL,ev,B,hX,hR,hB⟩:=hrel
  have EV:Hid (∀ t,32-i≤t→t<32→L.getD t 0=n/256 ^ (31-t)%256):=ev
  have HK:Hid (gk=32-i):=hk
  clear ev hk
  by_cases h8:i=32
  ·subst h8
   have eL:L=jr n:=AP (by rw [hL,js]) fun t ht=>by rw [EV.out t (by omega) (by omega),jL n (by omega)]
   have EL:Hid (L=jr n):=eL
   have rb:=hB.1.range
   have sz:((L.map (Value.int .u8)).toArray).size=32:=by simp [hL]
   have tr:=hR.there (k:=((L.map (Value.int .u8)).toArray).size) (by rw [sz];rfl)
   have oc:=m8 L
   clear eL EV
   generalize hM:L.map (Value.int .u8)=M at *
   have HM:Hid (M.length=32):=by rw [←hM,List.length_map];exact hL
   go_wp2_with (first|refine wpList_load_mid rfl 25 _ rfl bb 0 rfl M _ rb Tryz.underlying25 rfl (by rw [HM.out];kernel_rfl) ?_|refine wpList_store_mid rfl 25 _ _ rfl br 0 _ rfl rfl tr (by rw [sz];kernel_rfl) oc ?_)
   have ld:=run_loadVar_mid (P:=Tryz.prog) (wr.setCells br 0 M) br 0 25 M _ (World.rangeAt_setCells_same _ _ _ _ (by simpa using tr)) Tryz.underlying25 rfl (by rw [HM.out];kernel_rfl)
   refine bodyPost_ret (v:=.agg M.toArray) ?_ rfl ⟨by rw [←hM,EL.out],below_setCells o1 M 0 wr B⟩
   simp [results,Tryz.results54,Act.put,asAddr,ld]
  ·have hi':(i:Int)<32:=by omega
   have e1:((i:Int)/8).toNat=i/8:=by omega
   have e2:(31-(i:Int)).toNat=31-i:=by omega
   have gx:=nh hX (i/8) (by omega)
   have gb:=hB.1 (31-i) (by omega)
   have fb:=hB.2 (31-i) (by omega)
   have lb:=m9 (n:=n) (show i<32 by omega)
   generalize [l0 n,l1 n,l2 n,l3 n].getD (i/8) 0=x at *
   have LB:Hid (x/2 ^ (i%8*8)%256=n/256 ^ i%256):=lb
   clear lb
   go_wp2
   go_roundg (32-(i+1))
   case measure=>have:=HK.out;omega
   case rel =>
    refine ⟨i+1,L.set (31-i) (x/2 ^ (i%8*8)%256),rfl,by omega,by go_num,by rw [List.length_set];exact hL,fun t h1 h2=>?_,B.setCell o2 _,hX.set c1 _,hR.other c3 _,hB.set (31-i) (by omega) _⟩
    by_cases e:t=31-i
    ·subst e;rw [sd (by omega),LB.out,show 31-(31-i)=i by omega]
    ·rw [sc e];exact EV.out t (by omega) h2
theorem wn {n:Int} (w:World) :
  Rt 110 #[U4 n] w (.agg ((jr n).map (Value.int .u8)).toArray):=by
 go_enter Tryz.func110,Tryz.ntmps110
 go_wp2_with fail
 refine af (fun W=>Below w.heap.size w W∧ab W w.heap.size n∧Bts W (w.heap.size+1) (List.replicate 32 0)∧Bts W (w.heap.size+1+1) (List.replicate 32 0)) ⟨?_,?_,?_,?_⟩ ?_
 ·repeat (first|with_reducible exact Below.refl _ _|with_reducible refine Below.alloc ?_ (by first|omega|(simp;done)|(simp;omega)) _)
 ·exact ((ab.new w n _).alloc _).alloc _
 ·exact (Bts.new (List.replicate 32 0) _ (by simp)).alloc (by simp) _
 ·exact Bts.new (List.replicate 32 0) _ (by simp)
 rintro W ⟨B,hX,hR,hB⟩
 have c1:w.heap.size+1+1≠w.heap.size:=by omega
 have c3:w.heap.size+1+1≠w.heap.size+1:=by omega
 have o1:w.heap.size≤w.heap.size+1:=by omega
 have o2:w.heap.size≤w.heap.size+1+1:=by omega
 generalize w.heap.size+1+1=bb at *
 generalize w.heap.size+1=br at *
 go_loopg [4] 32 (fun k iv wr=>∃ (i:Nat) (L:List Int),k=32-i∧i≤32∧iv = .int .i64 i∧L.length=32∧(∀ t,32-i≤t→t<32→L.getD t 0=n/256 ^ (31-t)%256)∧Below w.heap.size w wr∧ab wr w.heap.size n∧Bts wr br (List.replicate 32 0)∧Bts wr bb L)
 case atStart=>exact ⟨0,_,rfl,by decide,rfl,by simp,fun t h1 h2=>by omega,B,hX,hR,hB⟩
 case round =>
  clear B hX hR hB
  obtain ⟨i,L,hk,hi,rfl,hL,ev,B,hX,hR,hB⟩:=hrel
  have EV:Hid (∀ t,32-i≤t→t<32→L.getD t 0=n/256 ^ (31-t)%256):=ev
  have HK:Hid (gk=32-i):=hk
  clear ev hk
  by_cases h8:i=32
  ·subst h8
   have eL:L=jr n:=AP (by rw [hL,js]) fun t ht=>by rw [EV.out t (by omega) (by omega),jL n (by omega)]
   have EL:Hid (L=jr n):=eL
   have rb:=hB.1.range
   have sz:((L.map (Value.int .u8)).toArray).size=32:=by simp [hL]
   have tr:=hR.there (k:=((L.map (Value.int .u8)).toArray).size) (by rw [sz];rfl)
   have oc:=m8 L
   clear eL EV
   generalize hM:L.map (Value.int .u8)=M at *
   have HM:Hid (M.length=32):=by rw [←hM,List.length_map];exact hL
   go_wp2_with (first|refine wpList_load_mid rfl 25 _ rfl bb 0 rfl M _ rb Tryz.underlying25 rfl (by rw [HM.out];kernel_rfl) ?_|refine wpList_store_mid rfl 25 _ _ rfl br 0 _ rfl rfl tr (by rw [sz];kernel_rfl) oc ?_)
   have ld:=run_loadVar_mid (P:=Tryz.prog) (wr.setCells br 0 M) br 0 25 M _ (World.rangeAt_setCells_same _ _ _ _ (by simpa using tr)) Tryz.underlying25 rfl (by rw [HM.out];kernel_rfl)
   refine bodyPost_ret (v:=.agg M.toArray) ?_ rfl ⟨by rw [←hM,EL.out],below_setCells o1 M 0 wr B⟩
   simp [results,Tryz.results110,Act.put,asAddr,ld]
  ·have hi':(i:Int)<32:=by omega
   have e1:((i:Int)/8).toNat=i/8:=by omega
   have e2:(31-(i:Int)).toNat=31-i:=by omega
   have gx:=nh hX (i/8) (by omega)
   have gb:=hB.1 (31-i) (by omega)
   have fb:=hB.2 (31-i) (by omega)
   have lb:=m9 (n:=n) (show i<32 by omega)
   generalize [l0 n,l1 n,l2 n,l3 n].getD (i/8) 0=x at *
   have LB:Hid (x/2 ^ (8*(i%8))%256=n/256 ^ i%256):=by rw [Nat.mul_comm 8];exact lb
   clear lb
   go_wp2
   go_roundg (32-(i+1))
   case measure=>have:=HK.out;omega
   case rel =>
    refine ⟨i+1,L.set (31-i) (x/2 ^ (8*(i%8))%256),rfl,by omega,by go_num,by rw [List.length_set];exact hL,fun t h1 h2=>?_,B.setCell o2 _,hX.set c1 _,hR.other c3 _,hB.set (31-i) (by omega) _⟩
    by_cases e:t=31-i
    ·subst e;rw [sd (by omega),LB.out,show 31-(31-i)=i by omega]
    ·rw [sc e];exact EV.out t (by omega) h2
end Go.Proofs.YtnnnaajgjniiaaaGreatDoor
