import Derived.Test.YtjoandmehahfgaaGreatDoorAb
import Derived.Test.YtjoandmehahfgaaGreatDoorRowB
import Derived.Test.YtjoandmehahfgaaGreatDoorMul2
import Derived.Test.YtjoandmehahfgaaGreatDoorLen
import Derived.Test.YtjoandmehahfgaaGreatDoorAdd
import Derived.Deep.LoopGhost
import Derived.Test.YtjoandmehahfgaaGreatDoorFExp
set_option maxRecDepth 100000
set_option maxHeartbeats 4000000
namespace Go.Proofs.YtjoandmehahfgaaGreatDoor
open Go.RowKit
theorem As {y b:Int} {s:Nat} (y0:0≤y) (y1:y<2 ^ s) (z0:0≤b*2 ^ s) (z1:y+b*2 ^ s<18446744073709551616) (b0:0≤b):bits .or .u64 y (b*2 ^ s)=y+b*2 ^ s:=by
 obtain ⟨y,rfl⟩:=Int.eq_ofNat_of_zero_le y0
 obtain ⟨b,rfl⟩:=Int.eq_ofNat_of_zero_le b0
 have c:(b:Int)*2 ^ s=((2 ^ s*b:Nat):Int):=by simp [Int.mul_comm]
 have c2:((2:Int) ^ s)=((2 ^ s:Nat):Int):=by simp
 rw [c] at z0 z1 ⊢
 rw [c2] at y1
 rw [or_comm _ _ (by omega) (by omega),rX s b y (by omega) (by omega) (by omega),Int.natCast_add,Int.add_comm]
theorem yl {A:List Int} {bb ob cb:Nat} (hA:iu A) (hl:A.length≤32) (w:World) (ha:∀ i,i<A.length→w.cell? ⟨bb,ob+i,none⟩=some (.int .u8 (A.getD i 0))) :
  Rt 101 #[.slice (some ⟨bb,ob,none⟩) A.length cb] w (.tuple #[U4 (bF A A.length),.int .i64 0]):=by
 have hl':(A.length:Int)≤32:=by omega
 have hb0:=bR
 go_enter Tryz.func101,Tryz.ntmps101
 go_wp2_with fail
 refine ah (fun W=>Below w.heap.size w W∧af W w.heap.size∧Row W (w.heap.size+1) [l0 0,l1 0,l2 0,l3 0]∧ai W (w.heap.size+1) 4) ⟨?_,(af.new rfl).alloc _,?_,?_⟩ ?_
 ·repeat (first|with_reducible exact Below.refl _ _|with_reducible refine Below.alloc ?_ (by first|omega|(simp;done)|(simp;omega)) _)
 ·obtain ⟨z0,z1,z2,z3⟩:=ap
  ((try unfold Rt);(try unfold U4);(try unfold P9);rw [z0,z1,z2,z3])
  exact (af.new (by simp)).1
 ·exact (af.new (by simp)).2
 rintro W ⟨B,hR,hX,lX⟩
 have c1:w.heap.size+1≠w.heap.size:=by omega
 have o1:w.heap.size≤w.heap.size+1:=by omega
 generalize w.heap.size+1=bx at *
 have HA:Hid (iu A∧∀ i,i<A.length→w.cell? ⟨bb,ob+i,none⟩=some (.int .u8 (A.getD i 0))):=⟨hA,ha⟩
 clear hA ha
 go_loopg [12] A.length (fun k iv wr=>∃ i:Nat,k=A.length-i∧i≤A.length∧iv = .int .i64 i∧Below w.heap.size w wr∧af wr w.heap.size∧Row wr bx [l0 (bF A i),l1 (bF A i),l2 (bF A i),l3 (bF A i)]∧ai wr bx 4)
 case atStart=>exact ⟨0,rfl,Nat.zero_le _,rfl,B,hR,hX,lX⟩
 case round =>
  clear B hR hX lX
  obtain ⟨i,hk,hi,rfl,B,hR,hX,lX⟩:=hrel
  have HK:Hid (gk=A.length-i):=hk
  clear hk
  by_cases h8:i=A.length
  ·subst h8
   have gX:=hX.all4;have gR:=hR.1.all4;have fR:=hR.2.all4
   go_wp2
   simp [bodyPost,results,Tryz.results101,go_sem,gR]
   exact ak B (Nat.le_refl _) _ _ _ _
  ·have hi':(i:Int)<A.length:=by omega
   have hi2:(i:Int)<32:=by omega
   have lt:bb<w.heap.size:=World.block_lt_of_cell? w _ (HA.out.2 0 (by omega))
   have e1:((i:Int)/8).toNat=i/8:=by omega
   have e2:((A.length:Int)-1-(i:Int)).toNat=A.length-1-i:=by omega
   have gy:wr.cell? ⟨bb,ob+(A.length-1-i),none⟩=some (.int .u8 (A.getD (A.length-1-i) 0)):=by rw [B.cell (p:=⟨bb,ob+(A.length-1-i),none⟩) lt];exact HA.out.2 _ (by omega)
   have gx:=hX (i/8) (by simp;omega)
   have fx:=lX (i/8) (by omega)
   obtain ⟨b0,b1⟩:=HA.out.1 (A.length-1-i)
   obtain ⟨s0,s1⟩:=gz HA.out.1 i
   obtain ⟨y0,y1,z0,z1,ev⟩:=xi (show i<32 by omega) s0 s1 b0 b1
   have ob':=As y0 y1 z0 z1 b0
   have EV:Hid ([l0 (bF A (i+1)),l1 (bF A (i+1)),l2 (bF A (i+1)),l3 (bF A (i+1))]=[l0 (bF A i),l1 (bF A i),l2 (bF A i),l3 (bF A i)].set (i/8) ([l0 (bF A i),l1 (bF A i),l2 (bF A i),l3 (bF A i)].getD (i/8) 0+A.getD (A.length-1-i) 0*2 ^ (i%8*8))):=ev
   have wz:IntKind.u64.wrap (A.getD (A.length-1-i) 0*2 ^ (i%8*8))=A.getD (A.length-1-i) 0*2 ^ (i%8*8):=by rw [IntKind.wrap_u64];omega
   clear ev s0 s1 y0 y1
   generalize hy:[l0 (bF A i),l1 (bF A i),l2 (bF A i),l3 (bF A i)].getD (i/8) 0=y at *
   generalize hv:A.getD (A.length-1-i) 0=v at *
   clear hy hv
   go_wp2
   go_region
   go_wp2
   go_roundg (A.length-(i+1))
   case measure=>have:=HK.out;omega
   case rel =>
    refine ⟨i+1,rfl,by omega,by go_num,B.drew.setCell o1 _,hR.drew.set c1 _,?_,lX.drew.set _ _⟩
    rw [EV.out]
    exact Row.set hX.drew (i/8) (by simp;omega) _
open Go.RowKit
theorem vE {W:World} {b:Nat} {n:Int} (h:ae W b n) (k:Nat) (hk:k<4):W.cell? ⟨b,k,none⟩=some (.int .u64 ([l0 n,l1 n,l2 n,l3 n].getD k 0)):=h.row k (by simpa using hk)
theorem km {n:Int} (w:World) :
  Calls Tryz.prog 38 #[.agg #[.int .u64 (l0 n),.int .u64 (l1 n),.int .u64 (l2 n),.int .u64 (l3 n)]] w fun e w'=>e = .returned (.agg ((aK n).map (Value.int .u8)).toArray)∧Below w.heap.size w w':=by
 go_enter Tryz.func38,Tryz.ntmps38
 go_wp2_with fail
 refine ah (fun W=>Below w.heap.size w W∧ae W w.heap.size n∧Bts W (w.heap.size+1) (List.replicate 32 0)∧Bts W (w.heap.size+1+1) (List.replicate 32 0)) ⟨?_,?_,?_,?_⟩ ?_
 ·repeat (first|with_reducible exact Below.refl _ _|with_reducible refine Below.alloc ?_ (by first|omega|(simp;done)|(simp;omega)) _)
 ·exact ((ae.new w n _).alloc _).alloc _
 ·exact (Bts.new (List.replicate 32 0) _ (by simp)).alloc (by simp) _
 ·exact Bts.new (List.replicate 32 0) _ (by simp)
 rintro W ⟨B,hX,hR,hB⟩
 have c1:w.heap.size+1+1≠w.heap.size:=by omega
 have c3:w.heap.size+1+1≠w.heap.size+1:=by omega
 have o1:w.heap.size≤w.heap.size+1:=by omega
 have o2:w.heap.size≤w.heap.size+1+1:=by omega
 generalize w.heap.size+1+1=bb at *
 generalize w.heap.size+1=br at *
 go_loopg [5] 32 (fun k iv wr=>∃ (i:Nat) (L:List Int),k=32-i∧i≤32∧iv = .int .i64 i∧L.length=32∧(∀ t,32-i≤t→t<32→L.getD t 0=n/256 ^ (31-t)%256)∧Below w.heap.size w wr∧ae wr w.heap.size n∧Bts wr br (List.replicate 32 0)∧Bts wr bb L)
 case atStart=>exact ⟨0,_,rfl,by decide,rfl,by simp,fun t h1 h2=>by omega,B,hX,hR,hB⟩
 case round =>
  clear B hX hR hB
  obtain ⟨i,L,hk,hi,rfl,hL,ev,B,hX,hR,hB⟩:=hrel
  have EV:Hid (∀ t,32-i≤t→t<32→L.getD t 0=n/256 ^ (31-t)%256):=ev
  have HK:Hid (gk=32-i):=hk
  clear ev hk
  by_cases h8:i=32
  ·subst h8
   have eL:L=aK n:=Cf (by rw [hL,aX]) fun t ht=>by rw [EV.out t (by omega) (by omega),fY n (by omega)]
   have EL:Hid (L=aK n):=eL
   have rb:=hB.1.range
   have sz:((L.map (Value.int .u8)).toArray).size=32:=by simp [hL]
   have tr:=hR.there (k:=((L.map (Value.int .u8)).toArray).size) (by rw [sz];rfl)
   have oc:=aU L
   clear eL EV
   generalize hM:L.map (Value.int .u8)=M at *
   have HM:Hid (M.length=32):=by rw [←hM,List.length_map];exact hL
   go_wp2_with (first|refine wpList_load_mid rfl 46 _ rfl bb 0 rfl M _ rb Tryz.underlying46 rfl (by rw [HM.out];kernel_rfl) ?_|refine wpList_store_mid rfl 46 _ _ rfl br 0 _ rfl rfl tr (by rw [sz];kernel_rfl) oc ?_)
   have ld:=run_loadVar_mid (P:=Tryz.prog) (wr.setCells br 0 M) br 0 46 M _ (World.rangeAt_setCells_same _ _ _ _ (by simpa using tr)) Tryz.underlying46 rfl (by rw [HM.out];kernel_rfl)
   refine bodyPost_ret (v:=.agg M.toArray) ?_ rfl ⟨by rw [←hM,EL.out],below_setCells o1 M 0 wr B⟩
   simp [results,Tryz.results38,Act.put,asAddr,ld]
  ·have hi':(i:Int)<32:=by omega
   have e1:((i:Int)/8).toNat=i/8:=by omega
   have e2:(31-(i:Int)).toNat=31-i:=by omega
   have gx:=vE hX (i/8) (by omega)
   have gb:=hB.1 (31-i) (by omega)
   have fb:=hB.2 (31-i) (by omega)
   have lb:=uR (n:=n) (show i<32 by omega)
   generalize [l0 n,l1 n,l2 n,l3 n].getD (i/8) 0=x at *
   have LB:Hid (x/2 ^ (i%8*8)%256=n/256 ^ i%256):=lb
   clear lb
   go_wp2
   go_roundg (32-(i+1))
   case measure=>have:=HK.out;omega
   case rel =>
    refine ⟨i+1,L.set (31-i) (x/2 ^ (i%8*8)%256),rfl,by omega,by go_num,by rw [List.length_set];exact hL,fun t h1 h2=>?_,B.setCell o2 _,hX.set c1 _,hR.other c3 _,hB.set (31-i) (by omega) _⟩
    by_cases e:t=31-i
    ·subst e;rw [zQ (by omega),LB.out,show 31-(31-i)=i by omega]
    ·rw [zP e];exact EV.out t (by omega) h2
open Go.RowKit Go.Sort
def cn (A:List Int):Value:=.agg ((A.map fun z=>Value.int .u8 z).toArray)
theorem jE {A:List Int} {bb ob cb:Nat} (hA:iu A) (hl:A.length≤32) (w:World) (ha:(∀ i,i<A.length→w.cell? ⟨bb,ob+i,none⟩=some (.int .u8 (A.getD i 0)))) :
  Rt 70 #[.slice (some ⟨bb,ob,none⟩) A.length cb] w (U4 (bF A A.length)):=by
 have C:Hid (∀ w,(∀ i,i<A.length→w.cell? ⟨bb,ob+i,none⟩=some (.int .u8 (A.getD i 0)))→Rt 101 #[.slice (some ⟨bb,ob,none⟩) A.length cb] w (.tuple #[U4 (bF A A.length),.int .i64 0])):=fun w ha=>yl hA hl w ha
 have HA:Hid (∀ i,i<A.length→w.cell? ⟨bb,ob+i,none⟩=some (.int .u8 (A.getD i 0))):=ha
 clear ha hA hl
 generalize bF A A.length=n at *
 go_enter Tryz.func70,Tryz.ntmps70
 go_wp2_with fail
 refine aa (fun W=>Below w.heap.size w W∧(∀ i,i<A.length→W.cell? ⟨bb,ob+i,none⟩=some (.int .u8 (A.getD i 0)))∧af W w.heap.size) ⟨by repeat (first|with_reducible exact Below.refl _ _|with_reducible refine Below.alloc ?_ (by first|omega|(simp;done)|(simp;omega)) _),fun i hi=>cell_keep ((Below.refl _ _).alloc (Nat.le_refl _) _) (HA.out i hi),af.new rfl⟩ ?_
 rintro W ⟨B,hY,hR⟩
 with_reducible refine (C.out _ hY).mono ?_
 rintro e w1 ⟨rfl,hb⟩
 replace B:=B.trans (hb.mono B.size)
 replace hR:=hR.keep hb
 have lr:=hR.1.lt (by simp)
 have nr:w1.heap.size≠w.heap.size:=by omega
 have nr':=nr.symm
 have o3:w.heap.size≤w.heap.size:=Nat.le_refl _
 clear hb hY W
 have gR:=fun o=>(hR.alloc o).1.all4
 have fR:=fun o=>(hR.alloc o).2.all4
 have gR0:=hR.1.all4
 have fR0:=hR.2.all4
 have BB:Hid (Below w.heap.size w w1):=B
 clear B hR
 go_wp2
 simp [bodyPost,results,Tryz.results70,go_sem, *]
 repeat (first|with_reducible exact BB.out|with_reducible refine Below.setCell ?_ o3 _|with_reducible refine Below.alloc ?_ (by first|omega|(simp;omega)) _)
theorem sE {A:List Int} {W:World} {t:TypeId}:∀ i,i<A.length→(W.alloc (.cells ((A.map fun z=>Value.int .u8 z).toArray) t)).cell? ⟨W.heap.size,0+i,none⟩=some (.int .u8 (A.getD i 0)):=fun i hi=>by
 rw [Nat.zero_add]
 simp [go_sem,hi,List.getD]
theorem iD {A:List Int} (hA:iu A) (hl:A.length=32) (w:World) (hm:Mds w) :
  Rt 35 #[cn A] w (U4 (ab nN (bF A 32))):=by
 have C:Hid (∀ w bb,(∀ i,i<A.length→w.cell? ⟨bb,0+i,none⟩=some (.int .u8 (A.getD i 0)))→Rt 70 #[.slice (some ⟨bb,0,none⟩) 32 32] w (U4 (bF A 32))):=fun w bb h=>by
  have:=jE (ob:=0) (cb:=32) hA (by omega) w h
  rw [hl] at this
  exact this
 have hn:Num (bF A 32):=by
  have:=gz hA 32
  exact ⟨this.1,by have:=this.2;simpa using this⟩
 have C2:=xL hn
 generalize ab nN (bF A 32)=r at *
 generalize bF A 32=n at *
 unfold cn
 clear hA hn
 go_enter Tryz.func35,Tryz.ntmps35
 go_wp2_with fail
 refine aa (fun W=>Below w.heap.size w W∧Mds W∧(∀ i,i<A.length→W.cell? ⟨w.heap.size,0+i,none⟩=some (.int .u8 (A.getD i 0)))∧af W (w.heap.size+1)) ⟨by repeat (first|with_reducible exact Below.refl _ _|with_reducible refine Below.alloc ?_ (by first|omega|(simp;done)|(simp;omega)) _),(hm.alloc _).alloc _,fun i hi=>cell_keep ((Below.refl _ _).alloc (Nat.le_refl _) _) (sE i hi),af.new (by simp)⟩ ?_
 rintro W ⟨B,hD,hY,hR⟩
 have o3:w.heap.size≤w.heap.size+1:=by omega
 generalize w.heap.size+1=br at *
 with_reducible refine (C.out _ _ hY).mono ?_
 rintro e w1 ⟨rfl,hb⟩
 replace B:=B.trans (hb.mono B.size)
 replace hD:=hD.keep hb;replace hR:=hR.keep hb
 clear hb hY W C
 go_wp2_with fail
 refine aa (fun W=>Below w.heap.size w W∧Mds W∧af W br) ⟨B,hD,hR⟩ ?_
 clear B hD hR
 rintro W ⟨B,hD,hR⟩
 with_reducible refine (C2.out _ hD).mono ?_
 rintro e w2 ⟨rfl,hb⟩
 replace B:=B.trans (hb.mono B.size)
 replace hR:=hR.keep hb
 clear hb hD W C2
 have gR:=hR.1.all4
 have fR:=hR.2.all4
 go_wp2
 simp [bodyPost,results,Tryz.results35,go_sem, *]
 repeat (first|with_reducible exact B|with_reducible refine Below.setCell ?_ o3 _)
end Go.Proofs.YtjoandmehahfgaaGreatDoor
