import Derived.Test.YtjoandmehahfgaaGreatDoorAb
import Derived.Test.YtjoandmehahfgaaGreatDoorFReduce
import Derived.Test.YtjoandmehahfgaaGreatDoorLen
import Derived.Test.YtjoandmehahfgaaGreatDoorAdd
import Derived.Test.YtjoandmehahfgaaGreatDoorMul2
import Derived.Test.YtjoandmehahfgaaGreatDoorRefNum
import Derived.Deep.LoopGhost
import Derived.Deep.RegionHeld3
import Derived.Test.YtjoandmehahfgaaGreatDoorMulNum
import Derived.Test.YtjoandmehahfgaaGreatDoorTail
import Derived.Deep.RegionHeld
import Derived.Test.YtjoandmehahfgaaGreatDoorLeaf
import Derived.LoopN
import Derived.BigRegion
import Derived.Test.YtjoandmehahfgaaGreatDoorShelf
import Derived.Lib.ItoaNum
import Derived.Deep.RegionWith
set_option maxRecDepth 100000
set_option maxHeartbeats 32000000
namespace Go.Proofs.YtjoandmehahfgaaGreatDoor
open Go.RowKit
def aL (m x e:Int):Int:=x ^ e.toNat%m
theorem dV {m c:Int} (hf:Fit m c) (x e:Int):Num (aL m x e):=ag hf _
theorem fy {m c:Int} (hf:Fit m c) (x e:Int):0≤aL m x e∧aL m x e<m:=dl hf _
theorem uZ {m c:Int} (hf:Fit m c) (x:Int):aL m x 0=1:=by
 have:=hf.low
 unfold aL;simp;exact Int.emod_eq_of_lt (by decide) (by omega)
theorem si (m x:Int) {e:Int} (h:0≤e):ab m (aL m x e*aL m x e)=aL m x (2*e):=by
 unfold ab aL
 rw [←Int.mul_emod,show (2*e).toNat=e.toNat+e.toNat by omega,Int.pow_add]
theorem i7 (m x:Int) {e:Int} (h:0≤e):ab m (aL m x e*x)=aL m x (e+1):=by
 unfold ab aL
 rw [Int.mul_emod,Int.emod_emod_of_dvd _ (Int.dvd_refl m),←Int.mul_emod,show (e+1).toNat=e.toNat+1 by omega,Int.pow_succ]
theorem qx {q c n m:Int} (hf:Fit q c) (hn:Num n) (hm:Num m) (w:World) :
  Rt 96 #[.agg #[.int .u64 (l0 q),.int .u64 (l1 q),.int .u64 (l2 q),.int .u64 (l3 q),.int .u64 (l0 c),.int .u64 (l1 c),.int .u64 (l2 c),.int .u64 (l3 c)],U4 n,U4 m] w (U4 (aL q n m)):=by
 have one:aj 1:=⟨by decide,by decide⟩
 go_enter Tryz.func96,Tryz.ntmps96
 go_wp2_with fail
 refine aa (fun W=>Below w.heap.size w W∧aC W w.heap.size q c∧ae W (w.heap.size+1) n∧ae W (w.heap.size+1+1) m∧af W (w.heap.size+1+1+1)) ⟨?_,?_,?_,?_,?_⟩ ?_
 ·repeat (first|with_reducible exact Below.refl _ _|with_reducible refine Below.alloc ?_ (by first|omega|(simp;done)|(simp;omega)) _)
 ·exact (((aC.new w q c _).alloc _).alloc _).alloc _
 ·exact ((ae.fresh (by simp)).alloc _).alloc _
 ·exact (ae.fresh (by simp)).alloc _
 ·exact af.new (by simp)
 rintro W ⟨B,hF,hX,hY,hR⟩
 have o1:w.heap.size≤w.heap.size+1+1+1:=by omega
 generalize w.heap.size+1+1+1=br at *
 generalize w.heap.size+1+1=bw at *
 generalize w.heap.size+1=bx at *
 refine (eX one W).mono ?_
 rintro e w1 ⟨rfl,hb⟩
 replace B:=B.trans (hb.mono B.size)
 replace hF:=hF.keep hb;replace hX:=hX.keep hb;replace hY:=hY.keep hb;replace hR:=hR.keep hb
 clear hb W
 have gY:=hY.allocs
 go_wp2_with fail
 have c0:w1.heap.size≠w.heap.size:=by have:=hF.lt;omega
 have c1:w1.heap.size≠bx:=by have:=hX.row.lt (by simp);omega
 have c2:w1.heap.size≠bw:=by have:=hY.row.lt (by simp);omega
 have c3:w1.heap.size≠br:=by have:=hR.1.lt (by simp);omega
 have o2:w.heap.size≤w1.heap.size:=B.size
 refine aa (fun W=>Below w.heap.size w W∧aC W w.heap.size q c∧ae W bx n∧ae W bw m∧af W br∧Var W w1.heap.size 1) ⟨B.alloc B.size _,hF.alloc _,hX.alloc _,hY.alloc _,hR.alloc _,Var.new rfl⟩ ?_
 clear B hF hX hY hR gY
 rintro W ⟨B,hF,hX,hY,hR,hP⟩
 generalize w1.heap.size=bp at *
 refine (pE hm W).mono ?_
 rintro e w2 ⟨rfl,hb⟩
 replace B:=B.trans (hb.mono B.size)
 replace hF:=hF.keep hb;replace hX:=hX.keep hb;replace hY:=hY.keep hb;replace hR:=hR.keep hb;replace hP:=hP.keep hb
 clear hb W
 obtain ⟨j0,ej,hj0,_,ez⟩:=sf hm
 rw [ej]
 have hP0:Var w2 bp (aL q n (m/2 ^ j0)):=by rw [ez,uZ hf];exact hP
 clear hP ez ej
 go_wp2_with fail
 go_loopw [8] (fun a wr=>∃ j:Nat,j≤256∧a = .int .i64 ((j:Int)-1)∧Below w.heap.size w wr∧aC wr w.heap.size q c∧ae wr bx n∧ae wr bw m∧af wr br∧Var wr bp (aL q n (m/2 ^ j))) (fun a _=>(intOf a+1).toNat)
 case atStart=>exact ⟨j0,hj0,by go_num,B,hF,hX,hY,hR,hP0⟩
 case round =>
  clear B hF hX hY hR hP0
  obtain ⟨j,hj,rfl,B,hF,hX,hY,hR,hP⟩:=hrel
  by_cases hz:j=0
  ·subst hz
   rw [show m/2 ^ 0=m by simp] at hP
   have gP:=hP.1.cells;have gR:=hR.1.all4;have fR:=hR.2.all4
   go_wp2
   simp [bodyPost,results,Tryz.results96,go_sem,gR]
   exact ak B o1 _ _ _ _
  ·obtain ⟨i,rfl⟩:∃ i,j=i+1:=⟨j-1,by omega⟩
   have e1:((i+1:Nat):Int)-1=i:=by omega
   have hd:=xw m i
   have eb:=zX m (show i<256 by omega)
   have q0:0≤m/2 ^ (i+1):=Int.ediv_nonneg hm.1 (Int.le_of_lt (Int.pow_pos (by decide)))
   have bt:jy m i=0∨jy m i=1:=by rw [eb];omega
   rw [←eb] at hd
   have HD:Hid (m/2 ^ i=2*(m/2 ^ (i+1))+jy m i):=hd
   have M1:Hid (∀ W,Rt 97 #[.agg #[.int .u64 (l0 q),.int .u64 (l1 q),.int .u64 (l2 q),.int .u64 (l3 q),.int .u64 (l0 c),.int .u64 (l1 c),.int .u64 (l2 c),.int .u64 (l3 c)],.agg #[.int .u64 (l0 (aL q n (m/2 ^ (i+1)))),.int .u64 (l1 (aL q n (m/2 ^ (i+1)))),.int .u64 (l2 (aL q n (m/2 ^ (i+1)))),.int .u64 (l3 (aL q n (m/2 ^ (i+1))))],.agg #[.int .u64 (l0 (aL q n (m/2 ^ (i+1)))),.int .u64 (l1 (aL q n (m/2 ^ (i+1)))),.int .u64 (l2 (aL q n (m/2 ^ (i+1)))),.int .u64 (l3 (aL q n (m/2 ^ (i+1))))]] W (.agg #[.int .u64 (l0 (aL q n (2*(m/2 ^ (i+1))))),.int .u64 (l1 (aL q n (2*(m/2 ^ (i+1))))),.int .u64 (l2 (aL q n (2*(m/2 ^ (i+1))))),.int .u64 (l3 (aL q n (2*(m/2 ^ (i+1)))))])):=fun W=>by
    have:=j8 hf (dV hf n (m/2 ^ (i+1))) (dV hf n (m/2 ^ (i+1))) W
    rw [si q n q0] at this
    exact this
   have M2:Hid (∀ W,Rt 97 #[.agg #[.int .u64 (l0 q),.int .u64 (l1 q),.int .u64 (l2 q),.int .u64 (l3 q),.int .u64 (l0 c),.int .u64 (l1 c),.int .u64 (l2 c),.int .u64 (l3 c)],.agg #[.int .u64 (l0 (aL q n (2*(m/2 ^ (i+1))))),.int .u64 (l1 (aL q n (2*(m/2 ^ (i+1))))),.int .u64 (l2 (aL q n (2*(m/2 ^ (i+1))))),.int .u64 (l3 (aL q n (2*(m/2 ^ (i+1)))))],U4 n] W (.agg #[.int .u64 (l0 (aL q n (2*(m/2 ^ (i+1))+1))),.int .u64 (l1 (aL q n (2*(m/2 ^ (i+1))+1))),.int .u64 (l2 (aL q n (2*(m/2 ^ (i+1))+1))),.int .u64 (l3 (aL q n (2*(m/2 ^ (i+1))+1)))])):=fun W=>by
    have:=j8 hf (dV hf n (2*(m/2 ^ (i+1)))) hn W
    rw [i7 q n (by omega)] at this
    exact this
   have ea:Hid (((i+1:Nat):Int)-1=i):=e1
   rw [e1]
   clear e1 eb hd
   generalize m/2 ^ (i+1)=E at *
   have gP:=hP.1.cells;have gF:=hF.cells
   go_wp2_with fail
   with_reducible refine (M1.out _).mono ?_
   rintro e w3 ⟨rfl,hb⟩
   replace B:=B.trans (hb.mono B.size)
   replace hF:=hF.keep hb;replace hX:=hX.keep hb;replace hY:=hY.keep hb;replace hR:=hR.keep hb;replace hP:=hP.keep hb
   clear hb gP gF
   have gP:=hP.1.cells;have fP:=hP.2.all4;have gY:=hY.cells
   go_wp2_with fail
   refine aa (fun W=>Below w.heap.size w W∧aC W w.heap.size q c∧ae W bx n∧ae W bw m∧af W br∧Var W bp (aL q n (2*E))) ⟨ak B o2 _ _ _ _,hF.set4 c0 _ _ _ _,hX.set4 c1 _ _ _ _,hY.set4 c2 _ _ _ _,hR.set4 c3 _ _ _ _,hP.sets _⟩ ?_
   clear B hF hX hY hR hP gP fP gY
   rintro W ⟨B,hF,hX,hY,hR,hP⟩
   refine (pD hm W).mono ?_
   rintro e w4 ⟨rfl,hb⟩
   replace B:=B.trans (hb.mono B.size)
   replace hF:=hF.keep hb;replace hX:=hX.keep hb;replace hY:=hY.keep hb;replace hR:=hR.keep hb;replace hP:=hP.keep hb
   clear hb W
   rcases bt with bt|bt
   ·have hP':Var w4 bp (aL q n (m/2 ^ i)):=by rw [HD.out,bt,Int.add_zero];exact hP
    clear hP HD
    go_wp2
    go_roundw
    case rel=>exact ⟨i,by omega,by go_num,B,hF,hX,hY,hR,hP'⟩
    case measure=>first|(simp [intOf];done)|(simp [intOf];omega)
   ·have gP:=hP.1.cells;have gX:=hX.cells;have gF:=hF.cells
    have ee:Hid (m/2 ^ i=2*E+1):=by have:=HD.out;rw [bt] at this;exact this
    clear HD
    go_wp2_with fail
    with_reducible refine (M2.out _).mono ?_
    rintro e w5 ⟨rfl,hb⟩
    replace B:=B.trans (hb.mono B.size)
    replace hF:=hF.keep hb;replace hX:=hX.keep hb;replace hY:=hY.keep hb;replace hR:=hR.keep hb;replace hP:=hP.keep hb
    clear hb gP gX gF
    have gP:=hP.1.cells;have fP:=hP.2.all4
    go_wp2
    go_roundw
    case rel=>exact ⟨i,by omega,by go_num,ak B o2 _ _ _ _,hF.set4 c0 _ _ _ _,hX.set4 c1 _ _ _ _,hY.set4 c2 _ _ _ _,hR.set4 c3 _ _ _ _,by rw [ee.out];exact hP.sets _⟩
    case measure=>first|(simp [intOf];done)|(simp [intOf];omega)
open Go.RowKit Go.Sort
def Mds (W:World):Prop:=Row W 1 [l0 pN,l1 pN,l2 pN,l3 pN,l0 pC,l1 pC,l2 pC,l3 pC,l0 nN,l1 nN,l2 nN,l3 nN,l0 nC,l1 nC,l2 nC,l3 nC]
theorem Mds.keep {W w1:World} (h:Mds W) (hb:Below W.heap.size W w1):Mds w1:=Row.keep h hb
theorem Mds.alloc {W:World} (h:Mds W) (o:Obj):Mds (W.alloc o):=Row.alloc h o
theorem Mds.set {W:World} {b i:Nat} (h:Mds W) (ne:b≠1) (v:Value):Mds (W.setCell ⟨b,i,none⟩ v):=Row.setOther h ne v
theorem Mds.set4 {W:World} {b:Nat} (h:Mds W) (ne:b≠1) (v0 v1 v2 v3:Value):Mds ((((W.setCell ⟨b,0,none⟩ v0).setCell ⟨b,1,none⟩ v1).setCell ⟨b,2,none⟩ v2).setCell ⟨b,3,none⟩ v3):=(((h.set ne v0).set ne v1).set ne v2).set ne v3
theorem Mds.lt {W:World} (h:Mds W):1<W.heap.size:=Row.lt h (by simp)
theorem Mds.p {W:World} (h:Mds W):aC W 1 pN pC:=fun i hi=>by
 have:=h i (by simp at hi ⊢; omega)
 rw [this]
 simp at hi
 match i,hi with
 | 0,_=>rfl
 | 1,_=>rfl
 | 2,_=>rfl
 | 3,_=>rfl
 | 4,_=>rfl
 | 5,_=>rfl
 | 6,_=>rfl
 | 7,_=>rfl
theorem Mds.n {W:World} (h:Mds W):W.cell? ⟨1,8,none⟩=some (.int .u64 (l0 nN))∧W.cell? ⟨1,9,none⟩=some (.int .u64 (l1 nN))∧W.cell? ⟨1,10,none⟩=some (.int .u64 (l2 nN))∧W.cell? ⟨1,11,none⟩=some (.int .u64 (l3 nN))∧W.cell? ⟨1,12,none⟩=some (.int .u64 (l0 nC))∧W.cell? ⟨1,13,none⟩=some (.int .u64 (l1 nC))∧W.cell? ⟨1,14,none⟩=some (.int .u64 (l2 nC))∧W.cell? ⟨1,15,none⟩=some (.int .u64 (l3 nC)) :=
 ⟨h 8 (by simp),h 9 (by simp),h 10 (by simp),h 11 (by simp),h 12 (by simp),h 13 (by simp),h 14 (by simp),h 15 (by simp)⟩
def kM (k:Int):Int:=if k=0 then pN else if k=1 then nN else 0
def kC (k:Int):Int:=if k=0 then pC else if k=1 then nC else 0
def kE (k:Int):Int:=if k=0 then 0 else if k=1 then 0 else 1
theorem Ci (k:Int) (w:World) (hm:Mds w) :
  Calls Tryz.prog 80 #[.int .i64 k] w fun e w'=>e = .returned (.tuple #[.agg #[.int .u64 (l0 (kM k)),.int .u64 (l1 (kM k)),.int .u64 (l2 (kM k)),.int .u64 (l3 (kM k)),.int .u64 (l0 (kC k)),.int .u64 (l1 (kC k)),.int .u64 (l2 (kC k)),.int .u64 (l3 (kC k))],.int .i64 (kE k)])∧Below w.heap.size w w':=by
 obtain ⟨z0,z1,z2,z3⟩:=ap
 have gP:=fun o=>(hm.alloc o).p.cells
 have gN:=fun o=>(hm.alloc o).n
 have ll:=hm.lt
 by_cases h0:k=0
 ·subst h0
  rw [show kM 0=pN from rfl,show kC 0=pC from rfl,show kE 0=0 from rfl]
  clear z0 z1 z2 z3 gN
  generalize pN=m at *
  generalize pC=c at *
  go_enter Tryz.func80,Tryz.ntmps80
  go_wp2
  simp [bodyPost,results,Tryz.results80,go_sem]
  repeat (first|with_reducible exact Below.refl _ _|with_reducible refine Below.drew ?_|with_reducible refine Below.alloc ?_ (by first|omega|(simp;done)|(simp;omega)) _|with_reducible refine Below.setCell ?_ (by first|omega|(simp;done)) _)
 by_cases h1:k=1
 ·subst h1
  rw [show kM 1=nN from rfl,show kC 1=nC from rfl,show kE 1=0 from rfl]
  clear z0 z1 z2 z3 gP
  generalize nN=m at *
  generalize nC=c at *
  go_enter Tryz.func80,Tryz.ntmps80
  go_wp2
  simp [bodyPost,results,Tryz.results80,go_sem]
  repeat (first|with_reducible exact Below.refl _ _|with_reducible refine Below.drew ?_|with_reducible refine Below.alloc ?_ (by first|omega|(simp;done)|(simp;omega)) _|with_reducible refine Below.setCell ?_ (by first|omega|(simp;done)) _)
 ·rw [show kM k=0 by simp [kM,h0,h1],show kC k=0 by simp [kC,h0,h1],show kE k=1 by simp [kE,h0,h1],z0,z1,z2,z3]
  have t0:(k != 0)=true:=by simp [h0]
  have t1:(k != 1)=true:=by simp [h1]
  clear z0 z1 z2 z3 gP gN
  go_enter Tryz.func80,Tryz.ntmps80
  go_wp2
  simp [bodyPost,results,Tryz.results80,go_sem]
  repeat (first|with_reducible exact Below.refl _ _|with_reducible refine Below.drew ?_|with_reducible refine Below.alloc ?_ (by first|omega|(simp;done)|(simp;omega)) _|with_reducible refine Below.setCell ?_ (by first|omega|(simp;done)) _)
open Go.RowKit Go.Sort
structure Kind (k m c:Int):Prop where
 em:kM k=m
 ec:kC k=c
 ee:kE k=0
 fit:Fit m c
theorem mU:Kind 0 pN pC:=⟨rfl,rfl,rfl,am⟩
theorem k8:Kind 1 nN nC:=⟨rfl,rfl,rfl,fX⟩
theorem gU {k m c:Int} (h:Kind k m c) (w:World) (hm:Mds w) :
  Rt 80 #[.int .i64 k] w (.tuple #[.agg #[.int .u64 (l0 m),.int .u64 (l1 m),.int .u64 (l2 m),.int .u64 (l3 m),.int .u64 (l0 c),.int .u64 (l1 c),.int .u64 (l2 c),.int .u64 (l3 c)],.int .i64 0]):=by
 have:=Ci k w hm
 rw [h.em,h.ec,h.ee] at this
 exact this
theorem qy {k m c x y:Int} (hk:Kind k m c) (hx:Num x) (hy:Num y) (w:World) (hm:Mds w) :
  Rt 100 #[.int .i64 k,U4 x,U4 y] w (.tuple #[U4 (ab m (b8 x y)),.int .i64 0]):=by
 have C:Hid (∀ w,Rt 125 #[.agg #[.int .u64 (l0 m),.int .u64 (l1 m),.int .u64 (l2 m),.int .u64 (l3 m),.int .u64 (l0 c),.int .u64 (l1 c),.int .u64 (l2 c),.int .u64 (l3 c)],U4 x,U4 y] w (U4 (ab m (b8 x y)))):=l8 hk.fit hx hy
 generalize (ab m (b8 x y))=r at *
 go_enter Tryz.func100,Tryz.ntmps100
 go_wp2_with fail
 refine aa (fun W=>Below w.heap.size w W∧Mds W∧ae W w.heap.size x∧ae W (w.heap.size+1) y∧af W (w.heap.size+1+1)) ⟨by repeat (first|with_reducible exact Below.refl _ _|with_reducible refine Below.alloc ?_ (by first|omega|(simp;done)|(simp;omega)) _),((hm.alloc _).alloc _).alloc _,((ae.fresh (by simp)).alloc _).alloc _,(ae.fresh (by simp)).alloc _,af.new (by simp)⟩ ?_
 rintro W ⟨B,hD,hX,hY,hR⟩
 have o3:w.heap.size≤w.heap.size+1+1:=by omega
 generalize w.heap.size+1+1=br at *
 generalize w.heap.size+1=bw at *
 with_reducible refine (gU hk _ hD).mono ?_
 rintro e w1 ⟨rfl,hb⟩
 replace B:=B.trans (hb.mono B.size)
 replace hX:=hX.keep hb;replace hY:=hY.keep hb;replace hR:=hR.keep hb
 clear hb hD W
 have gX:=hX.allocs;have gY:=hY.allocs
 go_wp2_with fail
 refine aa (fun W=>Below w.heap.size w W∧af W br) ⟨B.alloc B.size _,hR.alloc _⟩ ?_
 clear B hX hY hR gX gY
 rintro W ⟨B,hR⟩
 with_reducible refine (C.out _).mono ?_
 rintro e w2 ⟨rfl,hb⟩
 replace B:=B.trans (hb.mono B.size)
 replace hR:=hR.keep hb
 clear hb W
 have gR:=hR.1.all4;have fR:=hR.2.all4
 go_wp2
 simp [bodyPost,results,Tryz.results100,go_sem,gR]
 exact ak B o3 _ _ _ _
theorem qz {k m c x y:Int} (hk:Kind k m c) (hx:Num x) (hy:Num y) (w:World) (hm:Mds w) :
  Rt 109 #[.int .i64 k,U4 x,U4 y] w (.tuple #[U4 (ab m (x+y)),.int .i64 0]):=by
 have C:Hid (∀ w,Rt 129 #[.agg #[.int .u64 (l0 m),.int .u64 (l1 m),.int .u64 (l2 m),.int .u64 (l3 m),.int .u64 (l0 c),.int .u64 (l1 c),.int .u64 (l2 c),.int .u64 (l3 c)],U4 x,U4 y] w (U4 (ab m (x+y)))):=xu hk.fit hx hy
 generalize (ab m (x+y))=r at *
 go_enter Tryz.func109,Tryz.ntmps109
 go_wp2_with fail
 refine aa (fun W=>Below w.heap.size w W∧Mds W∧ae W w.heap.size x∧ae W (w.heap.size+1) y∧af W (w.heap.size+1+1)) ⟨by repeat (first|with_reducible exact Below.refl _ _|with_reducible refine Below.alloc ?_ (by first|omega|(simp;done)|(simp;omega)) _),((hm.alloc _).alloc _).alloc _,((ae.fresh (by simp)).alloc _).alloc _,(ae.fresh (by simp)).alloc _,af.new (by simp)⟩ ?_
 rintro W ⟨B,hD,hX,hY,hR⟩
 have o3:w.heap.size≤w.heap.size+1+1:=by omega
 generalize w.heap.size+1+1=br at *
 generalize w.heap.size+1=bw at *
 with_reducible refine (gU hk _ hD).mono ?_
 rintro e w1 ⟨rfl,hb⟩
 replace B:=B.trans (hb.mono B.size)
 replace hX:=hX.keep hb;replace hY:=hY.keep hb;replace hR:=hR.keep hb
 clear hb hD W
 have gX:=hX.allocs;have gY:=hY.allocs
 go_wp2_with fail
 refine aa (fun W=>Below w.heap.size w W∧af W br) ⟨B.alloc B.size _,hR.alloc _⟩ ?_
 clear B hX hY hR gX gY
 rintro W ⟨B,hR⟩
 with_reducible refine (C.out _).mono ?_
 rintro e w2 ⟨rfl,hb⟩
 replace B:=B.trans (hb.mono B.size)
 replace hR:=hR.keep hb
 clear hb W
 have gR:=hR.1.all4;have fR:=hR.2.all4
 go_wp2
 simp [bodyPost,results,Tryz.results109,go_sem,gR]
 exact ak B o3 _ _ _ _
theorem xB {k m c x y:Int} (hk:Kind k m c) (hx:Num x) (hy:Num y) (w:World) (hm:Mds w) :
  Rt 110 #[.int .i64 k,U4 x,U4 y] w (.tuple #[U4 (ab m (x-y)),.int .i64 0]):=by
 have C:Hid (∀ w,Rt 99 #[.agg #[.int .u64 (l0 m),.int .u64 (l1 m),.int .u64 (l2 m),.int .u64 (l3 m),.int .u64 (l0 c),.int .u64 (l1 c),.int .u64 (l2 c),.int .u64 (l3 c)],U4 x,U4 y] w (U4 (ab m (x-y)))):=mT hk.fit hx hy
 generalize (ab m (x-y))=r at *
 go_enter Tryz.func110,Tryz.ntmps110
 go_wp2_with fail
 refine aa (fun W=>Below w.heap.size w W∧Mds W∧ae W w.heap.size x∧ae W (w.heap.size+1) y∧af W (w.heap.size+1+1)) ⟨by repeat (first|with_reducible exact Below.refl _ _|with_reducible refine Below.alloc ?_ (by first|omega|(simp;done)|(simp;omega)) _),((hm.alloc _).alloc _).alloc _,((ae.fresh (by simp)).alloc _).alloc _,(ae.fresh (by simp)).alloc _,af.new (by simp)⟩ ?_
 rintro W ⟨B,hD,hX,hY,hR⟩
 have o3:w.heap.size≤w.heap.size+1+1:=by omega
 generalize w.heap.size+1+1=br at *
 generalize w.heap.size+1=bw at *
 with_reducible refine (gU hk _ hD).mono ?_
 rintro e w1 ⟨rfl,hb⟩
 replace B:=B.trans (hb.mono B.size)
 replace hX:=hX.keep hb;replace hY:=hY.keep hb;replace hR:=hR.keep hb
 clear hb hD W
 have gX:=hX.allocs;have gY:=hY.allocs
 go_wp2_with fail
 refine aa (fun W=>Below w.heap.size w W∧af W br) ⟨B.alloc B.size _,hR.alloc _⟩ ?_
 clear B hX hY hR gX gY
 rintro W ⟨B,hR⟩
 with_reducible refine (C.out _).mono ?_
 rintro e w2 ⟨rfl,hb⟩
 replace B:=B.trans (hb.mono B.size)
 replace hR:=hR.keep hb
 clear hb W
 have gR:=hR.1.all4;have fR:=hR.2.all4
 go_wp2
 simp [bodyPost,results,Tryz.results110,go_sem,gR]
 exact ak B o3 _ _ _ _
theorem qA {k m c x y:Int} (hk:Kind k m c) (hx:Num x) (hy:Num y) (w:World) (hm:Mds w) :
  Rt 67 #[.int .i64 k,U4 x,U4 y] w (.tuple #[U4 (ab m (x*y)),.int .i64 0]):=by
 have C:Hid (∀ w,Rt 97 #[.agg #[.int .u64 (l0 m),.int .u64 (l1 m),.int .u64 (l2 m),.int .u64 (l3 m),.int .u64 (l0 c),.int .u64 (l1 c),.int .u64 (l2 c),.int .u64 (l3 c)],U4 x,U4 y] w (U4 (ab m (x*y)))):=j8 hk.fit hx hy
 generalize (ab m (x*y))=r at *
 go_enter Tryz.func67,Tryz.ntmps67
 go_wp2_with fail
 refine aa (fun W=>Below w.heap.size w W∧Mds W∧ae W w.heap.size x∧ae W (w.heap.size+1) y∧af W (w.heap.size+1+1)) ⟨by repeat (first|with_reducible exact Below.refl _ _|with_reducible refine Below.alloc ?_ (by first|omega|(simp;done)|(simp;omega)) _),((hm.alloc _).alloc _).alloc _,((ae.fresh (by simp)).alloc _).alloc _,(ae.fresh (by simp)).alloc _,af.new (by simp)⟩ ?_
 rintro W ⟨B,hD,hX,hY,hR⟩
 have o3:w.heap.size≤w.heap.size+1+1:=by omega
 generalize w.heap.size+1+1=br at *
 generalize w.heap.size+1=bw at *
 with_reducible refine (gU hk _ hD).mono ?_
 rintro e w1 ⟨rfl,hb⟩
 replace B:=B.trans (hb.mono B.size)
 replace hX:=hX.keep hb;replace hY:=hY.keep hb;replace hR:=hR.keep hb
 clear hb hD W
 have gX:=hX.allocs;have gY:=hY.allocs
 go_wp2_with fail
 refine aa (fun W=>Below w.heap.size w W∧af W br) ⟨B.alloc B.size _,hR.alloc _⟩ ?_
 clear B hX hY hR gX gY
 rintro W ⟨B,hR⟩
 with_reducible refine (C.out _).mono ?_
 rintro e w2 ⟨rfl,hb⟩
 replace B:=B.trans (hb.mono B.size)
 replace hR:=hR.keep hb
 clear hb W
 have gR:=hR.1.all4;have fR:=hR.2.all4
 go_wp2
 simp [bodyPost,results,Tryz.results67,go_sem,gR]
 exact ak B o3 _ _ _ _
open Go.RowKit Go.Sort
theorem pF {k m c e0:Int} (O:Hid (∀ w,Mds w→Rt 80 #[.int .i64 k] w (.tuple #[.agg #[.int .u64 (l0 m),.int .u64 (l1 m),.int .u64 (l2 m),.int .u64 (l3 m),.int .u64 (l0 c),.int .u64 (l1 c),.int .u64 (l2 c),.int .u64 (l3 c)],.int .i64 e0]))) (w:World) (hm:Mds w) :
  Rt 94 #[.int .i64 k] w (.tuple #[U4 m,.int .i64 e0]):=by
 go_enter Tryz.func94,Tryz.ntmps94
 go_wp2_with fail
 refine aa (fun W=>Below w.heap.size w W∧Mds W∧af W w.heap.size) ⟨by repeat (first|with_reducible exact Below.refl _ _|with_reducible refine Below.alloc ?_ (by first|omega|(simp;done)|(simp;omega)) _),hm.alloc _,af.new (by simp)⟩ ?_
 rintro W ⟨B,hD,hR⟩
 have o3:w.heap.size≤w.heap.size:=by omega
 with_reducible refine (O.out _ hD).mono ?_
 rintro e w1 ⟨rfl,hb⟩
 replace B:=B.trans (hb.mono B.size)
 replace hR:=hR.keep hb
 have lr:=hR.1.lt (by simp)
 have nr:w1.heap.size≠w.heap.size:=by omega
 have nr':=nr.symm
 clear hb hD W lr
 have gR:=fun o=>(hR.alloc o).1.all4
 have fR:=fun o=>(hR.alloc o).2.all4
 have BB:Hid (∀ o,Below w.heap.size w (w1.alloc o)):=fun o=>B.alloc B.size o
 clear B hR
 go_wp2
 simp [bodyPost,results,Tryz.results94,go_sem, *]
 repeat (first|with_reducible exact BB.out _|with_reducible refine Below.drew ?_|with_reducible refine Below.setCell ?_ (by with_reducible assumption) _)
theorem kf {k m c:Int} (hk:Kind k m c) (w:World) (hm:Mds w) :
  Rt 94 #[.int .i64 k] w (.tuple #[U4 m,.int .i64 0]):=pF (fun w h=>gU hk w h) w hm
theorem xC {k m c x:Int} (hk:Kind k m c) (hx:Num x) (w:World) (hm:Mds w) :
  Rt 68 #[.int .i64 k,U4 x] w (.tuple #[U4 (ab m (0-x)),.int .i64 0]):=by
 have C:Hid (∀ w,Rt 99 #[.agg #[.int .u64 (l0 m),.int .u64 (l1 m),.int .u64 (l2 m),.int .u64 (l3 m),.int .u64 (l0 c),.int .u64 (l1 c),.int .u64 (l2 c),.int .u64 (l3 c)],.agg #[.int .u64 0,.int .u64 0,.int .u64 0,.int .u64 0],U4 x] w (U4 (ab m (0-x)))):=fun w=>by
  have:=mT (x:=0) hk.fit ⟨by decide,by decide⟩ hx w
  obtain ⟨z0,z1,z2,z3⟩:=ap
  ((try unfold Rt at this);(try unfold U4 at this);(try unfold P9 at this);rw [z0,z1,z2,z3] at this)
  exact this
 have bz:=bR
 generalize ab m (0-x)=r at *
 go_enter Tryz.func68,Tryz.ntmps68
 go_wp2_with fail
 refine aa (fun W=>Below w.heap.size w W∧Mds W∧ae W w.heap.size x∧af W (w.heap.size+1)) ⟨by repeat (first|with_reducible exact Below.refl _ _|with_reducible refine Below.alloc ?_ (by first|omega|(simp;done)|(simp;omega)) _),(hm.alloc _).alloc _,(ae.fresh (by simp)).alloc _,af.new (by simp)⟩ ?_
 rintro W ⟨B,hD,hX,hR⟩
 have o3:w.heap.size≤w.heap.size+1:=by omega
 generalize w.heap.size+1=br at *
 with_reducible refine (gU hk _ hD).mono ?_
 rintro e w1 ⟨rfl,hb⟩
 replace B:=B.trans (hb.mono B.size)
 replace hX:=hX.keep hb;replace hR:=hR.keep hb
 clear hb hD W
 have gX:=hX.allocs
 go_wp2_with fail
 refine aa (fun W=>Below w.heap.size w W∧af W br) ⟨B.alloc B.size _,hR.alloc _⟩ ?_
 clear B hX hR gX
 rintro W ⟨B,hR⟩
 with_reducible refine (C.out _).mono ?_
 rintro e w2 ⟨rfl,hb⟩
 replace B:=B.trans (hb.mono B.size)
 replace hR:=hR.keep hb
 clear hb W
 have gR:=hR.1.all4;have fR:=hR.2.all4
 go_wp2
 simp [bodyPost,results,Tryz.results68,go_sem,gR]
 exact ak B o3 _ _ _ _
open Go.RowKit Go.Sort
theorem k9 {x y:Int} (hx:Num x) (hy:Num y) (w:World) (hm:Mds w) :
  Calls Tryz.prog 76 #[.agg #[.int .u64 (l0 x),.int .u64 (l1 x),.int .u64 (l2 x),.int .u64 (l3 x)],.agg #[.int .u64 (l0 y),.int .u64 (l1 y),.int .u64 (l2 y),.int .u64 (l3 y)]] w fun e w'=>e = .returned (.agg #[.int .u64 (l0 (ab pN (x+y))),.int .u64 (l1 (ab pN (x+y))),.int .u64 (l2 (ab pN (x+y))),.int .u64 (l3 (ab pN (x+y)))])∧Below w.heap.size w w':=by
 have C:Hid (∀ w,Mds w→Calls Tryz.prog 109 #[.int .i64 0,.agg #[.int .u64 (l0 x),.int .u64 (l1 x),.int .u64 (l2 x),.int .u64 (l3 x)],.agg #[.int .u64 (l0 y),.int .u64 (l1 y),.int .u64 (l2 y),.int .u64 (l3 y)]] w fun e w'=>e = .returned (.tuple #[.agg #[.int .u64 (l0 (ab pN (x+y))),.int .u64 (l1 (ab pN (x+y))),.int .u64 (l2 (ab pN (x+y))),.int .u64 (l3 (ab pN (x+y)))],.int .i64 0])∧Below w.heap.size w w'):=fun w hm=>qz mU hx hy w hm
 generalize ab pN (x+y)=r at *
 clear hx hy
 go_enter Tryz.func76,Tryz.ntmps76
 go_wp2_with fail
 refine aa (fun W=>Below w.heap.size w W∧Mds W∧af W (w.heap.size+1+1)) ⟨by repeat (first|with_reducible exact Below.refl _ _|with_reducible refine Below.alloc ?_ (by first|omega|(simp;done)|(simp;omega)) _),((hm.alloc _).alloc _).alloc _,af.new (by simp)⟩ ?_
 rintro W ⟨B,hD,hR⟩
 have o3:w.heap.size≤w.heap.size+1+1:=by omega
 generalize w.heap.size+1+1=br at *
 with_reducible refine (C.out _ hD).mono ?_
 rintro e w1 ⟨rfl,hb⟩
 replace B:=B.trans (hb.mono B.size)
 replace hR:=hR.keep hb
 have lr:=hR.1.lt (by simp)
 have nr:w1.heap.size≠br:=by omega
 have nr':=nr.symm
 clear hb hD W lr
 have gR:=fun o=>(hR.alloc o).1.all4
 have fR:=fun o=>(hR.alloc o).2.all4
 have BB:Hid (∀ o,Below w.heap.size w (w1.alloc o)):=fun o=>B.alloc B.size o
 clear B hR
 go_wp2
 simp [bodyPost,results,Tryz.results76,go_sem, *]
 repeat (first|with_reducible exact BB.out _|with_reducible refine Below.drew ?_|with_reducible refine Below.setCell ?_ (by with_reducible assumption) _)
theorem bK {x y:Int} (hx:Num x) (hy:Num y) (w:World) (hm:Mds w) :
  Calls Tryz.prog 78 #[.agg #[.int .u64 (l0 x),.int .u64 (l1 x),.int .u64 (l2 x),.int .u64 (l3 x)],.agg #[.int .u64 (l0 y),.int .u64 (l1 y),.int .u64 (l2 y),.int .u64 (l3 y)]] w fun e w'=>e = .returned (.agg #[.int .u64 (l0 (ab pN (x-y))),.int .u64 (l1 (ab pN (x-y))),.int .u64 (l2 (ab pN (x-y))),.int .u64 (l3 (ab pN (x-y)))])∧Below w.heap.size w w':=by
 have C:Hid (∀ w,Mds w→Calls Tryz.prog 110 #[.int .i64 0,.agg #[.int .u64 (l0 x),.int .u64 (l1 x),.int .u64 (l2 x),.int .u64 (l3 x)],.agg #[.int .u64 (l0 y),.int .u64 (l1 y),.int .u64 (l2 y),.int .u64 (l3 y)]] w fun e w'=>e = .returned (.tuple #[.agg #[.int .u64 (l0 (ab pN (x-y))),.int .u64 (l1 (ab pN (x-y))),.int .u64 (l2 (ab pN (x-y))),.int .u64 (l3 (ab pN (x-y)))],.int .i64 0])∧Below w.heap.size w w'):=fun w hm=>xB mU hx hy w hm
 generalize ab pN (x-y)=r at *
 clear hx hy
 go_enter Tryz.func78,Tryz.ntmps78
 go_wp2_with fail
 refine aa (fun W=>Below w.heap.size w W∧Mds W∧af W (w.heap.size+1+1)) ⟨by repeat (first|with_reducible exact Below.refl _ _|with_reducible refine Below.alloc ?_ (by first|omega|(simp;done)|(simp;omega)) _),((hm.alloc _).alloc _).alloc _,af.new (by simp)⟩ ?_
 rintro W ⟨B,hD,hR⟩
 have o3:w.heap.size≤w.heap.size+1+1:=by omega
 generalize w.heap.size+1+1=br at *
 with_reducible refine (C.out _ hD).mono ?_
 rintro e w1 ⟨rfl,hb⟩
 replace B:=B.trans (hb.mono B.size)
 replace hR:=hR.keep hb
 have lr:=hR.1.lt (by simp)
 have nr:w1.heap.size≠br:=by omega
 have nr':=nr.symm
 clear hb hD W lr
 have gR:=fun o=>(hR.alloc o).1.all4
 have fR:=fun o=>(hR.alloc o).2.all4
 have BB:Hid (∀ o,Below w.heap.size w (w1.alloc o)):=fun o=>B.alloc B.size o
 clear B hR
 go_wp2
 simp [bodyPost,results,Tryz.results78,go_sem, *]
 repeat (first|with_reducible exact BB.out _|with_reducible refine Below.drew ?_|with_reducible refine Below.setCell ?_ (by with_reducible assumption) _)
theorem aD {x y:Int} (hx:Num x) (hy:Num y) (w:World) (hm:Mds w) :
  Calls Tryz.prog 49 #[.agg #[.int .u64 (l0 x),.int .u64 (l1 x),.int .u64 (l2 x),.int .u64 (l3 x)],.agg #[.int .u64 (l0 y),.int .u64 (l1 y),.int .u64 (l2 y),.int .u64 (l3 y)]] w fun e w'=>e = .returned (.agg #[.int .u64 (l0 (ab pN (x*y))),.int .u64 (l1 (ab pN (x*y))),.int .u64 (l2 (ab pN (x*y))),.int .u64 (l3 (ab pN (x*y)))])∧Below w.heap.size w w':=by
 have C:Hid (∀ w,Mds w→Calls Tryz.prog 67 #[.int .i64 0,.agg #[.int .u64 (l0 x),.int .u64 (l1 x),.int .u64 (l2 x),.int .u64 (l3 x)],.agg #[.int .u64 (l0 y),.int .u64 (l1 y),.int .u64 (l2 y),.int .u64 (l3 y)]] w fun e w'=>e = .returned (.tuple #[.agg #[.int .u64 (l0 (ab pN (x*y))),.int .u64 (l1 (ab pN (x*y))),.int .u64 (l2 (ab pN (x*y))),.int .u64 (l3 (ab pN (x*y)))],.int .i64 0])∧Below w.heap.size w w'):=fun w hm=>qA mU hx hy w hm
 generalize ab pN (x*y)=r at *
 clear hx hy
 go_enter Tryz.func49,Tryz.ntmps49
 go_wp2_with fail
 refine aa (fun W=>Below w.heap.size w W∧Mds W∧af W (w.heap.size+1+1)) ⟨by repeat (first|with_reducible exact Below.refl _ _|with_reducible refine Below.alloc ?_ (by first|omega|(simp;done)|(simp;omega)) _),((hm.alloc _).alloc _).alloc _,af.new (by simp)⟩ ?_
 rintro W ⟨B,hD,hR⟩
 have o3:w.heap.size≤w.heap.size+1+1:=by omega
 generalize w.heap.size+1+1=br at *
 with_reducible refine (C.out _ hD).mono ?_
 rintro e w1 ⟨rfl,hb⟩
 replace B:=B.trans (hb.mono B.size)
 replace hR:=hR.keep hb
 have lr:=hR.1.lt (by simp)
 have nr:w1.heap.size≠br:=by omega
 have nr':=nr.symm
 clear hb hD W lr
 have gR:=fun o=>(hR.alloc o).1.all4
 have fR:=fun o=>(hR.alloc o).2.all4
 have BB:Hid (∀ o,Below w.heap.size w (w1.alloc o)):=fun o=>B.alloc B.size o
 clear B hR
 go_wp2
 simp [bodyPost,results,Tryz.results49,go_sem, *]
 repeat (first|with_reducible exact BB.out _|with_reducible refine Below.drew ?_|with_reducible refine Below.setCell ?_ (by with_reducible assumption) _)
theorem aY {x:Int} (hx:Num x) (w:World) (hm:Mds w) :
  Calls Tryz.prog 48 #[.agg #[.int .u64 (l0 x),.int .u64 (l1 x),.int .u64 (l2 x),.int .u64 (l3 x)]] w fun e w'=>e = .returned (.agg #[.int .u64 (l0 (ab pN (x*x))),.int .u64 (l1 (ab pN (x*x))),.int .u64 (l2 (ab pN (x*x))),.int .u64 (l3 (ab pN (x*x)))])∧Below w.heap.size w w':=by
 have C:Hid (∀ w,Mds w→Calls Tryz.prog 49 #[.agg #[.int .u64 (l0 x),.int .u64 (l1 x),.int .u64 (l2 x),.int .u64 (l3 x)],.agg #[.int .u64 (l0 x),.int .u64 (l1 x),.int .u64 (l2 x),.int .u64 (l3 x)]] w fun e w'=>e = .returned (.agg #[.int .u64 (l0 (ab pN (x*x))),.int .u64 (l1 (ab pN (x*x))),.int .u64 (l2 (ab pN (x*x))),.int .u64 (l3 (ab pN (x*x)))])∧Below w.heap.size w w'):=fun w hm=>aD hx hx w hm
 generalize ab pN (x*x)=r at *
 clear hx
 go_enter Tryz.func48,Tryz.ntmps48
 go_wp2_with fail
 refine aa (fun W=>Below w.heap.size w W∧Mds W∧af W (w.heap.size+1)) ⟨by repeat (first|with_reducible exact Below.refl _ _|with_reducible refine Below.alloc ?_ (by first|omega|(simp;done)|(simp;omega)) _),(hm.alloc _).alloc _,af.new (by simp)⟩ ?_
 rintro W ⟨B,hD,hR⟩
 have o3:w.heap.size≤w.heap.size+1:=by omega
 generalize w.heap.size+1=br at *
 with_reducible refine (C.out _ hD).mono ?_
 rintro e w1 ⟨rfl,hb⟩
 replace B:=B.trans (hb.mono B.size)
 replace hR:=hR.keep hb
 clear hb hD W
 have gR:=hR.1.all4;have fR:=hR.2.all4
 go_wp2
 simp [bodyPost,results,Tryz.results48,go_sem,gR]
 exact ak B o3 _ _ _ _
theorem cw {x:Int} (hx:Num x) (w:World) (hm:Mds w) :
  Calls Tryz.prog 77 #[.agg #[.int .u64 (l0 x),.int .u64 (l1 x),.int .u64 (l2 x),.int .u64 (l3 x)]] w fun e w'=>e = .returned (.agg #[.int .u64 (l0 (ab pN (x+x))),.int .u64 (l1 (ab pN (x+x))),.int .u64 (l2 (ab pN (x+x))),.int .u64 (l3 (ab pN (x+x)))])∧Below w.heap.size w w':=by
 have C:Hid (∀ w,Mds w→Calls Tryz.prog 76 #[.agg #[.int .u64 (l0 x),.int .u64 (l1 x),.int .u64 (l2 x),.int .u64 (l3 x)],.agg #[.int .u64 (l0 x),.int .u64 (l1 x),.int .u64 (l2 x),.int .u64 (l3 x)]] w fun e w'=>e = .returned (.agg #[.int .u64 (l0 (ab pN (x+x))),.int .u64 (l1 (ab pN (x+x))),.int .u64 (l2 (ab pN (x+x))),.int .u64 (l3 (ab pN (x+x)))])∧Below w.heap.size w w'):=fun w hm=>k9 hx hx w hm
 generalize ab pN (x+x)=r at *
 clear hx
 go_enter Tryz.func77,Tryz.ntmps77
 go_wp2_with fail
 refine aa (fun W=>Below w.heap.size w W∧Mds W∧af W (w.heap.size+1)) ⟨by repeat (first|with_reducible exact Below.refl _ _|with_reducible refine Below.alloc ?_ (by first|omega|(simp;done)|(simp;omega)) _),(hm.alloc _).alloc _,af.new (by simp)⟩ ?_
 rintro W ⟨B,hD,hR⟩
 have o3:w.heap.size≤w.heap.size+1:=by omega
 generalize w.heap.size+1=br at *
 with_reducible refine (C.out _ hD).mono ?_
 rintro e w1 ⟨rfl,hb⟩
 replace B:=B.trans (hb.mono B.size)
 replace hR:=hR.keep hb
 clear hb hD W
 have gR:=hR.1.all4;have fR:=hR.2.all4
 go_wp2
 simp [bodyPost,results,Tryz.results77,go_sem,gR]
 exact ak B o3 _ _ _ _
theorem oA {x:Int} (hx:Num x) (w:World) (hm:Mds w) :
  Calls Tryz.prog 65 #[.agg #[.int .u64 (l0 x),.int .u64 (l1 x),.int .u64 (l2 x),.int .u64 (l3 x)]] w fun e w'=>e = .returned (.agg #[.int .u64 (l0 (ab pN (0-x))),.int .u64 (l1 (ab pN (0-x))),.int .u64 (l2 (ab pN (0-x))),.int .u64 (l3 (ab pN (0-x)))])∧Below w.heap.size w w':=by
 have C:Hid (∀ w,Mds w→Calls Tryz.prog 78 #[.agg #[.int .u64 0,.int .u64 0,.int .u64 0,.int .u64 0],.agg #[.int .u64 (l0 x),.int .u64 (l1 x),.int .u64 (l2 x),.int .u64 (l3 x)]] w fun e w'=>e = .returned (.agg #[.int .u64 (l0 (ab pN (0-x))),.int .u64 (l1 (ab pN (0-x))),.int .u64 (l2 (ab pN (0-x))),.int .u64 (l3 (ab pN (0-x)))])∧Below w.heap.size w w'):=fun w hm=>by
  have:=bK (x:=0) ⟨by decide,by decide⟩ hx w hm
  obtain ⟨z0,z1,z2,z3⟩:=ap
  ((try unfold Rt at this);(try unfold U4 at this);(try unfold P9 at this);rw [z0,z1,z2,z3] at this)
  exact this
 have bz:=bR
 generalize ab pN (0-x)=r at *
 clear hx
 go_enter Tryz.func65,Tryz.ntmps65
 go_wp2_with fail
 refine aa (fun W=>Below w.heap.size w W∧Mds W∧af W (w.heap.size+1)) ⟨by repeat (first|with_reducible exact Below.refl _ _|with_reducible refine Below.alloc ?_ (by first|omega|(simp;done)|(simp;omega)) _),(hm.alloc _).alloc _,af.new (by simp)⟩ ?_
 rintro W ⟨B,hD,hR⟩
 have o3:w.heap.size≤w.heap.size+1:=by omega
 generalize w.heap.size+1=br at *
 with_reducible refine (C.out _ hD).mono ?_
 rintro e w1 ⟨rfl,hb⟩
 replace B:=B.trans (hb.mono B.size)
 replace hR:=hR.keep hb
 clear hb hD W
 have gR:=hR.1.all4;have fR:=hR.2.all4
 go_wp2
 simp [bodyPost,results,Tryz.results65,go_sem,gR]
 exact ak B o3 _ _ _ _
theorem dF {x:Int} (hx:Num x) (w:World) (hm:Mds w) :
  Calls Tryz.prog 62 #[.agg #[.int .u64 (l0 x),.int .u64 (l1 x),.int .u64 (l2 x),.int .u64 (l3 x)]] w fun e w'=>e = .returned (.bool (decide (x<pN)))∧Below w.heap.size w w':=by
 have C:=fun w=>my hx am.num w
 have hv:decide (jN x pN<0)=decide (x<pN):=by
  unfold jN
  by_cases h':x=pN
  ·rw [h'];simp
  ·by_cases h:x<pN<;>simp [h,h']
 have O:Hid (∀ w,Mds w→Calls Tryz.prog 94 #[.int .i64 0] w fun e w'=>e = .returned (.tuple #[.agg #[.int .u64 (l0 pN),.int .u64 (l1 pN),.int .u64 (l2 pN),.int .u64 (l3 pN)],.int .i64 0])∧Below w.heap.size w w'):=fun w hm=>kf mU w hm
 generalize decide (x<pN)=r at *
 generalize jN x pN=q at *
 generalize pN=p at *
 clear hx
 go_enter Tryz.func62,Tryz.ntmps62
 go_wp2_with fail
 refine aa (fun W=>Below w.heap.size w W∧Mds W∧ae W w.heap.size x) ⟨by repeat (first|with_reducible exact Below.refl _ _|with_reducible refine Below.alloc ?_ (by first|omega|(simp;done)|(simp;omega)) _),hm.alloc _,ae.fresh (by simp)⟩ ?_
 rintro W ⟨B,hD,hX⟩
 with_reducible refine (O.out _ hD).mono ?_
 rintro e w1 ⟨rfl,hb⟩
 replace B:=B.trans (hb.mono B.size)
 replace hX:=hX.keep hb
 clear hb hD W
 have gX:=hX.allocs
 go_wp2_with fail
 refine aa (fun W=>Below w.heap.size w W) (B.alloc B.size _) ?_
 clear B hX gX
 rintro W B
 with_reducible refine (C _).mono ?_
 rintro e w2 ⟨rfl,hb⟩
 replace B:=B.trans (hb.mono B.size)
 clear hb W
 go_wp2
 simp [bodyPost,results,Tryz.results62,go_sem]
 exact B
open Go.RowKit Go.Sort
def Cl (W:World) (b:Nat) (vs:List Value):Prop:=∀ i,i<vs.length→W.cell? ⟨b,i,none⟩=some (vs.getD i (.bool false))
theorem Cl.lt {W:World} {b:Nat} {l:List Value} (h:Cl W b l) (hl:0<l.length):b<W.heap.size:=World.block_lt_of_cell? W ⟨b,0,none⟩ (h 0 hl)
theorem Cl.keep {W w1:World} {b:Nat} {l:List Value} (h:Cl W b l) (hb:Below W.heap.size W w1):Cl w1 b l:=fun i hi=>cell_keep hb (h i hi)
theorem Cl.alloc {W:World} {b:Nat} {l:List Value} (h:Cl W b l) (o:Obj):Cl (W.alloc o) b l:=h.keep ((Below.refl _ _).alloc (Nat.le_refl _) o)
theorem Cl.set {W:World} {b b' i:Nat} {l:List Value} (h:Cl W b l) (ne:b'≠b) (v:Value):Cl (W.setCell ⟨b',i,none⟩ v) b l:=fun j hj=>by
 rw [World.cell?_setCell_far _ _ _ _ (by exact ne)];exact h j hj
theorem Cl.new {W:World} {b:Nat} {a:Array Value} {t:TypeId} (l:List Value) (e:b=W.heap.size) (ha:a=l.toArray):Cl (W.alloc (.cells a t)) b l:=by
 subst e;subst ha
 intro i hi
 rw [World.cell?_alloc_mark]
 simp [List.getD,List.getElem?_eq_getElem hi]
theorem aG {w:World} {b i b' i':Nat} {u v:Value} (h:w.cell? ⟨b,i,none⟩=some v) (ne:b'≠b):(w.setCell ⟨b',i',none⟩ u).cell? ⟨b,i,none⟩=some v:=by
 rw [World.cell?_setCell_far _ _ _ _ ne];exact h
def Pnt (W:World) (b:Nat) (x y:Int) (i:Bool):Prop:=Cl W b [.int .u64 (l0 x),.int .u64 (l1 x),.int .u64 (l2 x),.int .u64 (l3 x),.int .u64 (l0 y),.int .u64 (l1 y),.int .u64 (l2 y),.int .u64 (l3 y),.bool i]
theorem Pnt.lt {W:World} {b:Nat} {x y:Int} {i:Bool} (h:Pnt W b x y i):b<W.heap.size:=Cl.lt h (by simp)
theorem Pnt.keep {W w1:World} {b:Nat} {x y:Int} {i:Bool} (h:Pnt W b x y i) (hb:Below W.heap.size W w1):Pnt w1 b x y i:=Cl.keep h hb
theorem Pnt.alloc {W:World} {b:Nat} {x y:Int} {i:Bool} (h:Pnt W b x y i) (o:Obj):Pnt (W.alloc o) b x y i:=Cl.alloc h o
theorem Pnt.cells {W:World} {b:Nat} {x y:Int} {i:Bool} (h:Pnt W b x y i) :
  W.cell? ⟨b,0,none⟩=some (.int .u64 (l0 x))∧W.cell? ⟨b,1,none⟩=some (.int .u64 (l1 x))∧W.cell? ⟨b,2,none⟩=some (.int .u64 (l2 x))∧W.cell? ⟨b,3,none⟩=some (.int .u64 (l3 x))∧W.cell? ⟨b,4,none⟩=some (.int .u64 (l0 y))∧W.cell? ⟨b,5,none⟩=some (.int .u64 (l1 y))∧W.cell? ⟨b,6,none⟩=some (.int .u64 (l2 y))∧W.cell? ⟨b,7,none⟩=some (.int .u64 (l3 y))∧W.cell? ⟨b,8,none⟩=some (.bool i):=⟨h 0 (by simp),h 1 (by simp),h 2 (by simp),h 3 (by simp),h 4 (by simp),h 5 (by simp),h 6 (by simp),h 7 (by simp),h 8 (by simp)⟩
theorem Pnt.new {W:World} {b:Nat} {t:TypeId} {x y:Int} {i:Bool} (e:b=W.heap.size):Pnt (W.alloc (.cells #[.int .u64 (l0 x),.int .u64 (l1 x),.int .u64 (l2 x),.int .u64 (l3 x),.int .u64 (l0 y),.int .u64 (l1 y),.int .u64 (l2 y),.int .u64 (l3 y),.bool i] t)) b x y i:=Cl.new _ e rfl
theorem Pnt.grown {W:World} {b:Nat} {x y:Int} {i:Bool} (h:Pnt W b x y i):∀ d os,
  (grow (redrawn W d) os).cell? ⟨b,0,none⟩=some (.int .u64 (l0 x))∧(grow (redrawn W d) os).cell? ⟨b,1,none⟩=some (.int .u64 (l1 x))∧(grow (redrawn W d) os).cell? ⟨b,2,none⟩=some (.int .u64 (l2 x))∧(grow (redrawn W d) os).cell? ⟨b,3,none⟩=some (.int .u64 (l3 x))∧(grow (redrawn W d) os).cell? ⟨b,4,none⟩=some (.int .u64 (l0 y))∧(grow (redrawn W d) os).cell? ⟨b,5,none⟩=some (.int .u64 (l1 y))∧(grow (redrawn W d) os).cell? ⟨b,6,none⟩=some (.int .u64 (l2 y))∧(grow (redrawn W d) os).cell? ⟨b,7,none⟩=some (.int .u64 (l3 y))∧(grow (redrawn W d) os).cell? ⟨b,8,none⟩=some (.bool i):=fun d os=>(h.keep (below_regrown W d os)).cells
def Thr (W:World) (b:Nat) (x y z:Int):Prop:=Cl W b [.int .u64 (l0 x),.int .u64 (l1 x),.int .u64 (l2 x),.int .u64 (l3 x),.int .u64 (l0 y),.int .u64 (l1 y),.int .u64 (l2 y),.int .u64 (l3 y),.int .u64 (l0 z),.int .u64 (l1 z),.int .u64 (l2 z),.int .u64 (l3 z)]
theorem Thr.lt {W:World} {b:Nat} {x y z:Int} (h:Thr W b x y z):b<W.heap.size:=Cl.lt h (by simp)
theorem Thr.keep {W w1:World} {b:Nat} {x y z:Int} (h:Thr W b x y z) (hb:Below W.heap.size W w1):Thr w1 b x y z:=Cl.keep h hb
theorem Thr.alloc {W:World} {b:Nat} {x y z:Int} (h:Thr W b x y z) (o:Obj):Thr (W.alloc o) b x y z:=Cl.alloc h o
theorem Thr.cells {W:World} {b:Nat} {x y z:Int} (h:Thr W b x y z) :
  W.cell? ⟨b,0,none⟩=some (.int .u64 (l0 x))∧W.cell? ⟨b,1,none⟩=some (.int .u64 (l1 x))∧W.cell? ⟨b,2,none⟩=some (.int .u64 (l2 x))∧W.cell? ⟨b,3,none⟩=some (.int .u64 (l3 x))∧W.cell? ⟨b,4,none⟩=some (.int .u64 (l0 y))∧W.cell? ⟨b,5,none⟩=some (.int .u64 (l1 y))∧W.cell? ⟨b,6,none⟩=some (.int .u64 (l2 y))∧W.cell? ⟨b,7,none⟩=some (.int .u64 (l3 y))∧W.cell? ⟨b,8,none⟩=some (.int .u64 (l0 z))∧W.cell? ⟨b,9,none⟩=some (.int .u64 (l1 z))∧W.cell? ⟨b,10,none⟩=some (.int .u64 (l2 z))∧W.cell? ⟨b,11,none⟩=some (.int .u64 (l3 z)):=⟨h 0 (by simp),h 1 (by simp),h 2 (by simp),h 3 (by simp),h 4 (by simp),h 5 (by simp),h 6 (by simp),h 7 (by simp),h 8 (by simp),h 9 (by simp),h 10 (by simp),h 11 (by simp)⟩
theorem Thr.new {W:World} {b:Nat} {t:TypeId} {x y z:Int} (e:b=W.heap.size):Thr (W.alloc (.cells #[.int .u64 (l0 x),.int .u64 (l1 x),.int .u64 (l2 x),.int .u64 (l3 x),.int .u64 (l0 y),.int .u64 (l1 y),.int .u64 (l2 y),.int .u64 (l3 y),.int .u64 (l0 z),.int .u64 (l1 z),.int .u64 (l2 z),.int .u64 (l3 z)] t)) b x y z:=Cl.new _ e rfl
theorem Thr.grown {W:World} {b:Nat} {x y z:Int} (h:Thr W b x y z):∀ d os,
  (grow (redrawn W d) os).cell? ⟨b,0,none⟩=some (.int .u64 (l0 x))∧(grow (redrawn W d) os).cell? ⟨b,1,none⟩=some (.int .u64 (l1 x))∧(grow (redrawn W d) os).cell? ⟨b,2,none⟩=some (.int .u64 (l2 x))∧(grow (redrawn W d) os).cell? ⟨b,3,none⟩=some (.int .u64 (l3 x))∧(grow (redrawn W d) os).cell? ⟨b,4,none⟩=some (.int .u64 (l0 y))∧(grow (redrawn W d) os).cell? ⟨b,5,none⟩=some (.int .u64 (l1 y))∧(grow (redrawn W d) os).cell? ⟨b,6,none⟩=some (.int .u64 (l2 y))∧(grow (redrawn W d) os).cell? ⟨b,7,none⟩=some (.int .u64 (l3 y))∧(grow (redrawn W d) os).cell? ⟨b,8,none⟩=some (.int .u64 (l0 z))∧(grow (redrawn W d) os).cell? ⟨b,9,none⟩=some (.int .u64 (l1 z))∧(grow (redrawn W d) os).cell? ⟨b,10,none⟩=some (.int .u64 (l2 z))∧(grow (redrawn W d) os).cell? ⟨b,11,none⟩=some (.int .u64 (l3 z)):=fun d os=>(h.keep (below_regrown W d os)).cells
theorem Pnt.set4 {W:World} {b b':Nat} {x y:Int} {i:Bool} (h:Pnt W b x y i) (ne:b'≠b) (v0 v1 v2 v3:Value):Pnt ((((W.setCell ⟨b',0,none⟩ v0).setCell ⟨b',1,none⟩ v1).setCell ⟨b',2,none⟩ v2).setCell ⟨b',3,none⟩ v3) b x y i :=
 Cl.set (Cl.set (Cl.set (Cl.set h ne v0) ne v1) ne v2) ne v3
theorem Thr.set4 {W:World} {b b':Nat} {x y z:Int} (h:Thr W b x y z) (ne:b'≠b) (v0 v1 v2 v3:Value):Thr ((((W.setCell ⟨b',0,none⟩ v0).setCell ⟨b',1,none⟩ v1).setCell ⟨b',2,none⟩ v2).setCell ⟨b',3,none⟩ v3) b x y z :=
 Cl.set (Cl.set (Cl.set (Cl.set h ne v0) ne v1) ne v2) ne v3
def Bk9 (W:World) (b:Nat):Prop:=Cl W b [.int .u64 0,.int .u64 0,.int .u64 0,.int .u64 0,.int .u64 0,.int .u64 0,.int .u64 0,.int .u64 0,.bool false]∧ai W b 9
theorem Bk9.lt {W:World} {b:Nat} (h:Bk9 W b):b<W.heap.size:=Cl.lt h.1 (by simp)
theorem Bk9.keep {W w1:World} {b:Nat} (h:Bk9 W b) (hb:Below W.heap.size W w1):Bk9 w1 b:=⟨h.1.keep hb,h.2.keep hb h.lt⟩
theorem Bk9.alloc {W:World} {b:Nat} (h:Bk9 W b) (o:Obj):Bk9 (W.alloc o) b:=h.keep ((Below.refl _ _).alloc (Nat.le_refl _) o)
theorem Bk9.set4 {W:World} {b b':Nat} (h:Bk9 W b) (ne:b'≠b) (v0 v1 v2 v3:Value):Bk9 ((((W.setCell ⟨b',0,none⟩ v0).setCell ⟨b',1,none⟩ v1).setCell ⟨b',2,none⟩ v2).setCell ⟨b',3,none⟩ v3) b :=
 ⟨Cl.set (Cl.set (Cl.set (Cl.set h.1 ne v0) ne v1) ne v2) ne v3,(((h.2.set _ _).set _ _).set _ _).set _ _⟩
theorem Bk9.cells {W:World} {b:Nat} (h:Bk9 W b):W.cell? ⟨b,0,none⟩=some (.int .u64 0)∧W.cell? ⟨b,1,none⟩=some (.int .u64 0)∧W.cell? ⟨b,2,none⟩=some (.int .u64 0)∧W.cell? ⟨b,3,none⟩=some (.int .u64 0)∧W.cell? ⟨b,4,none⟩=some (.int .u64 0)∧W.cell? ⟨b,5,none⟩=some (.int .u64 0)∧W.cell? ⟨b,6,none⟩=some (.int .u64 0)∧W.cell? ⟨b,7,none⟩=some (.int .u64 0)∧W.cell? ⟨b,8,none⟩=some (.bool false):=⟨h.1 0 (by simp),h.1 1 (by simp),h.1 2 (by simp),h.1 3 (by simp),h.1 4 (by simp),h.1 5 (by simp),h.1 6 (by simp),h.1 7 (by simp),h.1 8 (by simp)⟩
theorem Bk9.free {W:World} {b:Nat} (h:Bk9 W b):W.frozen? ⟨b,0,none⟩=false∧W.frozen? ⟨b,1,none⟩=false∧W.frozen? ⟨b,2,none⟩=false∧W.frozen? ⟨b,3,none⟩=false∧W.frozen? ⟨b,4,none⟩=false∧W.frozen? ⟨b,5,none⟩=false∧W.frozen? ⟨b,6,none⟩=false∧W.frozen? ⟨b,7,none⟩=false∧W.frozen? ⟨b,8,none⟩=false:=⟨h.2 0 (by decide),h.2 1 (by decide),h.2 2 (by decide),h.2 3 (by decide),h.2 4 (by decide),h.2 5 (by decide),h.2 6 (by decide),h.2 7 (by decide),h.2 8 (by decide)⟩
theorem Bk9.new {W:World} {b:Nat} {t:TypeId} (e:b=W.heap.size):Bk9 (W.alloc (.cells #[.int .u64 0,.int .u64 0,.int .u64 0,.int .u64 0,.int .u64 0,.int .u64 0,.int .u64 0,.int .u64 0,.bool false] t)) b:=⟨Cl.new _ e rfl,by subst e;exact ai.new _ _ _ _⟩
def aR (W:World) (b:Nat):Prop:=Cl W b [.int .u64 0,.int .u64 0,.int .u64 0,.int .u64 0,.int .u64 0,.int .u64 0,.int .u64 0,.int .u64 0,.int .u64 0,.int .u64 0,.int .u64 0,.int .u64 0]∧ai W b 12
theorem aR.lt {W:World} {b:Nat} (h:aR W b):b<W.heap.size:=Cl.lt h.1 (by simp)
theorem aR.keep {W w1:World} {b:Nat} (h:aR W b) (hb:Below W.heap.size W w1):aR w1 b:=⟨h.1.keep hb,h.2.keep hb h.lt⟩
theorem aR.alloc {W:World} {b:Nat} (h:aR W b) (o:Obj):aR (W.alloc o) b:=h.keep ((Below.refl _ _).alloc (Nat.le_refl _) o)
theorem aR.set4 {W:World} {b b':Nat} (h:aR W b) (ne:b'≠b) (v0 v1 v2 v3:Value):aR ((((W.setCell ⟨b',0,none⟩ v0).setCell ⟨b',1,none⟩ v1).setCell ⟨b',2,none⟩ v2).setCell ⟨b',3,none⟩ v3) b :=
 ⟨Cl.set (Cl.set (Cl.set (Cl.set h.1 ne v0) ne v1) ne v2) ne v3,(((h.2.set _ _).set _ _).set _ _).set _ _⟩
theorem aR.cells {W:World} {b:Nat} (h:aR W b):W.cell? ⟨b,0,none⟩=some (.int .u64 0)∧W.cell? ⟨b,1,none⟩=some (.int .u64 0)∧W.cell? ⟨b,2,none⟩=some (.int .u64 0)∧W.cell? ⟨b,3,none⟩=some (.int .u64 0)∧W.cell? ⟨b,4,none⟩=some (.int .u64 0)∧W.cell? ⟨b,5,none⟩=some (.int .u64 0)∧W.cell? ⟨b,6,none⟩=some (.int .u64 0)∧W.cell? ⟨b,7,none⟩=some (.int .u64 0)∧W.cell? ⟨b,8,none⟩=some (.int .u64 0)∧W.cell? ⟨b,9,none⟩=some (.int .u64 0)∧W.cell? ⟨b,10,none⟩=some (.int .u64 0)∧W.cell? ⟨b,11,none⟩=some (.int .u64 0):=⟨h.1 0 (by simp),h.1 1 (by simp),h.1 2 (by simp),h.1 3 (by simp),h.1 4 (by simp),h.1 5 (by simp),h.1 6 (by simp),h.1 7 (by simp),h.1 8 (by simp),h.1 9 (by simp),h.1 10 (by simp),h.1 11 (by simp)⟩
theorem aR.free {W:World} {b:Nat} (h:aR W b):W.frozen? ⟨b,0,none⟩=false∧W.frozen? ⟨b,1,none⟩=false∧W.frozen? ⟨b,2,none⟩=false∧W.frozen? ⟨b,3,none⟩=false∧W.frozen? ⟨b,4,none⟩=false∧W.frozen? ⟨b,5,none⟩=false∧W.frozen? ⟨b,6,none⟩=false∧W.frozen? ⟨b,7,none⟩=false∧W.frozen? ⟨b,8,none⟩=false∧W.frozen? ⟨b,9,none⟩=false∧W.frozen? ⟨b,10,none⟩=false∧W.frozen? ⟨b,11,none⟩=false:=⟨h.2 0 (by decide),h.2 1 (by decide),h.2 2 (by decide),h.2 3 (by decide),h.2 4 (by decide),h.2 5 (by decide),h.2 6 (by decide),h.2 7 (by decide),h.2 8 (by decide),h.2 9 (by decide),h.2 10 (by decide),h.2 11 (by decide)⟩
theorem aR.new {W:World} {b:Nat} {t:TypeId} (e:b=W.heap.size):aR (W.alloc (.cells #[.int .u64 0,.int .u64 0,.int .u64 0,.int .u64 0,.int .u64 0,.int .u64 0,.int .u64 0,.int .u64 0,.int .u64 0,.int .u64 0,.int .u64 0,.int .u64 0] t)) b:=⟨Cl.new _ e rfl,by subst e;exact ai.new _ _ _ _⟩
open Go.RowKit Go.Sort
theorem vi {m c x a q z r s t b u ra re:Int} (em:m=pN) (ec:c=pC)
    (S1:Hid (∀ w,Rt 72 #[U4 m,.int .i64 2] w (U4 a))) (F1:Hid (∀ w,Rt 61 #[.int .u64 1] w (.agg #[.int .u64 (l0 1),.int .u64 (l1 1),.int .u64 (l2 1),.int .u64 (l3 1)]))) (A1:Hid (∀ w,Rt 95 #[U4 a,.agg #[.int .u64 (l0 1),.int .u64 (l1 1),.int .u64 (l2 1),.int .u64 (l3 1)]] w (.tuple #[U4 q,.int .u64 z])))
    (E1:Hid (∀ w,Rt 96 #[.agg #[.int .u64 (l0 m),.int .u64 (l1 m),.int .u64 (l2 m),.int .u64 (l3 m),.int .u64 (l0 c),.int .u64 (l1 c),.int .u64 (l2 c),.int .u64 (l3 c)],U4 x,U4 q] w (U4 r))) (M1:Hid (∀ w,Rt 97 #[.agg #[.int .u64 (l0 m),.int .u64 (l1 m),.int .u64 (l2 m),.int .u64 (l3 m),.int .u64 (l0 c),.int .u64 (l1 c),.int .u64 (l2 c),.int .u64 (l3 c)],U4 r,U4 r] w (U4 s))) (O1:Hid (∀ w,Rt 81 #[.agg #[.int .u64 (l0 m),.int .u64 (l1 m),.int .u64 (l2 m),.int .u64 (l3 m),.int .u64 (l0 c),.int .u64 (l1 c),.int .u64 (l2 c),.int .u64 (l3 c)],U4 x] w (U4 t))) (ns:Num s) (nt:Num t)
    (B1:Hid (∀ w,Rt 98 #[U4 r,.int .i64 0] w (.int .i64 b))) (S2:Hid (∀ w,Rt 99 #[.agg #[.int .u64 (l0 m),.int .u64 (l1 m),.int .u64 (l2 m),.int .u64 (l3 m),.int .u64 (l0 c),.int .u64 (l1 c),.int .u64 (l2 c),.int .u64 (l3 c)],.agg #[.int .u64 0,.int .u64 0,.int .u64 0,.int .u64 0],U4 r] w (U4 u)))
    (cs:Hid ((s≠t∧ra=0∧re=41)∨(s=t∧b=0∧ra=r∧re=0)∨(s=t∧b=1∧ra=u∧re=0))) (w:World) (hm:Mds w) :
    Rt 63 #[U4 x] w (.tuple #[U4 ra,.int .i64 re]):=by
  have bz:=bR
  generalize ht:(1:Int)=T at F1 A1
  have gD:=fun o o2=>((hm.alloc o).alloc o2).p.cells
  rw [←em,←ec] at gD
  clear em ec
  go_enter Tryz.func63,Tryz.ntmps63
  go_wp2_with fail
  refine aa (fun W=>Below w.heap.size w W∧ae W w.heap.size x∧af W (w.heap.size+1)∧aC W (w.heap.size+1+1) m c) ⟨by repeat (first|with_reducible exact Below.refl _ _|with_reducible refine Below.alloc ?_ (by first|omega|(simp;done)|(simp;omega)) _),((ae.fresh (by simp)).alloc _).alloc _,(af.new (by simp)).alloc _,?_⟩ ?_
  · have:=aC.new ((w.alloc (.cells #[.int .u64 (l0 x),.int .u64 (l1 x),.int .u64 (l2 x),.int .u64 (l3 x)] 24)).alloc (.cells #[.int .u64 0,.int .u64 0,.int .u64 0,.int .u64 0] 24)) m c 117
    simp at this
    exact this
  clear gD hm
  rintro W ⟨B,hX,hR,hF⟩
  have o3:w.heap.size≤w.heap.size+1:=by omega
  generalize w.heap.size+1+1=bf at *
  generalize w.heap.size+1=br at *
  with_reducible refine (S1.out _).mono ?_
  rintro e w1 ⟨rfl,hb⟩
  replace B:=B.trans (hb.mono B.size)
  replace hX:=hX.keep hb;replace hR:=hR.keep hb;replace hF:=hF.keep hb
  clear hb W
  go_wp2_with fail
  refine aa (fun W=>Below w.heap.size w W∧ae W w.heap.size x∧af W br∧aC W bf m c) ⟨B,hX,hR,hF⟩ ?_
  clear B hX hR hF
  rintro W ⟨B,hX,hR,hF⟩
  subst ht
  with_reducible refine (F1.out _).mono ?_
  rintro e w2 ⟨rfl,hb⟩
  replace B:=B.trans (hb.mono B.size)
  replace hX:=hX.keep hb;replace hR:=hR.keep hb;replace hF:=hF.keep hb
  clear hb W
  go_wp2_with fail
  refine aa (fun W=>Below w.heap.size w W∧ae W w.heap.size x∧af W br∧aC W bf m c) ⟨B,hX,hR,hF⟩ ?_
  clear B hX hR hF
  rintro W ⟨B,hX,hR,hF⟩
  with_reducible refine (A1.out _).mono ?_
  rintro e w3 ⟨rfl,hb⟩
  replace B:=B.trans (hb.mono B.size)
  replace hX:=hX.keep hb;replace hR:=hR.keep hb;replace hF:=hF.keep hb
  clear hb W
  have ghX:=hX.allocs
  have ghF:=fun o=>(hF.alloc o).cells
  go_wp2_with fail
  refine aa (fun W=>Below w.heap.size w W∧ae W w.heap.size x∧af W br∧aC W bf m c∧ae W w3.heap.size q) ⟨B.alloc B.size _,hX.alloc _,hR.alloc _,hF.alloc _,ae.new _ _ _⟩ ?_
  clear B hX hR hF ghX ghF
  rintro W ⟨B,hX,hR,hF,hQ⟩
  generalize w3.heap.size=bq at *
  clear hQ
  with_reducible refine (E1.out _).mono ?_
  rintro e w4 ⟨rfl,hb⟩
  replace B:=B.trans (hb.mono B.size)
  replace hF:=hF.keep hb;replace hX:=hX.keep hb;replace hR:=hR.keep hb
  clear hb W
  go_wp2_with fail
  have nr1:w4.heap.size≠br:=by have:=hR.1.lt (by simp);omega
  have nr2:=nr1.symm
  have nf1:w4.heap.size≠bf:=by have:=hF.lt;omega
  have og:w.heap.size≤w4.heap.size:=B.size
  refine ah (fun W=>Below w.heap.size w W∧aC W bf m c∧ae W w.heap.size x∧af W br∧Var W w4.heap.size r) ⟨B.alloc B.size _,hF.alloc _,hX.alloc _,hR.alloc _,Var.new rfl⟩ ?_
  clear B hF hX hR
  rintro W ⟨B,hF,hX,hR,hV⟩
  generalize w4.heap.size=bv at *
  have gF:=hF.grown;have gX:=hX.grown;have gV:=hV.1.grown
  have hq:=ik ns nt
  refine wp_region_quiet_below (by kernel_rfl) (by kernel_rfl) ?_
  repeat
    first
      | go_big_quiet_skip
      | (go_big_quiet_want;go_big_quiet_op;go_big_quiet_on)
      | (go_big_quiet_want
         go_big_quiet_op
         apply Exists.intro
         refine ⟨fun p=>?_,?_⟩
         · (first|(go_at_call 97;with_reducible exact Calls.regrown_of (M1.out _))|(go_at_call 81;with_reducible exact Calls.regrown_of (O1.out _)))
         go_big_quiet_on)
  refine wpQuiet_nil ?_
  rintro w5 ⟨p,rfl⟩
  have hb:=below_regrown W p.d p.os
  generalize grow (redrawn W p.d) p.os=w5 at *
  replace B:=B.trans (hb.mono B.size)
  replace hF:=hF.keep hb;replace hR:=hR.keep hb;replace hV:=hV.keep hb
  clear hb hX gF gX gV W
  generalize hdb:(!decide (s=t))=db
  rcases cs.out with ⟨c1,rfl,rfl⟩|⟨c1,rfl,rfl,rfl⟩|⟨c1,rfl,rfl,rfl⟩
  · obtain rfl:db=true:=by rw [←hdb];simp [c1]
    clear hdb
    have gR:=hR.1.all4;have fR:=hR.2.all4
    clear hF hV hq c1
    go_wp2
    simp [bodyPost,results,Tryz.results63,go_sem,gR]
    exact ⟨⟨by decide,by decide,by decide,by decide⟩,ak B o3 _ _ _ _⟩
  · obtain rfl:db=false:=by rw [←hdb];simp [c1]
    clear hdb
    subst c1
    have gV:=hV.1.cells
    clear hq
    go_wp2_with fail
    with_reducible refine (B1.out _).mono ?_
    rintro e w6 ⟨rfl,hb⟩
    replace B:=B.trans (hb.mono B.size)
    replace hR:=hR.keep hb;replace hV:=hV.keep hb
    clear hb gV hF w5
    have gV:=hV.1.cells;have gR:=hR.1.all4;have fR:=hR.2.all4
    go_wp2
    simp [bodyPost,results,Tryz.results63,go_sem,gR]
    exact ak B o3 _ _ _ _
  · obtain rfl:db=false:=by rw [←hdb];simp [c1]
    clear hdb
    subst c1
    have gV:=hV.1.cells
    clear hq
    go_wp2_with fail
    with_reducible refine (B1.out _).mono ?_
    rintro e w6 ⟨rfl,hb⟩
    replace B:=B.trans (hb.mono B.size)
    replace hR:=hR.keep hb;replace hV:=hV.keep hb;replace hF:=hF.keep hb
    clear hb gV w5
    have gV:=hV.1.cells;have gF:=hF.cells
    go_wp2_with fail
    with_reducible refine (S2.out _).mono ?_
    rintro e w7 ⟨rfl,hb⟩
    replace B:=B.trans (hb.mono B.size)
    replace hR:=hR.keep hb;replace hV:=hV.keep hb
    clear hb gV gF hF w6
    have gV:=hV.1.cells;have qV:=hV.2.all4;have gR:=hR.1.all4;have fR:=hR.2.all4
    go_wp2
    simp [bodyPost,results,Tryz.results63,go_sem, *]
    repeat (first|with_reducible exact B|with_reducible refine Below.drew ?_|with_reducible refine Below.setCell ?_ (by with_reducible assumption) _)
open Go.RowKit Go.Sort
theorem sj {x a b r:Int} (C1:Hid (∀ w,Mds w→Rt 48 #[U4 x] w (U4 a))) (C2:Hid (∀ w,Mds w→Rt 49 #[U4 a,U4 x] w (U4 b)))
    (C3:Hid (∀ w,Rt 61 #[.int .u64 7] w (.agg #[.int .u64 (l0 7),.int .u64 (l1 7),.int .u64 (l2 7),.int .u64 (l3 7)]))) (C4:Hid (∀ w,Mds w→Rt 76 #[U4 b,.agg #[.int .u64 (l0 7),.int .u64 (l1 7),.int .u64 (l2 7),.int .u64 (l3 7)]] w (U4 r))) (w:World) (hm:Mds w) :
    Rt 64 #[U4 x] w (U4 r):=by
  go_enter Tryz.func64,Tryz.ntmps64
  go_wp2_with fail
  refine ah (fun W=>Below w.heap.size w W∧Mds W∧ae W w.heap.size x∧af W (w.heap.size+1)) ⟨by repeat (first|with_reducible exact Below.refl _ _|with_reducible refine Below.alloc ?_ (by first|omega|(simp;done)|(simp;omega)) _),(hm.alloc _).alloc _,(ae.fresh (by simp)).alloc _,af.new (by simp)⟩ ?_
  rintro W ⟨B,hD,hX,hR⟩
  have o3:w.heap.size≤w.heap.size+1:=by omega
  generalize w.heap.size+1=br at *
  have ghX:=hX.grown
  have hDg:∀ d os,Mds (grow (redrawn W d) os):=fun d os=>hD.keep (below_regrown W d os)
  refine bj 6 (by kernel_rfl) (by kernel_rfl) ?_
  simp only [List.take_succ_cons,List.take_zero,List.drop_succ_cons,List.drop_zero]
  repeat
    first
      | go_big_quiet_skip
      | (go_big_quiet_want;go_big_quiet_op;go_big_quiet_on)
      | (go_big_quiet_want
         go_big_quiet_op
         apply Exists.intro
         refine ⟨fun p=>?_,?_⟩
         · (first|(go_at_call 48;with_reducible exact Calls.regrown_of (C1.out _ (hDg p.d p.os)))|(go_at_call 49;with_reducible exact Calls.regrown_of (C2.out _ (hDg p.d p.os)))|(go_at_call 61;with_reducible exact Calls.regrown_of (C3.out _))|(go_at_call 76;with_reducible exact Calls.regrown_of (C4.out _ (hDg p.d p.os))))
         go_big_quiet_on)
  refine wpQuiet_nil ?_
  rintro w1 ⟨p,rfl⟩
  have hb:=below_regrown W p.d p.os
  generalize grow (redrawn W p.d) p.os=w1 at *
  replace B:=B.trans (hb.mono B.size)
  replace hD:=hD.keep hb;replace hX:=hX.keep hb;replace hR:=hR.keep hb
  clear hb W ghX hDg
  have gR:=hR.1.all4;have fR:=hR.2.all4
  go_wp2
  simp [bodyPost,results,Tryz.results64,go_sem,gR]
  exact ak B o3 _ _ _ _
def cF (x:Int):Int:=ab pN (ab pN (ab pN (x*x)*x)+7)
theorem i8 {x:Int} (hx:Num x) (w:World) (hm:Mds w) :
  Rt 64 #[U4 x] w (U4 (cF x)) :=
 sj (fun w hm=>aY hx w hm) (fun w hm=>aD (ag am _) hx w hm) (fun w=>eX ⟨by decide,by decide⟩ w)
  (fun w hm=>k9 (ag am _) ⟨by decide,by decide⟩ w hm) w hm
open Go.RowKit Go.Sort
structure RA (w:World) (bh bl br bz bm bc:Nat):Prop where
 h:w.heap.size≤bh
 l:w.heap.size≤bl
 r:w.heap.size≤br
 hl:bh≠bl
 hr:bh≠br
 hz:bh≠bz
 hm:bh≠bm
 hc:bh≠bc
 lr:bl≠br
 lz:bl≠bz
 lm:bl≠bm
 lc:bl≠bc
open Go.RowKit Go.Sort
def cQ (m x:Int):Int:=aL m x (m-2)
theorem zZ {m c:Int} (hf:Fit m c):fN m 2=m-2∧Num (m-2):=by
 obtain ⟨h1,h2,h3⟩:=hf
 exact ⟨by unfold fN;omega,by omega,by omega⟩
theorem pG {m c x:Int} (hf:Fit m c) (hx:Num x) (w:World) :
  Rt 82 #[.agg #[.int .u64 (l0 m),.int .u64 (l1 m),.int .u64 (l2 m),.int .u64 (l3 m),.int .u64 (l0 c),.int .u64 (l1 c),.int .u64 (l2 c),.int .u64 (l3 c)],U4 x] w (U4 (cQ m x)):=by
 obtain ⟨q1,q2⟩:=zZ hf
 have F1:Hid (∀ w,Rt 61 #[.int .u64 2] w (.agg #[.int .u64 (l0 2),.int .u64 (l1 2),.int .u64 (l2 2),.int .u64 (l3 2)])):=eX ⟨by decide,by decide⟩
 have S1:Hid (∀ w,Rt 102 #[U4 m,.agg #[.int .u64 (l0 2),.int .u64 (l1 2),.int .u64 (l2 2),.int .u64 (l3 2)]] w (.tuple #[U4 (m-2),.int .u64 (fW m 2)])):=fun w=>by
  have:=iT (m:=2) hf.num ⟨by decide,by decide⟩ w;rw [q1] at this;exact this
 have E1:Hid (∀ w,Rt 96 #[.agg #[.int .u64 (l0 m),.int .u64 (l1 m),.int .u64 (l2 m),.int .u64 (l3 m),.int .u64 (l0 c),.int .u64 (l1 c),.int .u64 (l2 c),.int .u64 (l3 c)],U4 x,U4 (m-2)] w (U4 (cQ m x))):=qx hf hx q2
 clear q1 q2 hf hx
 generalize cQ m x=R at *
 generalize m-2=D at *
 generalize fW m 2=z at *
 generalize ht:(2:Int)=T at F1 S1
 go_enter Tryz.func82,Tryz.ntmps82
 go_wp2_with fail
 refine ah (fun W=>Below w.heap.size w W∧aC W w.heap.size m c∧ae W (w.heap.size+1) x∧af W (w.heap.size+1+1)) ⟨by repeat (first|with_reducible exact Below.refl _ _|with_reducible refine Below.alloc ?_ (by first|omega|(simp;done)|(simp;omega)) _),((aC.new w m c _).alloc _).alloc _,(ae.fresh (by simp)).alloc _,af.new (by simp)⟩ ?_
 rintro W ⟨B,hF,hX,hR⟩
 have o3:w.heap.size≤w.heap.size+1+1:=by omega
 generalize w.heap.size+1+1=br at *
 generalize w.heap.size+1=bx at *
 generalize hbf:w.heap.size=bf at *
 subst ht
 have gF:=hF.cells
 have lf:bf<W.heap.size:=hF.lt
 have lx:bx<W.heap.size:=World.block_lt_of_cell? W _ hX.1
 have lr:br<W.heap.size:=hR.1.lt (by simp)
 have BB:Hid (Below bf w W):=B
 have HF:Hid (aC W bf m c):=hF
 have HX:Hid (ae W bx x):=hX
 have HR:Hid (af W br):=hR
 have geB:bf≤W.heap.size:=by omega
 clear B hF hX hR
 refine rZ (fun a' W'=>∃ bs,Below bf w W'∧aC W' bf m c∧ae W' bx x∧af W' br∧ae W' bs D∧a'={ tmps:=#[.agg #[.int .u64 (l0 m),.int .u64 (l1 m),.int .u64 (l2 m),.int .u64 (l3 m),.int .u64 (l0 c),.int .u64 (l1 c),.int .u64 (l2 c),.int .u64 (l3 c)],U4 x,.pointer (some { block:=bf,off:=0 }),.pointer (some { block:=bx,off:=0 }),.pointer (some { block:=br,off:=0 }),.pointer (some { block:=bs,off:=0 }),.int .u64 z,.tuple #[U4 D,.int .u64 z],.pointer (some { block:=bf,off:=0 }),U4 m,.agg #[.int .u64 (l0 2),.int .u64 (l1 2),.int .u64 (l2 2),.int .u64 (l3 2)],.tuple #[U4 D,.int .u64 z],U4 D,.int .u64 z,Go.undef,Go.undef,Go.undef,Go.undef],defers:=[] }) ?_ ?_
 ·have dz:W.drew.heap.size=W.heap.size:=rfl
  clear E1
  have _:bf<W.heap.size:=by omega
  have _:bf≤W.heap.size:=by omega
  have _:bf<W.heap.size+1:=by omega
  have _:bf<W.heap.size+1+1:=by omega
  have _:bf≠W.heap.size:=by omega
  have _:W.heap.size≠bf:=by omega
  have _:bf≠W.heap.size+1:=by omega
  have _:W.heap.size+1≠bf:=by omega
  have _:bx<W.heap.size:=by omega
  have _:bx≤W.heap.size:=by omega
  have _:bx<W.heap.size+1:=by omega
  have _:bx<W.heap.size+1+1:=by omega
  have _:bx≠W.heap.size:=by omega
  have _:W.heap.size≠bx:=by omega
  have _:bx≠W.heap.size+1:=by omega
  have _:W.heap.size+1≠bx:=by omega
  have _:br<W.heap.size:=by omega
  have _:br≤W.heap.size:=by omega
  have _:br<W.heap.size+1:=by omega
  have _:br<W.heap.size+1+1:=by omega
  have _:br≠W.heap.size:=by omega
  have _:W.heap.size≠br:=by omega
  have _:br≠W.heap.size+1:=by omega
  have _:W.heap.size+1≠br:=by omega
  go_region_held3 (fun w'=>w'.cell? ⟨bf,0,none⟩=some (.int .u64 (l0 m))∧w'.cell? ⟨bf,1,none⟩=some (.int .u64 (l1 m))∧w'.cell? ⟨bf,2,none⟩=some (.int .u64 (l2 m))∧w'.cell? ⟨bf,3,none⟩=some (.int .u64 (l3 m))) (((try dsimp only);(repeat' (apply And.intro));(all_goals repeat (first|with_reducible assumption|with_reducible apply cell_keep hb2|with_reducible apply cell_keep hb1|with_reducible apply cell_alloc|(with_reducible refine cell_set ?_ (by with_reducible assumption))|(simp [go_sem, *];done)))))
   (first
    | (go_at_call 61;with_reducible refine (F1.out _).mono ?_;rintro e w1 ⟨rfl,hb1⟩;have hc1:=al hb1;have hz1:=hb1.size;(try simp at hz1);(try (have:=fun j=>al hb1 (W.heap.size) j (by first|omega|(simp;done)|(simp;omega))));(try (have:=fun j=>al hb1 (W.heap.size+1) j (by first|omega|(simp;done)|(simp;omega))));have _:bf<w1.heap.size:=(by omega);have _:bf≤w1.heap.size:=(by omega);have _:bf<w1.heap.size+1:=(by omega);have _:bf<w1.heap.size+1+1:=(by omega);have _:bf≠w1.heap.size:=(by omega);have _:w1.heap.size≠bf:=(by omega);have _:bf≠w1.heap.size+1:=(by omega);have _:w1.heap.size+1≠bf:=(by omega);have _:bx<w1.heap.size:=(by omega);have _:bx≤w1.heap.size:=(by omega);have _:bx<w1.heap.size+1:=(by omega);have _:bx<w1.heap.size+1+1:=(by omega);have _:bx≠w1.heap.size:=(by omega);have _:w1.heap.size≠bx:=(by omega);have _:bx≠w1.heap.size+1:=(by omega);have _:w1.heap.size+1≠bx:=(by omega);have _:br<w1.heap.size:=(by omega);have _:br≤w1.heap.size:=(by omega);have _:br<w1.heap.size+1:=(by omega);have _:br<w1.heap.size+1+1:=(by omega);have _:br≠w1.heap.size:=(by omega);have _:w1.heap.size≠br:=(by omega);have _:br≠w1.heap.size+1:=(by omega);have _:w1.heap.size+1≠br:=(by omega);(try (have _:W.heap.size<w1.heap.size:=(by omega)));(try (have _:W.heap.size≤w1.heap.size:=(by omega)));(try (have _:W.heap.size≠w1.heap.size:=(by omega)));(try (have _:w1.heap.size≠W.heap.size:=(by omega)));(try (have _:W.heap.size<w1.heap.size+1:=(by omega)));(try (have _:W.heap.size+1<w1.heap.size:=(by omega)));(try (have _:W.heap.size+1≤w1.heap.size:=(by omega)));(try (have _:W.heap.size+1≠w1.heap.size:=(by omega)));(try (have _:w1.heap.size≠W.heap.size+1:=(by omega)));(try (have _:W.heap.size+1<w1.heap.size+1:=(by omega))))
    | (go_at_call 102;with_reducible refine (S1.out _).mono ?_;rintro e w2 ⟨rfl,hb2⟩;have hc2:=al hb2;have hz2:=hb2.size;(try simp at hz2);(try (have:=fun j=>al hb2 (W.heap.size) j (by first|omega|(simp;done)|(simp;omega))));(try (have:=fun j=>al hb2 (W.heap.size+1) j (by first|omega|(simp;done)|(simp;omega))));(try (have:=fun j=>al hb2 (w1.heap.size) j (by first|omega|(simp;done)|(simp;omega))));(try (have:=fun j=>al hb2 (w1.heap.size+1) j (by first|omega|(simp;done)|(simp;omega))));have _:bf<w2.heap.size:=(by omega);have _:bf≤w2.heap.size:=(by omega);have _:bf<w2.heap.size+1:=(by omega);have _:bf<w2.heap.size+1+1:=(by omega);have _:bf≠w2.heap.size:=(by omega);have _:w2.heap.size≠bf:=(by omega);have _:bf≠w2.heap.size+1:=(by omega);have _:w2.heap.size+1≠bf:=(by omega);have _:bx<w2.heap.size:=(by omega);have _:bx≤w2.heap.size:=(by omega);have _:bx<w2.heap.size+1:=(by omega);have _:bx<w2.heap.size+1+1:=(by omega);have _:bx≠w2.heap.size:=(by omega);have _:w2.heap.size≠bx:=(by omega);have _:bx≠w2.heap.size+1:=(by omega);have _:w2.heap.size+1≠bx:=(by omega);have _:br<w2.heap.size:=(by omega);have _:br≤w2.heap.size:=(by omega);have _:br<w2.heap.size+1:=(by omega);have _:br<w2.heap.size+1+1:=(by omega);have _:br≠w2.heap.size:=(by omega);have _:w2.heap.size≠br:=(by omega);have _:br≠w2.heap.size+1:=(by omega);have _:w2.heap.size+1≠br:=(by omega);(try (have _:W.heap.size<w2.heap.size:=(by omega)));(try (have _:W.heap.size≤w2.heap.size:=(by omega)));(try (have _:W.heap.size≠w2.heap.size:=(by omega)));(try (have _:w2.heap.size≠W.heap.size:=(by omega)));(try (have _:W.heap.size<w2.heap.size+1:=(by omega)));(try (have _:W.heap.size+1<w2.heap.size:=(by omega)));(try (have _:W.heap.size+1≤w2.heap.size:=(by omega)));(try (have _:W.heap.size+1≠w2.heap.size:=(by omega)));(try (have _:w2.heap.size≠W.heap.size+1:=(by omega)));(try (have _:W.heap.size+1<w2.heap.size+1:=(by omega)));(try (have _:w1.heap.size<w2.heap.size:=(by omega)));(try (have _:w1.heap.size≤w2.heap.size:=(by omega)));(try (have _:w1.heap.size≠w2.heap.size:=(by omega)));(try (have _:w2.heap.size≠w1.heap.size:=(by omega)));(try (have _:w1.heap.size<w2.heap.size+1:=(by omega)));(try (have _:w1.heap.size+1<w2.heap.size:=(by omega)));(try (have _:w1.heap.size+1≤w2.heap.size:=(by omega)));(try (have _:w1.heap.size+1≠w2.heap.size:=(by omega)));(try (have _:w2.heap.size≠w1.heap.size+1:=(by omega)));(try (have _:w1.heap.size+1<w2.heap.size+1:=(by omega)))))
  all_goals (refine uP.intro ⟨_,?_,?_,?_,?_,?_,rfl⟩)
  all_goals repeat (first|with_reducible exact BB.out|with_reducible exact HF.out|with_reducible exact HX.out|with_reducible exact HR.out|with_reducible refine ae.fresh (by first|rfl|(simp;done)|fail)|with_reducible refine ae.sets4 ?_|with_reducible refine ae.alloc ?_ _|with_reducible refine ae.drew ?_|with_reducible refine ae.set4 ?_ (by with_reducible assumption) _ _ _ _|with_reducible refine aC.alloc ?_ _|with_reducible refine aC.drew ?_|with_reducible refine aC.set4 ?_ (by with_reducible assumption) _ _ _ _|with_reducible refine af.alloc ?_ _|with_reducible refine af.drew ?_|with_reducible refine af.set4 ?_ (by with_reducible assumption) _ _ _ _|with_reducible refine ip hbf ?_ _|with_reducible refine Below.drew ?_|with_reducible refine Below.setCell ?_ (by with_reducible assumption) _|with_reducible refine Has.fresh (by first|rfl|(simp;done)|fail) (by first|(simp;done)|fail)|with_reducible refine Has.alloc ?_ _|with_reducible refine Has.drew ?_|with_reducible refine Has.keep ?_ hb2|with_reducible refine ae.keep ?_ hb2|with_reducible refine aC.keep ?_ hb2|with_reducible refine af.keep ?_ hb2|with_reducible refine cJ hbf ?_ hb2|with_reducible refine Has.keep ?_ hb1|with_reducible refine ae.keep ?_ hb1|with_reducible refine aC.keep ?_ hb1|with_reducible refine af.keep ?_ hb1|with_reducible refine cJ hbf ?_ hb1)
 rintro _ W1 ⟨bs,B,hF,hX,hR,hS,rfl⟩
 subst hbf
 clear BB HF HR HX gF lf lx lr geB F1 S1 W
 have gF:=hF.cells;have gX:=hX.cells;have gS:=hS.cells
 go_wp2_with fail
 with_reducible refine (E1.out _).mono ?_
 rintro e w1 ⟨rfl,hb⟩
 replace B:=B.trans (hb.mono B.size)
 replace hR:=hR.keep hb
 clear hb gF gX gS hF hX hS
 have gR:=hR.1.all4;have fR:=hR.2.all4
 go_wp2
 simp [bodyPost,results,Tryz.results82,go_sem,gR]
 exact ak B o3 _ _ _ _
theorem kg {k m c x:Int} (hk:Kind k m c) (hx:Num x) (hz:ab m x≠0) (w:World) (hm:Mds w) :
  Rt 47 #[.int .i64 k,U4 x] w (.tuple #[U4 (cQ m x),.int .i64 0]):=by
 have O1:Hid (∀ w,Rt 81 #[.agg #[.int .u64 (l0 m),.int .u64 (l1 m),.int .u64 (l2 m),.int .u64 (l3 m),.int .u64 (l0 c),.int .u64 (l1 c),.int .u64 (l2 c),.int .u64 (l3 c)],U4 x] w (U4 (ab m x))):=dP hk.fit hx
 have I1:Hid (∀ w,Rt 82 #[.agg #[.int .u64 (l0 m),.int .u64 (l1 m),.int .u64 (l2 m),.int .u64 (l3 m),.int .u64 (l0 c),.int .u64 (l1 c),.int .u64 (l2 c),.int .u64 (l3 c)],U4 x] w (U4 (cQ m x))):=pG hk.fit hx
 have hq:=qv (ag hk.fit x)
 rw [show decide (ab m x=0)=false by simp [hz]] at hq
 clear hz hx
 generalize ab m x=r at *
 generalize cQ m x=R at *
 have bz:=bR
 go_enter Tryz.func47,Tryz.ntmps47
 go_wp2_with fail
 refine aa (fun W=>Below w.heap.size w W∧Mds W∧ae W w.heap.size x∧af W (w.heap.size+1)) ⟨by repeat (first|with_reducible exact Below.refl _ _|with_reducible refine Below.alloc ?_ (by first|omega|(simp;done)|(simp;omega)) _),(hm.alloc _).alloc _,(ae.fresh (by simp)).alloc _,af.new (by simp)⟩ ?_
 rintro W ⟨B,hD,hX,hR⟩
 have o3:w.heap.size≤w.heap.size+1:=by omega
 generalize w.heap.size+1=br at *
 with_reducible refine (gU hk _ hD).mono ?_
 rintro e w1 ⟨rfl,hb⟩
 replace B:=B.trans (hb.mono B.size)
 replace hX:=hX.keep hb;replace hR:=hR.keep hb
 clear hb hD W
 have gX:=hX.allocs
 go_wp2_with fail
 refine aa (fun W=>Below w.heap.size w W∧aC W w1.heap.size m c∧ae W w.heap.size x∧af W br) ⟨B.alloc B.size _,aC.new _ _ _ _,hX.alloc _,hR.alloc _⟩ ?_
 clear B hX hR gX
 rintro W ⟨B,hF,hX,hR⟩
 generalize w1.heap.size=bf at *
 with_reducible refine (O1.out _).mono ?_
 rintro e w2 ⟨rfl,hb⟩
 replace B:=B.trans (hb.mono B.size)
 replace hF:=hF.keep hb;replace hX:=hX.keep hb;replace hR:=hR.keep hb
 clear hb W
 have gF:=hF.cells;have gX:=hX.cells
 go_wp2_with fail
 with_reducible refine (I1.out _).mono ?_
 rintro e w3 ⟨rfl,hb⟩
 replace B:=B.trans (hb.mono B.size)
 replace hR:=hR.keep hb
 clear hb gF gX hF hX hq bz
 have gR:=hR.1.all4;have fR:=hR.2.all4
 go_wp2
 simp [bodyPost,results,Tryz.results47,go_sem,gR]
 exact ak B o3 _ _ _ _
open Go.RowKit Go.Sort
theorem qB {n:Int} (O:Hid (∀ w,Mds w→Rt 94 #[.int .i64 1] w (.tuple #[U4 n,.int .i64 0]))) (w:World) (hm:Mds w) :
  Rt 73 #[] w (U4 n):=by
 go_enter Tryz.func73,Tryz.ntmps73
 go_wp2_with fail
 refine aa (fun W=>Below w.heap.size w W∧Mds W∧af W w.heap.size) ⟨by repeat (first|with_reducible exact Below.refl _ _|with_reducible refine Below.alloc ?_ (by first|omega|(simp;done)|(simp;omega)) _),hm.alloc _,af.new rfl⟩ ?_
 rintro W ⟨B,hD,hR⟩
 with_reducible refine (O.out _ hD).mono ?_
 rintro e w1 ⟨rfl,hb⟩
 replace B:=B.trans (hb.mono B.size)
 replace hR:=hR.keep hb
 have lr:=hR.1.lt (by simp)
 have nr:w1.heap.size≠w.heap.size:=by omega
 have nr':=nr.symm
 have o3:w.heap.size≤w.heap.size:=Nat.le_refl _
 clear hb W hD
 have gR:=fun o=>(hR.alloc o).1.all4
 have fR:=fun o=>(hR.alloc o).2.all4
 have gR0:=hR.1.all4
 have fR0:=hR.2.all4
 have BB:Hid (Below w.heap.size w w1):=B
 clear B hR
 go_wp2
 simp [bodyPost,results,Tryz.results73,go_sem, *]
 repeat (first|with_reducible exact BB.out|with_reducible refine Below.setCell ?_ o3 _|with_reducible refine Below.alloc ?_ (by first|omega|(simp;omega)) _)
theorem cZ {x:Int} {v:Bool} (E:∀ w,(Op.equalIn 10000 24 (U4 x) (.agg #[.int .u64 0,.int .u64 0,.int .u64 0,.int .u64 0])).run Tryz.prog w = .ok v w) (w:World):Rt 50 #[U4 x] w (.bool v):=by
 go_enter Tryz.func50,Tryz.ntmps50
 go_wp2
 simp [bodyPost,results,Tryz.results50,go_sem]
 repeat (first|with_reducible exact Below.refl _ _|with_reducible refine Below.alloc ?_ (by first|omega|(simp;done)|(simp;omega)) _|with_reducible refine Below.setCell ?_ (by first|omega|(simp;done)|(simp;omega)) _)
theorem l9 {x n q:Int} {v:Bool} (O:Hid (∀ w,Mds w→Rt 73 #[] w (U4 n))) (C:Hid (∀ w,Rt 71 #[U4 x,U4 n] w (.int .i64 q))) (hv:decide (q<0)=v) (w:World) (hm:Mds w) :
    Rt 51 #[U4 x] w (.bool v):=by
  go_enter Tryz.func51,Tryz.ntmps51
  go_wp2_with fail
  refine ah (fun W=>Below w.heap.size w W∧Mds W∧ae W w.heap.size x) ⟨by repeat (first|with_reducible exact Below.refl _ _|with_reducible refine Below.alloc ?_ (by first|omega|(simp;done)|(simp;omega)) _),hm.alloc _,ae.fresh (by simp)⟩ ?_
  rintro W ⟨B,hD,hX⟩
  have ghX:=hX.grown
  have hDg:∀ d os,Mds (grow (redrawn W d) os):=fun d os=>hD.keep (below_regrown W d os)
  refine wp_region_quiet_below (by kernel_rfl) (by kernel_rfl) ?_
  repeat
    first
      | go_big_quiet_skip
      | (go_big_quiet_want;go_big_quiet_op;go_big_quiet_on)
      | (go_big_quiet_want
         go_big_quiet_op
         apply Exists.intro
         refine ⟨fun p=>?_,?_⟩
         · (first|(go_at_call 73;with_reducible exact Calls.regrown_of (O.out _ (hDg p.d p.os)))|(go_at_call 71;with_reducible exact Calls.regrown_of (C.out _)))
         go_big_quiet_on)
  refine wpQuiet_nil ?_
  rintro w1 ⟨p,rfl⟩
  have hb:=below_regrown W p.d p.os
  generalize grow (redrawn W p.d) p.os=w1 at *
  replace B:=B.trans (hb.mono B.size)
  replace hD:=hD.keep hb;replace hX:=hX.keep hb
  clear hb W ghX hDg
  clear hD hX
  go_wp2
  simp [bodyPost,results,Tryz.results51,go_sem]
  exact B
theorem vj {x n h q:Int} {v:Bool} (O:Hid (∀ w,Mds w→Rt 73 #[] w (U4 n))) (C0:Hid (∀ w,Rt 72 #[U4 n,.int .i64 1] w (U4 h))) (C:Hid (∀ w,Rt 71 #[U4 x,U4 h] w (.int .i64 q))) (hv:decide (q≤0)=v) (w:World) (hm:Mds w) :
    Rt 36 #[U4 x] w (.bool v):=by
  go_enter Tryz.func36,Tryz.ntmps36
  go_wp2_with fail
  refine ah (fun W=>Below w.heap.size w W∧Mds W∧ae W w.heap.size x) ⟨by repeat (first|with_reducible exact Below.refl _ _|with_reducible refine Below.alloc ?_ (by first|omega|(simp;done)|(simp;omega)) _),hm.alloc _,ae.fresh (by simp)⟩ ?_
  rintro W ⟨B,hD,hX⟩
  have ghX:=hX.grown
  have hDg:∀ d os,Mds (grow (redrawn W d) os):=fun d os=>hD.keep (below_regrown W d os)
  refine wp_region_quiet_below (by kernel_rfl) (by kernel_rfl) ?_
  repeat
    first
      | go_big_quiet_skip
      | (go_big_quiet_want;go_big_quiet_op;go_big_quiet_on)
      | (go_big_quiet_want
         go_big_quiet_op
         apply Exists.intro
         refine ⟨fun p=>?_,?_⟩
         · (first|(go_at_call 73;with_reducible exact Calls.regrown_of (O.out _ (hDg p.d p.os)))|(go_at_call 72;with_reducible exact Calls.regrown_of (C0.out _))|(go_at_call 71;with_reducible exact Calls.regrown_of (C.out _)))
         go_big_quiet_on)
  refine wpQuiet_nil ?_
  rintro w1 ⟨p,rfl⟩
  have hb:=below_regrown W p.d p.os
  generalize grow (redrawn W p.d) p.os=w1 at *
  replace B:=B.trans (hb.mono B.size)
  replace hD:=hD.keep hb;replace hX:=hX.keep hb
  clear hb W ghX hDg
  clear hD hX
  go_wp2
  simp [bodyPost,results,Tryz.results36,go_sem]
  exact B
theorem pH {x:Int} (C0:Hid (∀ w,Rt 50 #[U4 x] w (.bool true))) (w:World) (hm:Mds w) :
  Rt 20 #[U4 x] w (.bool false):=by
 go_enter Tryz.func20,Tryz.ntmps20
 go_wp2_with fail
 refine aa (fun W=>Below w.heap.size w W∧Mds W∧ae W w.heap.size x) ⟨by repeat (first|with_reducible exact Below.refl _ _|with_reducible refine Below.alloc ?_ (by first|omega|(simp;done)|(simp;omega)) _),hm.alloc _,ae.fresh (by simp)⟩ ?_
 rintro W ⟨B,hD,hX⟩
 with_reducible refine (C0.out _).mono ?_
 rintro e w9 ⟨rfl,hb⟩
 replace B:=B.trans (hb.mono B.size)
 clear hb hX hD W
 go_wp2
 simp [bodyPost,results,Tryz.results20,go_sem]
 exact B
theorem qC {x:Int} {v:Bool} (C0:Hid (∀ w,Rt 50 #[U4 x] w (.bool false))) (C1:Hid (∀ w,Mds w→Rt 51 #[U4 x] w (.bool v))) (w:World) (hm:Mds w) :
  Rt 20 #[U4 x] w (.bool v):=by
 go_enter Tryz.func20,Tryz.ntmps20
 go_wp2_with fail
 refine aa (fun W=>Below w.heap.size w W∧Mds W∧ae W w.heap.size x) ⟨by repeat (first|with_reducible exact Below.refl _ _|with_reducible refine Below.alloc ?_ (by first|omega|(simp;done)|(simp;omega)) _),hm.alloc _,ae.fresh (by simp)⟩ ?_
 rintro W ⟨B,hD,hX⟩
 with_reducible refine (C0.out _).mono ?_
 rintro e w1 ⟨rfl,hb⟩
 replace B:=B.trans (hb.mono B.size)
 replace hD:=hD.keep hb;replace hX:=hX.keep hb
 clear hb W
 have ghX:=hX.cells
 go_wp2_with fail
 refine aa (fun W=>Below w.heap.size w W∧Mds W∧ae W w.heap.size x) ⟨B,hD,hX⟩ ?_
 clear B hD hX ghX
 rintro W ⟨B,hD,hX⟩
 with_reducible refine (C1.out _ hD).mono ?_
 rintro e w9 ⟨rfl,hb⟩
 replace B:=B.trans (hb.mono B.size)
 clear hb hX hD W
 go_wp2
 simp [bodyPost,results,Tryz.results20,go_sem]
 exact B
theorem xD {r s:Int} {o:Bool} (C1:Hid (∀ w,Mds w→Rt 20 #[U4 r] w (.bool false))) (w:World) (hm:Mds w) :
  Rt 14 #[P9 r s o] w (.int .i64 61):=by
 go_enter Tryz.func14,Tryz.ntmps14
 go_wp2_with fail
 refine aa (fun W=>Below w.heap.size w W∧Mds W∧Pnt W w.heap.size r s o) ⟨by repeat (first|with_reducible exact Below.refl _ _|with_reducible refine Below.alloc ?_ (by first|omega|(simp;done)|(simp;omega)) _),hm.alloc _,Pnt.new rfl⟩ ?_
 rintro W ⟨B,hD,hP⟩
 with_reducible refine (C1.out _ hD).mono ?_
 rintro e w9 ⟨rfl,hb⟩
 replace B:=B.trans (hb.mono B.size)
 clear hb hP W hD
 go_wp2
 simp [bodyPost,results,Tryz.results14,go_sem]
 exact B
theorem xE {r s:Int} {o:Bool} (C1:Hid (∀ w,Mds w→Rt 20 #[U4 r] w (.bool true))) (C2:Hid (∀ w,Mds w→Rt 20 #[U4 s] w (.bool false))) (w:World) (hm:Mds w) :
  Rt 14 #[P9 r s o] w (.int .i64 62):=by
 go_enter Tryz.func14,Tryz.ntmps14
 go_wp2_with fail
 refine aa (fun W=>Below w.heap.size w W∧Mds W∧Pnt W w.heap.size r s o) ⟨by repeat (first|with_reducible exact Below.refl _ _|with_reducible refine Below.alloc ?_ (by first|omega|(simp;done)|(simp;omega)) _),hm.alloc _,Pnt.new rfl⟩ ?_
 rintro W ⟨B,hD,hP⟩
 with_reducible refine (C1.out _ hD).mono ?_
 rintro e w1 ⟨rfl,hb⟩
 replace B:=B.trans (hb.mono B.size)
 replace hD:=hD.keep hb;replace hP:=hP.keep hb
 clear hb W
 have ghP:=hP.cells
 go_wp2_with fail
 refine aa (fun W=>Below w.heap.size w W∧Mds W∧Pnt W w.heap.size r s o) ⟨B,hD,hP⟩ ?_
 clear B hD hP ghP
 rintro W ⟨B,hD,hP⟩
 with_reducible refine (C2.out _ hD).mono ?_
 rintro e w9 ⟨rfl,hb⟩
 replace B:=B.trans (hb.mono B.size)
 clear hb hP W hD
 go_wp2
 simp [bodyPost,results,Tryz.results14,go_sem]
 exact B
theorem xF {r s:Int} {o:Bool} (C1:Hid (∀ w,Mds w→Rt 20 #[U4 r] w (.bool true))) (C2:Hid (∀ w,Mds w→Rt 20 #[U4 s] w (.bool true))) (C3:Hid (∀ w,Mds w→Rt 36 #[U4 s] w (.bool false))) (w:World) (hm:Mds w) :
  Rt 14 #[P9 r s o] w (.int .i64 63):=by
 go_enter Tryz.func14,Tryz.ntmps14
 go_wp2_with fail
 refine aa (fun W=>Below w.heap.size w W∧Mds W∧Pnt W w.heap.size r s o) ⟨by repeat (first|with_reducible exact Below.refl _ _|with_reducible refine Below.alloc ?_ (by first|omega|(simp;done)|(simp;omega)) _),hm.alloc _,Pnt.new rfl⟩ ?_
 rintro W ⟨B,hD,hP⟩
 with_reducible refine (C1.out _ hD).mono ?_
 rintro e w1 ⟨rfl,hb⟩
 replace B:=B.trans (hb.mono B.size)
 replace hD:=hD.keep hb;replace hP:=hP.keep hb
 clear hb W
 have ghP:=hP.cells
 go_wp2_with fail
 refine aa (fun W=>Below w.heap.size w W∧Mds W∧Pnt W w.heap.size r s o) ⟨B,hD,hP⟩ ?_
 clear B hD hP ghP
 rintro W ⟨B,hD,hP⟩
 with_reducible refine (C2.out _ hD).mono ?_
 rintro e w2 ⟨rfl,hb⟩
 replace B:=B.trans (hb.mono B.size)
 replace hD:=hD.keep hb;replace hP:=hP.keep hb
 clear hb W
 have ghP:=hP.cells
 go_wp2_with fail
 refine aa (fun W=>Below w.heap.size w W∧Mds W∧Pnt W w.heap.size r s o) ⟨B,hD,hP⟩ ?_
 clear B hD hP ghP
 rintro W ⟨B,hD,hP⟩
 with_reducible refine (C3.out _ hD).mono ?_
 rintro e w9 ⟨rfl,hb⟩
 replace B:=B.trans (hb.mono B.size)
 clear hb hP W hD
 go_wp2
 simp [bodyPost,results,Tryz.results14,go_sem]
 exact B
theorem xG {r s:Int} {o:Bool} (C1:Hid (∀ w,Mds w→Rt 20 #[U4 r] w (.bool true))) (C2:Hid (∀ w,Mds w→Rt 20 #[U4 s] w (.bool true))) (C3:Hid (∀ w,Mds w→Rt 36 #[U4 s] w (.bool true))) (w:World) (hm:Mds w) :
  Rt 14 #[P9 r s o] w (.int .i64 0):=by
 go_enter Tryz.func14,Tryz.ntmps14
 go_wp2_with fail
 refine aa (fun W=>Below w.heap.size w W∧Mds W∧Pnt W w.heap.size r s o) ⟨by repeat (first|with_reducible exact Below.refl _ _|with_reducible refine Below.alloc ?_ (by first|omega|(simp;done)|(simp;omega)) _),hm.alloc _,Pnt.new rfl⟩ ?_
 rintro W ⟨B,hD,hP⟩
 with_reducible refine (C1.out _ hD).mono ?_
 rintro e w1 ⟨rfl,hb⟩
 replace B:=B.trans (hb.mono B.size)
 replace hD:=hD.keep hb;replace hP:=hP.keep hb
 clear hb W
 have ghP:=hP.cells
 go_wp2_with fail
 refine aa (fun W=>Below w.heap.size w W∧Mds W∧Pnt W w.heap.size r s o) ⟨B,hD,hP⟩ ?_
 clear B hD hP ghP
 rintro W ⟨B,hD,hP⟩
 with_reducible refine (C2.out _ hD).mono ?_
 rintro e w2 ⟨rfl,hb⟩
 replace B:=B.trans (hb.mono B.size)
 replace hD:=hD.keep hb;replace hP:=hP.keep hb
 clear hb W
 have ghP:=hP.cells
 go_wp2_with fail
 refine aa (fun W=>Below w.heap.size w W∧Mds W∧Pnt W w.heap.size r s o) ⟨B,hD,hP⟩ ?_
 clear B hD hP ghP
 rintro W ⟨B,hD,hP⟩
 with_reducible refine (C3.out _ hD).mono ?_
 rintro e w9 ⟨rfl,hb⟩
 replace B:=B.trans (hb.mono B.size)
 clear hb hP W hD
 go_wp2
 simp [bodyPost,results,Tryz.results14,go_sem]
 exact B
theorem tY:Num nN:=⟨by decide,by decide⟩
theorem jz (w:World) (hm:Mds w):Rt 73 #[] w (U4 nN):=qB (fun w hm=>kf k8 w hm) w hm
theorem xH (x n:Int):decide (jN x n<0)=decide (x<n):=by
 unfold jN
 by_cases h':x=n
 ·rw [h'];simp
 ·by_cases h:x<n<;>simp [h,h']
theorem Cj (x n:Int):decide (jN x n≤0)=decide (x≤n):=by
 unfold jN
 by_cases h':x=n
 ·rw [h'];simp
 ·by_cases h:x<n
  ·simp [h,h',Int.le_of_lt h]
  ·have:¬x≤n:=by omega
   simp [h,h',this]
theorem sk {n:Int} (hn:Num n) {v:Bool} (e:decide (n=0)=v):∀ w,(Op.equalIn 10000 24 (U4 n) (.agg #[.int .u64 0,.int .u64 0,.int .u64 0,.int .u64 0])).run Tryz.prog w = .ok v w:=fun w=>by
 have:=ik hn (m:=0) ⟨by decide,by decide⟩ w
 obtain ⟨z0,z1,z2,z3⟩:=ap
 ((try unfold Rt at this);(try unfold U4 at this);(try unfold P9 at this);rw [z0,z1,z2,z3,e] at this)
 exact this
def co (x:Int):Bool := !decide (x=0)&&decide (x<nN)
def lowN (x:Int):Bool:=decide (x≤uO nN 1)
def mW (r s:Int):Int:=if co r=false then 61 else if co s=false then 62 else if lowN s=false then 63 else 0
theorem cK {x:Int} (hx:Num x):Hid (∀ w,Mds w→Rt 20 #[U4 x] w (.bool (co x))):=fun w hm=>by
 unfold co
 by_cases h:x=0
 ·rw [decide_eq_true h]
  exact pH (fun w=>cZ (sk hx (decide_eq_true h)) w) w hm
 ·rw [decide_eq_false h]
  exact qC (fun w=>cZ (sk hx (decide_eq_false h)) w) (fun w hm=>l9 (fun w hm=>jz w hm) (fun w=>my hx tY w) (xH x nN) w hm) w hm
theorem xI:Num (uO nN 1):=⟨by decide +kernel,by decide +kernel⟩
theorem qD {x:Int} (hx:Num x):Hid (∀ w,Mds w→Rt 36 #[U4 x] w (.bool (lowN x))):=fun w hm =>
 vj (fun w hm=>jz w hm) (fun w=>tR tY w) (fun w=>my hx xI w) (Cj x _) w hm
theorem jA {r s:Int} {o:Bool} (hr:Num r) (hs:Num s):Hid (∀ w,Mds w→Rt 14 #[P9 r s o] w (.int .i64 (mW r s))):=fun w hm=>by
 have a:=cK hr;have b:=cK hs;have c:=qD hs
 unfold mW
 cases h1:co r with
 | false=>rw [h1] at a;exact xD a w hm
 | true =>
  rw [h1] at a
  cases h2:co s with
  | false=>rw [h2] at b;exact xE a b w hm
  | true =>
   rw [h2] at b
   cases h3:lowN s with
   | false=>rw [h3] at c;exact xF a b c w hm
   | true=>rw [h3] at c;exact xG a b c w hm
open Go.RowKit Go.Sort
theorem dc {x y z:Int} (hz:Num z) (w:World) :
  Rt 46 #[.agg #[.int .u64 (l0 x),.int .u64 (l1 x),.int .u64 (l2 x),.int .u64 (l3 x),.int .u64 (l0 y),.int .u64 (l1 y),.int .u64 (l2 y),.int .u64 (l3 y),.int .u64 (l0 z),.int .u64 (l1 z),.int .u64 (l2 z),.int .u64 (l3 z)]] w (.bool (decide (z=0))):=by
 have he:∀ w,(Op.equalIn 10000 24 (U4 z) (.agg #[.int .u64 0,.int .u64 0,.int .u64 0,.int .u64 0])).run Tryz.prog w = .ok (decide (z=0)) w:=fun w=>by
  have:=ik hz (m:=0) ⟨by decide,by decide⟩ w
  obtain ⟨z0,z1,z2,z3⟩:=ap
  ((try unfold Rt at this);(try unfold U4 at this);(try unfold P9 at this);rw [z0,z1,z2,z3] at this)
  exact this
 have bz:=bR
 go_enter Tryz.func46,Tryz.ntmps46
 go_wp2
 simp [bodyPost,results,Tryz.results46,go_sem]
 repeat (first|with_reducible exact Below.refl _ _|with_reducible refine Below.alloc ?_ (by first|omega|(simp;done)|(simp;omega)) _)
theorem vk {x y:Int} (w:World) :
  Rt 44 #[P9 x y true] w (.agg #[.int .u64 (l0 0),.int .u64 (l1 0),.int .u64 (l2 0),.int .u64 (l3 0),.int .u64 (l0 0),.int .u64 (l1 0),.int .u64 (l2 0),.int .u64 (l3 0),.int .u64 (l0 0),.int .u64 (l1 0),.int .u64 (l2 0),.int .u64 (l3 0)]):=by
 obtain ⟨z0,z1,z2,z3⟩:=ap
 ((try unfold Rt);(try unfold U4);(try unfold P9);rw [z0,z1,z2,z3])
 go_enter Tryz.func44,Tryz.ntmps44
 go_wp2
 simp [bodyPost,results,Tryz.results44,go_sem]
 repeat (first|with_reducible refine Below.setCell ?_ (by omega) _|(first|with_reducible exact Below.refl _ _|with_reducible refine Below.alloc ?_ (by first|omega|(simp;done)|(simp;omega)) _))
theorem vm {x y:Int} (w:World) :
    Rt 44 #[P9 x y false] w (.agg #[.int .u64 (l0 x),.int .u64 (l1 x),.int .u64 (l2 x),.int .u64 (l3 x),.int .u64 (l0 y),.int .u64 (l1 y),.int .u64 (l2 y),.int .u64 (l3 y),.int .u64 (l0 1),.int .u64 (l1 1),.int .u64 (l2 1),.int .u64 (l3 1)]):=by
  have C:Hid (∀ w,Rt 61 #[.int .u64 1] w (.agg #[.int .u64 (l0 1),.int .u64 (l1 1),.int .u64 (l2 1),.int .u64 (l3 1)])):=fun w=>eX ⟨by decide,by decide⟩ w
  go_enter Tryz.func44,Tryz.ntmps44
  go_wp2_with fail
  refine ah (fun W=>Below w.heap.size w W∧Pnt W w.heap.size x y false∧aR W (w.heap.size+1)) ⟨by repeat (first|with_reducible exact Below.refl _ _|with_reducible refine Below.alloc ?_ (by first|omega|(simp;done)|(simp;omega)) _),(Pnt.new rfl).alloc _,aR.new (by simp)⟩ ?_
  rintro W ⟨B,hP,hR⟩
  have o3:w.heap.size≤w.heap.size+1:=by omega
  generalize w.heap.size+1=br at *
  have ghP:=hP.grown
  refine bj 6 (by kernel_rfl) (by kernel_rfl) ?_
  simp only [List.take_succ_cons,List.take_zero,List.drop_succ_cons,List.drop_zero]
  repeat
    first
      | go_big_quiet_skip
      | (go_big_quiet_want;go_big_quiet_op;go_big_quiet_on)
      | (go_big_quiet_want
         go_big_quiet_op
         apply Exists.intro
         refine ⟨fun p=>?_,?_⟩
         · (first|(go_at_call 61;with_reducible exact Calls.regrown_of (C.out _)))
         go_big_quiet_on)
  refine wpQuiet_nil ?_
  rintro w1 ⟨p,rfl⟩
  have hb:=below_regrown W p.d p.os
  generalize grow (redrawn W p.d) p.os=w1 at *
  replace B:=B.trans (hb.mono B.size)
  replace hP:=hP.keep hb;replace hR:=hR.keep hb
  clear hb W ghP
  have gR:=hR.cells;have fR:=hR.free
  go_wp2
  simp [bodyPost,results,Tryz.results44,go_sem,gR]
  repeat (first|with_reducible exact B|with_reducible refine Below.setCell ?_ o3 _)
theorem xJ {x y:Int} (w:World) :
  Rt 19 #[.agg #[.int .u64 (l0 x),.int .u64 (l1 x),.int .u64 (l2 x),.int .u64 (l3 x),.int .u64 (l0 y),.int .u64 (l1 y),.int .u64 (l2 y),.int .u64 (l3 y),.int .u64 (l0 0),.int .u64 (l1 0),.int .u64 (l2 0),.int .u64 (l3 0)]] w (.agg #[.int .u64 (l0 0),.int .u64 (l1 0),.int .u64 (l2 0),.int .u64 (l3 0),.int .u64 (l0 0),.int .u64 (l1 0),.int .u64 (l2 0),.int .u64 (l3 0),.bool true]):=by
 obtain ⟨z0,z1,z2,z3⟩:=ap
 have C:Hid (∀ w,Rt 46 #[.agg #[.int .u64 (l0 x),.int .u64 (l1 x),.int .u64 (l2 x),.int .u64 (l3 x),.int .u64 (l0 y),.int .u64 (l1 y),.int .u64 (l2 y),.int .u64 (l3 y),.int .u64 0,.int .u64 0,.int .u64 0,.int .u64 0]] w (.bool true)):=fun w=>by
  have:=dc (x:=x) (y:=y) (z:=0) ⟨by decide,by decide⟩ w
  ((try unfold Rt at this);(try unfold U4 at this);(try unfold P9 at this);rw [z0,z1,z2,z3] at this)
  exact this
 ((try unfold Rt);(try unfold U4);(try unfold P9);rw [z0,z1,z2,z3])
 go_enter Tryz.func19,Tryz.ntmps19
 go_wp2_with fail
 refine aa (fun W=>Below w.heap.size w W∧Bk9 W (w.heap.size+1)) ⟨by repeat (first|with_reducible exact Below.refl _ _|with_reducible refine Below.alloc ?_ (by first|omega|(simp;done)|(simp;omega)) _),Bk9.new (by simp)⟩ ?_
 rintro W ⟨B,hR⟩
 have o3:w.heap.size≤w.heap.size+1:=by omega
 generalize w.heap.size+1=br at *
 with_reducible refine (C.out _).mono ?_
 rintro e w1 ⟨rfl,hb⟩
 replace B:=B.trans (hb.mono B.size)
 replace hR:=hR.keep hb
 clear hb W
 have gR:=hR.cells;have fR:=hR.free
 go_wp2
 simp [bodyPost,results,Tryz.results19,go_sem,gR]
 repeat (first|with_reducible exact B|with_reducible refine Below.setCell ?_ o3 _)
theorem qE {x y z v s a b r:Int} (C0:Hid (∀ w,Rt 46 #[.agg #[.int .u64 (l0 x),.int .u64 (l1 x),.int .u64 (l2 x),.int .u64 (l3 x),.int .u64 (l0 y),.int .u64 (l1 y),.int .u64 (l2 y),.int .u64 (l3 y),.int .u64 (l0 z),.int .u64 (l1 z),.int .u64 (l2 z),.int .u64 (l3 z)]] w (.bool false)))
    (C1:Hid (∀ w,Mds w→Rt 47 #[.int .i64 0,U4 z] w (.tuple #[U4 v,.int .i64 0]))) (C2:Hid (∀ w,Mds w→Rt 48 #[U4 v] w (U4 s)))
    (C3:Hid (∀ w,Mds w→Rt 49 #[U4 x,U4 s] w (U4 a))) (C4:Hid (∀ w,Mds w→Rt 49 #[U4 s,U4 v] w (U4 b))) (C5:Hid (∀ w,Mds w→Rt 49 #[U4 y,U4 b] w (U4 r))) (w:World) (hm:Mds w) :
    Rt 19 #[.agg #[.int .u64 (l0 x),.int .u64 (l1 x),.int .u64 (l2 x),.int .u64 (l3 x),.int .u64 (l0 y),.int .u64 (l1 y),.int .u64 (l2 y),.int .u64 (l3 y),.int .u64 (l0 z),.int .u64 (l1 z),.int .u64 (l2 z),.int .u64 (l3 z)]] w (P9 a r false):=by
  go_enter Tryz.func19,Tryz.ntmps19
  go_wp2_with fail
  refine aa (fun W=>Below w.heap.size w W∧Mds W∧Thr W w.heap.size x y z∧Bk9 W (w.heap.size+1)) ⟨by repeat (first|with_reducible exact Below.refl _ _|with_reducible refine Below.alloc ?_ (by first|omega|(simp;done)|(simp;omega)) _),(hm.alloc _).alloc _,(Thr.new rfl).alloc _,Bk9.new (by simp)⟩ ?_
  rintro W ⟨B,hD,hT,hR⟩
  have o3:w.heap.size≤w.heap.size+1:=by omega
  generalize w.heap.size+1=br at *
  with_reducible refine (C0.out _).mono ?_
  rintro e w1 ⟨rfl,hb⟩
  replace B:=B.trans (hb.mono B.size)
  replace hD:=hD.keep hb;replace hT:=hT.keep hb;replace hR:=hR.keep hb
  clear hb W
  have ghT:=hT.cells
  go_wp2_with fail
  refine aa (fun W=>Below w.heap.size w W∧Mds W∧Thr W w.heap.size x y z∧Bk9 W br) ⟨B,hD,hT,hR⟩ ?_
  clear B hD hT hR ghT
  rintro W ⟨B,hD,hT,hR⟩
  with_reducible refine (C1.out _ hD).mono ?_
  rintro e w2 ⟨rfl,hb⟩
  replace B:=B.trans (hb.mono B.size)
  replace hD:=hD.keep hb;replace hT:=hT.keep hb;replace hR:=hR.keep hb
  clear hb W
  go_wp2_with fail
  refine aa (fun W=>Below w.heap.size w W∧Mds W∧Thr W w.heap.size x y z∧Bk9 W br∧ae W w2.heap.size v) ⟨B.alloc B.size _,hD.alloc _,hT.alloc _,hR.alloc _,ae.new _ _ _⟩ ?_
  clear B hD hT hR
  rintro W ⟨B,hD,hT,hR,hV⟩
  generalize w2.heap.size=bv at *
  with_reducible refine (C2.out _ hD).mono ?_
  rintro e w3 ⟨rfl,hb⟩
  replace B:=B.trans (hb.mono B.size)
  replace hD:=hD.keep hb;replace hT:=hT.keep hb;replace hR:=hR.keep hb;replace hV:=hV.keep hb
  clear hb W
  go_wp2_with fail
  refine ah (fun W=>Below w.heap.size w W∧Mds W∧Thr W w.heap.size x y z∧Bk9 W br∧ae W bv v∧ae W w3.heap.size s) ⟨B.alloc B.size _,hD.alloc _,hT.alloc _,hR.alloc _,hV.alloc _,ae.new _ _ _⟩ ?_
  clear B hD hT hR hV
  rintro W ⟨B,hD,hT,hR,hV,hS⟩
  generalize w3.heap.size=bs at *
  have ghT:=hT.grown
  have ghV:=hV.grown
  have ghS:=hS.grown
  have hDg:∀ d os,Mds (grow (redrawn W d) os):=fun d os=>hD.keep (below_regrown W d os)
  refine bj 11 (by kernel_rfl) (by kernel_rfl) ?_
  simp only [List.take_succ_cons,List.take_zero,List.drop_succ_cons,List.drop_zero]
  repeat
    first
      | go_big_quiet_skip
      | (go_big_quiet_want;go_big_quiet_op;go_big_quiet_on)
      | (go_big_quiet_want
         go_big_quiet_op
         apply Exists.intro
         refine ⟨fun p=>?_,?_⟩
         · (first|(go_at_call 49;with_reducible exact Calls.regrown_of (C3.out _ (hDg p.d p.os)))|(go_at_call 49;with_reducible exact Calls.regrown_of (C4.out _ (hDg p.d p.os)))|(go_at_call 49;with_reducible exact Calls.regrown_of (C5.out _ (hDg p.d p.os))))
         go_big_quiet_on)
  refine wpQuiet_nil ?_
  rintro w4 ⟨p,rfl⟩
  have hb:=below_regrown W p.d p.os
  generalize grow (redrawn W p.d) p.os=w4 at *
  replace B:=B.trans (hb.mono B.size)
  replace hD:=hD.keep hb;replace hT:=hT.keep hb;replace hR:=hR.keep hb;replace hV:=hV.keep hb;replace hS:=hS.keep hb
  clear hb W ghT ghV ghS hDg
  have gR:=hR.cells;have fR:=hR.free
  go_wp2
  simp [bodyPost,results,Tryz.results19,go_sem,gR]
  repeat (first|with_reducible exact B|with_reducible refine Below.setCell ?_ o3 _)
theorem vn {x y z k:Int} (hk:Num k) (h0:k≠0) (w:World) :
  Rt 79 #[.agg #[.int .u64 (l0 x),.int .u64 (l1 x),.int .u64 (l2 x),.int .u64 (l3 x),.int .u64 (l0 y),.int .u64 (l1 y),.int .u64 (l2 y),.int .u64 (l3 y),.int .u64 (l0 z),.int .u64 (l1 z),.int .u64 (l2 z),.int .u64 (l3 z)],U4 k] w (.agg #[.int .u64 (l0 0),.int .u64 (l1 0),.int .u64 (l2 0),.int .u64 (l3 0),.int .u64 (l0 0),.int .u64 (l1 0),.int .u64 (l2 0),.int .u64 (l3 0),.int .u64 (l0 0),.int .u64 (l1 0),.int .u64 (l2 0),.int .u64 (l3 0)]):=by
 have he:∀ w,(Op.equalIn 10000 24 (U4 k) (.agg #[.int .u64 0,.int .u64 0,.int .u64 0,.int .u64 0])).run Tryz.prog w = .ok false w:=fun w=>by
  have:=BC hk (m:=0) ⟨by decide,by decide⟩ h0 w
  obtain ⟨z0,z1,z2,z3⟩:=ap
  ((try unfold Rt at this);(try unfold U4 at this);(try unfold P9 at this);rw [z0,z1,z2,z3] at this)
  exact this
 have bz:=bR
 obtain ⟨z0,z1,z2,z3⟩:=ap
 ((try unfold Rt);(try unfold U4);(try unfold P9);rw [z0,z1,z2,z3])
 go_enter Tryz.func79,Tryz.ntmps79
 go_wp2
 simp [bodyPost,results,Tryz.results79,go_sem]
 repeat (first|with_reducible refine Below.setCell ?_ (by omega) _|(first|with_reducible exact Below.refl _ _|with_reducible refine Below.alloc ?_ (by first|omega|(simp;done)|(simp;omega)) _))
theorem so {x y z x' y' z':Int} (C:Hid (∀ w,Mds w→Rt 41 #[.agg #[.int .u64 (l0 x),.int .u64 (l1 x),.int .u64 (l2 x),.int .u64 (l3 x),.int .u64 (l0 y),.int .u64 (l1 y),.int .u64 (l2 y),.int .u64 (l3 y),.int .u64 (l0 z),.int .u64 (l1 z),.int .u64 (l2 z),.int .u64 (l3 z)]] w (.agg #[.int .u64 (l0 x'),.int .u64 (l1 x'),.int .u64 (l2 x'),.int .u64 (l3 x'),.int .u64 (l0 y'),.int .u64 (l1 y'),.int .u64 (l2 y'),.int .u64 (l3 y'),.int .u64 (l0 z'),.int .u64 (l1 z'),.int .u64 (l2 z'),.int .u64 (l3 z')]))) (w:World) (hm:Mds w) :
  Rt 79 #[.agg #[.int .u64 (l0 x),.int .u64 (l1 x),.int .u64 (l2 x),.int .u64 (l3 x),.int .u64 (l0 y),.int .u64 (l1 y),.int .u64 (l2 y),.int .u64 (l3 y),.int .u64 (l0 z),.int .u64 (l1 z),.int .u64 (l2 z),.int .u64 (l3 z)],.agg #[.int .u64 (l0 0),.int .u64 (l1 0),.int .u64 (l2 0),.int .u64 (l3 0)]] w (.agg #[.int .u64 (l0 x'),.int .u64 (l1 x'),.int .u64 (l2 x'),.int .u64 (l3 x'),.int .u64 (l0 y'),.int .u64 (l1 y'),.int .u64 (l2 y'),.int .u64 (l3 y'),.int .u64 (l0 z'),.int .u64 (l1 z'),.int .u64 (l2 z'),.int .u64 (l3 z')]):=by
 have he:∀ w,(Op.equalIn 10000 24 (.agg #[.int .u64 0,.int .u64 0,.int .u64 0,.int .u64 0]) (.agg #[.int .u64 0,.int .u64 0,.int .u64 0,.int .u64 0])).run Tryz.prog w = .ok true w:=fun w=>by rw [rV];rfl
 have bz:=bR
 obtain ⟨z0,z1,z2,z3⟩:=ap
 ((try unfold Rt);(try unfold U4);(try unfold P9);rw [z0,z1,z2,z3])
 clear z0 z1 z2 z3
 go_enter Tryz.func79,Tryz.ntmps79
 go_wp2_with fail
 refine aa (fun W=>Below w.heap.size w W∧Mds W∧aR W (w.heap.size+1+1)) ⟨by repeat (first|with_reducible exact Below.refl _ _|with_reducible refine Below.alloc ?_ (by first|omega|(simp;done)|(simp;omega)) _),((hm.alloc _).alloc _).alloc _,aR.new (by simp)⟩ ?_
 rintro W ⟨B,hD,hR⟩
 have o3:w.heap.size≤w.heap.size+1+1:=by omega
 generalize w.heap.size+1+1=br at *
 with_reducible refine (C.out _ hD).mono ?_
 rintro e w1 ⟨rfl,hb⟩
 replace B:=B.trans (hb.mono B.size)
 replace hR:=hR.keep hb
 clear hb hD W
 have gR:=hR.cells;have fR:=hR.free
 go_wp2
 simp [bodyPost,results,Tryz.results79,go_sem,gR]
 repeat (first|with_reducible exact B|with_reducible refine Below.setCell ?_ o3 _)
open Go.RowKit Go.Sort
theorem vo {x r:Int} (C:Hid (∀ w,Mds w→Rt 100 #[.int .i64 1,.agg #[.int .u64 0,.int .u64 0,.int .u64 0,.int .u64 0],U4 x] w (.tuple #[U4 r,.int .i64 0]))) (w:World) (hm:Mds w) :
  Rt 69 #[U4 x] w (U4 r):=by
 go_enter Tryz.func69,Tryz.ntmps69
 go_wp2_with fail
 refine aa (fun W=>Below w.heap.size w W∧Mds W∧af W (w.heap.size+1)) ⟨by repeat (first|with_reducible exact Below.refl _ _|with_reducible refine Below.alloc ?_ (by first|omega|(simp;done)|(simp;omega)) _),(hm.alloc _).alloc _,af.new (by simp)⟩ ?_
 rintro W ⟨B,hD,hR⟩
 have o3:w.heap.size≤w.heap.size+1:=by omega
 generalize w.heap.size+1=br at *
 with_reducible refine (C.out _ hD).mono ?_
 rintro e w1 ⟨rfl,hb⟩
 replace B:=B.trans (hb.mono B.size)
 replace hR:=hR.keep hb
 have lr:=hR.1.lt (by simp)
 have nr:w1.heap.size≠br:=by omega
 have nr':=nr.symm
 clear hb hD W
 have gR:=fun o=>(hR.alloc o).1.all4
 have fR:=fun o=>(hR.alloc o).2.all4
 have gR0:=hR.1.all4
 have fR0:=hR.2.all4
 have sz:=B.size
 have BB:Hid (Below w.heap.size w w1):=B
 clear B hR
 go_wp2
 simp [bodyPost,results,Tryz.results69,go_sem, *]
 repeat (first|with_reducible exact BB.out|with_reducible refine Below.setCell ?_ o3 _|with_reducible refine Below.alloc ?_ (by first|omega|(simp;omega)) _)
theorem vr {x y r:Int} (C:Hid (∀ w,Mds w→Rt 109 #[.int .i64 1,U4 x,U4 y] w (.tuple #[U4 r,.int .i64 0]))) (w:World) (hm:Mds w) :
  Rt 86 #[U4 x,U4 y] w (U4 r):=by
 go_enter Tryz.func86,Tryz.ntmps86
 go_wp2_with fail
 refine aa (fun W=>Below w.heap.size w W∧Mds W∧af W (w.heap.size+1+1)) ⟨by repeat (first|with_reducible exact Below.refl _ _|with_reducible refine Below.alloc ?_ (by first|omega|(simp;done)|(simp;omega)) _),((hm.alloc _).alloc _).alloc _,af.new (by simp)⟩ ?_
 rintro W ⟨B,hD,hR⟩
 have o3:w.heap.size≤w.heap.size+1+1:=by omega
 generalize w.heap.size+1+1=br at *
 with_reducible refine (C.out _ hD).mono ?_
 rintro e w1 ⟨rfl,hb⟩
 replace B:=B.trans (hb.mono B.size)
 replace hR:=hR.keep hb
 have lr:=hR.1.lt (by simp)
 have nr:w1.heap.size≠br:=by omega
 have nr':=nr.symm
 clear hb hD W
 have gR:=fun o=>(hR.alloc o).1.all4
 have fR:=fun o=>(hR.alloc o).2.all4
 have gR0:=hR.1.all4
 have fR0:=hR.2.all4
 have sz:=B.size
 have BB:Hid (Below w.heap.size w w1):=B
 clear B hR
 go_wp2
 simp [bodyPost,results,Tryz.results86,go_sem, *]
 repeat (first|with_reducible exact BB.out|with_reducible refine Below.setCell ?_ o3 _|with_reducible refine Below.alloc ?_ (by first|omega|(simp;omega)) _)
theorem sq {x y r:Int} (C:Hid (∀ w,Mds w→Rt 67 #[.int .i64 1,U4 x,U4 y] w (.tuple #[U4 r,.int .i64 0]))) (w:World) (hm:Mds w) :
  Rt 33 #[U4 x,U4 y] w (U4 r):=by
 go_enter Tryz.func33,Tryz.ntmps33
 go_wp2_with fail
 refine aa (fun W=>Below w.heap.size w W∧Mds W∧af W (w.heap.size+1+1)) ⟨by repeat (first|with_reducible exact Below.refl _ _|with_reducible refine Below.alloc ?_ (by first|omega|(simp;done)|(simp;omega)) _),((hm.alloc _).alloc _).alloc _,af.new (by simp)⟩ ?_
 rintro W ⟨B,hD,hR⟩
 have o3:w.heap.size≤w.heap.size+1+1:=by omega
 generalize w.heap.size+1+1=br at *
 with_reducible refine (C.out _ hD).mono ?_
 rintro e w1 ⟨rfl,hb⟩
 replace B:=B.trans (hb.mono B.size)
 replace hR:=hR.keep hb
 have lr:=hR.1.lt (by simp)
 have nr:w1.heap.size≠br:=by omega
 have nr':=nr.symm
 clear hb hD W
 have gR:=fun o=>(hR.alloc o).1.all4
 have fR:=fun o=>(hR.alloc o).2.all4
 have gR0:=hR.1.all4
 have fR0:=hR.2.all4
 have sz:=B.size
 have BB:Hid (Below w.heap.size w w1):=B
 clear B hR
 go_wp2
 simp [bodyPost,results,Tryz.results33,go_sem, *]
 repeat (first|with_reducible exact BB.out|with_reducible refine Below.setCell ?_ o3 _|with_reducible refine Below.alloc ?_ (by first|omega|(simp;omega)) _)
theorem vt {x r:Int} (C:Hid (∀ w,Mds w→Rt 47 #[.int .i64 1,U4 x] w (.tuple #[U4 r,.int .i64 0]))) (w:World) (hm:Mds w) :
  Rt 31 #[U4 x] w (U4 r):=by
 go_enter Tryz.func31,Tryz.ntmps31
 go_wp2_with fail
 refine aa (fun W=>Below w.heap.size w W∧Mds W∧af W (w.heap.size+1)) ⟨by repeat (first|with_reducible exact Below.refl _ _|with_reducible refine Below.alloc ?_ (by first|omega|(simp;done)|(simp;omega)) _),(hm.alloc _).alloc _,af.new (by simp)⟩ ?_
 rintro W ⟨B,hD,hR⟩
 have o3:w.heap.size≤w.heap.size+1:=by omega
 generalize w.heap.size+1=br at *
 with_reducible refine (C.out _ hD).mono ?_
 rintro e w1 ⟨rfl,hb⟩
 replace B:=B.trans (hb.mono B.size)
 replace hR:=hR.keep hb
 have lr:=hR.1.lt (by simp)
 have nr:w1.heap.size≠br:=by omega
 have nr':=nr.symm
 clear hb hD W
 have gR:=fun o=>(hR.alloc o).1.all4
 have fR:=fun o=>(hR.alloc o).2.all4
 have gR0:=hR.1.all4
 have fR0:=hR.2.all4
 have sz:=B.size
 have BB:Hid (Below w.heap.size w w1):=B
 clear B hR
 go_wp2
 simp [bodyPost,results,Tryz.results31,go_sem, *]
 repeat (first|with_reducible exact BB.out|with_reducible refine Below.setCell ?_ o3 _|with_reducible refine Below.alloc ?_ (by first|omega|(simp;omega)) _)
theorem vu {x r:Int} (C:Hid (∀ w,Mds w→Rt 68 #[.int .i64 1,U4 x] w (.tuple #[U4 r,.int .i64 0]))) (w:World) (hm:Mds w) :
  Rt 34 #[U4 x] w (U4 r):=by
 go_enter Tryz.func34,Tryz.ntmps34
 go_wp2_with fail
 refine aa (fun W=>Below w.heap.size w W∧Mds W∧af W (w.heap.size+1)) ⟨by repeat (first|with_reducible exact Below.refl _ _|with_reducible refine Below.alloc ?_ (by first|omega|(simp;done)|(simp;omega)) _),(hm.alloc _).alloc _,af.new (by simp)⟩ ?_
 rintro W ⟨B,hD,hR⟩
 have o3:w.heap.size≤w.heap.size+1:=by omega
 generalize w.heap.size+1=br at *
 with_reducible refine (C.out _ hD).mono ?_
 rintro e w1 ⟨rfl,hb⟩
 replace B:=B.trans (hb.mono B.size)
 replace hR:=hR.keep hb
 have lr:=hR.1.lt (by simp)
 have nr:w1.heap.size≠br:=by omega
 have nr':=nr.symm
 clear hb hD W
 have gR:=fun o=>(hR.alloc o).1.all4
 have fR:=fun o=>(hR.alloc o).2.all4
 have gR0:=hR.1.all4
 have fR0:=hR.2.all4
 have sz:=B.size
 have BB:Hid (Below w.heap.size w w1):=B
 clear B hR
 go_wp2
 simp [bodyPost,results,Tryz.results34,go_sem, *]
 repeat (first|with_reducible exact BB.out|with_reducible refine Below.setCell ?_ o3 _|with_reducible refine Below.alloc ?_ (by first|omega|(simp;omega)) _)
theorem xK {x y:Int} (hx:Num x) (hy:Num y):Hid (∀ w,Mds w→Rt 86 #[U4 x,U4 y] w (U4 (ab nN (x+y)))):=fun w hm=>vr (fun w hm=>qz k8 hx hy w hm) w hm
theorem i9 {x y:Int} (hx:Num x) (hy:Num y):Hid (∀ w,Mds w→Rt 33 #[U4 x,U4 y] w (U4 (ab nN (x*y)))):=fun w hm=>sq (fun w hm=>qA k8 hx hy w hm) w hm
theorem qF {x:Int} (hx:Num x):Hid (∀ w,Mds w→Rt 34 #[U4 x] w (U4 (ab nN (0-x)))):=fun w hm=>vu (fun w hm=>xC k8 hx w hm) w hm
theorem mX {x:Int} (hx:Num x) (hz:ab nN x≠0):Hid (∀ w,Mds w→Rt 31 #[U4 x] w (U4 (cQ nN x))):=fun w hm=>vt (fun w hm=>kg k8 hx hz w hm) w hm
theorem xL {x:Int} (hx:Num x):Hid (∀ w,Mds w→Rt 69 #[U4 x] w (U4 (ab nN x))):=fun w hm=>by
 refine vo (fun w hm=>?_) w hm
 have:=qy (x:=0) k8 ⟨by decide,by decide⟩ hx w hm
 obtain ⟨z0,z1,z2,z3⟩:=ap
 ((try unfold Rt at this);(try unfold U4 at this);(try unfold P9 at this);rw [z0,z1,z2,z3,show b8 0 x=x by unfold b8;omega] at this)
 exact this
theorem xM {x:Int} (hx:Num x) (w:World):Rt 87 #[U4 x] w (.bool (decide (jy x 0=1))):=by
 have C:Hid (∀ w,Rt 98 #[U4 x,.int .i64 0] w (.int .i64 (jy x 0))):=fun w=>pD hx w
 generalize jy x 0=q at *
 clear hx
 go_enter Tryz.func87,Tryz.ntmps87
 go_wp2_with fail
 refine aa (fun W=>Below w.heap.size w W) (by repeat (first|with_reducible exact Below.refl _ _|with_reducible refine Below.alloc ?_ (by first|omega|(simp;done)|(simp;omega)) _)) ?_
 rintro W B
 with_reducible refine (C.out _).mono ?_
 rintro e w1 ⟨rfl,hb⟩
 replace B:=B.trans (hb.mono B.size)
 clear hb W
 go_wp2
 simp [bodyPost,results,Tryz.results87,go_sem]
 exact ⟨by by_cases h:q=1<;>simp [h],B⟩
open Go.RowKit Go.Sort
theorem vv {x y z a b c d s f g q h k u m n b1 b2 b3 v e1 r:Int} (C0:Hid (∀ w,Rt 46 #[.agg #[.int .u64 (l0 x),.int .u64 (l1 x),.int .u64 (l2 x),.int .u64 (l3 x),.int .u64 (l0 y),.int .u64 (l1 y),.int .u64 (l2 y),.int .u64 (l3 y),.int .u64 (l0 z),.int .u64 (l1 z),.int .u64 (l2 z),.int .u64 (l3 z)]] w (.bool false)))
    (C1:Hid (∀ w,Mds w→Rt 48 #[U4 y] w (U4 a)))
    (C2:Hid (∀ w,Mds w→Rt 48 #[U4 a] w (U4 b)))
    (C3:Hid (∀ w,Mds w→Rt 48 #[U4 x] w (U4 c)))
    (C4:Hid (∀ w,Mds w→Rt 77 #[U4 c] w (U4 d)))
    (C5:Hid (∀ w,Mds w→Rt 76 #[U4 d,U4 c] w (U4 s)))
    (C6:Hid (∀ w,Mds w→Rt 49 #[U4 x,U4 a] w (U4 f)))
    (C7:Hid (∀ w,Mds w→Rt 77 #[U4 f] w (U4 g)))
    (C8:Hid (∀ w,Mds w→Rt 77 #[U4 g] w (U4 q)))
    (C9:Hid (∀ w,Mds w→Rt 48 #[U4 s] w (U4 h)))
    (C10:Hid (∀ w,Mds w→Rt 77 #[U4 q] w (U4 k)))
    (C11:Hid (∀ w,Mds w→Rt 78 #[U4 h,U4 k] w (U4 u)))
    (C12:Hid (∀ w,Mds w→Rt 78 #[U4 q,U4 u] w (U4 m)))
    (C13:Hid (∀ w,Mds w→Rt 49 #[U4 s,U4 m] w (U4 n)))
    (C14:Hid (∀ w,Mds w→Rt 77 #[U4 b] w (U4 b1)))
    (C15:Hid (∀ w,Mds w→Rt 77 #[U4 b1] w (U4 b2)))
    (C16:Hid (∀ w,Mds w→Rt 77 #[U4 b2] w (U4 b3)))
    (C17:Hid (∀ w,Mds w→Rt 78 #[U4 n,U4 b3] w (U4 v)))
    (C18:Hid (∀ w,Mds w→Rt 49 #[U4 y,U4 z] w (U4 e1)))
    (C19:Hid (∀ w,Mds w→Rt 77 #[U4 e1] w (U4 r)))
    (w:World) (hm:Mds w) :
    Rt 41 #[.agg #[.int .u64 (l0 x),.int .u64 (l1 x),.int .u64 (l2 x),.int .u64 (l3 x),.int .u64 (l0 y),.int .u64 (l1 y),.int .u64 (l2 y),.int .u64 (l3 y),.int .u64 (l0 z),.int .u64 (l1 z),.int .u64 (l2 z),.int .u64 (l3 z)]] w (.agg #[.int .u64 (l0 u),.int .u64 (l1 u),.int .u64 (l2 u),.int .u64 (l3 u),.int .u64 (l0 v),.int .u64 (l1 v),.int .u64 (l2 v),.int .u64 (l3 v),.int .u64 (l0 r),.int .u64 (l1 r),.int .u64 (l2 r),.int .u64 (l3 r)]):=by
  go_enter Tryz.func41,Tryz.ntmps41
  go_wp2_with fail
  refine aa (fun W=>Below w.heap.size w W∧Mds W∧Thr W w.heap.size x y z∧aR W (w.heap.size+1)) ⟨by repeat (first|with_reducible exact Below.refl _ _|with_reducible refine Below.alloc ?_ (by first|omega|(simp;done)|(simp;omega)) _),(hm.alloc _).alloc _,(Thr.new rfl).alloc _,aR.new (by simp)⟩ ?_
  rintro W ⟨B,hD,hT,hR⟩
  have o3:w.heap.size≤w.heap.size+1:=by omega
  generalize w.heap.size+1=br at *
  with_reducible refine (C0.out _).mono ?_
  rintro e w1 ⟨rfl,hb⟩
  replace B:=B.trans (hb.mono B.size)
  replace hD:=hD.keep hb;replace hT:=hT.keep hb;replace hR:=hR.keep hb
  clear hb W
  have ghT:=hT.cells
  go_wp2_with fail
  refine aa (fun W=>Below w.heap.size w W∧Mds W∧Thr W w.heap.size x y z∧aR W br) ⟨B,hD,hT,hR⟩ ?_
  clear B hD hT hR ghT
  rintro W ⟨B,hD,hT,hR⟩
  with_reducible refine (C1.out _ hD).mono ?_
  rintro e w2 ⟨rfl,hb⟩
  replace B:=B.trans (hb.mono B.size)
  replace hD:=hD.keep hb;replace hT:=hT.keep hb;replace hR:=hR.keep hb
  clear hb W
  go_wp2_with fail
  refine aa (fun W=>Below w.heap.size w W∧Mds W∧Thr W w.heap.size x y z∧aR W br∧ae W w2.heap.size a) ⟨B.alloc B.size _,hD.alloc _,hT.alloc _,hR.alloc _,ae.new _ _ _⟩ ?_
  clear B hD hT hR
  rintro W ⟨B,hD,hT,hR,hA⟩
  generalize w2.heap.size=ba at *
  with_reducible refine (C2.out _ hD).mono ?_
  rintro e w3 ⟨rfl,hb⟩
  replace B:=B.trans (hb.mono B.size)
  replace hD:=hD.keep hb;replace hT:=hT.keep hb;replace hR:=hR.keep hb;replace hA:=hA.keep hb
  clear hb W
  have ghT:=fun o=>(hT.alloc o).cells
  go_wp2_with fail
  refine aa (fun W=>Below w.heap.size w W∧Mds W∧Thr W w.heap.size x y z∧aR W br∧ae W ba a∧ae W w3.heap.size b) ⟨B.alloc B.size _,hD.alloc _,hT.alloc _,hR.alloc _,hA.alloc _,ae.new _ _ _⟩ ?_
  clear B hD hT hR hA ghT
  rintro W ⟨B,hD,hT,hR,hA,hB⟩
  generalize w3.heap.size=bb at *
  with_reducible refine (C3.out _ hD).mono ?_
  rintro e w4 ⟨rfl,hb⟩
  replace B:=B.trans (hb.mono B.size)
  replace hD:=hD.keep hb;replace hT:=hT.keep hb;replace hR:=hR.keep hb;replace hA:=hA.keep hb;replace hB:=hB.keep hb
  clear hb W
  go_wp2_with fail
  refine ah (fun W=>Below w.heap.size w W∧Mds W∧Thr W w.heap.size x y z∧aR W br∧ae W ba a∧ae W bb b∧ae W w4.heap.size c) ⟨B.alloc B.size _,hD.alloc _,hT.alloc _,hR.alloc _,hA.alloc _,hB.alloc _,ae.new _ _ _⟩ ?_
  clear B hD hT hR hA hB
  rintro W ⟨B,hD,hT,hR,hA,hB,hC⟩
  generalize w4.heap.size=bc at *
  refine bS (A:=?AA1) 4 (by kernel_rfl) (by kernel_rfl) rfl rfl (bE _ _ _) (fun V hV=>?HH1) (fun V w1 hV hw=>?TT1)
  case HH1 =>
    have hDg:∀ d os,Mds (grow (redrawn V d) os):=fun d os=>(hD.keep hV).keep (below_regrown V d os)
    have ghC:=(hC.keep hV).grown
    unfold Gr
    simp only [List.take_succ_cons,List.take_zero]
    repeat
      first
        | go_big_quiet_skip
        | (go_big_quiet_want;go_big_quiet_op;go_big_quiet_on)
        | (go_big_quiet_want
           go_big_quiet_op
           apply Exists.intro
           refine ⟨fun p=>?_,?_⟩
           · (first|(go_at_call 77;with_reducible exact Calls.regrown_of (C4.out _ (hDg p.d p.os)))|(go_at_call 76;with_reducible exact Calls.regrown_of (C5.out _ (hDg p.d p.os))))
           go_big_quiet_on)
    refine wpQuiet_nil ?_
    exact rfl
  case TT1 =>
    have hb:=au hV hw
    have hN:=(af.new rfl).keep hw
    have nhD:V.heap.size≠1:=Nat.ne_of_gt (Nat.lt_of_lt_of_le (hD.lt) hV.size)
    have nhT:V.heap.size≠w.heap.size:=Nat.ne_of_gt (Nat.lt_of_lt_of_le (hT.lt) hV.size)
    have nhR:V.heap.size≠br:=Nat.ne_of_gt (Nat.lt_of_lt_of_le (hR.lt) hV.size)
    have nhA:V.heap.size≠ba:=Nat.ne_of_gt (Nat.lt_of_lt_of_le (World.block_lt_of_cell? _ _ hA.1) hV.size)
    have nhB:V.heap.size≠bb:=Nat.ne_of_gt (Nat.lt_of_lt_of_le (World.block_lt_of_cell? _ _ hB.1) hV.size)
    have nhC:V.heap.size≠bc:=Nat.ne_of_gt (Nat.lt_of_lt_of_le (World.block_lt_of_cell? _ _ hC.1) hV.size)
    have gn:w.heap.size≤V.heap.size:=Nat.le_trans B.size hV.size
    replace B:=B.trans (hb.mono B.size)
    replace hD:=hD.keep hb;replace hT:=hT.keep hb;replace hR:=hR.keep hb;replace hA:=hA.keep hb;replace hB:=hB.keep hb;replace hC:=hC.keep hb
    clear hb hw hV W
    generalize V.heap.size=bs at *
    clear V
    have gN:=hN.1.all4;have qN:=hN.2.all4
    have ghT:=hT.cells
    have ghA:=hA.cells
    have mhD:=nhD.symm
    have mhT:=nhT.symm
    have mhR:=nhR.symm
    have mhA:=nhA.symm
    have mhB:=nhB.symm
    have mhC:=nhC.symm
    simp only [List.drop_succ_cons,List.drop_zero,Act.put,List.setIfInBounds_toArray,List.set_cons_zero,List.set_cons_succ]
    go_wp2_with fail
    refine aa (fun W=>Below w.heap.size w W∧Mds W∧Thr W w.heap.size x y z∧aR W br∧ae W ba a∧ae W bb b∧ae W bc c∧ae W bs s) ⟨ak B gn _ _ _ _,hD.set4 nhD _ _ _ _,hT.set4 nhT _ _ _ _,hR.set4 nhR _ _ _ _,hA.set4 nhA _ _ _ _,hB.set4 nhB _ _ _ _,hC.set4 nhC _ _ _ _,ae.sets4 (af.has hN)⟩ ?_
    clear B hN gN qN hD hT hR hA hB hC nhD mhD nhT mhT nhR mhR nhA mhA nhB mhB nhC mhC ghT ghA gn
    rintro W ⟨B,hD,hT,hR,hA,hB,hC,hS⟩
    clear w1
    with_reducible refine (C6.out _ hD).mono ?_
    rintro e w5 ⟨rfl,hb⟩
    replace B:=B.trans (hb.mono B.size)
    replace hD:=hD.keep hb;replace hT:=hT.keep hb;replace hR:=hR.keep hb;replace hA:=hA.keep hb;replace hB:=hB.keep hb;replace hC:=hC.keep hb;replace hS:=hS.keep hb
    clear hb W
    go_wp2_with fail
    refine aa (fun W=>Below w.heap.size w W∧Mds W∧Thr W w.heap.size x y z∧aR W br∧ae W ba a∧ae W bb b∧ae W bc c∧ae W bs s) ⟨B,hD,hT,hR,hA,hB,hC,hS⟩ ?_
    clear B hD hT hR hA hB hC hS
    rintro W ⟨B,hD,hT,hR,hA,hB,hC,hS⟩
    with_reducible refine (C7.out _ hD).mono ?_
    rintro e w6 ⟨rfl,hb⟩
    replace B:=B.trans (hb.mono B.size)
    replace hD:=hD.keep hb;replace hT:=hT.keep hb;replace hR:=hR.keep hb;replace hA:=hA.keep hb;replace hB:=hB.keep hb;replace hC:=hC.keep hb;replace hS:=hS.keep hb
    clear hb W
    go_wp2_with fail
    refine aa (fun W=>Below w.heap.size w W∧Mds W∧Thr W w.heap.size x y z∧aR W br∧ae W ba a∧ae W bb b∧ae W bc c∧ae W bs s) ⟨B,hD,hT,hR,hA,hB,hC,hS⟩ ?_
    clear B hD hT hR hA hB hC hS
    rintro W ⟨B,hD,hT,hR,hA,hB,hC,hS⟩
    with_reducible refine (C8.out _ hD).mono ?_
    rintro e w7 ⟨rfl,hb⟩
    replace B:=B.trans (hb.mono B.size)
    replace hD:=hD.keep hb;replace hT:=hT.keep hb;replace hR:=hR.keep hb;replace hA:=hA.keep hb;replace hB:=hB.keep hb;replace hC:=hC.keep hb;replace hS:=hS.keep hb
    clear hb W
    go_wp2_with fail
    refine ah (fun W=>Below w.heap.size w W∧Mds W∧Thr W w.heap.size x y z∧aR W br∧ae W ba a∧ae W bb b∧ae W bc c∧ae W bs s∧ae W w7.heap.size q) ⟨B.alloc B.size _,hD.alloc _,hT.alloc _,hR.alloc _,hA.alloc _,hB.alloc _,hC.alloc _,hS.alloc _,ae.new _ _ _⟩ ?_
    clear B hD hT hR hA hB hC hS
    rintro W ⟨B,hD,hT,hR,hA,hB,hC,hS,hQ⟩
    generalize w7.heap.size=bq at *
    clear hA hC
    refine bS (A:=?AA2) 5 (by kernel_rfl) (by kernel_rfl) rfl rfl (bE _ _ _) (fun V hV=>?HH2) (fun V w1 hV hw=>?TT2)
    case HH2 =>
      have hDg:∀ d os,Mds (grow (redrawn V d) os):=fun d os=>(hD.keep hV).keep (below_regrown V d os)
      have ghS:=(hS.keep hV).grown
      have ghQ:=(hQ.keep hV).grown
      unfold Gr
      simp only [List.take_succ_cons,List.take_zero]
      repeat
        first
          | go_big_quiet_skip
          | (go_big_quiet_want;go_big_quiet_op;go_big_quiet_on)
          | (go_big_quiet_want
             go_big_quiet_op
             apply Exists.intro
             refine ⟨fun p=>?_,?_⟩
             · (first|(go_at_call 48;with_reducible exact Calls.regrown_of (C9.out _ (hDg p.d p.os)))|(go_at_call 77;with_reducible exact Calls.regrown_of (C10.out _ (hDg p.d p.os)))|(go_at_call 78;with_reducible exact Calls.regrown_of (C11.out _ (hDg p.d p.os))))
             go_big_quiet_on)
      refine wpQuiet_nil ?_
      exact rfl
    case TT2 =>
      have hb:=au hV hw
      have hN:=(af.new rfl).keep hw
      have nhD:V.heap.size≠1:=Nat.ne_of_gt (Nat.lt_of_lt_of_le (hD.lt) hV.size)
      have nhT:V.heap.size≠w.heap.size:=Nat.ne_of_gt (Nat.lt_of_lt_of_le (hT.lt) hV.size)
      have nhR:V.heap.size≠br:=Nat.ne_of_gt (Nat.lt_of_lt_of_le (hR.lt) hV.size)
      have nhB:V.heap.size≠bb:=Nat.ne_of_gt (Nat.lt_of_lt_of_le (World.block_lt_of_cell? _ _ hB.1) hV.size)
      have nhS:V.heap.size≠bs:=Nat.ne_of_gt (Nat.lt_of_lt_of_le (World.block_lt_of_cell? _ _ hS.1) hV.size)
      have nhQ:V.heap.size≠bq:=Nat.ne_of_gt (Nat.lt_of_lt_of_le (World.block_lt_of_cell? _ _ hQ.1) hV.size)
      have gn:w.heap.size≤V.heap.size:=Nat.le_trans B.size hV.size
      replace B:=B.trans (hb.mono B.size)
      replace hD:=hD.keep hb;replace hT:=hT.keep hb;replace hR:=hR.keep hb;replace hB:=hB.keep hb;replace hS:=hS.keep hb;replace hQ:=hQ.keep hb
      clear hb hw hV W
      generalize V.heap.size=bu at *
      clear V
      have gN:=hN.1.all4;have qN:=hN.2.all4
      have mhD:=nhD.symm
      have mhT:=nhT.symm
      have mhR:=nhR.symm
      have mhB:=nhB.symm
      have mhS:=nhS.symm
      have mhQ:=nhQ.symm
      simp only [List.drop_succ_cons,List.drop_zero,Act.put,List.setIfInBounds_toArray,List.set_cons_zero,List.set_cons_succ]
      go_wp2_with fail
      refine ah (fun W=>Below w.heap.size w W∧Mds W∧Thr W w.heap.size x y z∧aR W br∧ae W bb b∧ae W bs s∧ae W bq q∧ae W bu u) ⟨ak B gn _ _ _ _,hD.set4 nhD _ _ _ _,hT.set4 nhT _ _ _ _,hR.set4 nhR _ _ _ _,hB.set4 nhB _ _ _ _,hS.set4 nhS _ _ _ _,hQ.set4 nhQ _ _ _ _,ae.sets4 (af.has hN)⟩ ?_
      clear B hN gN qN hD hT hR hB hS hQ nhD mhD nhT mhT nhR mhR nhB mhB nhS mhS nhQ mhQ  gn
      rintro W ⟨B,hD,hT,hR,hB,hS,hQ,hU⟩
      clear w1
      refine bS (A:=?AA3) 10 (by kernel_rfl) (by kernel_rfl) rfl rfl (bE _ _ _) (fun V hV=>?HH3) (fun V w1 hV hw=>?TT3)
      case HH3 =>
        have hDg:∀ d os,Mds (grow (redrawn V d) os):=fun d os=>(hD.keep hV).keep (below_regrown V d os)
        have ghB:=(hB.keep hV).grown
        have ghS:=(hS.keep hV).grown
        have ghQ:=(hQ.keep hV).grown
        have ghU:=(hU.keep hV).grown
        unfold Gr
        simp only [List.take_succ_cons,List.take_zero]
        repeat
          first
            | go_big_quiet_skip
            | (go_big_quiet_want;go_big_quiet_op;go_big_quiet_on)
            | (go_big_quiet_want
               go_big_quiet_op
               apply Exists.intro
               refine ⟨fun p=>?_,?_⟩
               · (first|(go_at_call 78;with_reducible exact Calls.regrown_of (C12.out _ (hDg p.d p.os)))|(go_at_call 49;with_reducible exact Calls.regrown_of (C13.out _ (hDg p.d p.os)))|(go_at_call 77;with_reducible exact Calls.regrown_of (C14.out _ (hDg p.d p.os)))|(go_at_call 77;with_reducible exact Calls.regrown_of (C15.out _ (hDg p.d p.os)))|(go_at_call 77;with_reducible exact Calls.regrown_of (C16.out _ (hDg p.d p.os)))|(go_at_call 78;with_reducible exact Calls.regrown_of (C17.out _ (hDg p.d p.os))))
               go_big_quiet_on)
        refine wpQuiet_nil ?_
        exact rfl
      case TT3 =>
        have hb:=au hV hw
        have hN:=(af.new rfl).keep hw
        have nhD:V.heap.size≠1:=Nat.ne_of_gt (Nat.lt_of_lt_of_le (hD.lt) hV.size)
        have nhT:V.heap.size≠w.heap.size:=Nat.ne_of_gt (Nat.lt_of_lt_of_le (hT.lt) hV.size)
        have nhR:V.heap.size≠br:=Nat.ne_of_gt (Nat.lt_of_lt_of_le (hR.lt) hV.size)
        have nhB:V.heap.size≠bb:=Nat.ne_of_gt (Nat.lt_of_lt_of_le (World.block_lt_of_cell? _ _ hB.1) hV.size)
        have nhS:V.heap.size≠bs:=Nat.ne_of_gt (Nat.lt_of_lt_of_le (World.block_lt_of_cell? _ _ hS.1) hV.size)
        have nhQ:V.heap.size≠bq:=Nat.ne_of_gt (Nat.lt_of_lt_of_le (World.block_lt_of_cell? _ _ hQ.1) hV.size)
        have nhU:V.heap.size≠bu:=Nat.ne_of_gt (Nat.lt_of_lt_of_le (World.block_lt_of_cell? _ _ hU.1) hV.size)
        have gn:w.heap.size≤V.heap.size:=Nat.le_trans B.size hV.size
        replace B:=B.trans (hb.mono B.size)
        replace hD:=hD.keep hb;replace hT:=hT.keep hb;replace hR:=hR.keep hb;replace hB:=hB.keep hb;replace hS:=hS.keep hb;replace hQ:=hQ.keep hb;replace hU:=hU.keep hb
        clear hb hw hV W
        generalize V.heap.size=bv at *
        clear V
        have gN:=hN.1.all4;have qN:=hN.2.all4
        have mhD:=nhD.symm
        have mhT:=nhT.symm
        have mhR:=nhR.symm
        have mhB:=nhB.symm
        have mhS:=nhS.symm
        have mhQ:=nhQ.symm
        have mhU:=nhU.symm
        simp only [List.drop_succ_cons,List.drop_zero,Act.put,List.setIfInBounds_toArray,List.set_cons_zero,List.set_cons_succ]
        go_wp2_with fail
        refine ah (fun W=>Below w.heap.size w W∧Mds W∧Thr W w.heap.size x y z∧aR W br∧ae W bb b∧ae W bs s∧ae W bq q∧ae W bu u∧ae W bv v) ⟨ak B gn _ _ _ _,hD.set4 nhD _ _ _ _,hT.set4 nhT _ _ _ _,hR.set4 nhR _ _ _ _,hB.set4 nhB _ _ _ _,hS.set4 nhS _ _ _ _,hQ.set4 nhQ _ _ _ _,hU.set4 nhU _ _ _ _,ae.sets4 (af.has hN)⟩ ?_
        clear B hN gN qN hD hT hR hB hS hQ hU nhD mhD nhT mhT nhR mhR nhB mhB nhS mhS nhQ mhQ nhU mhU  gn
        rintro W ⟨B,hD,hT,hR,hB,hS,hQ,hU,hV1⟩
        clear w1
        have ghT:=hT.grown
        have ghU:=hU.grown
        have ghV1:=hV1.grown
        have hDg:∀ d os,Mds (grow (redrawn W d) os):=fun d os=>hD.keep (below_regrown W d os)
        refine bj 9 (by kernel_rfl) (by kernel_rfl) ?_
        simp only [List.take_succ_cons,List.take_zero,List.drop_succ_cons,List.drop_zero]
        repeat
          first
            | go_big_quiet_skip
            | (go_big_quiet_want;go_big_quiet_op;go_big_quiet_on)
            | (go_big_quiet_want
               go_big_quiet_op
               apply Exists.intro
               refine ⟨fun p=>?_,?_⟩
               · (first|(go_at_call 49;with_reducible exact Calls.regrown_of (C18.out _ (hDg p.d p.os)))|(go_at_call 77;with_reducible exact Calls.regrown_of (C19.out _ (hDg p.d p.os))))
               go_big_quiet_on)
        refine wpQuiet_nil ?_
        rintro w8 ⟨p,rfl⟩
        have hb:=below_regrown W p.d p.os
        generalize grow (redrawn W p.d) p.os=w8 at *
        replace B:=B.trans (hb.mono B.size)
        replace hD:=hD.keep hb;replace hT:=hT.keep hb;replace hR:=hR.keep hb;replace hB:=hB.keep hb;replace hS:=hS.keep hb;replace hQ:=hQ.keep hb;replace hU:=hU.keep hb;replace hV1:=hV1.keep hb
        clear hb W ghT ghU ghV1 hDg
        have gR:=hR.cells;have fR:=hR.free
        go_wp2
        simp [bodyPost,results,Tryz.results41,go_sem,gR]
        repeat (first|with_reducible exact B|with_reducible refine Below.setCell ?_ o3 _)
open Go.RowKit Go.Sort
structure LateC (z z2 c ey h r k m q n p s u v1 v2 v3 v o1 o2:Int):Prop where
 A11:Hid (∀ w,Mds w→Rt 48 #[U4 h] w (U4 k))
 A12:Hid (∀ w,Mds w→Rt 49 #[U4 k,U4 h] w (U4 m))
 A13:Hid (∀ w,Mds w→Rt 49 #[U4 c,U4 k] w (U4 q))
 A14:Hid (∀ w,Mds w→Rt 48 #[U4 r] w (U4 n))
 A15:Hid (∀ w,Mds w→Rt 78 #[U4 n,U4 m] w (U4 p))
 A16:Hid (∀ w,Mds w→Rt 77 #[U4 q] w (U4 s))
 A17:Hid (∀ w,Mds w→Rt 78 #[U4 p,U4 s] w (U4 u))
 A18:Hid (∀ w,Mds w→Rt 78 #[U4 q,U4 u] w (U4 v1))
 A19:Hid (∀ w,Mds w→Rt 49 #[U4 r,U4 v1] w (U4 v2))
 A20:Hid (∀ w,Mds w→Rt 49 #[U4 ey,U4 m] w (U4 v3))
 A21:Hid (∀ w,Mds w→Rt 78 #[U4 v2,U4 v3] w (U4 v))
 A22:Hid (∀ w,Mds w→Rt 49 #[U4 z,U4 z2] w (U4 o1))
 A23:Hid (∀ w,Mds w→Rt 49 #[U4 o1,U4 h] w (U4 o2))
theorem oU {x y z x2 y2 z2 a b c d ey f h g j r X Y Z:Int} (C0:Hid (∀ w,Rt 46 #[.agg #[.int .u64 (l0 x),.int .u64 (l1 x),.int .u64 (l2 x),.int .u64 (l3 x),.int .u64 (l0 y),.int .u64 (l1 y),.int .u64 (l2 y),.int .u64 (l3 y),.int .u64 (l0 z),.int .u64 (l1 z),.int .u64 (l2 z),.int .u64 (l3 z)]] w (.bool false)))
    (C1:Hid (∀ w,Rt 46 #[.agg #[.int .u64 (l0 x2),.int .u64 (l1 x2),.int .u64 (l2 x2),.int .u64 (l3 x2),.int .u64 (l0 y2),.int .u64 (l1 y2),.int .u64 (l2 y2),.int .u64 (l3 y2),.int .u64 (l0 z2),.int .u64 (l1 z2),.int .u64 (l2 z2),.int .u64 (l3 z2)]] w (.bool false)))
    (A1:Hid (∀ w,Mds w→Rt 48 #[U4 z] w (U4 a)))
    (A2:Hid (∀ w,Mds w→Rt 48 #[U4 z2] w (U4 b)))
    (A3:Hid (∀ w,Mds w→Rt 49 #[U4 x,U4 b] w (U4 c)))
    (A4:Hid (∀ w,Mds w→Rt 49 #[U4 b,U4 z2] w (U4 d)))
    (A5:Hid (∀ w,Mds w→Rt 49 #[U4 y,U4 d] w (U4 ey)))
    (A6:Hid (∀ w,Mds w→Rt 49 #[U4 x2,U4 a] w (U4 f)))
    (A7:Hid (∀ w,Mds w→Rt 78 #[U4 f,U4 c] w (U4 h)))
    (A8:Hid (∀ w,Mds w→Rt 49 #[U4 a,U4 z] w (U4 g)))
    (A9:Hid (∀ w,Mds w→Rt 49 #[U4 y2,U4 g] w (U4 j)))
    (A10:Hid (∀ w,Mds w→Rt 78 #[U4 j,U4 ey] w (U4 r)))
    (HB:Hid (((∀ w,(Op.equalIn 10000 24 (U4 h) (.agg #[.int .u64 0,.int .u64 0,.int .u64 0,.int .u64 0])).run Tryz.prog w = .ok true w)∧Hid (∀ w,Mds w→Rt 79 #[.agg #[.int .u64 (l0 x),.int .u64 (l1 x),.int .u64 (l2 x),.int .u64 (l3 x),.int .u64 (l0 y),.int .u64 (l1 y),.int .u64 (l2 y),.int .u64 (l3 y),.int .u64 (l0 z),.int .u64 (l1 z),.int .u64 (l2 z),.int .u64 (l3 z)],U4 r] w (.agg #[.int .u64 (l0 X),.int .u64 (l1 X),.int .u64 (l2 X),.int .u64 (l3 X),.int .u64 (l0 Y),.int .u64 (l1 Y),.int .u64 (l2 Y),.int .u64 (l3 Y),.int .u64 (l0 Z),.int .u64 (l1 Z),.int .u64 (l2 Z),.int .u64 (l3 Z)]))) ∨
      ((∀ w,(Op.equalIn 10000 24 (U4 h) (.agg #[.int .u64 0,.int .u64 0,.int .u64 0,.int .u64 0])).run Tryz.prog w = .ok false w)∧∃ k m q n p s v1 v2 v3 o1,LateC z z2 c ey h r k m q n p s X v1 v2 v3 Y o1 Z)))
    (w:World) (hm:Mds w) :
    Rt 42 #[.agg #[.int .u64 (l0 x),.int .u64 (l1 x),.int .u64 (l2 x),.int .u64 (l3 x),.int .u64 (l0 y),.int .u64 (l1 y),.int .u64 (l2 y),.int .u64 (l3 y),.int .u64 (l0 z),.int .u64 (l1 z),.int .u64 (l2 z),.int .u64 (l3 z)],.agg #[.int .u64 (l0 x2),.int .u64 (l1 x2),.int .u64 (l2 x2),.int .u64 (l3 x2),.int .u64 (l0 y2),.int .u64 (l1 y2),.int .u64 (l2 y2),.int .u64 (l3 y2),.int .u64 (l0 z2),.int .u64 (l1 z2),.int .u64 (l2 z2),.int .u64 (l3 z2)]] w (.agg #[.int .u64 (l0 X),.int .u64 (l1 X),.int .u64 (l2 X),.int .u64 (l3 X),.int .u64 (l0 Y),.int .u64 (l1 Y),.int .u64 (l2 Y),.int .u64 (l3 Y),.int .u64 (l0 Z),.int .u64 (l1 Z),.int .u64 (l2 Z),.int .u64 (l3 Z)]):=by
  have bz:=bR
  go_enter Tryz.func42,Tryz.ntmps42
  go_wp2_with fail
  refine aa (fun W=>Below w.heap.size w W∧Mds W∧Thr W w.heap.size x y z∧Thr W (w.heap.size+1) x2 y2 z2∧aR W (w.heap.size+1+1)) ⟨by repeat (first|with_reducible exact Below.refl _ _|with_reducible refine Below.alloc ?_ (by first|omega|(simp;done)|(simp;omega)) _),((hm.alloc _).alloc _).alloc _,((Thr.new rfl).alloc _).alloc _,(Thr.new (by simp)).alloc _,aR.new (by simp)⟩ ?_
  rintro W ⟨B,hD,hT,hO,hR⟩
  have o3:w.heap.size≤w.heap.size+1+1:=by omega
  generalize w.heap.size+1+1=br at *
  generalize w.heap.size+1=bo at *
  with_reducible refine (C0.out _).mono ?_
  rintro e w1 ⟨rfl,hb⟩
  replace B:=B.trans (hb.mono B.size)
  replace hD:=hD.keep hb;replace hT:=hT.keep hb;replace hO:=hO.keep hb;replace hR:=hR.keep hb
  clear hb W
  have ghO:=hO.cells
  go_wp2_with fail
  refine aa (fun W=>Below w.heap.size w W∧Mds W∧Thr W w.heap.size x y z∧Thr W bo x2 y2 z2∧aR W br) ⟨B,hD,hT,hO,hR⟩ ?_
  clear B hD hT hO hR ghO
  rintro W ⟨B,hD,hT,hO,hR⟩
  with_reducible refine (C1.out _).mono ?_
  rintro e w2 ⟨rfl,hb⟩
  replace B:=B.trans (hb.mono B.size)
  replace hD:=hD.keep hb;replace hT:=hT.keep hb;replace hO:=hO.keep hb;replace hR:=hR.keep hb
  clear hb W
  go_wp2_with fail
  refine ah (fun W=>Below w.heap.size w W∧Mds W∧Thr W w.heap.size x y z∧Thr W bo x2 y2 z2∧aR W br) ⟨B,hD,hT,hO,hR⟩ ?_
  clear B hD hT hO hR
  rintro W ⟨B,hD,hT,hO,hR⟩
  refine fq (A:=?AA1) 6 (by kernel_rfl) (by kernel_rfl) rfl rfl rfl rfl (bE _ _ _) (bE _ _ _) (fun V hV=>?HH1) (fun V V2 w1 hV hw hV2 hw2 hdd=>?TT1)
  case HH1 =>
    have hDg:∀ d os,Mds (grow (redrawn V d) os):=fun d os=>(hD.keep hV).keep (below_regrown V d os)
    have ghT:=(hT.keep hV).grown
    have ghO:=(hO.keep hV).grown
    unfold Gr
    simp only [List.take_succ_cons,List.take_zero]
    repeat
      first
        | go_big_quiet_skip
        | (go_big_quiet_want;go_big_quiet_op;go_big_quiet_on)
        | (go_big_quiet_want
           go_big_quiet_op
           apply Exists.intro
           refine ⟨fun p=>?_,?_⟩
           · (first|(go_at_call 48;with_reducible exact Calls.regrown_of (A1.out _ (hDg p.d p.os)))|(go_at_call 48;with_reducible exact Calls.regrown_of (A2.out _ (hDg p.d p.os))))
           go_big_quiet_on)
    refine wpQuiet_nil ?_
    exact rfl
  case TT1 =>
    have hb:=au hV hw
    have hN:=(af.new rfl).keep hw
    have hM:=(af.new rfl).keep hw2
    have nhD:V.heap.size≠1:=Nat.ne_of_gt (Nat.lt_of_lt_of_le (hD.lt) hV.size)
    have nhT:V.heap.size≠w.heap.size:=Nat.ne_of_gt (Nat.lt_of_lt_of_le (hT.lt) hV.size)
    have nhO:V.heap.size≠bo:=Nat.ne_of_gt (Nat.lt_of_lt_of_le (hO.lt) hV.size)
    have nhR:V.heap.size≠br:=Nat.ne_of_gt (Nat.lt_of_lt_of_le (hR.lt) hV.size)
    have khD:V2.heap.size≠1:=Nat.ne_of_gt (Nat.lt_of_lt_of_le (hD.lt) hV2.size)
    have khT:V2.heap.size≠w.heap.size:=Nat.ne_of_gt (Nat.lt_of_lt_of_le (hT.lt) hV2.size)
    have khO:V2.heap.size≠bo:=Nat.ne_of_gt (Nat.lt_of_lt_of_le (hO.lt) hV2.size)
    have khR:V2.heap.size≠br:=Nat.ne_of_gt (Nat.lt_of_lt_of_le (hR.lt) hV2.size)
    have gn:w.heap.size≤V.heap.size:=Nat.le_trans B.size hV.size
    have gm:w.heap.size≤V2.heap.size:=Nat.le_trans B.size hV2.size
    have hdd2:=hdd.symm
    replace B:=B.trans (hb.mono B.size)
    replace hD:=hD.keep hb;replace hT:=hT.keep hb;replace hO:=hO.keep hb;replace hR:=hR.keep hb
    clear hb hw hV hw2 hV2 W
    generalize V.heap.size=ba at *
    generalize V2.heap.size=bb at *
    clear V V2
    have gN:=hN.1.all4;have qN:=hN.2.all4
    have gM:=hM.1.all4;have qM:=hM.2.all4
    have mhD:=nhD.symm
    have lhD:=khD.symm
    have mhT:=nhT.symm
    have lhT:=khT.symm
    have mhO:=nhO.symm
    have lhO:=khO.symm
    have mhR:=nhR.symm
    have lhR:=khR.symm
    simp only [List.drop_succ_cons,List.drop_zero,Act.put,List.setIfInBounds_toArray,List.set_cons_zero,List.set_cons_succ]
    go_wp2_with fail
    refine ah (fun W=>Below w.heap.size w W∧Mds W∧Thr W w.heap.size x y z∧Thr W bo x2 y2 z2∧aR W br∧ae W ba a∧ae W bb b) ⟨ak (ak B gn _ _ _ _) gm _ _ _ _,(hD.set4 nhD _ _ _ _).set4 khD _ _ _ _,(hT.set4 nhT _ _ _ _).set4 khT _ _ _ _,(hO.set4 nhO _ _ _ _).set4 khO _ _ _ _,(hR.set4 nhR _ _ _ _).set4 khR _ _ _ _,(ae.sets4 (af.has hN)).set4 hdd2 _ _ _ _,ae.sets4 (af.has (hM.set4 hdd _ _ _ _))⟩ ?_
    clear B hN gN qN hM gM qM hdd hdd2 hD hT hO hR nhD mhD khD lhD nhT mhT khT lhT nhO mhO khO lhO nhR mhR khR lhR  gn gm
    rintro W ⟨B,hD,hT,hO,hR,hA,hB⟩
    clear w1
    refine fq (A:=?AA2) 11 (by kernel_rfl) (by kernel_rfl) rfl rfl rfl rfl (bE _ _ _) (bE _ _ _) (fun V hV=>?HH2) (fun V V2 w1 hV hw hV2 hw2 hdd=>?TT2)
    case HH2 =>
      have hDg:∀ d os,Mds (grow (redrawn V d) os):=fun d os=>(hD.keep hV).keep (below_regrown V d os)
      have ghT:=(hT.keep hV).grown
      have ghO:=(hO.keep hV).grown
      have ghB:=(hB.keep hV).grown
      unfold Gr
      simp only [List.take_succ_cons,List.take_zero]
      repeat
        first
          | go_big_quiet_skip
          | (go_big_quiet_want;go_big_quiet_op;go_big_quiet_on)
          | (go_big_quiet_want
             go_big_quiet_op
             apply Exists.intro
             refine ⟨fun p=>?_,?_⟩
             · (first|(go_at_call 49;with_reducible exact Calls.regrown_of (A3.out _ (hDg p.d p.os)))|(go_at_call 49;with_reducible exact Calls.regrown_of (A4.out _ (hDg p.d p.os)))|(go_at_call 49;with_reducible exact Calls.regrown_of (A5.out _ (hDg p.d p.os))))
             go_big_quiet_on)
      refine wpQuiet_nil ?_
      exact rfl
    case TT2 =>
      have hb:=au hV hw
      have hN:=(af.new rfl).keep hw
      have hM:=(af.new rfl).keep hw2
      have nhD:V.heap.size≠1:=Nat.ne_of_gt (Nat.lt_of_lt_of_le (hD.lt) hV.size)
      have nhT:V.heap.size≠w.heap.size:=Nat.ne_of_gt (Nat.lt_of_lt_of_le (hT.lt) hV.size)
      have nhO:V.heap.size≠bo:=Nat.ne_of_gt (Nat.lt_of_lt_of_le (hO.lt) hV.size)
      have nhR:V.heap.size≠br:=Nat.ne_of_gt (Nat.lt_of_lt_of_le (hR.lt) hV.size)
      have nhA:V.heap.size≠ba:=Nat.ne_of_gt (Nat.lt_of_lt_of_le (World.block_lt_of_cell? _ _ hA.1) hV.size)
      have nhB:V.heap.size≠bb:=Nat.ne_of_gt (Nat.lt_of_lt_of_le (World.block_lt_of_cell? _ _ hB.1) hV.size)
      have khD:V2.heap.size≠1:=Nat.ne_of_gt (Nat.lt_of_lt_of_le (hD.lt) hV2.size)
      have khT:V2.heap.size≠w.heap.size:=Nat.ne_of_gt (Nat.lt_of_lt_of_le (hT.lt) hV2.size)
      have khO:V2.heap.size≠bo:=Nat.ne_of_gt (Nat.lt_of_lt_of_le (hO.lt) hV2.size)
      have khR:V2.heap.size≠br:=Nat.ne_of_gt (Nat.lt_of_lt_of_le (hR.lt) hV2.size)
      have khA:V2.heap.size≠ba:=Nat.ne_of_gt (Nat.lt_of_lt_of_le (World.block_lt_of_cell? _ _ hA.1) hV2.size)
      have khB:V2.heap.size≠bb:=Nat.ne_of_gt (Nat.lt_of_lt_of_le (World.block_lt_of_cell? _ _ hB.1) hV2.size)
      have gn:w.heap.size≤V.heap.size:=Nat.le_trans B.size hV.size
      have gm:w.heap.size≤V2.heap.size:=Nat.le_trans B.size hV2.size
      have hdd2:=hdd.symm
      replace B:=B.trans (hb.mono B.size)
      replace hD:=hD.keep hb;replace hT:=hT.keep hb;replace hO:=hO.keep hb;replace hR:=hR.keep hb;replace hA:=hA.keep hb;replace hB:=hB.keep hb
      clear hb hw hV hw2 hV2 W
      generalize V.heap.size=bc at *
      generalize V2.heap.size=be at *
      clear V V2
      have gN:=hN.1.all4;have qN:=hN.2.all4
      have gM:=hM.1.all4;have qM:=hM.2.all4
      have mhD:=nhD.symm
      have lhD:=khD.symm
      have mhT:=nhT.symm
      have lhT:=khT.symm
      have mhO:=nhO.symm
      have lhO:=khO.symm
      have mhR:=nhR.symm
      have lhR:=khR.symm
      have mhA:=nhA.symm
      have lhA:=khA.symm
      have mhB:=nhB.symm
      have lhB:=khB.symm
      simp only [List.drop_succ_cons,List.drop_zero,Act.put,List.setIfInBounds_toArray,List.set_cons_zero,List.set_cons_succ]
      go_wp2_with fail
      refine ah (fun W=>Below w.heap.size w W∧Mds W∧Thr W w.heap.size x y z∧Thr W bo x2 y2 z2∧aR W br∧ae W ba a∧ae W bb b∧ae W bc c∧ae W be ey) ⟨ak (ak B gn _ _ _ _) gm _ _ _ _,(hD.set4 nhD _ _ _ _).set4 khD _ _ _ _,(hT.set4 nhT _ _ _ _).set4 khT _ _ _ _,(hO.set4 nhO _ _ _ _).set4 khO _ _ _ _,(hR.set4 nhR _ _ _ _).set4 khR _ _ _ _,(hA.set4 nhA _ _ _ _).set4 khA _ _ _ _,(hB.set4 nhB _ _ _ _).set4 khB _ _ _ _,(ae.sets4 (af.has hN)).set4 hdd2 _ _ _ _,ae.sets4 (af.has (hM.set4 hdd _ _ _ _))⟩ ?_
      clear B hN gN qN hM gM qM hdd hdd2 hD hT hO hR hA hB nhD mhD khD lhD nhT mhT khT lhT nhO mhO khO lhO nhR mhR khR lhR nhA mhA khA lhA nhB mhB khB lhB  gn gm
      rintro W ⟨B,hD,hT,hO,hR,hA,hB,hC,hE⟩
      clear w1
      clear hB
      refine bS (A:=?AA3) 6 (by kernel_rfl) (by kernel_rfl) rfl rfl (bE _ _ _) (fun V hV=>?HH3) (fun V w1 hV hw=>?TT3)
      case HH3 =>
        have hDg:∀ d os,Mds (grow (redrawn V d) os):=fun d os=>(hD.keep hV).keep (below_regrown V d os)
        have ghO:=(hO.keep hV).grown
        have ghA:=(hA.keep hV).grown
        have ghC:=(hC.keep hV).grown
        unfold Gr
        simp only [List.take_succ_cons,List.take_zero]
        repeat
          first
            | go_big_quiet_skip
            | (go_big_quiet_want;go_big_quiet_op;go_big_quiet_on)
            | (go_big_quiet_want
               go_big_quiet_op
               apply Exists.intro
               refine ⟨fun p=>?_,?_⟩
               · (first|(go_at_call 49;with_reducible exact Calls.regrown_of (A6.out _ (hDg p.d p.os)))|(go_at_call 78;with_reducible exact Calls.regrown_of (A7.out _ (hDg p.d p.os))))
               go_big_quiet_on)
        refine wpQuiet_nil ?_
        exact rfl
      case TT3 =>
        have hb:=au hV hw
        have hN:=(af.new rfl).keep hw
        have nhD:V.heap.size≠1:=Nat.ne_of_gt (Nat.lt_of_lt_of_le (hD.lt) hV.size)
        have nhT:V.heap.size≠w.heap.size:=Nat.ne_of_gt (Nat.lt_of_lt_of_le (hT.lt) hV.size)
        have nhO:V.heap.size≠bo:=Nat.ne_of_gt (Nat.lt_of_lt_of_le (hO.lt) hV.size)
        have nhR:V.heap.size≠br:=Nat.ne_of_gt (Nat.lt_of_lt_of_le (hR.lt) hV.size)
        have nhA:V.heap.size≠ba:=Nat.ne_of_gt (Nat.lt_of_lt_of_le (World.block_lt_of_cell? _ _ hA.1) hV.size)
        have nhC:V.heap.size≠bc:=Nat.ne_of_gt (Nat.lt_of_lt_of_le (World.block_lt_of_cell? _ _ hC.1) hV.size)
        have nhE:V.heap.size≠be:=Nat.ne_of_gt (Nat.lt_of_lt_of_le (World.block_lt_of_cell? _ _ hE.1) hV.size)
        have gn:w.heap.size≤V.heap.size:=Nat.le_trans B.size hV.size
        replace B:=B.trans (hb.mono B.size)
        replace hD:=hD.keep hb;replace hT:=hT.keep hb;replace hO:=hO.keep hb;replace hR:=hR.keep hb;replace hA:=hA.keep hb;replace hC:=hC.keep hb;replace hE:=hE.keep hb
        clear hb hw hV W
        generalize V.heap.size=bh at *
        clear V
        have gN:=hN.1.all4;have qN:=hN.2.all4
        have mhD:=nhD.symm
        have mhT:=nhT.symm
        have mhO:=nhO.symm
        have mhR:=nhR.symm
        have mhA:=nhA.symm
        have mhC:=nhC.symm
        have mhE:=nhE.symm
        simp only [List.drop_succ_cons,List.drop_zero,Act.put,List.setIfInBounds_toArray,List.set_cons_zero,List.set_cons_succ]
        go_wp2_with fail
        refine ah (fun W=>Below w.heap.size w W∧Mds W∧Thr W w.heap.size x y z∧Thr W bo x2 y2 z2∧aR W br∧ae W ba a∧ae W bc c∧ae W be ey∧ae W bh h) ⟨ak B gn _ _ _ _,hD.set4 nhD _ _ _ _,hT.set4 nhT _ _ _ _,hO.set4 nhO _ _ _ _,hR.set4 nhR _ _ _ _,hA.set4 nhA _ _ _ _,hC.set4 nhC _ _ _ _,hE.set4 nhE _ _ _ _,ae.sets4 (af.has hN)⟩ ?_
        clear B hN gN qN hD hT hO hR hA hC hE nhD mhD nhT mhT nhO mhO nhR mhR nhA mhA nhC mhC nhE mhE  gn
        rintro W ⟨B,hD,hT,hO,hR,hA,hC,hE,hH⟩
        clear w1
        clear C0 C1 A1 A2 A3 A4 A5 A6 A7
        rcases HB.out with ⟨he,CS⟩|⟨he,k,m,q,n,p,s,v1,v2,v3,o1,L⟩
        · clear HB
          refine bS (A:=?AA4) 9 (by kernel_rfl) (by kernel_rfl) rfl rfl (bE _ _ _) (fun V hV=>?HH4) (fun V w1 hV hw=>?TT4)
          case HH4 =>
            have hDg:∀ d os,Mds (grow (redrawn V d) os):=fun d os=>(hD.keep hV).keep (below_regrown V d os)
            have ghT:=(hT.keep hV).grown
            have ghO:=(hO.keep hV).grown
            have ghA:=(hA.keep hV).grown
            have ghE:=(hE.keep hV).grown
            unfold Gr
            simp only [List.take_succ_cons,List.take_zero]
            repeat
              first
                | go_big_quiet_skip
                | (go_big_quiet_want;go_big_quiet_op;go_big_quiet_on)
                | (go_big_quiet_want
                   go_big_quiet_op
                   apply Exists.intro
                   refine ⟨fun p=>?_,?_⟩
                   · (first|(go_at_call 49;with_reducible exact Calls.regrown_of (A8.out _ (hDg p.d p.os)))|(go_at_call 49;with_reducible exact Calls.regrown_of (A9.out _ (hDg p.d p.os)))|(go_at_call 78;with_reducible exact Calls.regrown_of (A10.out _ (hDg p.d p.os))))
                   go_big_quiet_on)
            refine wpQuiet_nil ?_
            exact rfl
          case TT4 =>
            have hb:=au hV hw
            have hN:=(af.new rfl).keep hw
            have nhD:V.heap.size≠1:=Nat.ne_of_gt (Nat.lt_of_lt_of_le (hD.lt) hV.size)
            have nhT:V.heap.size≠w.heap.size:=Nat.ne_of_gt (Nat.lt_of_lt_of_le (hT.lt) hV.size)
            have nhO:V.heap.size≠bo:=Nat.ne_of_gt (Nat.lt_of_lt_of_le (hO.lt) hV.size)
            have nhR:V.heap.size≠br:=Nat.ne_of_gt (Nat.lt_of_lt_of_le (hR.lt) hV.size)
            have nhA:V.heap.size≠ba:=Nat.ne_of_gt (Nat.lt_of_lt_of_le (World.block_lt_of_cell? _ _ hA.1) hV.size)
            have nhC:V.heap.size≠bc:=Nat.ne_of_gt (Nat.lt_of_lt_of_le (World.block_lt_of_cell? _ _ hC.1) hV.size)
            have nhE:V.heap.size≠be:=Nat.ne_of_gt (Nat.lt_of_lt_of_le (World.block_lt_of_cell? _ _ hE.1) hV.size)
            have nhH:V.heap.size≠bh:=Nat.ne_of_gt (Nat.lt_of_lt_of_le (World.block_lt_of_cell? _ _ hH.1) hV.size)
            have gn:w.heap.size≤V.heap.size:=Nat.le_trans B.size hV.size
            replace B:=B.trans (hb.mono B.size)
            replace hD:=hD.keep hb;replace hT:=hT.keep hb;replace hO:=hO.keep hb;replace hR:=hR.keep hb;replace hA:=hA.keep hb;replace hC:=hC.keep hb;replace hE:=hE.keep hb;replace hH:=hH.keep hb
            clear hb hw hV W
            generalize V.heap.size=bg at *
            clear V
            have gN:=hN.1.all4;have qN:=hN.2.all4
            have ghT:=hT.cells
            have ghH:=hH.cells
            have mhD:=nhD.symm
            have mhT:=nhT.symm
            have mhO:=nhO.symm
            have mhR:=nhR.symm
            have mhA:=nhA.symm
            have mhC:=nhC.symm
            have mhE:=nhE.symm
            have mhH:=nhH.symm
            simp only [List.drop_succ_cons,List.drop_zero,Act.put,List.setIfInBounds_toArray,List.set_cons_zero,List.set_cons_succ]
            go_wp2_with fail
            refine aa (fun W=>Below w.heap.size w W∧Mds W∧Thr W w.heap.size x y z∧Thr W bo x2 y2 z2∧aR W br∧ae W ba a∧ae W bc c∧ae W be ey∧ae W bh h∧ae W bg r) ⟨ak B gn _ _ _ _,hD.set4 nhD _ _ _ _,hT.set4 nhT _ _ _ _,hO.set4 nhO _ _ _ _,hR.set4 nhR _ _ _ _,hA.set4 nhA _ _ _ _,hC.set4 nhC _ _ _ _,hE.set4 nhE _ _ _ _,hH.set4 nhH _ _ _ _,ae.sets4 (af.has hN)⟩ ?_
            clear B hN gN qN hD hT hO hR hA hC hE hH nhD mhD nhT mhT nhO mhO nhR mhR nhA mhA nhC mhC nhE mhE nhH mhH ghT ghH gn
            rintro W ⟨B,hD,hT,hO,hR,hA,hC,hE,hH,hG⟩
            clear w1
            with_reducible refine (CS.out _ hD).mono ?_
            rintro e w9 ⟨rfl,hb⟩
            replace B:=B.trans (hb.mono B.size)
            replace hD:=hD.keep hb;replace hT:=hT.keep hb;replace hO:=hO.keep hb;replace hR:=hR.keep hb;replace hA:=hA.keep hb;replace hC:=hC.keep hb;replace hE:=hE.keep hb;replace hH:=hH.keep hb;replace hG:=hG.keep hb
            clear hb W hD hT hO hA hC hE hH hG
            have gR:=hR.cells;have fR:=hR.free
            go_wp2
            simp [bodyPost,results,Tryz.results42,go_sem,gR]
            repeat (first|with_reducible exact B|with_reducible refine Below.setCell ?_ o3 _)
        · clear HB
          obtain ⟨A11,A12,A13,A14,A15,A16,A17,A18,A19,A20,A21,A22,A23⟩:=L
          refine bS (A:=?AA5) 9 (by kernel_rfl) (by kernel_rfl) rfl rfl (bE _ _ _) (fun V hV=>?HH5) (fun V w1 hV hw=>?TT5)
          case HH5 =>
            have hDg:∀ d os,Mds (grow (redrawn V d) os):=fun d os=>(hD.keep hV).keep (below_regrown V d os)
            have ghT:=(hT.keep hV).grown
            have ghO:=(hO.keep hV).grown
            have ghA:=(hA.keep hV).grown
            have ghE:=(hE.keep hV).grown
            unfold Gr
            simp only [List.take_succ_cons,List.take_zero]
            repeat
              first
                | go_big_quiet_skip
                | (go_big_quiet_want;go_big_quiet_op;go_big_quiet_on)
                | (go_big_quiet_want
                   go_big_quiet_op
                   apply Exists.intro
                   refine ⟨fun p=>?_,?_⟩
                   · (first|(go_at_call 49;with_reducible exact Calls.regrown_of (A8.out _ (hDg p.d p.os)))|(go_at_call 49;with_reducible exact Calls.regrown_of (A9.out _ (hDg p.d p.os)))|(go_at_call 78;with_reducible exact Calls.regrown_of (A10.out _ (hDg p.d p.os))))
                   go_big_quiet_on)
            refine wpQuiet_nil ?_
            exact rfl
          case TT5 =>
            have hb:=au hV hw
            have hN:=(af.new rfl).keep hw
            have nhD:V.heap.size≠1:=Nat.ne_of_gt (Nat.lt_of_lt_of_le (hD.lt) hV.size)
            have nhT:V.heap.size≠w.heap.size:=Nat.ne_of_gt (Nat.lt_of_lt_of_le (hT.lt) hV.size)
            have nhO:V.heap.size≠bo:=Nat.ne_of_gt (Nat.lt_of_lt_of_le (hO.lt) hV.size)
            have nhR:V.heap.size≠br:=Nat.ne_of_gt (Nat.lt_of_lt_of_le (hR.lt) hV.size)
            have nhA:V.heap.size≠ba:=Nat.ne_of_gt (Nat.lt_of_lt_of_le (World.block_lt_of_cell? _ _ hA.1) hV.size)
            have nhC:V.heap.size≠bc:=Nat.ne_of_gt (Nat.lt_of_lt_of_le (World.block_lt_of_cell? _ _ hC.1) hV.size)
            have nhE:V.heap.size≠be:=Nat.ne_of_gt (Nat.lt_of_lt_of_le (World.block_lt_of_cell? _ _ hE.1) hV.size)
            have nhH:V.heap.size≠bh:=Nat.ne_of_gt (Nat.lt_of_lt_of_le (World.block_lt_of_cell? _ _ hH.1) hV.size)
            have gn:w.heap.size≤V.heap.size:=Nat.le_trans B.size hV.size
            replace B:=B.trans (hb.mono B.size)
            replace hD:=hD.keep hb;replace hT:=hT.keep hb;replace hO:=hO.keep hb;replace hR:=hR.keep hb;replace hA:=hA.keep hb;replace hC:=hC.keep hb;replace hE:=hE.keep hb;replace hH:=hH.keep hb
            clear hb hw hV W
            generalize V.heap.size=bg at *
            clear V
            have gN:=hN.1.all4;have qN:=hN.2.all4
            have ghH:=hH.cells
            have mhD:=nhD.symm
            have mhT:=nhT.symm
            have mhO:=nhO.symm
            have mhR:=nhR.symm
            have mhA:=nhA.symm
            have mhC:=nhC.symm
            have mhE:=nhE.symm
            have mhH:=nhH.symm
            simp only [List.drop_succ_cons,List.drop_zero,Act.put,List.setIfInBounds_toArray,List.set_cons_zero,List.set_cons_succ]
            go_wp2_with fail
            refine aa (fun W=>Below w.heap.size w W∧Mds W∧Thr W w.heap.size x y z∧Thr W bo x2 y2 z2∧aR W br∧ae W ba a∧ae W bc c∧ae W be ey∧ae W bh h∧ae W bg r) ⟨ak B gn _ _ _ _,hD.set4 nhD _ _ _ _,hT.set4 nhT _ _ _ _,hO.set4 nhO _ _ _ _,hR.set4 nhR _ _ _ _,hA.set4 nhA _ _ _ _,hC.set4 nhC _ _ _ _,hE.set4 nhE _ _ _ _,hH.set4 nhH _ _ _ _,ae.sets4 (af.has hN)⟩ ?_
            clear B hN gN qN hD hT hO hR hA hC hE hH nhD mhD nhT mhT nhO mhO nhR mhR nhA mhA nhC mhC nhE mhE nhH mhH ghH gn
            rintro W ⟨B,hD,hT,hO,hR,hA,hC,hE,hH,hG⟩
            clear w1
            clear hA
            with_reducible refine (A11.out _ hD).mono ?_
            rintro e w3 ⟨rfl,hb⟩
            replace B:=B.trans (hb.mono B.size)
            replace hD:=hD.keep hb;replace hT:=hT.keep hb;replace hO:=hO.keep hb;replace hR:=hR.keep hb;replace hC:=hC.keep hb;replace hE:=hE.keep hb;replace hH:=hH.keep hb;replace hG:=hG.keep hb
            clear hb W
            have ghH:=hH.allocs
            go_wp2_with fail
            refine aa (fun W=>Below w.heap.size w W∧Mds W∧Thr W w.heap.size x y z∧Thr W bo x2 y2 z2∧aR W br∧ae W bc c∧ae W be ey∧ae W bh h∧ae W bg r∧ae W w3.heap.size k) ⟨B.alloc B.size _,hD.alloc _,hT.alloc _,hO.alloc _,hR.alloc _,hC.alloc _,hE.alloc _,hH.alloc _,hG.alloc _,ae.new _ _ _⟩ ?_
            clear B hD hT hO hR hC hE hH hG ghH
            rintro W ⟨B,hD,hT,hO,hR,hC,hE,hH,hG,hK⟩
            generalize w3.heap.size=bk at *
            with_reducible refine (A12.out _ hD).mono ?_
            rintro e w4 ⟨rfl,hb⟩
            replace B:=B.trans (hb.mono B.size)
            replace hD:=hD.keep hb;replace hT:=hT.keep hb;replace hO:=hO.keep hb;replace hR:=hR.keep hb;replace hC:=hC.keep hb;replace hE:=hE.keep hb;replace hH:=hH.keep hb;replace hG:=hG.keep hb;replace hK:=hK.keep hb
            clear hb W
            have ghC:=hC.allocs
            have ghK:=hK.allocs
            go_wp2_with fail
            refine aa (fun W=>Below w.heap.size w W∧Mds W∧Thr W w.heap.size x y z∧Thr W bo x2 y2 z2∧aR W br∧ae W bc c∧ae W be ey∧ae W bh h∧ae W bg r∧ae W bk k∧ae W w4.heap.size m) ⟨B.alloc B.size _,hD.alloc _,hT.alloc _,hO.alloc _,hR.alloc _,hC.alloc _,hE.alloc _,hH.alloc _,hG.alloc _,hK.alloc _,ae.new _ _ _⟩ ?_
            clear B hD hT hO hR hC hE hH hG hK ghC ghK
            rintro W ⟨B,hD,hT,hO,hR,hC,hE,hH,hG,hK,hM1⟩
            generalize w4.heap.size=bm at *
            with_reducible refine (A13.out _ hD).mono ?_
            rintro e w5 ⟨rfl,hb⟩
            replace B:=B.trans (hb.mono B.size)
            replace hD:=hD.keep hb;replace hT:=hT.keep hb;replace hO:=hO.keep hb;replace hR:=hR.keep hb;replace hC:=hC.keep hb;replace hE:=hE.keep hb;replace hH:=hH.keep hb;replace hG:=hG.keep hb;replace hK:=hK.keep hb;replace hM1:=hM1.keep hb
            clear hb W
            go_wp2_with fail
            refine ah (fun W=>Below w.heap.size w W∧Mds W∧Thr W w.heap.size x y z∧Thr W bo x2 y2 z2∧aR W br∧ae W bc c∧ae W be ey∧ae W bh h∧ae W bg r∧ae W bk k∧ae W bm m∧ae W w5.heap.size q) ⟨B.alloc B.size _,hD.alloc _,hT.alloc _,hO.alloc _,hR.alloc _,hC.alloc _,hE.alloc _,hH.alloc _,hG.alloc _,hK.alloc _,hM1.alloc _,ae.new _ _ _⟩ ?_
            clear B hD hT hO hR hC hE hH hG hK hM1
            rintro W ⟨B,hD,hT,hO,hR,hC,hE,hH,hG,hK,hM1,hQ⟩
            generalize w5.heap.size=bq at *
            clear hK hC
            refine bS (A:=?AA6) 7 (by kernel_rfl) (by kernel_rfl) rfl rfl (bE _ _ _) (fun V hV=>?HH6) (fun V w1 hV hw=>?TT6)
            case HH6 =>
              have hDg:∀ d os,Mds (grow (redrawn V d) os):=fun d os=>(hD.keep hV).keep (below_regrown V d os)
              have ghG:=(hG.keep hV).grown
              have ghM1:=(hM1.keep hV).grown
              have ghQ:=(hQ.keep hV).grown
              unfold Gr
              simp only [List.take_succ_cons,List.take_zero]
              repeat
                first
                  | go_big_quiet_skip
                  | (go_big_quiet_want;go_big_quiet_op;go_big_quiet_on)
                  | (go_big_quiet_want
                     go_big_quiet_op
                     apply Exists.intro
                     refine ⟨fun p=>?_,?_⟩
                     · (first|(go_at_call 48;with_reducible exact Calls.regrown_of (A14.out _ (hDg p.d p.os)))|(go_at_call 78;with_reducible exact Calls.regrown_of (A15.out _ (hDg p.d p.os)))|(go_at_call 77;with_reducible exact Calls.regrown_of (A16.out _ (hDg p.d p.os)))|(go_at_call 78;with_reducible exact Calls.regrown_of (A17.out _ (hDg p.d p.os))))
                     go_big_quiet_on)
              refine wpQuiet_nil ?_
              exact rfl
            case TT6 =>
              have hb:=au hV hw
              have hN:=(af.new rfl).keep hw
              have nhD:V.heap.size≠1:=Nat.ne_of_gt (Nat.lt_of_lt_of_le (hD.lt) hV.size)
              have nhT:V.heap.size≠w.heap.size:=Nat.ne_of_gt (Nat.lt_of_lt_of_le (hT.lt) hV.size)
              have nhO:V.heap.size≠bo:=Nat.ne_of_gt (Nat.lt_of_lt_of_le (hO.lt) hV.size)
              have nhR:V.heap.size≠br:=Nat.ne_of_gt (Nat.lt_of_lt_of_le (hR.lt) hV.size)
              have nhE:V.heap.size≠be:=Nat.ne_of_gt (Nat.lt_of_lt_of_le (World.block_lt_of_cell? _ _ hE.1) hV.size)
              have nhH:V.heap.size≠bh:=Nat.ne_of_gt (Nat.lt_of_lt_of_le (World.block_lt_of_cell? _ _ hH.1) hV.size)
              have nhG:V.heap.size≠bg:=Nat.ne_of_gt (Nat.lt_of_lt_of_le (World.block_lt_of_cell? _ _ hG.1) hV.size)
              have nhM1:V.heap.size≠bm:=Nat.ne_of_gt (Nat.lt_of_lt_of_le (World.block_lt_of_cell? _ _ hM1.1) hV.size)
              have nhQ:V.heap.size≠bq:=Nat.ne_of_gt (Nat.lt_of_lt_of_le (World.block_lt_of_cell? _ _ hQ.1) hV.size)
              have gn:w.heap.size≤V.heap.size:=Nat.le_trans B.size hV.size
              replace B:=B.trans (hb.mono B.size)
              replace hD:=hD.keep hb;replace hT:=hT.keep hb;replace hO:=hO.keep hb;replace hR:=hR.keep hb;replace hE:=hE.keep hb;replace hH:=hH.keep hb;replace hG:=hG.keep hb;replace hM1:=hM1.keep hb;replace hQ:=hQ.keep hb
              clear hb hw hV W
              generalize V.heap.size=bu at *
              clear V
              have gN:=hN.1.all4;have qN:=hN.2.all4
              have mhD:=nhD.symm
              have mhT:=nhT.symm
              have mhO:=nhO.symm
              have mhR:=nhR.symm
              have mhE:=nhE.symm
              have mhH:=nhH.symm
              have mhG:=nhG.symm
              have mhM1:=nhM1.symm
              have mhQ:=nhQ.symm
              simp only [List.drop_succ_cons,List.drop_zero,Act.put,List.setIfInBounds_toArray,List.set_cons_zero,List.set_cons_succ]
              go_wp2_with fail
              refine ah (fun W=>Below w.heap.size w W∧Mds W∧Thr W w.heap.size x y z∧Thr W bo x2 y2 z2∧aR W br∧ae W be ey∧ae W bh h∧ae W bg r∧ae W bm m∧ae W bq q∧ae W bu X) ⟨ak B gn _ _ _ _,hD.set4 nhD _ _ _ _,hT.set4 nhT _ _ _ _,hO.set4 nhO _ _ _ _,hR.set4 nhR _ _ _ _,hE.set4 nhE _ _ _ _,hH.set4 nhH _ _ _ _,hG.set4 nhG _ _ _ _,hM1.set4 nhM1 _ _ _ _,hQ.set4 nhQ _ _ _ _,ae.sets4 (af.has hN)⟩ ?_
              clear B hN gN qN hD hT hO hR hE hH hG hM1 hQ nhD mhD nhT mhT nhO mhO nhR mhR nhE mhE nhH mhH nhG mhG nhM1 mhM1 nhQ mhQ  gn
              rintro W ⟨B,hD,hT,hO,hR,hE,hH,hG,hM1,hQ,hU⟩
              clear w1
              refine bS (A:=?AA7) 9 (by kernel_rfl) (by kernel_rfl) rfl rfl (bE _ _ _) (fun V hV=>?HH7) (fun V w1 hV hw=>?TT7)
              case HH7 =>
                have hDg:∀ d os,Mds (grow (redrawn V d) os):=fun d os=>(hD.keep hV).keep (below_regrown V d os)
                have ghE:=(hE.keep hV).grown
                have ghG:=(hG.keep hV).grown
                have ghM1:=(hM1.keep hV).grown
                have ghQ:=(hQ.keep hV).grown
                have ghU:=(hU.keep hV).grown
                unfold Gr
                simp only [List.take_succ_cons,List.take_zero]
                repeat
                  first
                    | go_big_quiet_skip
                    | (go_big_quiet_want;go_big_quiet_op;go_big_quiet_on)
                    | (go_big_quiet_want
                       go_big_quiet_op
                       apply Exists.intro
                       refine ⟨fun p=>?_,?_⟩
                       · (first|(go_at_call 78;with_reducible exact Calls.regrown_of (A18.out _ (hDg p.d p.os)))|(go_at_call 49;with_reducible exact Calls.regrown_of (A19.out _ (hDg p.d p.os)))|(go_at_call 49;with_reducible exact Calls.regrown_of (A20.out _ (hDg p.d p.os)))|(go_at_call 78;with_reducible exact Calls.regrown_of (A21.out _ (hDg p.d p.os))))
                       go_big_quiet_on)
                refine wpQuiet_nil ?_
                exact rfl
              case TT7 =>
                have hb:=au hV hw
                have hN:=(af.new rfl).keep hw
                have nhD:V.heap.size≠1:=Nat.ne_of_gt (Nat.lt_of_lt_of_le (hD.lt) hV.size)
                have nhT:V.heap.size≠w.heap.size:=Nat.ne_of_gt (Nat.lt_of_lt_of_le (hT.lt) hV.size)
                have nhO:V.heap.size≠bo:=Nat.ne_of_gt (Nat.lt_of_lt_of_le (hO.lt) hV.size)
                have nhR:V.heap.size≠br:=Nat.ne_of_gt (Nat.lt_of_lt_of_le (hR.lt) hV.size)
                have nhE:V.heap.size≠be:=Nat.ne_of_gt (Nat.lt_of_lt_of_le (World.block_lt_of_cell? _ _ hE.1) hV.size)
                have nhH:V.heap.size≠bh:=Nat.ne_of_gt (Nat.lt_of_lt_of_le (World.block_lt_of_cell? _ _ hH.1) hV.size)
                have nhG:V.heap.size≠bg:=Nat.ne_of_gt (Nat.lt_of_lt_of_le (World.block_lt_of_cell? _ _ hG.1) hV.size)
                have nhM1:V.heap.size≠bm:=Nat.ne_of_gt (Nat.lt_of_lt_of_le (World.block_lt_of_cell? _ _ hM1.1) hV.size)
                have nhQ:V.heap.size≠bq:=Nat.ne_of_gt (Nat.lt_of_lt_of_le (World.block_lt_of_cell? _ _ hQ.1) hV.size)
                have nhU:V.heap.size≠bu:=Nat.ne_of_gt (Nat.lt_of_lt_of_le (World.block_lt_of_cell? _ _ hU.1) hV.size)
                have gn:w.heap.size≤V.heap.size:=Nat.le_trans B.size hV.size
                replace B:=B.trans (hb.mono B.size)
                replace hD:=hD.keep hb;replace hT:=hT.keep hb;replace hO:=hO.keep hb;replace hR:=hR.keep hb;replace hE:=hE.keep hb;replace hH:=hH.keep hb;replace hG:=hG.keep hb;replace hM1:=hM1.keep hb;replace hQ:=hQ.keep hb;replace hU:=hU.keep hb
                clear hb hw hV W
                generalize V.heap.size=bv at *
                clear V
                have gN:=hN.1.all4;have qN:=hN.2.all4
                have mhD:=nhD.symm
                have mhT:=nhT.symm
                have mhO:=nhO.symm
                have mhR:=nhR.symm
                have mhE:=nhE.symm
                have mhH:=nhH.symm
                have mhG:=nhG.symm
                have mhM1:=nhM1.symm
                have mhQ:=nhQ.symm
                have mhU:=nhU.symm
                simp only [List.drop_succ_cons,List.drop_zero,Act.put,List.setIfInBounds_toArray,List.set_cons_zero,List.set_cons_succ]
                go_wp2_with fail
                refine ah (fun W=>Below w.heap.size w W∧Mds W∧Thr W w.heap.size x y z∧Thr W bo x2 y2 z2∧aR W br∧ae W be ey∧ae W bh h∧ae W bg r∧ae W bm m∧ae W bq q∧ae W bu X∧ae W bv Y) ⟨ak B gn _ _ _ _,hD.set4 nhD _ _ _ _,hT.set4 nhT _ _ _ _,hO.set4 nhO _ _ _ _,hR.set4 nhR _ _ _ _,hE.set4 nhE _ _ _ _,hH.set4 nhH _ _ _ _,hG.set4 nhG _ _ _ _,hM1.set4 nhM1 _ _ _ _,hQ.set4 nhQ _ _ _ _,hU.set4 nhU _ _ _ _,ae.sets4 (af.has hN)⟩ ?_
                clear B hN gN qN hD hT hO hR hE hH hG hM1 hQ hU nhD mhD nhT mhT nhO mhO nhR mhR nhE mhE nhH mhH nhG mhG nhM1 mhM1 nhQ mhQ nhU mhU  gn
                rintro W ⟨B,hD,hT,hO,hR,hE,hH,hG,hM1,hQ,hU,hV1⟩
                clear w1
                have ghT:=hT.grown
                have ghO:=hO.grown
                have ghU:=hU.grown
                have ghV1:=hV1.grown
                have ghH:=hH.grown
                have hDg:∀ d os,Mds (grow (redrawn W d) os):=fun d os=>hD.keep (below_regrown W d os)
                refine bj 10 (by kernel_rfl) (by kernel_rfl) ?_
                simp only [List.take_succ_cons,List.take_zero,List.drop_succ_cons,List.drop_zero]
                repeat
                  first
                    | go_big_quiet_skip
                    | (go_big_quiet_want;go_big_quiet_op;go_big_quiet_on)
                    | (go_big_quiet_want
                       go_big_quiet_op
                       apply Exists.intro
                       refine ⟨fun p=>?_,?_⟩
                       · (first|(go_at_call 49;with_reducible exact Calls.regrown_of (A22.out _ (hDg p.d p.os)))|(go_at_call 49;with_reducible exact Calls.regrown_of (A23.out _ (hDg p.d p.os))))
                       go_big_quiet_on)
                refine wpQuiet_nil ?_
                rintro w6 ⟨p,rfl⟩
                have hb:=below_regrown W p.d p.os
                generalize grow (redrawn W p.d) p.os=w6 at *
                replace B:=B.trans (hb.mono B.size)
                replace hD:=hD.keep hb;replace hT:=hT.keep hb;replace hO:=hO.keep hb;replace hR:=hR.keep hb;replace hE:=hE.keep hb;replace hH:=hH.keep hb;replace hG:=hG.keep hb;replace hM1:=hM1.keep hb;replace hQ:=hQ.keep hb;replace hU:=hU.keep hb;replace hV1:=hV1.keep hb
                clear hb W ghT ghO ghU ghV1 ghH hDg
                have gR:=hR.cells;have fR:=hR.free
                go_wp2
                simp [bodyPost,results,Tryz.results42,go_sem,gR]
                repeat (first|with_reducible exact B|with_reducible refine Below.setCell ?_ o3 _)
open Go.RowKit Go.Sort
theorem cell_alloc {w:World} {o:Obj} {p:Addr} {v:Value} (h:w.cell? p=some v):(w.alloc o).cell? p=some v:=cell_keep ((Below.refl _ _).alloc (Nat.le_refl _) o) h
theorem cell_set {w:World} {b i b' i':Nat} {u v:Value} (h:w.cell? ⟨b,i,none⟩=some v) (ne:b'≠b):(w.setCell ⟨b',i',none⟩ u).cell? ⟨b,i,none⟩=some v:=by
 rw [World.cell?_setCell_far _ _ _ _ ne];exact h
open Go.RowKit Go.Sort
theorem jb {x:Int} (hx:aj x) (s:Nat):bits .and .u64 (x/2 ^ s) 15=((x.toNat/2 ^ s%16:Nat):Int):=by
 obtain ⟨n,rfl⟩:=Int.eq_ofNat_of_zero_le hx.1
 have e:((n:Int)/2 ^ s)=((n/2 ^ s:Nat):Int):=by rw [Int.natCast_ediv,Int.natCast_pow];rfl
 have hl:n/2 ^ s<18446744073709551616:=Nat.lt_of_le_of_lt (Nat.div_le_self _ _) (by have:=hx.2;omega)
 rw [e]
 refine (bits_and_u64_nat _ 15 hl (by decide)).trans ?_
 rw [show (15:Nat)=2 ^ 4-1 by decide,Nat.and_two_pow_sub_one_eq_mod]
 rfl
theorem xN {b i:Int} (h0:0≤i) (h1:i<64) (w:World) :
  Rt 43 #[U4 b,.int .i64 i] w (.int .u64 (ge b i.toNat)):=by
 have q:i.tdiv 64=0:=by rw [Int.tdiv_eq_ediv_of_nonneg (by omega)];omega
 obtain ⟨s,hs⟩:∃ s,s=i-0:=⟨_,rfl⟩
 have r:i.tmod 64=s:=by rw [Int.tmod_eq_emod_of_nonneg (by omega)];omega
 have r0:0≤s:=by omega
 have r1:s<64:=by omega
 have hs':i.toNat/64=0∧i.toNat%64=s.toNat:=by omega
 clear hs
 go_enter Tryz.func43,Tryz.ntmps43
 go_wp2
 simp [bodyPost,results,Tryz.results43,go_sem]
 refine ⟨?_,(Below.refl _ _).alloc (Nat.le_refl _) _⟩
 have e:=jb (bW b) s.toNat
 unfold ge
 rw [hs'.1,hs'.2]
 exact e
theorem xO {b i:Int} (h0:64≤i) (h1:i<128) (w:World) :
  Rt 43 #[U4 b,.int .i64 i] w (.int .u64 (ge b i.toNat)):=by
 have q:i.tdiv 64=1:=by rw [Int.tdiv_eq_ediv_of_nonneg (by omega)];omega
 obtain ⟨s,hs⟩:∃ s,s=i-64:=⟨_,rfl⟩
 have r:i.tmod 64=s:=by rw [Int.tmod_eq_emod_of_nonneg (by omega)];omega
 have r0:0≤s:=by omega
 have r1:s<64:=by omega
 have hs':i.toNat/64=1∧i.toNat%64=s.toNat:=by omega
 clear hs
 go_enter Tryz.func43,Tryz.ntmps43
 go_wp2
 simp [bodyPost,results,Tryz.results43,go_sem]
 refine ⟨?_,(Below.refl _ _).alloc (Nat.le_refl _) _⟩
 have e:=jb (bX b) s.toNat
 unfold ge
 rw [hs'.1,hs'.2]
 exact e
theorem xP {b i:Int} (h0:128≤i) (h1:i<192) (w:World) :
  Rt 43 #[U4 b,.int .i64 i] w (.int .u64 (ge b i.toNat)):=by
 have q:i.tdiv 64=2:=by rw [Int.tdiv_eq_ediv_of_nonneg (by omega)];omega
 obtain ⟨s,hs⟩:∃ s,s=i-128:=⟨_,rfl⟩
 have r:i.tmod 64=s:=by rw [Int.tmod_eq_emod_of_nonneg (by omega)];omega
 have r0:0≤s:=by omega
 have r1:s<64:=by omega
 have hs':i.toNat/64=2∧i.toNat%64=s.toNat:=by omega
 clear hs
 go_enter Tryz.func43,Tryz.ntmps43
 go_wp2
 simp [bodyPost,results,Tryz.results43,go_sem]
 refine ⟨?_,(Below.refl _ _).alloc (Nat.le_refl _) _⟩
 have e:=jb (bY b) s.toNat
 unfold ge
 rw [hs'.1,hs'.2]
 exact e
theorem xQ {b i:Int} (h0:192≤i) (h1:i<256) (w:World) :
  Rt 43 #[U4 b,.int .i64 i] w (.int .u64 (ge b i.toNat)):=by
 have q:i.tdiv 64=3:=by rw [Int.tdiv_eq_ediv_of_nonneg (by omega)];omega
 obtain ⟨s,hs⟩:∃ s,s=i-192:=⟨_,rfl⟩
 have r:i.tmod 64=s:=by rw [Int.tmod_eq_emod_of_nonneg (by omega)];omega
 have r0:0≤s:=by omega
 have r1:s<64:=by omega
 have hs':i.toNat/64=3∧i.toNat%64=s.toNat:=by omega
 clear hs
 go_enter Tryz.func43,Tryz.ntmps43
 go_wp2
 simp [bodyPost,results,Tryz.results43,go_sem]
 refine ⟨?_,(Below.refl _ _).alloc (Nat.le_refl _) _⟩
 have e:=jb (cf b) s.toNat
 unfold ge
 rw [hs'.1,hs'.2]
 exact e
theorem mY (b:Int) {i:Int} (h0:0≤i) (h1:i<256) (w:World) :
  Rt 43 #[U4 b,.int .i64 i] w (.int .u64 (ge b i.toNat)):=by
 by_cases k1:i<64
 ·exact xN h0 k1 w
 ·by_cases k2:i<128
  ·exact xO (by omega) k2 w
  ·by_cases k3:i<192
   ·exact xP (by omega) k3 w
   ·exact xQ (by omega) h1 w
theorem gW {x:Int} (hx:aj x) (s:Nat):bits .and .u64 (x/2 ^ s) 1=((x.toNat/2 ^ s%2:Nat):Int):=by
 have:=gc (s:=(s:Int)) hx
 simp only [Int.toNat_natCast] at this
 rw [this]
 obtain ⟨n,rfl⟩:=Int.eq_ofNat_of_zero_le hx.1
 simp
theorem ma (a:Int) {i:Int} (h0:0≤i) (h1:i<64) (w:World) :
  Rt 45 #[U4 a,.int .i64 i] w (.int .u64 (mp a i.toNat)):=by
 have b0:=gW (bW a) i.toNat;have b1:=gW (bX a) i.toNat;have b2:=gW (bY a) i.toNat;have b3:=gW (cf a) i.toNat
 have HB:Hid (mp a i.toNat=(l0 a).toNat/2 ^ i.toNat%2+2*((l1 a).toNat/2 ^ i.toNat%2)+4*((l2 a).toNat/2 ^ i.toNat%2)+8*((l3 a).toNat/2 ^ i.toNat%2)):=rfl
 have c0:=Nat.mod_two_eq_zero_or_one ((l0 a).toNat/2 ^ i.toNat)
 have c1:=Nat.mod_two_eq_zero_or_one ((l1 a).toNat/2 ^ i.toNat)
 have c2:=Nat.mod_two_eq_zero_or_one ((l2 a).toNat/2 ^ i.toNat)
 have c3:=Nat.mod_two_eq_zero_or_one ((l3 a).toNat/2 ^ i.toNat)
 generalize (l0 a).toNat/2 ^ i.toNat%2=e0 at *
 generalize (l1 a).toNat/2 ^ i.toNat%2=e1 at *
 generalize (l2 a).toNat/2 ^ i.toNat%2=e2 at *
 generalize (l3 a).toNat/2 ^ i.toNat%2=e3 at *
 go_enter Tryz.func45,Tryz.ntmps45
 obtain ⟨s0,s1,s2,s3⟩:(∀ w,(Instr.index 24 (U4 a) (.int .i64 0)).run Tryz.prog w = .ok (.int .u64 (l0 a)) w)∧(∀ w,(Instr.index 24 (U4 a) (.int .i64 1)).run Tryz.prog w = .ok (.int .u64 (l1 a)) w)∧(∀ w,(Instr.index 24 (U4 a) (.int .i64 2)).run Tryz.prog w = .ok (.int .u64 (l2 a)) w)∧(∀ w,(Instr.index 24 (U4 a) (.int .i64 3)).run Tryz.prog w = .ok (.int .u64 (l3 a)) w):=⟨fun _=>by kernel_rfl,fun _=>by kernel_rfl,fun _=>by kernel_rfl,fun _=>by kernel_rfl⟩
 rcases c0 with rfl|rfl<;>rcases c1 with rfl|rfl<;>rcases c2 with rfl|rfl<;>rcases c3 with rfl|rfl
 all_goals
  go_wp2
  refine wp_loop_rounds 5 ?_
  rw [rounds_succ];go_wp2
  rw [rounds_succ];go_wp2
  rw [rounds_succ];go_wp2
  rw [rounds_succ];go_wp2
  rw [rounds_succ];go_wp2
  simp [bodyPost,results,Tryz.results45,go_sem,HB.out]
  exact ⟨by decide,(Below.refl _ _).alloc (Nat.le_refl _) _⟩
end Go.Proofs.YtjoandmehahfgaaGreatDoor
