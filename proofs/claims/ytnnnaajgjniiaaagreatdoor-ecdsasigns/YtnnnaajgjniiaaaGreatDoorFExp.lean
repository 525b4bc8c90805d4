import Derived.Test.YtnnnaajgjniiaaaGreatDoorAb
import Derived.Test.YtnnnaajgjniiaaaGreatDoorFReduce
import Derived.Test.YtnnnaajgjniiaaaGreatDoorLen
import Derived.Test.YtnnnaajgjniiaaaGreatDoorFFold
import Derived.Test.YtnnnaajgjniiaaaGreatDoorHold
import Derived.Deep.LoopGhost
set_option maxRecDepth 100000
set_option maxHeartbeats 4000000
namespace Go.Proofs.YtnnnaajgjniiaaaGreatDoor
open Go.RowKit
def aY (m x e:Int):Int:=x ^ e.toNat%m
theorem bY {m c:Int} (hf:Fit m c) (x e:Int):Num (aY m x e):=ae hf _
theorem mT {m c:Int} (hf:Fit m c) (x:Int):aY m x 0=1:=by
 have:=hf.low
 unfold aY;simp;exact Int.emod_eq_of_lt (by decide) (by omega)
theorem lJ (m x:Int) {e:Int} (h:0≤e):ag m (aY m x e*aY m x e)=aY m x (2*e):=by
 unfold ag aY
 rw [←Int.mul_emod,show (2*e).toNat=e.toNat+e.toNat by omega,Int.pow_add]
theorem jJ (m x:Int) {e:Int} (h:0≤e):ag m (aY m x e*x)=aY m x (e+1):=by
 unfold ag aY
 rw [Int.mul_emod,Int.emod_emod_of_dvd _ (Int.dvd_refl m),←Int.mul_emod,show (e+1).toNat=e.toNat+1 by omega,Int.pow_succ]
theorem vy {q c n m:Int} (hf:Fit q c) (hn:Num n) (hm:Num m) (w:World) :
  Rt 132 #[.agg #[.int .u64 (l0 q),.int .u64 (l1 q),.int .u64 (l2 q),.int .u64 (l3 q),.int .u64 (l0 c),.int .u64 (l1 c),.int .u64 (l2 c),.int .u64 (l3 c)],U4 n,U4 m] w (U4 (aY q n m)):=by
 have one:al 1:=⟨by decide,by decide⟩
 go_enter Tryz.func132,Tryz.ntmps132
 go_wp2_with fail
 refine aa (fun W=>Below w.heap.size w W∧aG W w.heap.size q c∧ab W (w.heap.size+1) n∧ab W (w.heap.size+1+1) m∧ac W (w.heap.size+1+1+1)) ⟨?_,?_,?_,?_,?_⟩ ?_
 ·repeat (first|with_reducible exact Below.refl _ _|with_reducible refine Below.alloc ?_ (by first|omega|(simp;done)|(simp;omega)) _)
 ·exact (((aG.new w q c _).alloc _).alloc _).alloc _
 ·exact ((ab.fresh (by simp)).alloc _).alloc _
 ·exact (ab.fresh (by simp)).alloc _
 ·exact ac.new (by simp)
 rintro W ⟨B,hF,hX,hY,hR⟩
 have o1:w.heap.size≤w.heap.size+1+1+1:=by omega
 generalize w.heap.size+1+1+1=br at *
 generalize w.heap.size+1+1=bw at *
 generalize w.heap.size+1=bx at *
 refine (je one W).mono ?_
 rintro e w1 ⟨rfl,hb⟩
 replace B:=B.trans (hb.mono B.size)
 replace hF:=hF.keep hb;replace hX:=hX.keep hb;replace hY:=hY.keep hb;replace hR:=hR.keep hb
 clear hb W
 have gY:=hY.allocs
 go_wp2_with fail
 have c0:w1.heap.size≠w.heap.size:=by have:=hF.lt;omega
 have c1:w1.heap.size≠bx:=by have:=hX.row.lt (by simp);omega
 have c2:w1.heap.size≠bw:=by have:=hY.row.lt (by simp);omega
 have c3:w1.heap.size≠br:=by have:=hR.1.lt (by simp);omega
 have o2:w.heap.size≤w1.heap.size:=B.size
 refine aa (fun W=>Below w.heap.size w W∧aG W w.heap.size q c∧ab W bx n∧ab W bw m∧ac W br∧Var W w1.heap.size 1) ⟨B.alloc B.size _,hF.alloc _,hX.alloc _,hY.alloc _,hR.alloc _,Var.new rfl⟩ ?_
 clear B hF hX hY hR gY
 rintro W ⟨B,hF,hX,hY,hR,hP⟩
 generalize w1.heap.size=bp at *
 refine (xW hm W).mono ?_
 rintro e w2 ⟨rfl,hb⟩
 replace B:=B.trans (hb.mono B.size)
 replace hF:=hF.keep hb;replace hX:=hX.keep hb;replace hY:=hY.keep hb;replace hR:=hR.keep hb;replace hP:=hP.keep hb
 clear hb W
 obtain ⟨j0,ej,hj0,_,ez⟩:=lG hm
 rw [ej]
 have hP0:Var w2 bp (aY q n (m/2 ^ j0)):=by rw [ez,mT hf];exact hP
 clear hP ez ej
 go_wp2_with fail
 go_loopw [8] (fun a wr=>∃ j:Nat,j≤256∧a = .int .i64 ((j:Int)-1)∧Below w.heap.size w wr∧aG wr w.heap.size q c∧ab wr bx n∧ab wr bw m∧ac wr br∧Var wr bp (aY q n (m/2 ^ j))) (fun a _=>(intOf a+1).toNat)
 case atStart=>exact ⟨j0,hj0,by go_num,B,hF,hX,hY,hR,hP0⟩
 case round =>
  clear B hF hX hY hR hP0
  obtain ⟨j,hj,rfl,B,hF,hX,hY,hR,hP⟩:=hrel
  by_cases hz:j=0
  ·subst hz
   rw [show m/2 ^ 0=m by simp] at hP
   have gP:=hP.1.cells;have gR:=hR.1.all4;have fR:=hR.2.all4
   go_wp2
   simp [bodyPost,results,Tryz.results132,go_sem,gR]
   exact ah B o1 _ _ _ _
  ·obtain ⟨i,rfl⟩:∃ i,j=i+1:=⟨j-1,by omega⟩
   have e1:((i+1:Nat):Int)-1=i:=by omega
   have hd:=pd m i
   have eb:=sa m (show i<256 by omega)
   have q0:0≤m/2 ^ (i+1):=Int.ediv_nonneg hm.1 (Int.le_of_lt (Int.pow_pos (by decide)))
   have bt:cG m i=0∨cG m i=1:=by rw [eb];omega
   rw [←eb] at hd
   have HD:Hid (m/2 ^ i=2*(m/2 ^ (i+1))+cG m i):=hd
   have M1:Hid (∀ W,Rt 133 #[.agg #[.int .u64 (l0 q),.int .u64 (l1 q),.int .u64 (l2 q),.int .u64 (l3 q),.int .u64 (l0 c),.int .u64 (l1 c),.int .u64 (l2 c),.int .u64 (l3 c)],.agg #[.int .u64 (l0 (aY q n (m/2 ^ (i+1)))),.int .u64 (l1 (aY q n (m/2 ^ (i+1)))),.int .u64 (l2 (aY q n (m/2 ^ (i+1)))),.int .u64 (l3 (aY q n (m/2 ^ (i+1))))],.agg #[.int .u64 (l0 (aY q n (m/2 ^ (i+1)))),.int .u64 (l1 (aY q n (m/2 ^ (i+1)))),.int .u64 (l2 (aY q n (m/2 ^ (i+1)))),.int .u64 (l3 (aY q n (m/2 ^ (i+1))))]] W (.agg #[.int .u64 (l0 (aY q n (2*(m/2 ^ (i+1))))),.int .u64 (l1 (aY q n (2*(m/2 ^ (i+1))))),.int .u64 (l2 (aY q n (2*(m/2 ^ (i+1))))),.int .u64 (l3 (aY q n (2*(m/2 ^ (i+1)))))])):=fun W=>by
    have:=lE hf (bY hf n (m/2 ^ (i+1))) (bY hf n (m/2 ^ (i+1))) W
    rw [lJ q n q0] at this
    exact this
   have M2:Hid (∀ W,Rt 133 #[.agg #[.int .u64 (l0 q),.int .u64 (l1 q),.int .u64 (l2 q),.int .u64 (l3 q),.int .u64 (l0 c),.int .u64 (l1 c),.int .u64 (l2 c),.int .u64 (l3 c)],.agg #[.int .u64 (l0 (aY q n (2*(m/2 ^ (i+1))))),.int .u64 (l1 (aY q n (2*(m/2 ^ (i+1))))),.int .u64 (l2 (aY q n (2*(m/2 ^ (i+1))))),.int .u64 (l3 (aY q n (2*(m/2 ^ (i+1)))))],U4 n] W (.agg #[.int .u64 (l0 (aY q n (2*(m/2 ^ (i+1))+1))),.int .u64 (l1 (aY q n (2*(m/2 ^ (i+1))+1))),.int .u64 (l2 (aY q n (2*(m/2 ^ (i+1))+1))),.int .u64 (l3 (aY q n (2*(m/2 ^ (i+1))+1)))])):=fun W=>by
    have:=lE hf (bY hf n (2*(m/2 ^ (i+1)))) hn W
    rw [jJ q n (by omega)] at this
    exact this
   have ea:Hid (((i+1:Nat):Int)-1=i):=e1
   rw [e1]
   clear e1 eb hd
   generalize m/2 ^ (i+1)=E at *
   have gP:=hP.1.cells;have gF:=hF.cells
   go_wp2_with fail
   with_reducible refine (M1.out _).mono ?_
   rintro e w3 ⟨rfl,hb⟩
   replace B:=B.trans (hb.mono B.size)
   replace hF:=hF.keep hb;replace hX:=hX.keep hb;replace hY:=hY.keep hb;replace hR:=hR.keep hb;replace hP:=hP.keep hb
   clear hb gP gF
   have gP:=hP.1.cells;have fP:=hP.2.all4;have gY:=hY.cells
   go_wp2_with fail
   refine aa (fun W=>Below w.heap.size w W∧aG W w.heap.size q c∧ab W bx n∧ab W bw m∧ac W br∧Var W bp (aY q n (2*E))) ⟨ah B o2 _ _ _ _,hF.set4 c0 _ _ _ _,hX.set4 c1 _ _ _ _,hY.set4 c2 _ _ _ _,hR.set4 c3 _ _ _ _,hP.sets _⟩ ?_
   clear B hF hX hY hR hP gP fP gY
   rintro W ⟨B,hF,hX,hY,hR,hP⟩
   refine (r9 hm W).mono ?_
   rintro e w4 ⟨rfl,hb⟩
   replace B:=B.trans (hb.mono B.size)
   replace hF:=hF.keep hb;replace hX:=hX.keep hb;replace hY:=hY.keep hb;replace hR:=hR.keep hb;replace hP:=hP.keep hb
   clear hb W
   rcases bt with bt|bt
   ·have hP':Var w4 bp (aY q n (m/2 ^ i)):=by rw [HD.out,bt,Int.add_zero];exact hP
    clear hP HD
    go_wp2
    go_roundw
    case rel=>exact ⟨i,by omega,by go_num,B,hF,hX,hY,hR,hP'⟩
    case measure=>first|(simp [intOf];done)|(simp [intOf];omega)
   ·have gP:=hP.1.cells;have gX:=hX.cells;have gF:=hF.cells
    have ee:Hid (m/2 ^ i=2*E+1):=by have:=HD.out;rw [bt] at this;exact this
    clear HD
    go_wp2_with fail
    with_reducible refine (M2.out _).mono ?_
    rintro e w5 ⟨rfl,hb⟩
    replace B:=B.trans (hb.mono B.size)
    replace hF:=hF.keep hb;replace hX:=hX.keep hb;replace hY:=hY.keep hb;replace hR:=hR.keep hb;replace hP:=hP.keep hb
    clear hb gP gX gF
    have gP:=hP.1.cells;have fP:=hP.2.all4
    go_wp2
    go_roundw
    case rel=>exact ⟨i,by omega,by go_num,ah B o2 _ _ _ _,hF.set4 c0 _ _ _ _,hX.set4 c1 _ _ _ _,hY.set4 c2 _ _ _ _,hR.set4 c3 _ _ _ _,by rw [ee.out];exact hP.sets _⟩
    case measure=>first|(simp [intOf];done)|(simp [intOf];omega)
open Go.RowKit Go.Sort
def Mds (W:World):Prop:=Row W 1 [l0 pN,l1 pN,l2 pN,l3 pN,l0 pC,l1 pC,l2 pC,l3 pC,l0 nN,l1 nN,l2 nN,l3 nN,l0 nC,l1 nC,l2 nC,l3 nC]
theorem Mds.keep {W w1:World} (h:Mds W) (hb:Below W.heap.size W w1):Mds w1:=Row.keep h hb
theorem Mds.alloc {W:World} (h:Mds W) (o:Obj):Mds (W.alloc o):=Row.alloc h o
theorem Mds.set {W:World} {b i:Nat} (h:Mds W) (ne:b≠1) (v:Value):Mds (W.setCell ⟨b,i,none⟩ v):=Row.setOther h ne v
theorem Mds.set4 {W:World} {b:Nat} (h:Mds W) (ne:b≠1) (v0 v1 v2 v3:Value):Mds ((((W.setCell ⟨b,0,none⟩ v0).setCell ⟨b,1,none⟩ v1).setCell ⟨b,2,none⟩ v2).setCell ⟨b,3,none⟩ v3):=(((h.set ne v0).set ne v1).set ne v2).set ne v3
theorem Mds.lt {W:World} (h:Mds W):1<W.heap.size:=Row.lt h (by simp)
theorem Mds.p {W:World} (h:Mds W):aG W 1 pN pC:=fun i hi=>by
 have:=h i (by simp at hi ⊢; omega)
 rw [this]
 simp at hi
 match i,hi with
 | 0,_=>rfl
 | 1,_=>rfl
 | 2,_=>rfl
 | 3,_=>rfl
 | 4,_=>rfl
 | 5,_=>rfl
 | 6,_=>rfl
 | 7,_=>rfl
theorem Mds.n {W:World} (h:Mds W):W.cell? ⟨1,8,none⟩=some (.int .u64 (l0 nN))∧W.cell? ⟨1,9,none⟩=some (.int .u64 (l1 nN))∧W.cell? ⟨1,10,none⟩=some (.int .u64 (l2 nN))∧W.cell? ⟨1,11,none⟩=some (.int .u64 (l3 nN))∧W.cell? ⟨1,12,none⟩=some (.int .u64 (l0 nC))∧W.cell? ⟨1,13,none⟩=some (.int .u64 (l1 nC))∧W.cell? ⟨1,14,none⟩=some (.int .u64 (l2 nC))∧W.cell? ⟨1,15,none⟩=some (.int .u64 (l3 nC)) :=
 ⟨h 8 (by simp),h 9 (by simp),h 10 (by simp),h 11 (by simp),h 12 (by simp),h 13 (by simp),h 14 (by simp),h 15 (by simp)⟩
def kM (k:Int):Int:=if k=0 then pN else if k=1 then nN else 0
def kC (k:Int):Int:=if k=0 then pC else if k=1 then nC else 0
def kE (k:Int):Int:=if k=0 then 0 else if k=1 then 0 else 1
theorem zQ (k:Int) (w:World) (hm:Mds w) :
  Calls Tryz.prog 127 #[.int .i64 k] w fun e w'=>e = .returned (.tuple #[.agg #[.int .u64 (l0 (kM k)),.int .u64 (l1 (kM k)),.int .u64 (l2 (kM k)),.int .u64 (l3 (kM k)),.int .u64 (l0 (kC k)),.int .u64 (l1 (kC k)),.int .u64 (l2 (kC k)),.int .u64 (l3 (kC k))],.int .i64 (kE k)])∧Below w.heap.size w w':=by
 obtain ⟨z0,z1,z2,z3⟩:=aq
 have gP:=fun o=>(hm.alloc o).p.cells
 have gN:=fun o=>(hm.alloc o).n
 have ll:=hm.lt
 by_cases h0:k=0
 ·subst h0
  rw [show kM 0=pN from rfl,show kC 0=pC from rfl,show kE 0=0 from rfl]
  clear z0 z1 z2 z3 gN
  generalize pN=m at *
  generalize pC=c at *
  go_enter Tryz.func127,Tryz.ntmps127
  go_wp2
  simp [bodyPost,results,Tryz.results127,go_sem]
  repeat (first|with_reducible exact Below.refl _ _|with_reducible refine Below.drew ?_|with_reducible refine Below.alloc ?_ (by first|omega|(simp;done)|(simp;omega)) _|with_reducible refine Below.setCell ?_ (by first|omega|(simp;done)) _)
 by_cases h1:k=1
 ·subst h1
  rw [show kM 1=nN from rfl,show kC 1=nC from rfl,show kE 1=0 from rfl]
  clear z0 z1 z2 z3 gP
  generalize nN=m at *
  generalize nC=c at *
  go_enter Tryz.func127,Tryz.ntmps127
  go_wp2
  simp [bodyPost,results,Tryz.results127,go_sem]
  repeat (first|with_reducible exact Below.refl _ _|with_reducible refine Below.drew ?_|with_reducible refine Below.alloc ?_ (by first|omega|(simp;done)|(simp;omega)) _|with_reducible refine Below.setCell ?_ (by first|omega|(simp;done)) _)
 ·rw [show kM k=0 by simp [kM,h0,h1],show kC k=0 by simp [kC,h0,h1],show kE k=1 by simp [kE,h0,h1],z0,z1,z2,z3]
  have t0:(k != 0)=true:=by simp [h0]
  have t1:(k != 1)=true:=by simp [h1]
  clear z0 z1 z2 z3 gP gN
  go_enter Tryz.func127,Tryz.ntmps127
  go_wp2
  simp [bodyPost,results,Tryz.results127,go_sem]
  repeat (first|with_reducible exact Below.refl _ _|with_reducible refine Below.drew ?_|with_reducible refine Below.alloc ?_ (by first|omega|(simp;done)|(simp;omega)) _|with_reducible refine Below.setCell ?_ (by first|omega|(simp;done)) _)
open Go.RowKit
theorem lP {n m:Int} (hn:Num n) (hm:Num m) (w:World) :
  Calls Tryz.prog 174 #[.agg #[.int .u64 (l0 n),.int .u64 (l1 n),.int .u64 (l2 n),.int .u64 (l3 n)],.agg #[.int .u64 (l0 m),.int .u64 (l1 m),.int .u64 (l2 m),.int .u64 (l3 m)]] w fun e w'=>e = .returned (.tuple #[.agg #[.int .u64 (l0 (cE n m)),.int .u64 (l1 (cE n m)),.int .u64 (l2 (cE n m)),.int .u64 (l3 (cE n m))],.int .u64 (bO n m)])∧Below w.heap.size w w':=by
 obtain ⟨a0,a1,a2,a3,a4,a5,a6,a7,gA,eA,DA'⟩:=cH hn
 obtain ⟨b0,b1,b2,b3,b4,b5,b6,b7,gB,eB,DB'⟩:=cH hm
 have DA:Hid _:=DA'
 have DB:Hid _:=DB'
 clear DA' DB'
 go_enter Tryz.func174,Tryz.ntmps174
 go_wp2_with fail
 refine aa (fun W=>Below w.heap.size w W∧ab W (w.heap.size+1) m∧ac W (w.heap.size+1+1)) ⟨?_,?_,?_⟩ ?_
 ·repeat (first|with_reducible exact Below.refl _ _|with_reducible refine Below.alloc ?_ (by first|omega|(simp;done)|(simp;omega)) _)
 ·exact (ab.fresh (by simp)).alloc _
 ·exact ac.new (by simp)
 rintro W ⟨B,hY,hR⟩
 have o1:w.heap.size≤w.heap.size+1+1:=by omega
 generalize w.heap.size+1+1=br at *
 generalize w.heap.size+1=bw at *
 refine (DA.out _).mono ?_
 rintro e w1 ⟨rfl,hb⟩
 replace B:=B.trans (hb.mono B.size)
 replace hY:=hY.keep hb;replace hR:=hR.keep hb
 clear hb W
 have gY:=hY.allocs
 go_wp2_with fail
 have c1:w1.heap.size≠br:=by have:=hR.1.lt (by simp);omega
 have o2:w.heap.size≤w1.heap.size:=B.size
 refine aa (fun W=>Below w.heap.size w W∧ac W br∧Dgs W w1.heap.size [a0,a1,a2,a3,a4,a5,a6,a7]) ⟨B.alloc B.size _,hR.alloc _,Dgs.new w1 [a0,a1,a2,a3,a4,a5,a6,a7] 98⟩ ?_
 clear B hY hR gY
 rintro W ⟨B,hR,hA⟩
 generalize w1.heap.size=ba at *
 refine (DB.out _).mono ?_
 rintro e w2 ⟨rfl,hb⟩
 replace B:=B.trans (hb.mono B.size)
 replace hR:=hR.keep hb;replace hA:=hA.keep (by simp) hb
 clear hb W
 have c2:w2.heap.size≠br:=by have:=hR.1.lt (by simp);omega
 have c3:w2.heap.size≠ba:=by have:=hA.1.lt (by simp);omega
 go_wp2_with fail
 refine af (fun W=>Below w.heap.size w W∧ac W br∧Dgs W ba [a0,a1,a2,a3,a4,a5,a6,a7]∧Dgs W w2.heap.size [b0,b1,b2,b3,b4,b5,b6,b7]) ⟨B.alloc B.size _,hR.alloc _,hA.alloc (by simp) _,Dgs.new w2 [b0,b1,b2,b3,b4,b5,b6,b7] 98⟩ ?_
 clear B hR hA
 rintro W ⟨B,hR,hA,hB⟩
 generalize w2.heap.size=bb at *
 have GB:Hid (cJ [b0,b1,b2,b3,b4,b5,b6,b7]∧vd [b0,b1,b2,b3,b4,b5,b6,b7]=m):=⟨gB,eB⟩
 generalize hBs:[b0,b1,b2,b3,b4,b5,b6,b7]=Bs at *
 have lB:Bs.length=8:=by rw [←hBs];rfl
 clear hBs gB eB DA DB
 have NN:Hid (Num n∧Num m):=⟨hn,hm⟩
 clear hn hm
 go_loopg [8,9] 8 (fun k bv iv wr=>∃ (i:Nat) (L:List Int) (c:Int),k=8-i∧i≤8∧bv = .int .u64 c∧iv = .int .i64 i∧(0≤c∧c≤1)∧L.length=8∧cJ L∧vd L+4294967296 ^ i*c=n+vd (Bs.take i)∧Below w.heap.size w wr∧ac wr br∧Dgs wr ba L∧Dgs wr bb Bs)
 case atStart=>exact ⟨0,_,0,rfl,by decide,rfl,rfl,⟨by decide,by decide⟩,rfl,gA,by simp [vd] at eA ⊢; omega,B,hR,hA,hB⟩
 case round =>
  clear B hR hA hB gA eA
  obtain ⟨i,L,c,hk,hi,rfl,rfl,⟨c0,c1'⟩,hL,gL,inv,B,hR,hA,hB⟩:=hrel
  have IV:Hid (vd L+4294967296 ^ i*c=n+vd (Bs.take i)):=inv
  have GL:Hid (cJ L):=gL
  have HK:Hid (gk=8-i):=hk
  clear inv gL hk
  by_cases h8:i=8
  ·subst h8
   obtain ⟨x0,x1,x2,x3,x4,x5,x6,x7,rfl⟩:=vj hL
   have b8:=jh GL.out
   have tk:Bs.take 8=Bs:=by rw [←lB];exact List.take_length
   have iv:=IV.out
   rw [tk,GB.out.2] at iv
   obtain ⟨ev,ec⟩:=zN b8.1 b8.2 iv
   have NB:Hid (∀ w,Calls Tryz.prog 75 #[.agg #[.int .u64 x0,.int .u64 x1,.int .u64 x2,.int .u64 x3,.int .u64 x4,.int .u64 x5,.int .u64 x6,.int .u64 x7]] w fun e w'=>e = .returned (.agg #[.int .u64 (l0 (cE n m)),.int .u64 (l1 (cE n m)),.int .u64 (l2 (cE n m)),.int .u64 (l3 (cE n m))])∧Below w.heap.size w w'):=fun w=>fy (l:=[x0,x1,x2,x3,x4,x5,x6,x7]) rfl GL.out ev w
   subst ec
   clear b8 tk iv ev IV hB c0 c1'
   have gA:=hA.1.all8
   go_wp2_with fail
   refine (NB.out _).mono ?_
   rintro e w3 ⟨rfl,hb⟩
   replace B:=B.trans (hb.mono B.size)
   replace hR:=hR.keep hb
   clear hb gA hA
   have gR:=hR.1.all4;have fR:=hR.2.all4
   go_wp2
   simp [bodyPost,results,Tryz.results174,go_sem,gR]
   exact ah B o1 _ _ _ _
  ·have hi':(i:Int)<8:=by omega
   have hx:=GL.out.getD i
   have hy:=GB.out.1.getD i
   have gx:=hA.1 i (by omega)
   have gy:=hB.1 i (by omega)
   have fx:=hA.2 i (by omega)
   have st:=ln L i
   have tk:=ji Bs i (by omega)
   have iv:=IV.out
   have S:Hid (∀ v c',v+4294967296*c'=L.getD i 0+Bs.getD i 0+c→vd (L.set i v)+4294967296 ^ (i+1)*c'=n+vd (Bs.take (i+1))):=fun v c' h=>by
    rw [st v (by omega),tk,Int.pow_succ];exact vo h iv
   clear st tk iv IV
   generalize ex:L.getD i 0=x at *
   generalize ey:Bs.getD i 0=y at *
   clear ex ey
   obtain ⟨x0,x1⟩:=hx;obtain ⟨y0,y1⟩:=hy
   go_wp2
   go_region
   go_wp2
   go_roundg (8-(i+1))
   case measure=>have:=HK.out;omega
   case rel =>
    exact ⟨i+1,L.set i ((x+y+c)%4294967296),(x+y+c)/4294967296,rfl,by omega,rfl,by go_num,⟨by omega,by omega⟩,by rw [List.length_set];exact hL,GL.out.set i ⟨by omega,by omega⟩,S.out _ _ (by omega),B.drew.setCell o2 _,hR.drew.set c1 _,hA.drew.set i (by omega) _,hB.drew.other c3.symm _⟩
open Go.RowKit
theorem gE {n m:Int} (hn:Num n) (hm:Num m) (w:World) :
  Calls Tryz.prog 39 #[.agg #[.int .u64 (l0 n),.int .u64 (l1 n),.int .u64 (l2 n),.int .u64 (l3 n)],.agg #[.int .u64 (l0 m),.int .u64 (l1 m),.int .u64 (l2 m),.int .u64 (l3 m)]] w fun e w'=>e = .returned (.tuple #[.agg #[.int .u64 (l0 (ca n m)),.int .u64 (l1 (ca n m)),.int .u64 (l2 (ca n m)),.int .u64 (l3 (ca n m))],.int .u64 (cL n m)])∧Below w.heap.size w w':=by
 obtain ⟨a0,a1,a2,a3,a4,a5,a6,a7,gA,eA,DA'⟩:=cH hn
 obtain ⟨b0,b1,b2,b3,b4,b5,b6,b7,gB,eB,DB'⟩:=cH hm
 have DA:Hid _:=DA'
 have DB:Hid _:=DB'
 clear DA' DB'
 go_enter Tryz.func39,Tryz.ntmps39
 go_wp2_with fail
 refine aa (fun W=>Below w.heap.size w W∧ab W (w.heap.size+1) m∧ac W (w.heap.size+1+1)) ⟨?_,?_,?_⟩ ?_
 ·repeat (first|with_reducible exact Below.refl _ _|with_reducible refine Below.alloc ?_ (by first|omega|(simp;done)|(simp;omega)) _)
 ·exact (ab.fresh (by simp)).alloc _
 ·exact ac.new (by simp)
 rintro W ⟨B,hY,hR⟩
 have o1:w.heap.size≤w.heap.size+1+1:=by omega
 generalize w.heap.size+1+1=br at *
 generalize w.heap.size+1=bw at *
 refine (DA.out _).mono ?_
 rintro e w1 ⟨rfl,hb⟩
 replace B:=B.trans (hb.mono B.size)
 replace hY:=hY.keep hb;replace hR:=hR.keep hb
 clear hb W
 have gY:=hY.allocs
 go_wp2_with fail
 have c1:w1.heap.size≠br:=by have:=hR.1.lt (by simp);omega
 have o2:w.heap.size≤w1.heap.size:=B.size
 refine aa (fun W=>Below w.heap.size w W∧ac W br∧Dgs W w1.heap.size [a0,a1,a2,a3,a4,a5,a6,a7]) ⟨B.alloc B.size _,hR.alloc _,Dgs.new w1 [a0,a1,a2,a3,a4,a5,a6,a7] 98⟩ ?_
 clear B hY hR gY
 rintro W ⟨B,hR,hA⟩
 generalize w1.heap.size=ba at *
 refine (DB.out _).mono ?_
 rintro e w2 ⟨rfl,hb⟩
 replace B:=B.trans (hb.mono B.size)
 replace hR:=hR.keep hb;replace hA:=hA.keep (by simp) hb
 clear hb W
 have c2:w2.heap.size≠br:=by have:=hR.1.lt (by simp);omega
 have c3:w2.heap.size≠ba:=by have:=hA.1.lt (by simp);omega
 go_wp2_with fail
 refine af (fun W=>Below w.heap.size w W∧ac W br∧Dgs W ba [a0,a1,a2,a3,a4,a5,a6,a7]∧Dgs W w2.heap.size [b0,b1,b2,b3,b4,b5,b6,b7]) ⟨B.alloc B.size _,hR.alloc _,hA.alloc (by simp) _,Dgs.new w2 [b0,b1,b2,b3,b4,b5,b6,b7] 98⟩ ?_
 clear B hR hA
 rintro W ⟨B,hR,hA,hB⟩
 generalize w2.heap.size=bb at *
 have GB:Hid (cJ [b0,b1,b2,b3,b4,b5,b6,b7]∧vd [b0,b1,b2,b3,b4,b5,b6,b7]=m):=⟨gB,eB⟩
 generalize hBs:[b0,b1,b2,b3,b4,b5,b6,b7]=Bs at *
 have lB:Bs.length=8:=by rw [←hBs];rfl
 clear hBs gB eB DA DB
 have NN:Hid (Num n∧Num m):=⟨hn,hm⟩
 clear hn hm
 go_loopg [8,9] 8 (fun k bv iv wr=>∃ (i:Nat) (L:List Int) (c:Int),k=8-i∧i≤8∧bv = .int .u64 c∧iv = .int .i64 i∧(0≤c∧c≤1)∧L.length=8∧cJ L∧vd L-4294967296 ^ i*c=n-vd (Bs.take i)∧Below w.heap.size w wr∧ac wr br∧Dgs wr ba L∧Dgs wr bb Bs)
 case atStart=>exact ⟨0,_,0,rfl,by decide,rfl,rfl,⟨by decide,by decide⟩,rfl,gA,by simp [vd] at eA ⊢; omega,B,hR,hA,hB⟩
 case round =>
  clear B hR hA hB gA eA
  obtain ⟨i,L,c,hk,hi,rfl,rfl,⟨c0,c1'⟩,hL,gL,inv,B,hR,hA,hB⟩:=hrel
  have IV:Hid (vd L-4294967296 ^ i*c=n-vd (Bs.take i)):=inv
  have GL:Hid (cJ L):=gL
  have HK:Hid (gk=8-i):=hk
  clear inv gL hk
  by_cases h8:i=8
  ·subst h8
   obtain ⟨x0,x1,x2,x3,x4,x5,x6,x7,rfl⟩:=vj hL
   have b8:=jh GL.out
   have tk:Bs.take 8=Bs:=by rw [←lB];exact List.take_length
   have iv:=IV.out
   rw [tk,GB.out.2] at iv
   obtain ⟨ev,ec⟩:=zM NN.out.1 NN.out.2 b8.1 b8.2 c0 c1' iv
   have NB:Hid (∀ w,Calls Tryz.prog 75 #[.agg #[.int .u64 x0,.int .u64 x1,.int .u64 x2,.int .u64 x3,.int .u64 x4,.int .u64 x5,.int .u64 x6,.int .u64 x7]] w fun e w'=>e = .returned (.agg #[.int .u64 (l0 (ca n m)),.int .u64 (l1 (ca n m)),.int .u64 (l2 (ca n m)),.int .u64 (l3 (ca n m))])∧Below w.heap.size w w'):=fun w=>fy (l:=[x0,x1,x2,x3,x4,x5,x6,x7]) rfl GL.out ev w
   subst ec
   clear b8 tk iv ev IV hB c0 c1'
   have gA:=hA.1.all8
   go_wp2_with fail
   refine (NB.out _).mono ?_
   rintro e w3 ⟨rfl,hb⟩
   replace B:=B.trans (hb.mono B.size)
   replace hR:=hR.keep hb
   clear hb gA hA
   have gR:=hR.1.all4;have fR:=hR.2.all4
   go_wp2
   simp [bodyPost,results,Tryz.results39,go_sem,gR]
   exact ah B o1 _ _ _ _
  ·have hi':(i:Int)<8:=by omega
   have hx:=GL.out.getD i
   have hy:=GB.out.1.getD i
   have gx:=hA.1 i (by omega)
   have gy:=hB.1 i (by omega)
   have fx:=hA.2 i (by omega)
   have st:=ln L i
   have tk:=ji Bs i (by omega)
   have iv:=IV.out
   have S:Hid (∀ v c',v=L.getD i 0-(Bs.getD i 0+c)+4294967296*c'→vd (L.set i v)-4294967296 ^ (i+1)*c'=n-vd (Bs.take (i+1))):=fun v c' h=>by
    rw [st v (by omega),tk,Int.pow_succ];exact vn h iv
   clear st tk iv IV
   generalize ex:L.getD i 0=x at *
   generalize ey:Bs.getD i 0=y at *
   clear ex ey
   obtain ⟨x0,x1⟩:=hx;obtain ⟨y0,y1⟩:=hy
   by_cases lt:x<y+c
   ·go_wp2
    go_roundg (8-(i+1))
    case measure=>have:=HK.out;omega
    case rel =>
     refine ⟨i+1,L.set i (x+4294967296-(y+c)),1,rfl,by omega,rfl,by go_num,⟨by decide,by decide⟩,by rw [List.length_set];exact hL,GL.out.set i ⟨by omega,by omega⟩,S.out _ 1 (by omega),(B.setCell o2 _).setCell o2 _,(hR.set c1 _).set c1 _,?_,(hB.other c3.symm _).other c3.symm _⟩
     have:=(hA.set i (by omega) (x+4294967296)).set i (by rw [List.length_set];omega) (x+4294967296-(y+c))
     rw [List.set_set] at this
     exact this
   ·go_wp2
    go_roundg (8-(i+1))
    case measure=>have:=HK.out;omega
    case rel =>
     exact ⟨i+1,L.set i (x-(y+c)),0,rfl,by omega,rfl,by go_num,⟨by decide,by decide⟩,by rw [List.length_set];exact hL,GL.out.set i ⟨by omega,by omega⟩,S.out _ 0 (by omega),B.setCell o2 _,hR.set c1 _,hA.set i (by omega) _,hB.other c3.symm _⟩
end Go.Proofs.YtnnnaajgjniiaaaGreatDoor
