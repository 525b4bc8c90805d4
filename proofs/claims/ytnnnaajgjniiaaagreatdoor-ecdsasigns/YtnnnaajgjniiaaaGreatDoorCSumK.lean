import Derived.Test.YtnnnaajgjniiaaaGreatDoorCPt
import Derived.Test.YtnnnaajgjniiaaaGreatDoorFList
import Derived.Test.YtnnnaajgjniiaaaGreatDoorHold
import Derived.Test.YtnnnaajgjniiaaaGreatDoorAb
import Derived.Test.YtnnnaajgjniiaaaGreatDoorCFp
set_option maxRecDepth 100000
set_option maxHeartbeats 16000000
namespace Go.Proofs.YtnnnaajgjniiaaaGreatDoor
open Go.RowKit Go.Sort
structure PP where
 x:Int
 y:Int
 i:Bool
def PP.pt (q:PP):EC.Pt:=bI q.x q.y q.i
def Pts (W:World) (b o:Nat) (L:List PP):Prop:=∀ i,i<L.length→W.cell? ⟨b,o+i*9,none⟩=some (.int .u64 (l0 (L.getD i ⟨0,0,true⟩).x))∧W.cell? ⟨b,o+i*9+1,none⟩=some (.int .u64 (l1 (L.getD i ⟨0,0,true⟩).x))∧W.cell? ⟨b,o+i*9+2,none⟩=some (.int .u64 (l2 (L.getD i ⟨0,0,true⟩).x))∧W.cell? ⟨b,o+i*9+3,none⟩=some (.int .u64 (l3 (L.getD i ⟨0,0,true⟩).x))∧W.cell? ⟨b,o+i*9+4,none⟩=some (.int .u64 (l0 (L.getD i ⟨0,0,true⟩).y))∧W.cell? ⟨b,o+i*9+5,none⟩=some (.int .u64 (l1 (L.getD i ⟨0,0,true⟩).y))∧W.cell? ⟨b,o+i*9+6,none⟩=some (.int .u64 (l2 (L.getD i ⟨0,0,true⟩).y))∧W.cell? ⟨b,o+i*9+7,none⟩=some (.int .u64 (l3 (L.getD i ⟨0,0,true⟩).y))∧W.cell? ⟨b,o+i*9+8,none⟩=some (.bool (L.getD i ⟨0,0,true⟩).i)
theorem Pts.keep {W w1:World} {b o:Nat} {L:List PP} (h:Pts W b o L) (hb:Below W.heap.size W w1):Pts w1 b o L:=fun i hi=>by
 obtain ⟨a0,a1,a2,a3,a4,a5,a6,a7,a8⟩:=h i hi
 exact ⟨cell_keep hb a0,cell_keep hb a1,cell_keep hb a2,cell_keep hb a3,cell_keep hb a4,cell_keep hb a5,cell_keep hb a6,cell_keep hb a7,cell_keep hb a8⟩
theorem Pts.alloc {W:World} {b o:Nat} {L:List PP} (h:Pts W b o L) (ob:Obj):Pts (W.alloc ob) b o L:=h.keep ((Below.refl _ _).alloc (Nat.le_refl _) ob)
theorem Pts.set {W:World} {b o b' k:Nat} {L:List PP} (h:Pts W b o L) (ne:b'≠b) (v:Value):Pts (W.setCell ⟨b',k,none⟩ v) b o L:=fun i hi=>by
 obtain ⟨a0,a1,a2,a3,a4,a5,a6,a7,a8⟩:=h i hi
 exact ⟨cell_far a0 ne,cell_far a1 ne,cell_far a2 ne,cell_far a3 ne,cell_far a4 ne,cell_far a5 ne,cell_far a6 ne,cell_far a7 ne,cell_far a8 ne⟩
def TV (W:World) (b:Nat) (x y z:Int):Prop:=Thr W b x y z∧au W b 12
theorem TV.keep {W w1:World} {b:Nat} {x y z:Int} (h:TV W b x y z) (hb:Below W.heap.size W w1):TV w1 b x y z:=⟨h.1.keep hb,h.2.keep hb h.1.lt⟩
theorem TV.free {W:World} {b:Nat} {x y z:Int} (h:TV W b x y z):W.frozen? ⟨b,0,none⟩=false∧W.frozen? ⟨b,1,none⟩=false∧W.frozen? ⟨b,2,none⟩=false∧W.frozen? ⟨b,3,none⟩=false∧W.frozen? ⟨b,4,none⟩=false∧W.frozen? ⟨b,5,none⟩=false∧W.frozen? ⟨b,6,none⟩=false∧W.frozen? ⟨b,7,none⟩=false∧W.frozen? ⟨b,8,none⟩=false∧W.frozen? ⟨b,9,none⟩=false∧W.frozen? ⟨b,10,none⟩=false∧W.frozen? ⟨b,11,none⟩=false:=⟨h.2 0 (by decide),h.2 1 (by decide),h.2 2 (by decide),h.2 3 (by decide),h.2 4 (by decide),h.2 5 (by decide),h.2 6 (by decide),h.2 7 (by decide),h.2 8 (by decide),h.2 9 (by decide),h.2 10 (by decide),h.2 11 (by decide)⟩
def ek (W:World) (b:Nat) (x' y' z':Int):World:=((((((((((((W.setCell ⟨b,0,none⟩ (.int .u64 (l0 x'))).setCell ⟨b,1,none⟩ (.int .u64 (l1 x'))).setCell ⟨b,2,none⟩ (.int .u64 (l2 x'))).setCell ⟨b,3,none⟩ (.int .u64 (l3 x'))).setCell ⟨b,4,none⟩ (.int .u64 (l0 y'))).setCell ⟨b,5,none⟩ (.int .u64 (l1 y'))).setCell ⟨b,6,none⟩ (.int .u64 (l2 y'))).setCell ⟨b,7,none⟩ (.int .u64 (l3 y'))).setCell ⟨b,8,none⟩ (.int .u64 (l0 z'))).setCell ⟨b,9,none⟩ (.int .u64 (l1 z'))).setCell ⟨b,10,none⟩ (.int .u64 (l2 z'))).setCell ⟨b,11,none⟩ (.int .u64 (l3 z')))
theorem TV.put {W:World} {b:Nat} {x y z:Int} (h:TV W b x y z) (x' y' z':Int):TV (ek W b x' y' z') b x' y' z':=by
 have hl:∀ k,k<12→∀ (W':World),au W' b 12→True:=fun _ _ _ _=>trivial
 clear hl
 refine ⟨?_,?_⟩
 ·obtain ⟨a0,a1,a2,a3,a4,a5,a6,a7,a8,a9,a10,a11⟩:=h.1.cells
  intro k hk
  have hk':k<12:=by simpa using hk
  have hc:k=0∨k=1∨k=2∨k=3∨k=4∨k=5∨k=6∨k=7∨k=8∨k=9∨k=10∨k=11:=by omega
  unfold ek
  rcases hc with rfl|rfl|rfl|rfl|rfl|rfl|rfl|rfl|rfl|rfl|rfl|rfl<;>simp [go_sem,a0,a1,a2,a3,a4,a5,a6,a7,a8,a9,a10,a11]
 ·unfold ek
  exact ((((((((((((h.2.set _ _).set _ _).set _ _).set _ _).set _ _).set _ _).set _ _).set _ _).set _ _).set _ _).set _ _).set _ _)
theorem Cl.put {W:World} {b b':Nat} {l:List Value} (h:Cl W b l) (ne:b'≠b) (x' y' z':Int):Cl (ek W b' x' y' z') b l:=by
 unfold ek
 exact ((((((((((((h.set ne _).set ne _).set ne _).set ne _).set ne _).set ne _).set ne _).set ne _).set ne _).set ne _).set ne _).set ne _)
theorem Mds.put {W:World} {b':Nat} (h:Mds W) (ne:b'≠1) (x' y' z':Int):Mds (ek W b' x' y' z'):=by
 unfold ek
 exact ((((((((((((h.set ne _).set ne _).set ne _).set ne _).set ne _).set ne _).set ne _).set ne _).set ne _).set ne _).set ne _).set ne _)
theorem Pts.put {W:World} {b o b':Nat} {L:List PP} (h:Pts W b o L) (ne:b'≠b) (x' y' z':Int):Pts (ek W b' x' y' z') b o L:=by
 unfold ek
 exact ((((((((((((h.set ne _).set ne _).set ne _).set ne _).set ne _).set ne _).set ne _).set ne _).set ne _).set ne _).set ne _).set ne _)
theorem bZ {W w:World} {n b:Nat} (h:Below n w W) (hb:n≤b) (x' y' z':Int):Below n w (ek W b x' y' z'):=by
 unfold ek
 exact ((((((((((((h.setCell hb _).setCell hb _).setCell hb _).setCell hb _).setCell hb _).setCell hb _).setCell hb _).setCell hb _).setCell hb _).setCell hb _).setCell hb _).setCell hb _)
open Go.RowKit Go.Sort
theorem aw.tv {W:World} {b:Nat} (h:aw W b):TV W b 0 0 0:=by
 obtain ⟨z0,z1,z2,z3⟩:=aq
 refine ⟨?_,h.2⟩
 unfold Thr
 ((try unfold Rt);(try unfold U4);(try unfold P9);rw [z0,z1,z2,z3])
 exact h.1
open Go.RowKit Go.Sort
def gX:Int:=55066263022277343669578718895168534326250603453777594175500187360389116729240
def gY:Int:=32670510020758816978083085130507043184471273380659243275938904335757337482424
theorem yw:l0 gX=6481385041966929816∧l1 gX=188021827762530521∧l2 gX=6170039885052185351∧l3 gX=8772561819708210092∧l0 gY=11261198710074299576∧l1 gY=18237243440184513561∧l2 gY=6747795201694173352∧l3 gY=5204712524664259685:=by decide
theorem yx:Vd gX gY false:=⟨⟨by decide,by decide⟩,⟨by decide,by decide⟩,by show EC.fp gY*EC.fp gY=EC.fp gX*EC.fp gX*EC.fp gX+7;decide +kernel⟩
open Go.RowKit Go.Sort
theorem si (u:EC.F):EC.fp (u.val:Int)=u:=by
 apply Fin.ext
 rw [EC.fp_val]
 have:=u.isLt
 omega
theorem Ac {p:EC.Pt} (h:EC.On p):∃ x y i,Vd x y i∧bI x y i=p:=by
 cases p with
 | o=>exact ⟨0,0,true,⟨rfl,rfl⟩,rfl⟩
 | a u v =>
  have e:bI (u.val:Int) (v.val:Int) false = .a u v:=by
   show EC.Pt.a _ _=_
   rw [si,si]
  exact ⟨u.val,v.val,false,⟨EC.fp_low u,EC.fp_low v,by rw [e];exact h⟩,e⟩
open Go.RowKit Go.Sort
def put9 (W:World) (b:Nat) (x y:Int) (i:Bool):World:=(((((((((W.setCell ⟨b,0,none⟩ (.int .u64 (l0 x))).setCell ⟨b,1,none⟩ (.int .u64 (l1 x))).setCell ⟨b,2,none⟩ (.int .u64 (l2 x))).setCell ⟨b,3,none⟩ (.int .u64 (l3 x))).setCell ⟨b,4,none⟩ (.int .u64 (l0 y))).setCell ⟨b,5,none⟩ (.int .u64 (l1 y))).setCell ⟨b,6,none⟩ (.int .u64 (l2 y))).setCell ⟨b,7,none⟩ (.int .u64 (l3 y))).setCell ⟨b,8,none⟩ (.bool i))
theorem Bk9.put9 {W:World} {b:Nat} (h:Bk9 W b) (x y:Int) (i:Bool):Pnt (Go.Proofs.YtnnnaajgjniiaaaGreatDoor.put9 W b x y i) b x y i:=by
 obtain ⟨a0,a1,a2,a3,a4,a5,a6,a7,a8⟩:=h.cells
 intro k hk
 have hk':k<9:=by simpa using hk
 have hc:k=0∨k=1∨k=2∨k=3∨k=4∨k=5∨k=6∨k=7∨k=8:=by omega
 unfold Go.Proofs.YtnnnaajgjniiaaaGreatDoor.put9
 rcases hc with rfl|rfl|rfl|rfl|rfl|rfl|rfl|rfl|rfl<;>simp [go_sem,a0,a1,a2,a3,a4,a5,a6,a7,a8]
theorem Mds.put9 {W:World} {b':Nat} {x' y':Int} {j:Bool} (h:Mds W) (ne:b'≠1):Mds (Go.Proofs.YtnnnaajgjniiaaaGreatDoor.put9 W b' x' y' j):=by
 unfold Go.Proofs.YtnnnaajgjniiaaaGreatDoor.put9
 exact (((((((((h.set ne _).set ne _).set ne _).set ne _).set ne _).set ne _).set ne _).set ne _).set ne _)
theorem fD {W w:World} {n b:Nat} {x' y':Int} {j:Bool} (h:Below n w W) (hb:n≤b):Below n w (put9 W b x' y' j):=by
 unfold put9
 exact (((((((((h.setCell hb _).setCell hb _).setCell hb _).setCell hb _).setCell hb _).setCell hb _).setCell hb _).setCell hb _).setCell hb _)
open Go.RowKit Go.Sort
theorem oN {n x r:Int} (C1:Hid (∀ w,Rt 155 #[.int .u64 n] w (U4 n))) (C2:Hid (∀ w,Rt 147 #[U4 n,U4 x] w (U4 r))) (w:World) :
    Rt 179 #[.int .u64 n,U4 x] w (U4 r):=by
  go_enter Tryz.func179,Tryz.ntmps179
  go_wp2_with fail
  refine af (fun W=>Below w.heap.size w W∧ab W w.heap.size x∧ac W (w.heap.size+1)) ⟨by repeat (first|with_reducible exact Below.refl _ _|with_reducible refine Below.alloc ?_ (by first|omega|(simp;done)|(simp;omega)) _),(ab.new _ _ _).alloc _,ac.new (by simp)⟩ ?_
  rintro W ⟨B,hX,hR⟩
  have o3:w.heap.size≤w.heap.size+1:=by omega
  generalize w.heap.size+1=br at *
  have ghX:=hX.grown
  refine aL 4 (by kernel_rfl) (by kernel_rfl) ?_
  simp only [List.take_succ_cons,List.take_zero,List.drop_succ_cons,List.drop_zero]
  repeat
    first
      | go_big_quiet_skip
      | (go_big_quiet_want;go_big_quiet_op;go_big_quiet_on)
      | (go_big_quiet_want
         go_big_quiet_op
         apply Exists.intro
         refine ⟨fun p=>?_,?_⟩
         · (first|(go_at_call 155;with_reducible exact Calls.regrown_of (C1.out _))|(go_at_call 147;with_reducible exact Calls.regrown_of (C2.out _)))
         go_big_quiet_on)
  refine wpQuiet_nil ?_
  rintro w1 ⟨p,rfl⟩
  have hb:=below_regrown W p.d p.os
  generalize grow (redrawn W p.d) p.os=w1 at *
  replace B:=B.trans (hb.mono B.size)
  replace hX:=hX.keep hb;replace hR:=hR.keep hb
  clear hb W ghX
  clear hX
  have gR:=hR.1.all4;have fR:=hR.2.all4
  go_wp2
  simp [bodyPost,results,Tryz.results179,go_sem, *]
  repeat (first|with_reducible exact B|with_reducible refine Below.setCell ?_ o3 _)
theorem qU {x y:Int} (w:World) :
  Rt 148 #[P9 x y true] w (.agg #[.int .u64 (l0 0),.int .u64 (l1 0),.int .u64 (l2 0),.int .u64 (l3 0),.int .u64 (l0 0),.int .u64 (l1 0),.int .u64 (l2 0),.int .u64 (l3 0),.int .u64 (l0 0),.int .u64 (l1 0),.int .u64 (l2 0),.int .u64 (l3 0)]):=by
 obtain ⟨z0,z1,z2,z3⟩:=aq
 ((try unfold Rt);(try unfold U4);(try unfold P9);rw [z0,z1,z2,z3])
 go_enter Tryz.func148,Tryz.ntmps148
 go_wp2
 simp [bodyPost,results,Tryz.results148,go_sem]
 repeat (first|with_reducible exact Below.refl _ _|with_reducible refine Below.alloc ?_ (by first|omega|(simp;done)|(simp;omega)) _|with_reducible refine Below.setCell ?_ (by first|omega|(simp;done)|(simp;omega)) _)
theorem qV {x y:Int} (C1:Hid (∀ w,Rt 155 #[.int .u64 1] w (.agg #[.int .u64 (l0 1),.int .u64 (l1 1),.int .u64 (l2 1),.int .u64 (l3 1)]))) (w:World) :
    Rt 148 #[P9 x y false] w (.agg #[.int .u64 (l0 x),.int .u64 (l1 x),.int .u64 (l2 x),.int .u64 (l3 x),.int .u64 (l0 y),.int .u64 (l1 y),.int .u64 (l2 y),.int .u64 (l3 y),.int .u64 (l0 1),.int .u64 (l1 1),.int .u64 (l2 1),.int .u64 (l3 1)]):=by
  go_enter Tryz.func148,Tryz.ntmps148
  go_wp2_with fail
  refine af (fun W=>Below w.heap.size w W∧Pnt W w.heap.size x y false∧aw W (w.heap.size+1)) ⟨by repeat (first|with_reducible exact Below.refl _ _|with_reducible refine Below.alloc ?_ (by first|omega|(simp;done)|(simp;omega)) _),(Pnt.new rfl).alloc _,aw.new (by simp)⟩ ?_
  rintro W ⟨B,hP,hR⟩
  have o3:w.heap.size≤w.heap.size+1:=by omega
  generalize w.heap.size+1=br at *
  have ghP:=hP.grown
  refine aL 6 (by kernel_rfl) (by kernel_rfl) ?_
  simp only [List.take_succ_cons,List.take_zero,List.drop_succ_cons,List.drop_zero]
  repeat
    first
      | go_big_quiet_skip
      | (go_big_quiet_want;go_big_quiet_op;go_big_quiet_on)
      | (go_big_quiet_want
         go_big_quiet_op
         apply Exists.intro
         refine ⟨fun p=>?_,?_⟩
         · (first|(go_at_call 155;with_reducible exact Calls.regrown_of (C1.out _)))
         go_big_quiet_on)
  refine wpQuiet_nil ?_
  rintro w1 ⟨p,rfl⟩
  have hb:=below_regrown W p.d p.os
  generalize grow (redrawn W p.d) p.os=w1 at *
  replace B:=B.trans (hb.mono B.size)
  replace hP:=hP.keep hb;replace hR:=hR.keep hb
  clear hb W ghP
  clear hP
  have gR:=hR.cells;have fR:=hR.free
  go_wp2
  simp [bodyPost,results,Tryz.results148,go_sem,gR]
  repeat (first|with_reducible exact B|with_reducible refine Below.setCell ?_ o3 _)
theorem oO {x y z a f s c m h k u q n b1 b2 v e1 r:Int}
    (C1:Hid (∀ w,Rt 147 #[U4 y,U4 y] w (U4 a)))
    (C2:Hid (∀ w,Rt 147 #[U4 x,U4 a] w (U4 f)))
    (C3:Hid (∀ w,Rt 179 #[.int .u64 4,U4 f] w (U4 s)))
    (C4:Hid (∀ w,Rt 147 #[U4 x,U4 x] w (U4 c)))
    (C5:Hid (∀ w,Rt 179 #[.int .u64 3,U4 c] w (U4 m)))
    (C6:Hid (∀ w,Rt 147 #[U4 m,U4 m] w (U4 h)))
    (C7:Hid (∀ w,Rt 179 #[.int .u64 2,U4 s] w (U4 k)))
    (C8:Hid (∀ w,Rt 180 #[U4 h,U4 k] w (U4 u)))
    (C9:Hid (∀ w,Rt 180 #[U4 s,U4 u] w (U4 q)))
    (C10:Hid (∀ w,Rt 147 #[U4 m,U4 q] w (U4 n)))
    (C11:Hid (∀ w,Rt 147 #[U4 a,U4 a] w (U4 b1)))
    (C12:Hid (∀ w,Rt 179 #[.int .u64 8,U4 b1] w (U4 b2)))
    (C13:Hid (∀ w,Rt 180 #[U4 n,U4 b2] w (U4 v)))
    (C14:Hid (∀ w,Rt 147 #[U4 y,U4 z] w (U4 e1)))
    (C15:Hid (∀ w,Rt 179 #[.int .u64 2,U4 e1] w (U4 r)))
    (w:World) :
    Rt 149 #[.agg #[.int .u64 (l0 x),.int .u64 (l1 x),.int .u64 (l2 x),.int .u64 (l3 x),.int .u64 (l0 y),.int .u64 (l1 y),.int .u64 (l2 y),.int .u64 (l3 y),.int .u64 (l0 z),.int .u64 (l1 z),.int .u64 (l2 z),.int .u64 (l3 z)]] w (.agg #[.int .u64 (l0 u),.int .u64 (l1 u),.int .u64 (l2 u),.int .u64 (l3 u),.int .u64 (l0 v),.int .u64 (l1 v),.int .u64 (l2 v),.int .u64 (l3 v),.int .u64 (l0 r),.int .u64 (l1 r),.int .u64 (l2 r),.int .u64 (l3 r)]):=by
  go_enter Tryz.func149,Tryz.ntmps149
  go_wp2_with fail
  refine aa (fun W=>Below w.heap.size w W∧Thr W w.heap.size x y z∧aw W (w.heap.size+1)) ⟨by repeat (first|with_reducible exact Below.refl _ _|with_reducible refine Below.alloc ?_ (by first|omega|(simp;done)|(simp;omega)) _),(Thr.new rfl).alloc _,aw.new (by simp)⟩ ?_
  rintro W ⟨B,hT,hR⟩
  have o3:w.heap.size≤w.heap.size+1:=by omega
  generalize w.heap.size+1=br at *
  with_reducible refine (C1.out _).mono ?_
  rintro e w1 ⟨rfl,hb⟩
  replace B:=B.trans (hb.mono B.size)
  replace hT:=hT.keep hb;replace hR:=hR.keep hb
  clear hb W
  have ghT:=fun o=>(hT.alloc o).cells
  go_wp2_with fail
  refine aa (fun W=>Below w.heap.size w W∧Thr W w.heap.size x y z∧aw W br∧ab W w1.heap.size a) ⟨B.alloc B.size _,hT.alloc _,hR.alloc _,ab.new _ _ _⟩ ?_
  clear B hT hR ghT
  rintro W ⟨B,hT,hR,hA⟩
  generalize w1.heap.size=ba at *
  with_reducible refine (C2.out _).mono ?_
  rintro e w2 ⟨rfl,hb⟩
  replace B:=B.trans (hb.mono B.size)
  replace hT:=hT.keep hb;replace hR:=hR.keep hb;replace hA:=hA.keep hb
  clear hb W
  go_wp2_with fail
  refine aa (fun W=>Below w.heap.size w W∧Thr W w.heap.size x y z∧aw W br∧ab W ba a) ⟨B,hT,hR,hA⟩ ?_
  clear B hT hR hA
  rintro W ⟨B,hT,hR,hA⟩
  with_reducible refine (C3.out _).mono ?_
  rintro e w3 ⟨rfl,hb⟩
  replace B:=B.trans (hb.mono B.size)
  replace hT:=hT.keep hb;replace hR:=hR.keep hb;replace hA:=hA.keep hb
  clear hb W
  have ghT:=fun o=>(hT.alloc o).cells
  go_wp2_with fail
  refine aa (fun W=>Below w.heap.size w W∧Thr W w.heap.size x y z∧aw W br∧ab W ba a∧ab W w3.heap.size s) ⟨B.alloc B.size _,hT.alloc _,hR.alloc _,hA.alloc _,ab.new _ _ _⟩ ?_
  clear B hT hR hA ghT
  rintro W ⟨B,hT,hR,hA,hS⟩
  generalize w3.heap.size=bs at *
  with_reducible refine (C4.out _).mono ?_
  rintro e w4 ⟨rfl,hb⟩
  replace B:=B.trans (hb.mono B.size)
  replace hT:=hT.keep hb;replace hR:=hR.keep hb;replace hA:=hA.keep hb;replace hS:=hS.keep hb
  clear hb W
  go_wp2_with fail
  refine aa (fun W=>Below w.heap.size w W∧Thr W w.heap.size x y z∧aw W br∧ab W ba a∧ab W bs s) ⟨B,hT,hR,hA,hS⟩ ?_
  clear B hT hR hA hS
  rintro W ⟨B,hT,hR,hA,hS⟩
  with_reducible refine (C5.out _).mono ?_
  rintro e w5 ⟨rfl,hb⟩
  replace B:=B.trans (hb.mono B.size)
  replace hT:=hT.keep hb;replace hR:=hR.keep hb;replace hA:=hA.keep hb;replace hS:=hS.keep hb
  clear hb W
  go_wp2_with fail
  refine af (fun W=>Below w.heap.size w W∧Thr W w.heap.size x y z∧aw W br∧ab W ba a∧ab W bs s∧ab W w5.heap.size m) ⟨B.alloc B.size _,hT.alloc _,hR.alloc _,hA.alloc _,hS.alloc _,ab.new _ _ _⟩ ?_
  clear B hT hR hA hS
  rintro W ⟨B,hT,hR,hA,hS,hM⟩
  generalize w5.heap.size=bm at *
  refine aD (A:=?AA1) 6 (by kernel_rfl) (by kernel_rfl) rfl rfl (aB _ _ _) (fun V hV=>?HH1) (fun V w1 hV hw=>?TT1)
  case HH1 =>
    have ghS:=(hS.keep hV).grown
    have ghM:=(hM.keep hV).grown
    unfold Gr
    simp only [List.take_succ_cons,List.take_zero]
    repeat
      first
        | go_big_quiet_skip
        | (go_big_quiet_want;go_big_quiet_op;go_big_quiet_on)
        | (go_big_quiet_want
           go_big_quiet_op
           apply Exists.intro
           refine ⟨fun p=>?_,?_⟩
           · (first|(go_at_call 147;with_reducible exact Calls.regrown_of (C6.out _))|(go_at_call 179;with_reducible exact Calls.regrown_of (C7.out _))|(go_at_call 180;with_reducible exact Calls.regrown_of (C8.out _)))
           go_big_quiet_on)
    refine wpQuiet_nil ?_
    exact rfl
  case TT1 =>
    have hb:=ap hV hw
    have hN:=(ac.new rfl).keep hw
    have nhT:V.heap.size≠w.heap.size:=Nat.ne_of_gt (Nat.lt_of_lt_of_le (hT.lt) hV.size)
    have nhR:V.heap.size≠br:=Nat.ne_of_gt (Nat.lt_of_lt_of_le (hR.lt) hV.size)
    have nhA:V.heap.size≠ba:=Nat.ne_of_gt (Nat.lt_of_lt_of_le (World.block_lt_of_cell? _ _ hA.1) hV.size)
    have nhS:V.heap.size≠bs:=Nat.ne_of_gt (Nat.lt_of_lt_of_le (World.block_lt_of_cell? _ _ hS.1) hV.size)
    have nhM:V.heap.size≠bm:=Nat.ne_of_gt (Nat.lt_of_lt_of_le (World.block_lt_of_cell? _ _ hM.1) hV.size)
    have gn:w.heap.size≤V.heap.size:=Nat.le_trans B.size hV.size
    replace B:=B.trans (hb.mono B.size)
    replace hT:=hT.keep hb;replace hR:=hR.keep hb;replace hA:=hA.keep hb;replace hS:=hS.keep hb;replace hM:=hM.keep hb
    clear hb hw hV W
    generalize V.heap.size=bu at *
    clear V
    have gN:=hN.1.all4;have qN:=hN.2.all4
    have mhT:=nhT.symm
    have mhR:=nhR.symm
    have mhA:=nhA.symm
    have mhS:=nhS.symm
    have mhM:=nhM.symm
    simp only [List.drop_succ_cons,List.drop_zero,Act.put,List.setIfInBounds_toArray,List.set_cons_zero,List.set_cons_succ]
    go_wp2_with fail
    refine af (fun W=>Below w.heap.size w W∧Thr W w.heap.size x y z∧aw W br∧ab W ba a∧ab W bs s∧ab W bm m∧ab W bu u) ⟨ah B gn _ _ _ _,hT.set4 nhT _ _ _ _,hR.set4 nhR _ _ _ _,hA.set4 nhA _ _ _ _,hS.set4 nhS _ _ _ _,hM.set4 nhM _ _ _ _,ab.sets4 (ac.has hN)⟩ ?_
    clear B hN gN qN hT hR hA hS hM nhT mhT nhR mhR nhA mhA nhS mhS nhM mhM  gn
    rintro W ⟨B,hT,hR,hA,hS,hM,hU⟩
    clear w1
    refine aD (A:=?AA2) 10 (by kernel_rfl) (by kernel_rfl) rfl rfl (aB _ _ _) (fun V hV=>?HH2) (fun V w1 hV hw=>?TT2)
    case HH2 =>
      have ghA:=(hA.keep hV).grown
      have ghS:=(hS.keep hV).grown
      have ghM:=(hM.keep hV).grown
      have ghU:=(hU.keep hV).grown
      unfold Gr
      simp only [List.take_succ_cons,List.take_zero]
      repeat
        first
          | go_big_quiet_skip
          | (go_big_quiet_want;go_big_quiet_op;go_big_quiet_on)
          | (go_big_quiet_want
             go_big_quiet_op
             apply Exists.intro
             refine ⟨fun p=>?_,?_⟩
             · (first|(go_at_call 180;with_reducible exact Calls.regrown_of (C9.out _))|(go_at_call 147;with_reducible exact Calls.regrown_of (C10.out _))|(go_at_call 147;with_reducible exact Calls.regrown_of (C11.out _))|(go_at_call 179;with_reducible exact Calls.regrown_of (C12.out _))|(go_at_call 180;with_reducible exact Calls.regrown_of (C13.out _)))
             go_big_quiet_on)
      refine wpQuiet_nil ?_
      exact rfl
    case TT2 =>
      have hb:=ap hV hw
      have hN:=(ac.new rfl).keep hw
      have nhT:V.heap.size≠w.heap.size:=Nat.ne_of_gt (Nat.lt_of_lt_of_le (hT.lt) hV.size)
      have nhR:V.heap.size≠br:=Nat.ne_of_gt (Nat.lt_of_lt_of_le (hR.lt) hV.size)
      have nhA:V.heap.size≠ba:=Nat.ne_of_gt (Nat.lt_of_lt_of_le (World.block_lt_of_cell? _ _ hA.1) hV.size)
      have nhS:V.heap.size≠bs:=Nat.ne_of_gt (Nat.lt_of_lt_of_le (World.block_lt_of_cell? _ _ hS.1) hV.size)
      have nhM:V.heap.size≠bm:=Nat.ne_of_gt (Nat.lt_of_lt_of_le (World.block_lt_of_cell? _ _ hM.1) hV.size)
      have nhU:V.heap.size≠bu:=Nat.ne_of_gt (Nat.lt_of_lt_of_le (World.block_lt_of_cell? _ _ hU.1) hV.size)
      have gn:w.heap.size≤V.heap.size:=Nat.le_trans B.size hV.size
      replace B:=B.trans (hb.mono B.size)
      replace hT:=hT.keep hb;replace hR:=hR.keep hb;replace hA:=hA.keep hb;replace hS:=hS.keep hb;replace hM:=hM.keep hb;replace hU:=hU.keep hb
      clear hb hw hV W
      generalize V.heap.size=bv at *
      clear V
      have gN:=hN.1.all4;have qN:=hN.2.all4
      have ghT:=hT.cells
      have mhT:=nhT.symm
      have mhR:=nhR.symm
      have mhA:=nhA.symm
      have mhS:=nhS.symm
      have mhM:=nhM.symm
      have mhU:=nhU.symm
      simp only [List.drop_succ_cons,List.drop_zero,Act.put,List.setIfInBounds_toArray,List.set_cons_zero,List.set_cons_succ]
      go_wp2_with fail
      refine aa (fun W=>Below w.heap.size w W∧Thr W w.heap.size x y z∧aw W br∧ab W ba a∧ab W bs s∧ab W bm m∧ab W bu u∧ab W bv v) ⟨ah B gn _ _ _ _,hT.set4 nhT _ _ _ _,hR.set4 nhR _ _ _ _,hA.set4 nhA _ _ _ _,hS.set4 nhS _ _ _ _,hM.set4 nhM _ _ _ _,hU.set4 nhU _ _ _ _,ab.sets4 (ac.has hN)⟩ ?_
      clear B hN gN qN hT hR hA hS hM hU nhT mhT nhR mhR nhA mhA nhS mhS nhM mhM nhU mhU ghT gn
      rintro W ⟨B,hT,hR,hA,hS,hM,hU,hV1⟩
      clear w1
      clear hA hS hM
      with_reducible refine (C14.out _).mono ?_
      rintro e w6 ⟨rfl,hb⟩
      replace B:=B.trans (hb.mono B.size)
      replace hT:=hT.keep hb;replace hR:=hR.keep hb;replace hU:=hU.keep hb;replace hV1:=hV1.keep hb
      clear hb W
      go_wp2_with fail
      refine aa (fun W=>Below w.heap.size w W∧Thr W w.heap.size x y z∧aw W br∧ab W bu u∧ab W bv v) ⟨B,hT,hR,hU,hV1⟩ ?_
      clear B hT hR hU hV1
      rintro W ⟨B,hT,hR,hU,hV1⟩
      with_reducible refine (C15.out _).mono ?_
      rintro e w9 ⟨rfl,hb⟩
      replace B:=B.trans (hb.mono B.size)
      replace hT:=hT.keep hb;replace hR:=hR.keep hb;replace hU:=hU.keep hb;replace hV1:=hV1.keep hb
      clear hb W hT
      have gU:=hU.allocs;have gV:=hV1.allocs
      have nr:w9.heap.size≠br:=by have:=hR.lt;omega
      have nr2:=nr.symm
      have gR:=fun o=>(hR.alloc o).cells;have fR:=fun o=>(hR.alloc o).free
      have nu:w9.heap.size≠bu:=Nat.ne_of_gt (World.block_lt_of_cell? _ _ hU.1)
      have nv:w9.heap.size≠bv:=Nat.ne_of_gt (World.block_lt_of_cell? _ _ hV1.1)
      have nu2:=nu.symm;have nv2:=nv.symm
      have BB:Hid (∀ o,Below w.heap.size w (w9.alloc o)):=fun o=>B.alloc B.size o
      clear B hU hV1 hR
      go_wp2
      simp [bodyPost,results,Tryz.results149,go_sem, *]
      repeat (first|with_reducible exact BB.out _|with_reducible refine Below.setCell ?_ o3 _)
theorem cX {n x:Int} (hn:al n) (hx:Num x) (w:World):Rt 179 #[.int .u64 n,U4 x] w (U4 (ag pN (n*x))) :=
 oN (fun w=>dV hn w) (fun w=>ar ⟨hn.1,by have:=hn.2;omega⟩ hx w) w
end Go.Proofs.YtnnnaajgjniiaaaGreatDoor
