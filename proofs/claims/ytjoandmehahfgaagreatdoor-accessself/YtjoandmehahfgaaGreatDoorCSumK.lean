import Derived.Test.YtjoandmehahfgaaGreatDoorFFermat
import Derived.Test.YtjoandmehahfgaaGreatDoorFList
import Derived.Test.YtjoandmehahfgaaGreatDoorAb
import Derived.Test.YtjoandmehahfgaaGreatDoorMul2
import Derived.Deep.MidRow
set_option maxRecDepth 100000
set_option maxHeartbeats 8000000
namespace Go.Proofs.YtjoandmehahfgaaGreatDoor
open Go.RowKit Go.Sort
structure PP where
 x:Int
 y:Int
 i:Bool
def PP.pt (q:PP):EC.Pt:=bD q.x q.y q.i
def Pts (W:World) (b o:Nat) (L:List PP):Prop:=∀ i,i<L.length→W.cell? ⟨b,o+i*9,none⟩=some (.int .u64 (l0 (L.getD i ⟨0,0,true⟩).x))∧W.cell? ⟨b,o+i*9+1,none⟩=some (.int .u64 (l1 (L.getD i ⟨0,0,true⟩).x))∧W.cell? ⟨b,o+i*9+2,none⟩=some (.int .u64 (l2 (L.getD i ⟨0,0,true⟩).x))∧W.cell? ⟨b,o+i*9+3,none⟩=some (.int .u64 (l3 (L.getD i ⟨0,0,true⟩).x))∧W.cell? ⟨b,o+i*9+4,none⟩=some (.int .u64 (l0 (L.getD i ⟨0,0,true⟩).y))∧W.cell? ⟨b,o+i*9+5,none⟩=some (.int .u64 (l1 (L.getD i ⟨0,0,true⟩).y))∧W.cell? ⟨b,o+i*9+6,none⟩=some (.int .u64 (l2 (L.getD i ⟨0,0,true⟩).y))∧W.cell? ⟨b,o+i*9+7,none⟩=some (.int .u64 (l3 (L.getD i ⟨0,0,true⟩).y))∧W.cell? ⟨b,o+i*9+8,none⟩=some (.bool (L.getD i ⟨0,0,true⟩).i)
theorem Pts.keep {W w1:World} {b o:Nat} {L:List PP} (h:Pts W b o L) (hb:Below W.heap.size W w1):Pts w1 b o L:=fun i hi=>by
 obtain ⟨a0,a1,a2,a3,a4,a5,a6,a7,a8⟩:=h i hi
 exact ⟨cell_keep hb a0,cell_keep hb a1,cell_keep hb a2,cell_keep hb a3,cell_keep hb a4,cell_keep hb a5,cell_keep hb a6,cell_keep hb a7,cell_keep hb a8⟩
theorem Pts.alloc {W:World} {b o:Nat} {L:List PP} (h:Pts W b o L) (ob:Obj):Pts (W.alloc ob) b o L:=h.keep ((Below.refl _ _).alloc (Nat.le_refl _) ob)
theorem Pts.set {W:World} {b o b' k:Nat} {L:List PP} (h:Pts W b o L) (ne:b'≠b) (v:Value):Pts (W.setCell ⟨b',k,none⟩ v) b o L:=fun i hi=>by
 obtain ⟨a0,a1,a2,a3,a4,a5,a6,a7,a8⟩:=h i hi
 exact ⟨aG a0 ne,aG a1 ne,aG a2 ne,aG a3 ne,aG a4 ne,aG a5 ne,aG a6 ne,aG a7 ne,aG a8 ne⟩
def TV (W:World) (b:Nat) (x y z:Int):Prop:=Thr W b x y z∧ai W b 12
theorem TV.keep {W w1:World} {b:Nat} {x y z:Int} (h:TV W b x y z) (hb:Below W.heap.size W w1):TV w1 b x y z:=⟨h.1.keep hb,h.2.keep hb h.1.lt⟩
theorem TV.free {W:World} {b:Nat} {x y z:Int} (h:TV W b x y z):W.frozen? ⟨b,0,none⟩=false∧W.frozen? ⟨b,1,none⟩=false∧W.frozen? ⟨b,2,none⟩=false∧W.frozen? ⟨b,3,none⟩=false∧W.frozen? ⟨b,4,none⟩=false∧W.frozen? ⟨b,5,none⟩=false∧W.frozen? ⟨b,6,none⟩=false∧W.frozen? ⟨b,7,none⟩=false∧W.frozen? ⟨b,8,none⟩=false∧W.frozen? ⟨b,9,none⟩=false∧W.frozen? ⟨b,10,none⟩=false∧W.frozen? ⟨b,11,none⟩=false:=⟨h.2 0 (by decide),h.2 1 (by decide),h.2 2 (by decide),h.2 3 (by decide),h.2 4 (by decide),h.2 5 (by decide),h.2 6 (by decide),h.2 7 (by decide),h.2 8 (by decide),h.2 9 (by decide),h.2 10 (by decide),h.2 11 (by decide)⟩
def fd (W:World) (b:Nat) (x' y' z':Int):World:=((((((((((((W.setCell ⟨b,0,none⟩ (.int .u64 (l0 x'))).setCell ⟨b,1,none⟩ (.int .u64 (l1 x'))).setCell ⟨b,2,none⟩ (.int .u64 (l2 x'))).setCell ⟨b,3,none⟩ (.int .u64 (l3 x'))).setCell ⟨b,4,none⟩ (.int .u64 (l0 y'))).setCell ⟨b,5,none⟩ (.int .u64 (l1 y'))).setCell ⟨b,6,none⟩ (.int .u64 (l2 y'))).setCell ⟨b,7,none⟩ (.int .u64 (l3 y'))).setCell ⟨b,8,none⟩ (.int .u64 (l0 z'))).setCell ⟨b,9,none⟩ (.int .u64 (l1 z'))).setCell ⟨b,10,none⟩ (.int .u64 (l2 z'))).setCell ⟨b,11,none⟩ (.int .u64 (l3 z')))
theorem TV.put {W:World} {b:Nat} {x y z:Int} (h:TV W b x y z) (x' y' z':Int):TV (fd W b x' y' z') b x' y' z':=by
 have hl:∀ k,k<12→∀ (W':World),ai W' b 12→True:=fun _ _ _ _=>trivial
 clear hl
 refine ⟨?_,?_⟩
 ·obtain ⟨a0,a1,a2,a3,a4,a5,a6,a7,a8,a9,a10,a11⟩:=h.1.cells
  intro k hk
  have hk':k<12:=by simpa using hk
  have hc:k=0∨k=1∨k=2∨k=3∨k=4∨k=5∨k=6∨k=7∨k=8∨k=9∨k=10∨k=11:=by omega
  unfold fd
  rcases hc with rfl|rfl|rfl|rfl|rfl|rfl|rfl|rfl|rfl|rfl|rfl|rfl<;>simp [go_sem,a0,a1,a2,a3,a4,a5,a6,a7,a8,a9,a10,a11]
 ·unfold fd
  exact ((((((((((((h.2.set _ _).set _ _).set _ _).set _ _).set _ _).set _ _).set _ _).set _ _).set _ _).set _ _).set _ _).set _ _)
theorem Cl.put {W:World} {b b':Nat} {l:List Value} (h:Cl W b l) (ne:b'≠b) (x' y' z':Int):Cl (fd W b' x' y' z') b l:=by
 unfold fd
 exact ((((((((((((h.set ne _).set ne _).set ne _).set ne _).set ne _).set ne _).set ne _).set ne _).set ne _).set ne _).set ne _).set ne _)
theorem Mds.put {W:World} {b':Nat} (h:Mds W) (ne:b'≠1) (x' y' z':Int):Mds (fd W b' x' y' z'):=by
 unfold fd
 exact ((((((((((((h.set ne _).set ne _).set ne _).set ne _).set ne _).set ne _).set ne _).set ne _).set ne _).set ne _).set ne _).set ne _)
theorem Pts.put {W:World} {b o b':Nat} {L:List PP} (h:Pts W b o L) (ne:b'≠b) (x' y' z':Int):Pts (fd W b' x' y' z') b o L:=by
 unfold fd
 exact ((((((((((((h.set ne _).set ne _).set ne _).set ne _).set ne _).set ne _).set ne _).set ne _).set ne _).set ne _).set ne _).set ne _)
theorem de {W w:World} {n b:Nat} (h:Below n w W) (hb:n≤b) (x' y' z':Int):Below n w (fd W b x' y' z'):=by
 unfold fd
 exact ((((((((((((h.setCell hb _).setCell hb _).setCell hb _).setCell hb _).setCell hb _).setCell hb _).setCell hb _).setCell hb _).setCell hb _).setCell hb _).setCell hb _).setCell hb _)
open Go.RowKit Go.Sort
theorem aR.tv {W:World} {b:Nat} (h:aR W b):TV W b 0 0 0:=by
 obtain ⟨z0,z1,z2,z3⟩:=ap
 refine ⟨?_,h.2⟩
 unfold Thr
 ((try unfold Rt);(try unfold U4);(try unfold P9);rw [z0,z1,z2,z3])
 exact h.1
open Go.RowKit Go.Sort
theorem uc {x y:Int} {i:Bool} (h:Vd x y i):Hid (∀ w,Mds w→Rt 66 #[P9 x y i] w (.bool true)):=fun w hm=>by
 have:=Aq (i:=i) h.low.1.num h.low.2.num w hm
 rw [decide_eq_true h] at this;exact this
def gX:Int:=55066263022277343669578718895168534326250603453777594175500187360389116729240
def gY:Int:=32670510020758816978083085130507043184471273380659243275938904335757337482424
open Go.RowKit Go.Sort
theorem ud (u:EC.F):EC.fp (u.val:Int)=u:=by
 apply Fin.ext
 rw [EC.fp_val]
 have:=u.isLt
 omega
theorem yo {p:EC.Pt} (h:EC.On p):∃ x y i,Vd x y i∧bD x y i=p:=by
 cases p with
 | o=>exact ⟨0,0,true,⟨rfl,rfl⟩,rfl⟩
 | a u v =>
  have e:bD (u.val:Int) (v.val:Int) false = .a u v:=by
   show EC.Pt.a _ _=_
   rw [ud,ud]
  exact ⟨u.val,v.val,false,⟨EC.fp_low u,EC.fp_low v,by rw [e];exact h⟩,e⟩
open Go.RowKit Go.Sort
def put9 (W:World) (b:Nat) (x y:Int) (i:Bool):World:=(((((((((W.setCell ⟨b,0,none⟩ (.int .u64 (l0 x))).setCell ⟨b,1,none⟩ (.int .u64 (l1 x))).setCell ⟨b,2,none⟩ (.int .u64 (l2 x))).setCell ⟨b,3,none⟩ (.int .u64 (l3 x))).setCell ⟨b,4,none⟩ (.int .u64 (l0 y))).setCell ⟨b,5,none⟩ (.int .u64 (l1 y))).setCell ⟨b,6,none⟩ (.int .u64 (l2 y))).setCell ⟨b,7,none⟩ (.int .u64 (l3 y))).setCell ⟨b,8,none⟩ (.bool i))
theorem Bk9.put9 {W:World} {b:Nat} (h:Bk9 W b) (x y:Int) (i:Bool):Pnt (Go.Proofs.YtjoandmehahfgaaGreatDoor.put9 W b x y i) b x y i:=by
 obtain ⟨a0,a1,a2,a3,a4,a5,a6,a7,a8⟩:=h.cells
 intro k hk
 have hk':k<9:=by simpa using hk
 have hc:k=0∨k=1∨k=2∨k=3∨k=4∨k=5∨k=6∨k=7∨k=8:=by omega
 unfold Go.Proofs.YtjoandmehahfgaaGreatDoor.put9
 rcases hc with rfl|rfl|rfl|rfl|rfl|rfl|rfl|rfl|rfl<;>simp [go_sem,a0,a1,a2,a3,a4,a5,a6,a7,a8]
theorem Pnt.put9 {W:World} {b b':Nat} {x y x' y':Int} {i j:Bool} (h:Pnt W b x y i) (ne:b'≠b):Pnt (Go.Proofs.YtjoandmehahfgaaGreatDoor.put9 W b' x' y' j) b x y i:=by
 unfold Go.Proofs.YtjoandmehahfgaaGreatDoor.put9
 exact Cl.set (Cl.set (Cl.set (Cl.set (Cl.set (Cl.set (Cl.set (Cl.set (Cl.set (h) ne _) ne _) ne _) ne _) ne _) ne _) ne _) ne _) ne _
theorem Mds.put9 {W:World} {b':Nat} {x' y':Int} {j:Bool} (h:Mds W) (ne:b'≠1):Mds (Go.Proofs.YtjoandmehahfgaaGreatDoor.put9 W b' x' y' j):=by
 unfold Go.Proofs.YtjoandmehahfgaaGreatDoor.put9
 exact (((((((((h.set ne _).set ne _).set ne _).set ne _).set ne _).set ne _).set ne _).set ne _).set ne _)
theorem bL {W w:World} {n b:Nat} {x' y':Int} {j:Bool} (h:Below n w W) (hb:n≤b):Below n w (put9 W b x' y' j):=by
 unfold put9
 exact (((((((((h.setCell hb _).setCell hb _).setCell hb _).setCell hb _).setCell hb _).setCell hb _).setCell hb _).setCell hb _).setCell hb _)
open Go.RowKit Go.Sort
structure T3 where
 x:Int
 y:Int
 z:Int
def T3.cs (t:T3):List Value:=[.int .u64 (l0 t.x),.int .u64 (l1 t.x),.int .u64 (l2 t.x),.int .u64 (l3 t.x),.int .u64 (l0 t.y),.int .u64 (l1 t.y),.int .u64 (l2 t.y),.int .u64 (l3 t.y),.int .u64 (l0 t.z),.int .u64 (l1 t.z),.int .u64 (l2 t.z),.int .u64 (l3 t.z)]
def T3.j (t:T3):EC.J:=J3 t.x t.y t.z
def T3.Low (t:T3):Prop:=EC.Low t.x∧EC.Low t.y∧EC.Low t.z
def d8:List T3→List Value
 | []=>[]
 | t :: L=>t.cs++d8 L
theorem T3.len (t:T3):t.cs.length=12:=rfl
theorem iF:∀ L,(d8 L).length=L.length*12
 | []=>rfl
 | t :: L=>by show (t.cs++d8 L).length=(L.length+1)*12;rw [List.length_append,iF L,t.len];omega
theorem nG:∀ (L:List T3) (i j:Nat),j<12→(d8 L)[i*12+j]?=(L[i]?).bind fun t=>t.cs[j]?
 | [],i,j,_=>by simp [d8]
 | t :: L,0,j,h=>by
  show (t.cs++d8 L)[0*12+j]?=_
  rw [List.getElem?_append_left (by rw [t.len];omega)]
  simp
 | t :: L,i+1,j,h=>by
  show (t.cs++d8 L)[(i+1)*12+j]?=_
  rw [List.getElem?_append_right (by rw [t.len];omega),t.len,show (i+1)*12+j-12=i*12+j by omega,nG L i j h]
  simp
theorem nI:∀ (L:List T3),∀ v∈d8 L,v.oneCell'=true
 | [],v,h=>by simp [d8] at h
 | t :: L,v,h=>by
  have h':v∈t.cs++d8 L:=h
  rcases List.mem_append.1 h' with h1|h1
  ·simp [T3.cs] at h1
   rcases h1 with rfl|rfl|rfl|rfl|rfl|rfl|rfl|rfl|rfl|rfl|rfl|rfl<;>rfl
  ·exact nI L v h1
def bH (W:World) (b:Nat) (L:List T3):Prop:=W.rangeAt b 0 (d8 L)
theorem bH.at {W:World} {b:Nat} {L:List T3} (h:bH W b L) {i:Nat} (hi:i<L.length) (j:Nat) (hj:j<12) {v:Value} (e:(L.getD i ⟨0,0,0⟩).cs[j]?=some v):W.cell? ⟨b,i*12+j,none⟩=some v:=by
 have:=h (i*12+j) v (by rw [nG L i j hj,List.getElem?_eq_getElem hi];simpa [List.getD,List.getElem?_eq_getElem hi] using e)
 rwa [Nat.zero_add] at this
theorem bH.lt {W:World} {b:Nat} {L:List T3} (h:bH W b L) (hl:0<L.length):b<W.heap.size:=World.block_lt_of_cell? W ⟨b,0*12+0,none⟩ (h.at hl 0 (by decide) rfl)
theorem bH.keep {W w1:World} {b:Nat} {L:List T3} (h:bH W b L) (hb:Below W.heap.size W w1):bH w1 b L:=fun j v hv=>cell_keep hb (h j v hv)
theorem bH.alloc {W:World} {b:Nat} {L:List T3} (h:bH W b L) (ob:Obj):bH (W.alloc ob) b L:=World.rangeAt_alloc h ob
theorem bH.put {W:World} {b b':Nat} {L:List T3} (h:bH W b L) (ne:b'≠b) (x' y' z':Int):bH (fd W b' x' y' z') b L:=fun j v hv=>by
 unfold fd
 exact aG (aG (aG (aG (aG (aG (aG (aG (aG (aG (aG (aG (h j v hv) ne) ne) ne) ne) ne) ne) ne) ne) ne) ne) ne) ne
theorem bH.cells {W:World} {b:Nat} {L:List T3} (h:bH W b L) {i:Nat} (hi:i<L.length):W.cell? ⟨b,i*12,none⟩=some (.int .u64 (l0 (L.getD i ⟨0,0,0⟩).x))∧W.cell? ⟨b,i*12+1,none⟩=some (.int .u64 (l1 (L.getD i ⟨0,0,0⟩).x))∧W.cell? ⟨b,i*12+2,none⟩=some (.int .u64 (l2 (L.getD i ⟨0,0,0⟩).x))∧W.cell? ⟨b,i*12+3,none⟩=some (.int .u64 (l3 (L.getD i ⟨0,0,0⟩).x))∧W.cell? ⟨b,i*12+4,none⟩=some (.int .u64 (l0 (L.getD i ⟨0,0,0⟩).y))∧W.cell? ⟨b,i*12+5,none⟩=some (.int .u64 (l1 (L.getD i ⟨0,0,0⟩).y))∧W.cell? ⟨b,i*12+6,none⟩=some (.int .u64 (l2 (L.getD i ⟨0,0,0⟩).y))∧W.cell? ⟨b,i*12+7,none⟩=some (.int .u64 (l3 (L.getD i ⟨0,0,0⟩).y))∧W.cell? ⟨b,i*12+8,none⟩=some (.int .u64 (l0 (L.getD i ⟨0,0,0⟩).z))∧W.cell? ⟨b,i*12+9,none⟩=some (.int .u64 (l1 (L.getD i ⟨0,0,0⟩).z))∧W.cell? ⟨b,i*12+10,none⟩=some (.int .u64 (l2 (L.getD i ⟨0,0,0⟩).z))∧W.cell? ⟨b,i*12+11,none⟩=some (.int .u64 (l3 (L.getD i ⟨0,0,0⟩).z)) :=
 ⟨h.at hi 0 (by decide) rfl,h.at hi 1 (by decide) rfl,h.at hi 2 (by decide) rfl,h.at hi 3 (by decide) rfl,h.at hi 4 (by decide) rfl,h.at hi 5 (by decide) rfl,h.at hi 6 (by decide) rfl,h.at hi 7 (by decide) rfl,h.at hi 8 (by decide) rfl,h.at hi 9 (by decide) rfl,h.at hi 10 (by decide) rfl,h.at hi 11 (by decide) rfl⟩
theorem bH.grown {W:World} {b:Nat} {L:List T3} (h:bH W b L) {i:Nat} (hi:i<L.length):∀ d os,(grow (redrawn W d) os).cell? ⟨b,i*12,none⟩=some (.int .u64 (l0 (L.getD i ⟨0,0,0⟩).x))∧(grow (redrawn W d) os).cell? ⟨b,i*12+1,none⟩=some (.int .u64 (l1 (L.getD i ⟨0,0,0⟩).x))∧(grow (redrawn W d) os).cell? ⟨b,i*12+2,none⟩=some (.int .u64 (l2 (L.getD i ⟨0,0,0⟩).x))∧(grow (redrawn W d) os).cell? ⟨b,i*12+3,none⟩=some (.int .u64 (l3 (L.getD i ⟨0,0,0⟩).x))∧(grow (redrawn W d) os).cell? ⟨b,i*12+4,none⟩=some (.int .u64 (l0 (L.getD i ⟨0,0,0⟩).y))∧(grow (redrawn W d) os).cell? ⟨b,i*12+5,none⟩=some (.int .u64 (l1 (L.getD i ⟨0,0,0⟩).y))∧(grow (redrawn W d) os).cell? ⟨b,i*12+6,none⟩=some (.int .u64 (l2 (L.getD i ⟨0,0,0⟩).y))∧(grow (redrawn W d) os).cell? ⟨b,i*12+7,none⟩=some (.int .u64 (l3 (L.getD i ⟨0,0,0⟩).y))∧(grow (redrawn W d) os).cell? ⟨b,i*12+8,none⟩=some (.int .u64 (l0 (L.getD i ⟨0,0,0⟩).z))∧(grow (redrawn W d) os).cell? ⟨b,i*12+9,none⟩=some (.int .u64 (l1 (L.getD i ⟨0,0,0⟩).z))∧(grow (redrawn W d) os).cell? ⟨b,i*12+10,none⟩=some (.int .u64 (l2 (L.getD i ⟨0,0,0⟩).z))∧(grow (redrawn W d) os).cell? ⟨b,i*12+11,none⟩=some (.int .u64 (l3 (L.getD i ⟨0,0,0⟩).z)) :=
 fun d os=>(h.keep (below_regrown W d os)).cells hi
theorem bH.sets {W:World} {b:Nat} {L:List T3} (h:bH W b L) {i:Nat} (hi:i<L.length) (t:T3):bH (W.setCells b (i*12) t.cs) b (L.set i t):=by
 intro k v hk
 rw [Nat.zero_add]
 have e:k=k/12*12+k%12:=by omega
 have hj:k%12<12:=Nat.mod_lt _ (by decide)
 generalize k/12=q at e
 generalize k%12=j at e hj
 subst e
 rw [nG _ q j hj] at hk
 have some_:∀ n,n<t.cs.length→(W.cell? ⟨b,i*12+n,none⟩).isSome=true:=fun n hn=>by
  have hn':n<12:=hn
  rw [h.at hi n hn' (List.getElem?_eq_getElem (by rw [T3.len];exact hn'))];rfl
 by_cases hq:q=i
 ·subst hq
  rw [List.getElem?_set_self hi] at hk
  have hk':t.cs[j]?=some v:=hk
  rw [World.cell?_setCells_in b t.cs _ W some_ j (by rw [T3.len];exact hj),←hk',List.getElem?_eq_getElem]
 ·rw [List.getElem?_set_ne (Ne.symm hq)] at hk
  have hql:q<L.length:=by
   rcases Nat.lt_or_ge q L.length with h1|h1
   ·exact h1
   ·rw [List.getElem?_eq_none h1] at hk;cases hk
  rw [World.cell?_setCells_out b t.cs _ W _ (fun _ _=>by show q*12+j<i*12∨i*12+t.cs.length≤q*12+j;rw [T3.len];omega)]
  refine h.at hql j hj ?_
  rw [List.getElem?_eq_getElem hql] at hk
  simpa [List.getD,List.getElem?_eq_getElem hql] using hk
theorem Cl.cells_put {W:World} {b b':Nat} {l:List Value} (h:Cl W b l) (ne:b'≠b):∀ (vs:List Value) (o:Nat),Cl (W.setCells b' o vs) b l:=fun vs o k hk=>by
 rw [World.cell?_setCells_out b' vs o W _ (fun e _=>absurd e.symm ne)];exact h k hk
theorem ai.cells_put {W:World} {b b' n:Nat} (h:ai W b n) (vs:List Value) (o:Nat):ai (W.setCells b' o vs) b n:=fun k hk=>by
 rw [World.frozen?_setCells];exact h k hk
theorem Mds.cells_put {W:World} {b':Nat} (h:Mds W) (ne:b'≠1) (vs:List Value) (o:Nat):Mds (W.setCells b' o vs):=by
 induction vs generalizing W o with
 | nil=>exact h
 | cons v r ih=>exact ih (h.set ne v) (o+1)
theorem dY {W w:World} {n b:Nat} (h:Below n w W) (hb:n≤b):∀ (vs:List Value) (o:Nat),Below n w (W.setCells b o vs):=fun vs=>by
 induction vs generalizing W with
 | nil=>exact fun _=>h
 | cons v r ih=>exact fun o=>ih (h.setCell (p:=⟨b,o,none⟩) hb v) (o+1)
theorem bH.other {W:World} {b b':Nat} {L:List T3} (h:bH W b L) (ne:b'≠b) (vs:List Value) (o:Nat):bH (W.setCells b' o vs) b L:=World.rangeAt_setCells_apart h _ _ _ (.inl (Ne.symm ne))
theorem bH.there {W:World} {b:Nat} {L:List T3} (h:bH W b L) {n:Nat} (hL:ai W b n) (e:L.length*12=n) {o m:Nat} (hm:o+m≤n):W.there b o m:=fun j hj=>by
 refine ⟨?_,hL _ (by omega)⟩
 have hl:=iF L
 have h1:o+j<(d8 L).length:=by omega
 have:=h (o+j) _ (List.getElem?_eq_getElem h1)
 rw [Nat.zero_add] at this
 rw [this];rfl
open Go.RowKit Go.Sort
theorem T3.one (t:T3):∀ v∈t.cs,v.oneCell'=true:=fun v h=>by
 simp only [T3.cs,List.mem_cons,List.not_mem_nil,or_false] at h
 rcases h with rfl|rfl|rfl|rfl|rfl|rfl|rfl|rfl|rfl|rfl|rfl|rfl<;>rfl
theorem gh:EC.Low 0:=⟨by decide,by decide⟩
theorem vM {x y:Int} {i:Bool} (hp:Vd x y i):∃ (a:T3) (f:Nat→T3),(∀ w,Rt 44 #[P9 x y i] w (.agg #[.int .u64 (l0 a.x),.int .u64 (l1 a.x),.int .u64 (l2 a.x),.int .u64 (l3 a.x),.int .u64 (l0 a.y),.int .u64 (l1 a.y),.int .u64 (l2 a.y),.int .u64 (l3 a.y),.int .u64 (l0 a.z),.int .u64 (l1 a.z),.int .u64 (l2 a.z),.int .u64 (l3 a.z)]))∧f 0=⟨0,0,0⟩ ∧
  ∀ k,(f k).Low∧(f k).j.pt=EC.smul k (bD x y i)∧∀ w,Mds w→Rt 42 #[.agg #[.int .u64 (l0 (f k).x),.int .u64 (l1 (f k).x),.int .u64 (l2 (f k).x),.int .u64 (l3 (f k).x),.int .u64 (l0 (f k).y),.int .u64 (l1 (f k).y),.int .u64 (l2 (f k).y),.int .u64 (l3 (f k).y),.int .u64 (l0 (f k).z),.int .u64 (l1 (f k).z),.int .u64 (l2 (f k).z),.int .u64 (l3 (f k).z)],.agg #[.int .u64 (l0 a.x),.int .u64 (l1 a.x),.int .u64 (l2 a.x),.int .u64 (l3 a.x),.int .u64 (l0 a.y),.int .u64 (l1 a.y),.int .u64 (l2 a.y),.int .u64 (l3 a.y),.int .u64 (l0 a.z),.int .u64 (l1 a.z),.int .u64 (l2 a.z),.int .u64 (l3 a.z)]] w (.agg #[.int .u64 (l0 (f (k+1)).x),.int .u64 (l1 (f (k+1)).x),.int .u64 (l2 (f (k+1)).x),.int .u64 (l3 (f (k+1)).x),.int .u64 (l0 (f (k+1)).y),.int .u64 (l1 (f (k+1)).y),.int .u64 (l2 (f (k+1)).y),.int .u64 (l3 (f (k+1)).y),.int .u64 (l0 (f (k+1)).z),.int .u64 (l1 (f (k+1)).z),.int .u64 (l2 (f (k+1)).z),.int .u64 (l3 (f (k+1)).z)]):=by
 obtain ⟨a1,a2,a3,k1,k2,k3,ew,CW⟩:=nu hp
 have step:∀ t:{t:T3 // t.Low},∃ u:{t:T3 // t.Low},u.1.j=EC.ja t.1.j (J3 a1 a2 a3)∧∀ w,Mds w→Rt 42 #[.agg #[.int .u64 (l0 (t.1).x),.int .u64 (l1 (t.1).x),.int .u64 (l2 (t.1).x),.int .u64 (l3 (t.1).x),.int .u64 (l0 (t.1).y),.int .u64 (l1 (t.1).y),.int .u64 (l2 (t.1).y),.int .u64 (l3 (t.1).y),.int .u64 (l0 (t.1).z),.int .u64 (l1 (t.1).z),.int .u64 (l2 (t.1).z),.int .u64 (l3 (t.1).z)],.agg #[.int .u64 (l0 a1),.int .u64 (l1 a1),.int .u64 (l2 a1),.int .u64 (l3 a1),.int .u64 (l0 a2),.int .u64 (l1 a2),.int .u64 (l2 a2),.int .u64 (l3 a2),.int .u64 (l0 a3),.int .u64 (l1 a3),.int .u64 (l2 a3),.int .u64 (l3 a3)]] w (.agg #[.int .u64 (l0 (u.1).x),.int .u64 (l1 (u.1).x),.int .u64 (l2 (u.1).x),.int .u64 (l3 (u.1).x),.int .u64 (l0 (u.1).y),.int .u64 (l1 (u.1).y),.int .u64 (l2 (u.1).y),.int .u64 (l3 (u.1).y),.int .u64 (l0 (u.1).z),.int .u64 (l1 (u.1).z),.int .u64 (l2 (u.1).z),.int .u64 (l3 (u.1).z)]):=by
  intro ⟨t,lt⟩
  obtain ⟨b1,b2,b3,m1,m2,m3,ea,CA⟩:=nq lt.1 lt.2.1 lt.2.2 k1 k2 k3
  exact ⟨⟨⟨b1,b2,b3⟩,m1,m2,m3⟩,ea,CA⟩
 obtain ⟨G,hG⟩:=Classical.skolem.1 step
 let h:Nat→{t:T3 // t.Low}:=fun k=>Nat.rec ⟨⟨0,0,0⟩,gh,gh,gh⟩ (fun _ t=>G t) k
 have on2:EC.On (J3 a1 a2 a3).pt:=by rw [ew];exact hp.on
 have hpt:∀ k,(h k).1.j.pt=EC.smul k (bD x y i):=by
  intro k
  induction k with
  | zero=>exact EC.pt_o EC.fp_zero
  | succ k ih =>
   show (G (h k)).1.j.pt=(EC.smul k (bD x y i)).add (bD x y i)
   rw [(hG (h k)).1,EC.ja_pt (by rw [ih];exact EC.smul_on hp.on k) on2,ih,ew]
 exact ⟨⟨a1,a2,a3⟩,fun k=>(h k).1,CW,rfl,fun k=>⟨(h k).2,hpt k,(hG (h k)).2⟩⟩
def aS (f:Nat→T3) (i:Nat):List T3:=(List.range 16).map fun k=>if k<i then f k else ⟨0,0,0⟩
theorem cE (f:Nat→T3) (i:Nat):(aS f i).length=16:=by simp [aS]
theorem lp (f:Nat→T3) {i k:Nat} (hk:k<i) (h:k<16):(aS f i).getD k ⟨0,0,0⟩=f k:=by
 simp [aS,List.getD,h,hk]
theorem vN (f:Nat→T3) {i:Nat}:(aS f i).set i (f i)=aS f (i+1):=by
 apply List.ext_getElem (by simp [aS])
 intro k h1 h2
 rw [List.getElem_set]
 simp only [aS,List.getElem_map,List.getElem_range]
 by_cases e:i=k
 ·subst e;simp
 ·rw [if_neg e]
  by_cases hk:k<i
  ·rw [if_pos hk,if_pos (by omega)]
  ·rw [if_neg hk,if_neg (by omega)]
theorem vO {f:Nat→T3} (h0:f 0=⟨0,0,0⟩):aS f 1=List.replicate 16 ⟨0,0,0⟩:=by
 apply List.ext_getElem (by simp [aS])
 intro k h1 h2
 simp only [aS,List.getElem_map,List.getElem_range,List.getElem_replicate]
 by_cases hk:k<1
 ·obtain rfl:k=0:=by omega
  rw [if_pos hk,h0]
 ·rw [if_neg hk]
theorem sK:Tryz.zeroCells83.toList=d8 (List.replicate 16 (⟨0,0,0⟩:T3)):=by kernel_rfl
theorem bH.new {W:World} {b:Nat} {t:TypeId} (e:b=W.heap.size):bH (W.alloc (.cells Tryz.zeroCells83 t)) b (List.replicate 16 (⟨0,0,0⟩:T3)):=by
 subst e
 intro j v hv
 rw [←sK,Array.getElem?_toList] at hv
 rw [Nat.zero_add]
 simpa [go_sem] using hv
theorem lq {W:World} {b n:Nat} {cs:Array Value} {t:TypeId} (e:b=W.heap.size):ai (W.alloc (.cells cs t)) b n:=by subst e;exact ai.new _ _ _ _
theorem qX {x y:Int} {i:Bool} {a:T3} {f:Nat→T3} (CW:Hid (∀ w,Rt 44 #[P9 x y i] w (.agg #[.int .u64 (l0 a.x),.int .u64 (l1 a.x),.int .u64 (l2 a.x),.int .u64 (l3 a.x),.int .u64 (l0 a.y),.int .u64 (l1 a.y),.int .u64 (l2 a.y),.int .u64 (l3 a.y),.int .u64 (l0 a.z),.int .u64 (l1 a.z),.int .u64 (l2 a.z),.int .u64 (l3 a.z)]))) (h0:f 0=⟨0,0,0⟩)
    (CA:Hid (∀ k w,Mds w→Rt 42 #[.agg #[.int .u64 (l0 (f k).x),.int .u64 (l1 (f k).x),.int .u64 (l2 (f k).x),.int .u64 (l3 (f k).x),.int .u64 (l0 (f k).y),.int .u64 (l1 (f k).y),.int .u64 (l2 (f k).y),.int .u64 (l3 (f k).y),.int .u64 (l0 (f k).z),.int .u64 (l1 (f k).z),.int .u64 (l2 (f k).z),.int .u64 (l3 (f k).z)],.agg #[.int .u64 (l0 a.x),.int .u64 (l1 a.x),.int .u64 (l2 a.x),.int .u64 (l3 a.x),.int .u64 (l0 a.y),.int .u64 (l1 a.y),.int .u64 (l2 a.y),.int .u64 (l3 a.y),.int .u64 (l0 a.z),.int .u64 (l1 a.z),.int .u64 (l2 a.z),.int .u64 (l3 a.z)]] w (.agg #[.int .u64 (l0 (f (k+1)).x),.int .u64 (l1 (f (k+1)).x),.int .u64 (l2 (f (k+1)).x),.int .u64 (l3 (f (k+1)).x),.int .u64 (l0 (f (k+1)).y),.int .u64 (l1 (f (k+1)).y),.int .u64 (l2 (f (k+1)).y),.int .u64 (l3 (f (k+1)).y),.int .u64 (l0 (f (k+1)).z),.int .u64 (l1 (f (k+1)).z),.int .u64 (l2 (f (k+1)).z),.int .u64 (l3 (f (k+1)).z)]))) (w:World) (hm:Mds w) :
    Rt 40 #[P9 x y i] w (.agg (d8 (aS f 16)).toArray):=by
  go_enter Tryz.func40,Tryz.ntmps40
  go_wp2_with fail
  refine ah (fun W=>Below w.heap.size w W∧Mds W∧Pnt W w.heap.size x y i∧bH W (w.heap.size+1) (List.replicate 16 (⟨0,0,0⟩:T3))∧ai W (w.heap.size+1) 192∧bH W (w.heap.size+1+1) (aS f 1)∧ai W (w.heap.size+1+1) 192)
    ⟨by repeat (first|with_reducible exact Below.refl _ _|with_reducible refine Below.alloc ?_ (by first|omega|(simp;done)|(simp;omega)) _),((hm.alloc _).alloc _).alloc _,((Pnt.new rfl).alloc _).alloc _,(bH.new (by simp)).alloc _,(lq (by simp)).alloc (by simp) _,by rw [vO h0];exact bH.new (by simp),lq (by simp)⟩ ?_
  rintro W ⟨B,hD,hP,hR,lR,hF,lF⟩
  have o1:w.heap.size≤w.heap.size+1:=by omega
  have o2:w.heap.size≤w.heap.size+1+1:=by omega
  have n1:w.heap.size+1+1≠w.heap.size+1:=by omega
  have n2:w.heap.size+1+1≠w.heap.size:=by omega
  have nd:w.heap.size+1+1≠1:=by have:=hm.lt;omega
  clear h0
  generalize w.heap.size+1+1=bf at *
  generalize w.heap.size+1=br at *
  go_loopg [4] 15 (fun k iv wr=>∃ n:Nat,k=16-n∧1≤n∧n≤16∧iv = .int .i64 (n:Int)∧Below w.heap.size w wr∧Mds wr∧Pnt wr w.heap.size x y i∧bH wr br (List.replicate 16 (⟨0,0,0⟩:T3))∧ai wr br 192∧bH wr bf (aS f n)∧ai wr bf 192)
  case atStart=>exact ⟨1,rfl,by decide,by decide,rfl,B,hD,hP,hR,lR,hF,lF⟩
  case round =>
    clear B hD hP hR lR hF lF W
    obtain ⟨n,hk,hn1,hn,rfl,B,hD,hP,hR,lR,hF,lF⟩:=hrel
    have HK:Hid (gk=16-n∧1≤n∧n≤16):=⟨hk,hn1,hn⟩
    by_cases hz:n=16
    · subst hz
      have sz:((d8 (aS f 16)).toArray).size=192:=by simp [iF,cE]
      have tr:wr.there br 0 ((d8 (aS f 16)).toArray).size:=by rw [sz];exact hR.there lR (by simp) (by simp)
      have oc:=all_oneCell_toArray (nI (aS f 16))
      have rb:wr.rangeAt bf 0 (d8 (aS f 16)):=hF
      have HM:Hid ((d8 (aS f 16)).length=192):=by show _=_;simp [iF,cE]
      clear hk hn1 hn hR lR hF lF hP hD
      generalize hM:d8 (aS f 16)=M at *
      go_wp2_with (first|refine wpList_load_mid rfl 83 _ rfl bf 0 rfl M _ rb Tryz.underlying83 rfl (by rw [HM.out];kernel_rfl) ?_|refine wpList_store_mid rfl 83 _ _ rfl br 0 _ rfl rfl tr (by rw [sz];kernel_rfl) oc ?_)
      have ld:=run_loadVar_mid (P:=Tryz.prog) (wr.setCells br 0 M) br 0 83 M _ (World.rangeAt_setCells_same _ _ _ _ (by simpa using tr)) Tryz.underlying83 rfl (by rw [HM.out];kernel_rfl)
      refine bodyPost_ret (v:=.agg M.toArray) ?_ rfl ⟨by rw [←hM],dY B o1 M 0⟩
      simp [results,Tryz.results40,Act.put,asAddr,ld]
    · have hlt:n<16:=by omega
      obtain ⟨m,rfl⟩:∃ m,n=m+1:=⟨n-1,by omega⟩
      have ht:aS f (m+1)=aS f (m+1):=rfl
      have gF:=hF.grown (i:=m) (by rw [cE];omega)
      rw [lp f (by omega) (by omega)] at gF
      have CAH:Hid (∀ w,Mds w→Rt 42 #[.agg #[.int .u64 (l0 (f m).x),.int .u64 (l1 (f m).x),.int .u64 (l2 (f m).x),.int .u64 (l3 (f m).x),.int .u64 (l0 (f m).y),.int .u64 (l1 (f m).y),.int .u64 (l2 (f m).y),.int .u64 (l3 (f m).y),.int .u64 (l0 (f m).z),.int .u64 (l1 (f m).z),.int .u64 (l2 (f m).z),.int .u64 (l3 (f m).z)],.agg #[.int .u64 (l0 a.x),.int .u64 (l1 a.x),.int .u64 (l2 a.x),.int .u64 (l3 a.x),.int .u64 (l0 a.y),.int .u64 (l1 a.y),.int .u64 (l2 a.y),.int .u64 (l3 a.y),.int .u64 (l0 a.z),.int .u64 (l1 a.z),.int .u64 (l2 a.z),.int .u64 (l3 a.z)]] w (.agg #[.int .u64 (l0 (f (m+1)).x),.int .u64 (l1 (f (m+1)).x),.int .u64 (l2 (f (m+1)).x),.int .u64 (l3 (f (m+1)).x),.int .u64 (l0 (f (m+1)).y),.int .u64 (l1 (f (m+1)).y),.int .u64 (l2 (f (m+1)).y),.int .u64 (l3 (f (m+1)).y),.int .u64 (l0 (f (m+1)).z),.int .u64 (l1 (f (m+1)).z),.int .u64 (l2 (f (m+1)).z),.int .u64 (l3 (f (m+1)).z)])):=fun w hm=>CA.out m w hm
      have e1:IntKind.i64.wrap (((m+1:Nat):Int)-1)=(m:Int):=by rw [IntKind.wrap_i64];omega
      have e2:((m:Int)).toNat=m:=by omega
      have e3:(((m+1:Nat):Int)).toNat=m+1:=by omega
      have q1:(0:Int)≤m∧(m:Int)<16:=by omega
      have q2:(0:Int)≤((m+1:Nat):Int)∧((m+1:Nat):Int)<16:=by omega
      have gP:=hP.grown
      have hDg:∀ d os,Mds (grow (redrawn wr d) os):=fun d os=>hD.keep (below_regrown wr d os)
      clear ht hk hn1 hn hz
      go_wp2_with fail
      refine bj 9 (by kernel_rfl) (by kernel_rfl) ?_
      simp only [List.take_succ_cons,List.take_zero,List.drop_succ_cons,List.drop_zero]
      repeat
        first
          | go_big_quiet_skip
          | (go_big_quiet_want;go_big_quiet_op;go_big_quiet_on)
          | (go_big_quiet_want
             go_big_quiet_op
             apply Exists.intro
             refine ⟨fun p=>?_,?_⟩
             · (first|(go_at_call 44;with_reducible exact Calls.regrown_of (CW.out _))|(go_at_call 42;with_reducible exact Calls.regrown_of (CAH.out _ (hDg p.d p.os))))
             go_big_quiet_on)
      refine wpQuiet_nil ?_
      rintro w2 ⟨p,rfl⟩
      have hb:=below_regrown wr p.d p.os
      generalize grow (redrawn wr p.d) p.os=w2 at *
      replace B:=B.trans (hb.mono B.size)
      replace lR:=lR.keep hb (hR.lt (by simp));replace lF:=lF.keep hb (hF.lt (by rw [cE];decide))
      replace hD:=hD.keep hb;replace hP:=hP.keep hb;replace hR:=hR.keep hb;replace hF:=hF.keep hb
      clear hb gF gP hDg wr
      have tr:w2.there bf ((m+1)*12) 12:=hF.there lF (by rw [cE]) (by omega)
      have oc:=all_oneCell_toArray (T3.one (f (m+1)))
      have hF':bH (w2.setCells bf ((m+1)*12) (f (m+1)).cs) bf (aS f (m+1+1)):=by
        rw [←vN]
        exact hF.sets (by rw [cE];omega) _
      have FF:Hid (Below w.heap.size w (w2.setCells bf ((m+1)*12) (f (m+1)).cs)∧Mds (w2.setCells bf ((m+1)*12) (f (m+1)).cs)∧Pnt (w2.setCells bf ((m+1)*12) (f (m+1)).cs) w.heap.size x y i∧bH (w2.setCells bf ((m+1)*12) (f (m+1)).cs) br (List.replicate 16 (⟨0,0,0⟩:T3))∧ai (w2.setCells bf ((m+1)*12) (f (m+1)).cs) br 192∧bH (w2.setCells bf ((m+1)*12) (f (m+1)).cs) bf (aS f (m+1+1))∧ai (w2.setCells bf ((m+1)*12) (f (m+1)).cs) bf 192) :=
        ⟨dY B o2 _ _,hD.cells_put nd _ _,Cl.cells_put hP n2 _ _,hR.other n1 _ _,lR.cells_put _ _,hF',lF.cells_put _ _⟩
      clear B hD hP hR lR hF hF' lF
      refine wpList_store_mid rfl 58 _ _ rfl bf ((m+1)*12) (f (m+1)).cs.toArray rfl rfl tr (by kernel_rfl) oc ?_
      refine aF (fun W=>Below w.heap.size w W∧Mds W∧Pnt W w.heap.size x y i∧bH W br (List.replicate 16 (⟨0,0,0⟩:T3))∧ai W br 192∧bH W bf (aS f (m+1+1))∧ai W bf 192) FF.out ?_
      clear FF tr oc w2
      rintro W ⟨B,hD,hP,hR,lR,hF,lF⟩
      go_wp2_with fail
      go_roundg (16-(m+1+1))
      case measure=>have:=HK.out.1;omega
      case rel=>exact ⟨m+1+1,rfl,by omega,by omega,by go_num,B,hD,hP,hR,lR,hF,lF⟩
end Go.Proofs.YtjoandmehahfgaaGreatDoor
