import Derived.Test.YtnnnaajgjniiaaaGreatDoorMul2
import Derived.Test.YtnnnaajgjniiaaaGreatDoorAdd
import Derived.Lib.QuietBelow
import Derived.Deep.RegionHeld
import Derived.Test.YtnnnaajgjniiaaaGreatDoorFNum
import Derived.Test.YtnnnaajgjniiaaaGreatDoorTail
import Derived.LoopN
import Derived.Test.YtnnnaajgjniiaaaGreatDoorAb
import Derived.Test.YtnnnaajgjniiaaaGreatDoorQTail
set_option maxHeartbeats 1000000
namespace Go.Proofs.YtnnnaajgjniiaaaGreatDoor
open Go.RowKit Go.Sort
def ab (W:World) (b:Nat) (n:Int):Prop :=
 W.cell? ⟨b,0,none⟩=some (.int .u64 (l0 n))∧W.cell? ⟨b,1,none⟩=some (.int .u64 (l1 n))∧W.cell? ⟨b,2,none⟩=some (.int .u64 (l2 n))∧W.cell? ⟨b,3,none⟩=some (.int .u64 (l3 n))
theorem cell_keep {W w1:World} {p:Addr} {v:Value} (hb:Below W.heap.size W w1) (h:W.cell? p=some v):w1.cell? p=some v:=by
 rw [hb.cell (World.block_lt_of_cell? W p h)];exact h
theorem ab.keep {W w1:World} {b:Nat} {n:Int} (h:ab W b n) (hb:Below W.heap.size W w1):ab w1 b n :=
 ⟨cell_keep hb h.1,cell_keep hb h.2.1,cell_keep hb h.2.2.1,cell_keep hb h.2.2.2⟩
theorem ab.alloc {W:World} {b:Nat} {n:Int} (h:ab W b n) (o:Obj):ab (W.alloc o) b n :=
 h.keep ((Below.refl _ _).alloc (Nat.le_refl _) o)
theorem ab.drew {W:World} {b:Nat} {n:Int} (h:ab W b n):ab W.drew b n:=h
theorem ab.new (W:World) (n:Int) (t:TypeId):ab (W.alloc (.cells #[.int .u64 (l0 n),.int .u64 (l1 n),.int .u64 (l2 n),.int .u64 (l3 n)] t)) W.heap.size n:=by
 refine ⟨?_,?_,?_,?_⟩<;>simp [go_sem]
theorem ab.grown {W:World} {b:Nat} {n:Int} (h:ab W b n):∀ d os,(grow (redrawn W d) os).cell? ⟨b,0,none⟩=some (.int .u64 (l0 n))∧(grow (redrawn W d) os).cell? ⟨b,1,none⟩=some (.int .u64 (l1 n))∧(grow (redrawn W d) os).cell? ⟨b,2,none⟩=some (.int .u64 (l2 n))∧(grow (redrawn W d) os).cell? ⟨b,3,none⟩=some (.int .u64 (l3 n)) :=
 fun d os=>⟨cell_regrown h.1 d os,cell_regrown h.2.1 d os,cell_regrown h.2.2.1 d os,cell_regrown h.2.2.2 d os⟩
theorem ab.allocs {W:World} {b:Nat} {n:Int} (h:ab W b n):∀ o,(W.alloc o).cell? ⟨b,0,none⟩=some (.int .u64 (l0 n))∧(W.alloc o).cell? ⟨b,1,none⟩=some (.int .u64 (l1 n))∧(W.alloc o).cell? ⟨b,2,none⟩=some (.int .u64 (l2 n))∧(W.alloc o).cell? ⟨b,3,none⟩=some (.int .u64 (l3 n)) :=
 fun o=>h.alloc o
theorem ab.allocs2 {W:World} {b:Nat} {n:Int} (h:ab W b n):∀ o o',((W.alloc o).alloc o').cell? ⟨b,0,none⟩=some (.int .u64 (l0 n))∧((W.alloc o).alloc o').cell? ⟨b,1,none⟩=some (.int .u64 (l1 n))∧((W.alloc o).alloc o').cell? ⟨b,2,none⟩=some (.int .u64 (l2 n))∧((W.alloc o).alloc o').cell? ⟨b,3,none⟩=some (.int .u64 (l3 n)) :=
 fun o o'=>(h.alloc o).alloc o'
theorem ab.cells {W:World} {b:Nat} {n:Int} (h:ab W b n):W.cell? ⟨b,0,none⟩=some (.int .u64 (l0 n))∧W.cell? ⟨b,1,none⟩=some (.int .u64 (l1 n))∧W.cell? ⟨b,2,none⟩=some (.int .u64 (l2 n))∧W.cell? ⟨b,3,none⟩=some (.int .u64 (l3 n)):=h
theorem aa {P:Program} {f:FuncId} {args:Array Value} {w:World} {R:Ending→World→Prop} (S:World→Prop) (h:S w) (k:∀ W,S W→Calls P f args W R):Calls P f args w R:=k w h
theorem af {P:Program} {c:Code} {Q:Exit→Act→World→Prop} {a:Act} {w:World} (S:World→Prop) (h:S w) (k:∀ W,S W→c.wp P Q a W):c.wp P Q a w:=k w h
open Go.RowKit
def Row (W:World) (b:Nat) (l:List Int):Prop:=∀ i,i<l.length→W.cell? ⟨b,i,none⟩=some (.int .u64 (l.getD i 0))
def au (W:World) (b n:Nat):Prop:=∀ i,i<n→W.frozen? ⟨b,i,none⟩=false
theorem Row.lt {W:World} {b:Nat} {l:List Int} (h:Row W b l) (hl:0<l.length):b<W.heap.size:=World.block_lt_of_cell? W ⟨b,0,none⟩ (h 0 hl)
theorem Row.keep {W w1:World} {b:Nat} {l:List Int} (h:Row W b l) (hb:Below W.heap.size W w1):Row w1 b l:=fun i hi=>cell_keep hb (h i hi)
theorem au.keep {W w1:World} {b n:Nat} (h:au W b n) (hb:Below W.heap.size W w1) (hlt:b<W.heap.size):au w1 b n:=fun i hi=>by rw [hb.frozen (p:=⟨b,i,none⟩) hlt];exact h i hi
theorem Row.alloc {W:World} {b:Nat} {l:List Int} (h:Row W b l) (o:Obj):Row (W.alloc o) b l:=h.keep ((Below.refl _ _).alloc (Nat.le_refl _) o)
theorem au.alloc {W:World} {b n:Nat} (h:au W b n) (hlt:b<W.heap.size) (o:Obj):au (W.alloc o) b n:=h.keep ((Below.refl _ _).alloc (Nat.le_refl _) o) hlt
open Go.RowKit
theorem Row.new (W:World) (l:List Int) (t:TypeId):Row (W.alloc (.cells (l.map (Value.int .u64)).toArray t)) W.heap.size l:=by
 intro i hi
 rw [World.cell?_alloc_mark]
 simp [List.getElem?_map,List.getD,List.getElem?_eq_getElem hi]
theorem au.new (W:World) (cs:Array Value) (t:TypeId) (n:Nat):au (W.alloc (.cells cs t)) W.heap.size n:=fun i _=>by simp [go_sem]
theorem Row.set {W:World} {b:Nat} {l:List Int} (h:Row W b l) (i:Nat) (hi:i<l.length) (v:Int):Row (W.setCell ⟨b,i,none⟩ (.int .u64 v)) b (l.set i v):=by
 intro j hj
 simp at hj
 by_cases e:i=j
 ·subst e
  rw [World.cell?_setCell_same _ _ _ (h i hi)]
  simp [List.getD,hi]
 ·have ne:(⟨b,i,none⟩:Addr)≠⟨b,j,none⟩:=by first|(simp;done)|(simp;omega)
  rw [World.cell?_setCell_other _ _ _ _ ne,h j hj]
  simp [List.getD,List.getElem?_set_ne e]
theorem Row.setOther {W:World} {b:Nat} {l:List Int} (h:Row W b l) {p:Addr} (hp:p.block≠b) (v:Value):Row (W.setCell p v) b l:=fun j hj=>by
 rw [World.cell?_setCell_far _ _ _ _ hp];exact h j hj
theorem au.set {W:World} {b n:Nat} (h:au W b n) (p:Addr) (v:Value):au (W.setCell p v) b n:=fun j hj=>by rw [World.frozen?_setCell];exact h j hj
theorem Row.drew {W:World} {b:Nat} {l:List Int} (h:Row W b l):Row W.drew b l:=h
theorem au.drew {W:World} {b n:Nat} (h:au W b n):au W.drew b n:=h
open Go.RowKit
theorem ab.row {W:World} {b:Nat} {n:Int} (h:ab W b n):Row W b [l0 n,l1 n,l2 n,l3 n]:=by
 intro i hi
 simp at hi
 match i,hi with
 | 0,_=>exact h.1
 | 1,_=>exact h.2.1
 | 2,_=>exact h.2.2.1
 | 3,_=>exact h.2.2.2
theorem Row.hold {W:World} {b:Nat} {n:Int} (h:Row W b [l0 n,l1 n,l2 n,l3 n]):ab W b n:=⟨h 0 (by simp),h 1 (by simp),h 2 (by simp),h 3 (by simp)⟩
theorem au.cells4 {W:World} {b:Nat} (h:au W b 4):W.frozen? ⟨b,0,none⟩=false∧W.frozen? ⟨b,1,none⟩=false∧W.frozen? ⟨b,2,none⟩=false∧W.frozen? ⟨b,3,none⟩=false:=⟨h 0 (by decide),h 1 (by decide),h 2 (by decide),h 3 (by decide)⟩
open Go.RowKit Go.Sort
def o7 (F:Act→World→Prop):Exit→Act→World→Prop
 | .normal,a,w=>F a w
 | _,_,_=>False
theorem o7.intro {F:Act→World→Prop} {a:Act} {w:World} (h:F a w):o7 F .normal a w:=h
theorem lg {P:Program} {c:Code} {Q:Exit→Act→World→Prop} {a:Act} {w:World} (F:Act→World→Prop) (h1:c.wp P (o7 F) a w) (h2:∀ a' w',F a' w'→Q .normal a' w'):c.wp P Q a w :=
 Code.wp_mono (fun e a' w' h=>by cases e<;>first|exact h2 _ _ h|exact (h:False).elim) h1
theorem ab.set {W:World} {b b' i:Nat} {n:Int} (h:ab W b n) (ne:b'≠b) (v:Value):ab (W.setCell ⟨b',i,none⟩ v) b n:=by
 refine ⟨?_,?_,?_,?_⟩<;>rw [World.cell?_setCell_far _ _ _ _ ne]
 ·exact h.1
 ·exact h.2.1
 ·exact h.2.2.1
 ·exact h.2.2.2
theorem Row.all4 {W:World} {b:Nat} {x0 x1 x2 x3:Int} (h:Row W b [x0,x1,x2,x3]):W.cell? ⟨b,0,none⟩=some (.int .u64 x0)∧W.cell? ⟨b,1,none⟩=some (.int .u64 x1)∧W.cell? ⟨b,2,none⟩=some (.int .u64 x2)∧W.cell? ⟨b,3,none⟩=some (.int .u64 x3) :=
 ⟨h 0 (by simp),h 1 (by simp),h 2 (by simp),h 3 (by simp)⟩
theorem Row.all8 {W:World} {b:Nat} {x0 x1 x2 x3 x4 x5 x6 x7:Int} (h:Row W b [x0,x1,x2,x3,x4,x5,x6,x7]):W.cell? ⟨b,0,none⟩=some (.int .u64 x0)∧W.cell? ⟨b,1,none⟩=some (.int .u64 x1)∧W.cell? ⟨b,2,none⟩=some (.int .u64 x2)∧W.cell? ⟨b,3,none⟩=some (.int .u64 x3)∧W.cell? ⟨b,4,none⟩=some (.int .u64 x4)∧W.cell? ⟨b,5,none⟩=some (.int .u64 x5)∧W.cell? ⟨b,6,none⟩=some (.int .u64 x6)∧W.cell? ⟨b,7,none⟩=some (.int .u64 x7) :=
 ⟨h 0 (by simp),h 1 (by simp),h 2 (by simp),h 3 (by simp),h 4 (by simp),h 5 (by simp),h 6 (by simp),h 7 (by simp)⟩
theorem au.all4 {W:World} {b:Nat} (h:au W b 4):W.frozen? ⟨b,0,none⟩=false∧W.frozen? ⟨b,1,none⟩=false∧W.frozen? ⟨b,2,none⟩=false∧W.frozen? ⟨b,3,none⟩=false:=⟨h 0 (by simp),h 1 (by simp),h 2 (by simp),h 3 (by simp)⟩
def Has (W:World) (b n:Nat):Prop:=∀ i,i<n→(W.cell? ⟨b,i,none⟩).isSome=true
theorem Has.keep {W w1:World} {b n:Nat} (h:Has W b n) (hb:Below W.heap.size W w1):Has w1 b n:=fun i hi=>by
 obtain ⟨v,hv⟩:=Option.isSome_iff_exists.1 (h i hi)
 rw [cell_keep hb hv];rfl
theorem Has.alloc {W:World} {b n:Nat} (h:Has W b n) (o:Obj):Has (W.alloc o) b n:=h.keep ((Below.refl _ _).alloc (Nat.le_refl _) o)
theorem Has.drew {W:World} {b n:Nat} (h:Has W b n):Has W.drew b n:=h
theorem Has.fresh {W:World} {b n:Nat} {cs:Array Value} {t:TypeId} (hb:b=W.heap.size) (hn:n≤cs.size):Has (W.alloc (.cells cs t)) b n:=fun i hi=>by
 subst hb
 rw [World.cell?_alloc_mark]
 simp
 omega
theorem Has.set {W:World} {b n:Nat} (h:Has W b n) (p:Addr) (v:Value):Has (W.setCell p v) b n:=fun i hi=>by
 obtain ⟨u,hu⟩:=Option.isSome_iff_exists.1 (h i hi)
 by_cases e:p=⟨b,i,none⟩
 ·subst e;rw [World.cell?_setCell_same _ _ _ hu];rfl
 ·rw [World.cell?_setCell_other _ _ _ _ e,hu];rfl
theorem Has.same {W:World} {b n i:Nat} (h:Has W b n) (hi:i<n) (v:Value):(W.setCell ⟨b,i,none⟩ v).cell? ⟨b,i,none⟩=some v:=by
 obtain ⟨u,hu⟩:=Option.isSome_iff_exists.1 (h i hi)
 exact World.cell?_setCell_same _ _ _ hu
theorem uX {W:World} {b i j:Nat} {u v:Value} (h:W.cell? ⟨b,i,none⟩=some v) (ne:j≠i):(W.setCell ⟨b,j,none⟩ u).cell? ⟨b,i,none⟩=some v:=by
 rw [World.cell?_setCell_other _ _ _ _ (by intro e;injection e with _ e2;exact ne e2)];exact h
theorem Row.fresh8 {W:World} {b:Nat} {x0 x1 x2 x3 x4 x5 x6 x7:Int} {t:TypeId} (hb:b=W.heap.size):Row (W.alloc (.cells #[.int .u64 x0,.int .u64 x1,.int .u64 x2,.int .u64 x3,.int .u64 x4,.int .u64 x5,.int .u64 x6,.int .u64 x7] t)) b [x0,x1,x2,x3,x4,x5,x6,x7]:=by
 subst hb
 exact Row.new W [x0,x1,x2,x3,x4,x5,x6,x7] t
theorem ab.fresh {W:World} {b:Nat} {n:Int} {t:TypeId} (hb:b=W.heap.size):ab (W.alloc (.cells #[.int .u64 (l0 n),.int .u64 (l1 n),.int .u64 (l2 n),.int .u64 (l3 n)] t)) b n:=by
 subst hb
 exact ab.new W n t
theorem ab.sets4 {W:World} {b:Nat} {n:Int} (h:Has W b 4):ab ((((W.setCell ⟨b,0,none⟩ (.int .u64 (l0 n))).setCell ⟨b,1,none⟩ (.int .u64 (l1 n))).setCell ⟨b,2,none⟩ (.int .u64 (l2 n))).setCell ⟨b,3,none⟩ (.int .u64 (l3 n))) b n:=by
 refine ⟨?_,?_,?_,?_⟩<;>repeat (first|(with_reducible refine uX ?_ (by decide))|(with_reducible refine Has.same (n:=4) ?_ (by decide) _)|with_reducible exact h|with_reducible refine Has.set ?_ _ _)
theorem ab.has {W:World} {b:Nat} {n:Int} (h:ab W b n):Has W b 4:=by
 obtain ⟨h0,h1,h2,h3⟩:=h
 intro i hi
 match i,hi with
 | 0,_=>rw [h0];rfl
 | 1,_=>rw [h1];rfl
 | 2,_=>rw [h2];rfl
 | 3,_=>rw [h3];rfl
theorem ab.set4 {W:World} {b b':Nat} {n:Int} (h:ab W b n) (ne:b'≠b) (v0 v1 v2 v3:Value):ab ((((W.setCell ⟨b',0,none⟩ v0).setCell ⟨b',1,none⟩ v1).setCell ⟨b',2,none⟩ v2).setCell ⟨b',3,none⟩ v3) b n :=
 (((h.set ne v0).set ne v1).set ne v2).set ne v3
theorem ah {w W:World} {b':Nat} (h:Below w.heap.size w W) (le:w.heap.size≤b') (v0 v1 v2 v3:Value):Below w.heap.size w ((((W.setCell ⟨b',0,none⟩ v0).setCell ⟨b',1,none⟩ v1).setCell ⟨b',2,none⟩ v2).setCell ⟨b',3,none⟩ v3) :=
 (((h.setCell le v0).setCell le v1).setCell le v2).setCell le v3
def ac (W:World) (b:Nat):Prop:=Row W b [0,0,0,0]∧au W b 4
theorem ac.keep {W w1:World} {b:Nat} (h:ac W b) (hb:Below W.heap.size W w1):ac w1 b:=⟨h.1.keep hb,h.2.keep hb (h.1.lt (by simp))⟩
theorem ac.alloc {W:World} {b:Nat} (h:ac W b) (o:Obj):ac (W.alloc o) b:=h.keep ((Below.refl _ _).alloc (Nat.le_refl _) o)
theorem ac.drew {W:World} {b:Nat} (h:ac W b):ac W.drew b:=h
theorem ac.set {W:World} {b b' i:Nat} (h:ac W b) (ne:b'≠b) (v:Value):ac (W.setCell ⟨b',i,none⟩ v) b:=⟨h.1.setOther ne v,h.2.set _ v⟩
theorem eU {k:Nat} {w W:World} (e:w.heap.size=k) (h:Below k w W) (o:Obj):Below k w (W.alloc o):=by subst e;exact h.alloc h.size o
theorem bT {k:Nat} {w X w1:World} (e:w.heap.size=k) (h:Below k w X) (hb:Below X.heap.size X w1):Below k w w1:=by subst e;exact h.trans (hb.mono h.size)
open Go.RowKit
theorem ac.new {W:World} {b:Nat} {t:TypeId} (e:b=W.heap.size):ac (W.alloc (.cells #[.int .u64 0,.int .u64 0,.int .u64 0,.int .u64 0] t)) b:=by
 subst e;exact ⟨Row.new W [0,0,0,0] t,au.new _ _ _ _⟩
theorem ac.set4 {W:World} {b b':Nat} (h:ac W b) (ne:b'≠b) (v0 v1 v2 v3:Value):ac ((((W.setCell ⟨b',0,none⟩ v0).setCell ⟨b',1,none⟩ v1).setCell ⟨b',2,none⟩ v2).setCell ⟨b',3,none⟩ v3) b :=
 (((h.set ne v0).set ne v1).set ne v2).set ne v3
def Var (W:World) (b:Nat) (n:Int):Prop:=ab W b n∧au W b 4
theorem Var.keep {W w1:World} {b:Nat} {n:Int} (h:Var W b n) (hb:Below W.heap.size W w1):Var w1 b n:=⟨h.1.keep hb,h.2.keep hb (h.1.row.lt (by simp))⟩
theorem Var.alloc {W:World} {b:Nat} {n:Int} (h:Var W b n) (o:Obj):Var (W.alloc o) b n:=h.keep ((Below.refl _ _).alloc (Nat.le_refl _) o)
theorem Var.new {W:World} {b:Nat} {n:Int} {t:TypeId} (e:b=W.heap.size):Var (W.alloc (.cells #[.int .u64 (l0 n),.int .u64 (l1 n),.int .u64 (l2 n),.int .u64 (l3 n)] t)) b n:=by
 subst e;exact ⟨ab.new W n t,au.new _ _ _ _⟩
theorem Var.sets {W:World} {b:Nat} {n:Int} (h:Var W b n) (k:Int):Var ((((W.setCell ⟨b,0,none⟩ (.int .u64 (l0 k))).setCell ⟨b,1,none⟩ (.int .u64 (l1 k))).setCell ⟨b,2,none⟩ (.int .u64 (l2 k))).setCell ⟨b,3,none⟩ (.int .u64 (l3 k))) b k :=
 ⟨ab.sets4 h.1.has,(((h.2.set _ _).set _ _).set _ _).set _ _⟩
theorem Var.set4 {W:World} {b b':Nat} {n:Int} (h:Var W b n) (ne:b'≠b) (v0 v1 v2 v3:Value):Var ((((W.setCell ⟨b',0,none⟩ v0).setCell ⟨b',1,none⟩ v1).setCell ⟨b',2,none⟩ v2).setCell ⟨b',3,none⟩ v3) b n :=
 ⟨h.1.set4 ne v0 v1 v2 v3,(((h.2.set _ _).set _ _).set _ _).set _ _⟩
open Go.RowKit
theorem d8 {m c n:Int} (hf:Fit m c) (hn:Num n) (w:World) :
  Rt 128 #[.agg #[.int .u64 (l0 m),.int .u64 (l1 m),.int .u64 (l2 m),.int .u64 (l3 m),.int .u64 (l0 c),.int .u64 (l1 c),.int .u64 (l2 c),.int .u64 (l3 c)],U4 n] w (U4 (ag m n)):=by
 have hm:=hf.num
 obtain ⟨q1,q2⟩:=uM hf hn
 have key:(cL n m=1∧ag m n=n)∨(cL n m=0∧ag m n=ca n m):=by
  by_cases h:n<m
  ·exact .inl ⟨by unfold cL;rw [if_pos h],q1 h⟩
  ·exact .inr ⟨(q2 (by omega)).2,(q2 (by omega)).1⟩
 clear q1 q2
 rcases key with ⟨k1,k2⟩|⟨k1,k2⟩
 all_goals rw [k2]
 all_goals clear k2
 all_goals go_enter Tryz.func128,Tryz.ntmps128
 all_goals go_wp2_with fail
 all_goals refine aa (fun W=>Below w.heap.size w W∧ab W (w.heap.size+1) n∧ac W (w.heap.size+1+1)) ⟨by repeat (first|with_reducible exact Below.refl _ _|with_reducible refine Below.alloc ?_ (by first|omega|(simp;done)|(simp;omega)) _),(ab.fresh (by simp)).alloc _,ac.new (by simp)⟩ ?_
 all_goals rintro W ⟨B,hX,hR⟩
 all_goals have o1:w.heap.size≤w.heap.size+1+1:=by omega
 all_goals generalize w.heap.size+1+1=br at *
 all_goals generalize w.heap.size+1=bx at *
 all_goals with_reducible refine (iq hn hm _).mono ?_
 all_goals rintro e w1 ⟨rfl,hb⟩
 all_goals replace B:=B.trans (hb.mono B.size)
 all_goals replace hR:=hR.keep hb
 all_goals replace hX:=hX.keep hb
 all_goals clear hb W
 all_goals have gX:=hX.allocs
 all_goals have gR:=fun o=>(hR.alloc o).1.all4
 all_goals have fR:=fun o=>(hR.alloc o).2.all4
 all_goals have BB:Hid (∀ o,Below w.heap.size w (w1.alloc o)):=fun o=>B.alloc B.size o
 all_goals clear B hX hR
 all_goals go_wp2
 all_goals simp [bodyPost,results,Tryz.results128,go_sem, *]
 all_goals repeat (first|with_reducible exact BB.out _|with_reducible refine Below.drew ?_|with_reducible refine Below.setCell ?_ (by with_reducible assumption) _)
open Go.RowKit Go.Sort
section
variable {P:Program} {ops:Array Oper}
def Gr (V:World):World→Prop:=fun w'=>∃ p:Regrown,w'=grow (redrawn V p.d) p.os
theorem Gr.below {V w:World} (h:Gr V w):Below V.heap.size V w:=by obtain ⟨p,rfl⟩:=h;exact below_regrown V p.d p.os
theorem Gr.self (V:World):Gr V V:=⟨⟨V.drawn,#[]⟩,by rw [grow_empty];rfl⟩
def cC (sz n:Nat):Array Bool:=((List.range sz).map fun i=>decide (i<n)).toArray
def li (ops:Array Oper) (n sz i:Nat):Bool :=
 match ops[i]? with
 | some o=>(match o.dst with|some d=>decide (d<sz)|none=>false)&&o.after.all (fun e => !Region.binds .any e||decide (e.on<i)) &&
   (List.range n).all fun j=>j==i||(match ops[j]? with
    | some oj=>(oj.dst != o.dst)&&(match oj.dst with|some d => !(o.looksAt ops).contains d||Region.waitsFor .any ops i j|none=>true)
    | none=>false)
 | none=>false
def ot (ops:Array Oper) (m n sz:Nat):Bool :=
 (List.range n).all fun k=>decide (k<m)||(match ops[k]? with
  | some o=>o.guard.isNone&&o.after.isEmpty&&(match o.dst with|some d=>decide (d<sz)|none=>false) &&
    (List.range n).all fun j=>j==k||(match ops[j]? with|some oj=>(oj.dst != o.dst)|none=>false)
  | none=>false)
def jH (ops:Array Oper) (m n sz:Nat):Bool :=
 Region.noSelect ops&&decide (n<ops.size)&&Region.sinkB .any ops n&&Region.chainB .any ops n &&
 Region.seqB .any ops (ops.size-n) n (cC ops.size n)&&(List.range m).all (li ops n sz)&&ot ops m n sz&&decide (m<n)
theorem cg {m n sz k:Nat} (h:ot ops m n sz=true) (h1:m≤k) (h2:k<n):∃ o d,ops[k]?=some o∧o.dst=some d∧o.guard=none∧o.after=#[]∧d<sz ∧
  ∀ j,j<n→j≠k→∃ oj,ops[j]?=some oj∧oj.dst≠some d:=by
 have h3:=List.all_eq_true.1 h k (List.mem_range.2 h2)
 simp only [Bool.or_eq_true,decide_eq_true_eq] at h3
 rcases h3 with h3|h3
 ·omega
 ·split at h3
  ·rename_i o ho
   simp only [Bool.and_eq_true] at h3
   obtain ⟨⟨⟨hg,ha⟩,hd⟩,hp⟩:=h3
   cases hdst:o.dst with
   | none=>rw [hdst] at hd;cases hd
   | some d =>
    rw [hdst] at hd hp
    refine ⟨o,d,ho,hdst,by simpa using hg,by simpa using ha,by simpa using hd,fun j hj hjk=>?_⟩
    have h4:=List.all_eq_true.1 hp j (List.mem_range.2 hj)
    simp only [Bool.or_eq_true,beq_iff_eq] at h4
    rcases h4 with h4|h4
    ·exact absurd h4 hjk
    ·split at h4
     ·rename_i oj hoj
      exact ⟨oj,hoj,by simpa using h4⟩
     ·cases h4
  ·cases h3
theorem d9 {n sz i:Nat} (h:li ops n sz i=true):∃ o d,ops[i]?=some o∧o.dst=some d∧d<sz∧(∀ e∈o.after,Region.binds .any e=true→e.on<i) ∧
  ∀ j,j<n→j≠i→∃ oj,ops[j]?=some oj∧oj.dst≠some d∧∀ t,oj.dst=some t→t∈o.looksAt ops→Region.waitsFor .any ops i j=true:=by
 unfold li at h
 split at h
 ·rename_i o ho
  simp only [Bool.and_eq_true] at h
  obtain ⟨⟨hd,ha⟩,hp⟩:=h
  cases hdst:o.dst with
  | none=>rw [hdst] at hd;cases hd
  | some d =>
   rw [hdst] at hd hp
   refine ⟨o,d,ho,hdst,by simpa using hd,fun e he hb=>?_,fun j hj hji=>?_⟩
   ·have:=Array.all_eq_true'.1 ha e he
    rw [hb] at this
    simpa using this
   ·have h1:=List.all_eq_true.1 hp j (List.mem_range.2 hj)
    simp only [Bool.or_eq_true,beq_iff_eq] at h1
    rcases h1 with h1|h1
    ·exact absurd h1 hji
    ·split at h1
     ·rename_i oj hoj
      simp only [Bool.and_eq_true,bne_iff_ne] at h1
      refine ⟨oj,hoj,h1.1,fun t ht hl=>?_⟩
      have h2:=h1.2
      rw [ht] at h2
      simp only [Bool.or_eq_true,Bool.not_eq_true',List.contains_eq_mem,decide_eq_false_iff_not] at h2
      rcases h2 with h2|h2
      ·exact absurd hl h2
      ·exact h2
     ·cases h1
 ·cases h
theorem iS {C:World→Prop} {A:Act} {d:Nat}:∀ (l:List Oper) (b:Act),(∀ o∈l,o.dst≠some d)→wpQuiet P ops C (fun a'=>a'=A) l b→A.tmps[d]?=b.tmps[d]?
 | [],b,_,h=>by rw [←(show b=A from h)]
 | o :: l,b,hd,h=>by
  have put:∀ v,(b.put o.dst v).tmps[d]?=b.tmps[d]?:=fun v=>by
   cases ho:o.dst with
   | none=>rfl
   | some e =>
    have:e≠d:=fun he=>hd o (by simp) (by rw [ho,he])
    simp [Act.put,Array.getElem?_setIfInBounds_ne this]
  have hd':∀ o'∈l,o'.dst≠some d:=fun o' h'=>hd o' (by simp [h'])
  unfold wpQuiet at h
  split at h
  ·obtain ⟨v,_,h2⟩:=h
   rw [iS l _ hd' h2,put]
  ·rw [iS l _ hd' h,put]
def bL (ops:Array Oper) (a A:Act):Nat→Act
 | 0=>a
 | i+1=>(bL ops a A i).put ((ops[i]?).bind (·.dst)) (A.tmps.getD (((ops[i]?).bind (·.dst)).getD 0) undef)
theorem jf {o:Oper} {a:Act} {w:World} {v:Value} {C C':World→Prop} (hC:∀ x,C x→C' x) (h:o.quietAt P a C w v):o.quietAt P a C' w v:=by
 unfold Oper.quietAt at *
 generalize (execOp a.eval o).run P w=r at *
 cases r with
 | ok n w'=>cases n<;>simp only [Oper.quietUpon] at * <;> first|exact h|exact ⟨h.1,h.2.mono fun e w'' hh=>⟨hh.1,hC _ hh.2⟩⟩
 | halt x w'=>simp only [Oper.quietUpon] at h
theorem dh {b:Act} {d:Nat} {v:Value} (h:d<b.tmps.size):(b.put (some d) v).tmps[d]?=some v:=by
 simp [Act.put,h]
theorem bR {b:Act} {d t:Nat} {v:Value} (h:d≠t):(b.put (some d) v).tmps[t]?=b.tmps[t]?:=by
 simp [Act.put,Array.getElem?_setIfInBounds_ne h]
theorem jg {b:Act} {d:Nat} {v:Value}:(b.put (some d) v).tmps.size=b.tmps.size:=by simp [Act.put]
def Yl (P:Program) (ops:Array Oper) (b:Act) (C:World→Prop) (V:World) (o:Oper) (v:Value):Prop :=
 (Region.wanted o (yielded ops b.tmps)=true∧o.quietAt P b C V v)∨(Region.wanted o (yielded ops b.tmps)=false∧v=undef)
structure Hd (P:Program) (ops:Array Oper) (m n sz:Nat) (a A:Act) (D:World→Prop):Prop where
 mn:m≤n
 ex0:∃ V,D V
 q:∀ i,i<m→li ops n sz i=true
 z:ot ops m n sz=true
 size:a.tmps.size=sz
 walk:∀ V,D V→∃ L:List Oper,L.length=m∧(∀ i,i<m→L[i]?=ops[i]?)∧wpQuiet P ops (Gr V) (fun a'=>a'=A) L a
section
variable {m n sz:Nat} {a A:Act} {W:World} {D:World→Prop}
theorem Hd.lex (h:Hd P ops m n sz a A D) {V:World} {L:List Oper} (hlen:L.length=m) (hL:∀ i,i<m→L[i]?=ops[i]?)
  (H:wpQuiet P ops (Gr V) (fun a'=>a'=A) L a):∀ i,i≤m→wpQuiet P ops (Gr V) (fun a'=>a'=A) (L.drop i) (bL ops a A i)∧(bL ops a A i).tmps.size=sz∧(bL ops a A i).defers=a.defers ∧
   ∀ j,j<i→∃ o d,ops[j]?=some o∧o.dst=some d∧Yl P ops (bL ops a A j) (Gr V) V o (A.tmps.getD d undef):=by
 intro i
 induction i with
 | zero=>intro _;exact ⟨by simpa [bL] using H,h.size,rfl,fun j hj=>by omega⟩
 | succ i ih =>
  intro hi
  obtain ⟨w1,s1,f1,y1⟩:=ih (by omega)
  obtain ⟨o,d,ho,hd,hsz,_,hp⟩:=d9 (h.q i (by omega))
  have e:L.drop i=o :: L.drop (i+1):=by
   rw [List.drop_eq_getElem_cons (by omega)]
   congr 1
   have:=hL i (by omega)
   rw [List.getElem?_eq_getElem (by omega),ho] at this
   exact Option.some.inj this
  rw [e] at w1
  unfold wpQuiet at w1
  have w2:∃ v,Yl P ops (bL ops a A i) (Gr V) V o v∧wpQuiet P ops (Gr V) (fun a'=>a'=A) (L.drop (i+1)) ((bL ops a A i).put o.dst v):=by
   split at w1
   ·next hw =>
    obtain ⟨v,hv,hn⟩:=w1
    exact ⟨v,.inl ⟨hw,hv V (Gr.self V)⟩,hn⟩
   ·next hw=>exact ⟨undef,.inr ⟨by simpa using hw,rfl⟩,w1⟩
  obtain ⟨v,hv,hn⟩:=w2
  rw [hd] at hn
  have hA:A.tmps[d]?=some v:=by
   rw [iS _ _ ?_ hn,dh (by rw [s1];exact hsz)]
   intro o' ho'
   obtain ⟨k,hk,hk2⟩:=List.mem_iff_getElem.1 ho'
   rw [List.getElem_drop] at hk2
   have hk':i+1+k<m:=by rw [List.length_drop] at hk;omega
   obtain ⟨oj,hoj,hne,_⟩:=hp (i+1+k) (by have:=h.mn;omega) (by omega)
   have e1:=hL (i+1+k) hk'
   rw [List.getElem?_eq_getElem (by omega),hoj] at e1
   rw [←hk2,Option.some.inj e1]
   exact hne
  have hv':A.tmps.getD d undef=v:=by simp [hA]
  have e2:bL ops a A (i+1)=(bL ops a A i).put (some d) v:=by
   show (bL ops a A i).put ((ops[i]?).bind (·.dst)) (A.tmps.getD (((ops[i]?).bind (·.dst)).getD 0) undef)=_
   rw [ho];simp only [Option.bind_some,hd,Option.getD_some,hv']
  rw [e2]
  refine ⟨hn,by rw [jg];exact s1,f1,fun j hj=>?_⟩
  by_cases hji:j=i
  ·subst hji
   exact ⟨o,d,ho,hd,by rw [hv'];exact hv⟩
  ·exact y1 j (by omega)
theorem Hd.last (h:Hd P ops m n sz a A D):bL ops a A m=A:=by
 obtain ⟨V0,hV0⟩:=h.ex0
 obtain ⟨L,hlen,hL,H⟩:=h.walk V0 hV0
 have:=(h.lex hlen hL H m (Nat.le_refl _)).1
 rw [List.drop_of_length_le (by omega)] at this
 exact this
theorem Hd.facts (h:Hd P ops m n sz a A D):∀ i,i≤m→(bL ops a A i).tmps.size=sz∧(bL ops a A i).defers=a.defers:=by
 intro i hi
 obtain ⟨V0,hV0⟩:=h.ex0
 obtain ⟨L,hlen,hL,H⟩:=h.walk V0 hV0
 have:=h.lex hlen hL H i hi
 exact ⟨this.2.1,this.2.2.1⟩
theorem Hd.yields (h:Hd P ops m n sz a A D) {V:World} (hV:D V) {i:Nat} (hi:i<m) :
  ∃ o d,ops[i]?=some o∧o.dst=some d∧Yl P ops (bL ops a A i) (Gr V) V o (A.tmps.getD d undef):=by
 obtain ⟨L,hlen,hL,H⟩:=h.walk V hV
 exact (h.lex hlen hL H m (Nat.le_refl _)).2.2.2 i hi
theorem Hd.tmps (h:Hd P ops m n sz a A D):∀ i,i≤m→(∀ t,(∀ j o,j<i→ops[j]?=some o→o.dst≠some t)→(bL ops a A i).tmps[t]?=a.tmps[t]?) ∧
  (∀ j o d,j<i→ops[j]?=some o→o.dst=some d→(bL ops a A i).tmps[d]?=some (A.tmps.getD d undef)):=by
 intro i
 induction i with
 | zero=>intro _;exact ⟨fun t _=>rfl,fun j _ _ hj=>by omega⟩
 | succ i ih =>
  intro hi
  obtain ⟨i1,i2⟩:=ih (by omega)
  obtain ⟨o,d,ho,hd,hsz,_,hp⟩:=d9 (h.q i (by omega))
  have s1:=(h.facts i (by omega)).1
  have e2:bL ops a A (i+1)=(bL ops a A i).put (some d) (A.tmps.getD d undef):=by
   show (bL ops a A i).put ((ops[i]?).bind (·.dst)) (A.tmps.getD (((ops[i]?).bind (·.dst)).getD 0) undef)=_
   rw [ho];simp only [Option.bind_some,hd,Option.getD_some]
  rw [e2]
  refine ⟨fun t ht=>?_,fun j o' d' hj ho' hd'=>?_⟩
  ·have:d≠t:=fun e=>ht i o (by omega) ho (by rw [hd,e])
   rw [bR this]
   exact i1 t fun j o' hj=>ht j o' (by omega)
  ·by_cases hji:j=i
   ·subst hji
    obtain rfl:o'=o:=Option.some.inj (ho'.symm.trans ho)
    obtain rfl:d'=d:=Option.some.inj (hd'.symm.trans hd)
    exact dh (by rw [s1];exact hsz)
   ·obtain ⟨oj,hoj,hne,_⟩:=hp j (by have:=h.mn;omega) hji
    obtain rfl:o'=oj:=Option.some.inj (ho'.symm.trans hoj)
    have:d≠d':=fun e=>hne (by rw [hd',e])
    rw [bR this]
    exact i2 j o' d' (by omega) ho' hd'
structure Stq (ops:Array Oper) (m n:Nat) (a A:Act) (listed:Array Bool) (pv:Nat→Value) (b:Act):Prop where
 size:b.tmps.size=a.tmps.size
 defers:b.defers=a.defers
 q:∀ j o d,j<m→ops[j]?=some o→o.dst=some d→b.tmps[d]?=if listed.getD j false then some (A.tmps.getD d undef) else a.tmps[d]?
 k:∀ j o d,m≤j→j<n→ops[j]?=some o→o.dst=some d→b.tmps[d]?=if listed.getD j false then some (pv j) else a.tmps[d]?
 r:∀ t,(∀ j o,j<n→ops[j]?=some o→o.dst≠some t)→b.tmps[t]?=a.tmps[t]?
theorem iM {listed:Array Bool} {i:Nat} (h:i<listed.size):(listed.setIfInBounds i true).getD i false=true:=by
 simp [h]
theorem Hd.at (h:Hd P ops m n sz a A D) (hsel:∀ (j:Nat) (o:Oper) cs b,ops[j]?=some o→o.op≠.select cs b)
  {listed:Array Bool} {p:Nat→Value} {b:Act} (st:Stq ops m n a A listed p b) {i:Nat} (hi:i<m) (hr:i∈Region.ready .any ops listed) {V:World} (hV:D V) :
  ∃ o d,ops[i]?=some o∧o.dst=some d∧d<sz∧(∀ j,j<n→j≠i→∀ oj,ops[j]?=some oj→oj.dst≠some d)∧Region.wanted o (yielded ops b.tmps)=Region.wanted o (yielded ops (bL ops a A i).tmps)∧Yl P ops b (Gr V) V o (A.tmps.getD d undef):=by
 obtain ⟨o,d,ho,hd,hy⟩:=h.yields hV hi
 obtain ⟨o',d',ho',hd',hsz,hlt,hp⟩:=d9 (h.q i hi)
 obtain rfl:o'=o:=Option.some.inj (ho'.symm.trans ho)
 obtain rfl:d'=d:=Option.some.inj (hd'.symm.trans hd)
 suffices key:∀ t,t∈o'.looksAt ops→b.tmps[t]?=(bL ops a A i).tmps[t]? by
  have same:execOp b.eval o'=execOp (bL ops a A i).eval o':=by
   refine execOp_congr o' (fun cs b=>hsel i o' cs b ho) fun x hx=>?_
   cases x with
   | tmp t =>
    have k:=key t (List.mem_append_left _ (List.mem_filterMap.2 ⟨.tmp t,by simpa using hx,rfl⟩))
    show b.tmps.getD t undef=(bL ops a A i).tmps.getD t undef
    simp only [Array.getD_eq_getD_getElem?,k]
   | _=>rfl
  have wsame:Region.wanted o' (yielded ops b.tmps)=Region.wanted o' (yielded ops (bL ops a A i).tmps):=by
   unfold Region.wanted
   cases hgd:o'.guard with
   | none=>rfl
   | some gj =>
    obtain ⟨jj,want⟩:=gj
    simp only
    unfold yielded
    cases hdj:(ops[jj]?).bind (·.dst) with
    | none=>rfl
    | some t=>simp only [Option.bind_some,key t (by simp [Oper.looksAt,hgd,hdj])]
  refine ⟨o',d',ho,hd,hsz,fun j hj hji oj hoj=>?_,wsame,?_⟩
  ·obtain ⟨o2,h2,h3,_⟩:=hp j hj hji
   obtain rfl:oj=o2:=Option.some.inj (hoj.symm.trans h2)
   exact h3
  ·unfold Yl Oper.quietAt at *
   rw [same,wsame];exact hy
 obtain ⟨t1,t2⟩:=h.tmps i (by omega)
 intro t look
 have waits:∀ j,j<n→j≠i→(∃ oj,ops[j]?=some oj∧oj.dst=some t)→j<i∧listed.getD j false=true:=by
  intro j hj hji ⟨oj,hoj,hdj⟩
  obtain ⟨o2,h2,_,h4⟩:=hp j hj hji
  obtain rfl:oj=o2:=Option.some.inj (hoj.symm.trans h2)
  obtain ⟨o3,h3,e,he,hb,hon⟩:=Region.waitsFor_spec (h4 t hdj look)
  obtain rfl:o3=o':=Option.some.inj (h3.symm.trans ho)
  obtain ⟨_,o4,h5,hall⟩:=mem_ready.1 hr
  obtain rfl:o4=o3:=Option.some.inj (h5.symm.trans h3)
  have h6:=hlt e he hb
  have h7:=hall e he hb
  rw [hon] at h6 h7
  exact ⟨h6,h7⟩
 by_cases hex:∃ j oj,j<m∧ops[j]?=some oj∧oj.dst=some t
 ·obtain ⟨j,oj,hj,hoj,hdj⟩:=hex
  by_cases hji:j=i
  ·-- its own slot: not yet written on either side
   subst hji
   obtain rfl:oj=o':=Option.some.inj (hoj.symm.trans ho)
   have hun:listed.getD j false=false:=getD_both (mem_ready.1 hr).1
   rw [st.q j oj t hj hoj hdj,hun]
   simp only [Bool.false_eq_true,if_false]
   rw [t1 t]
   intro k ok hk hok hdk
   obtain ⟨o2,h2,h3,_⟩:=hp k (by have:=h.mn;omega) (by omega)
   obtain rfl:ok=o2:=Option.some.inj (hok.symm.trans h2)
   rw [hd] at hdj
   exact h3 (by rw [hdk,←hdj])
  ·obtain ⟨hlt',hl⟩:=waits j (by have:=h.mn;omega) hji ⟨oj,hoj,hdj⟩
   rw [st.q j oj t hj hoj hdj,hl,t2 j oj t hlt' hoj hdj];rfl
 ·have hno:∀ j o,j<m→ops[j]?=some o→o.dst≠some t:=fun j o hj ho hd=>hex ⟨j,o,hj,ho,hd⟩
  by_cases ht:∃ j oj,m≤j∧j<n∧ops[j]?=some oj∧oj.dst=some t
  ·obtain ⟨j,oj,hj1,hj2,hoj,hdj⟩:=ht
   obtain ⟨hlt',_⟩:=waits j hj2 (by omega) ⟨oj,hoj,hdj⟩
   omega
  ·rw [st.r t fun j o hj ho hd=>?_,t1 t fun j o hj=>hno j o (by omega)]
   by_cases hjm:j<m
   ·exact hno j o hjm ho hd
   ·exact ht ⟨j,o,by omega,hj,ho,hd⟩
theorem Stq.setQ {listed:Array Bool} {p:Nat→Value} {b:Act} (st:Stq ops m n a A listed p b) {i d:Nat} {o:Oper} (hmn:m≤n) (hi:i<m) (ho:ops[i]?=some o) (hd:o.dst=some d) (hsz:d<a.tmps.size)
  (hl:i<listed.size) (hp:∀ j,j<n→j≠i→∀ oj,ops[j]?=some oj→oj.dst≠some d) :
  Stq ops m n a A (listed.setIfInBounds i true) p (b.put (some d) (A.tmps.getD d undef)):=by
 refine ⟨by rw [jg];exact st.size,st.defers,fun j oj dj hj hoj hdj=>?_,fun j oj dj hj1 hj2 hoj hdj=>?_,fun t ht=>?_⟩
 ·by_cases hji:j=i
  ·subst hji
   obtain rfl:oj=o:=Option.some.inj (hoj.symm.trans ho)
   obtain rfl:dj=d:=Option.some.inj (hdj.symm.trans hd)
   rw [dh (by rw [st.size];exact hsz),iM hl];rfl
  ·have:d≠dj:=fun e=>hp j (by omega) hji oj hoj (by rw [hdj,e])
   rw [bR this,getD_set_ne false (Ne.symm hji)]
   exact st.q j oj dj hj hoj hdj
 ·have:d≠dj:=fun e=>hp j hj2 (by omega) oj hoj (by rw [hdj,e])
  rw [bR this,getD_set_ne false (by omega)]
  exact st.k j oj dj hj1 hj2 hoj hdj
 ·have:d≠t:=fun e=>ht i o (by omega) ho (by rw [hd,e])
  rw [bR this];exact st.r t ht
theorem Stq.setA {listed:Array Bool} {p:Nat→Value} {v:Value} {b:Act} (st:Stq ops m n a A listed p b) {i d:Nat} {o:Oper} (h1:m≤i) (h2:i<n) (ho:ops[i]?=some o) (hd:o.dst=some d) (hsz:d<a.tmps.size)
  (hl:i<listed.size) (hp:∀ j,j<n→j≠i→∃ oj,ops[j]?=some oj∧oj.dst≠some d):Stq ops m n a A (listed.setIfInBounds i true) (fun j=>if j=i then v else p j) (b.put (some d) v):=by
 refine ⟨by rw [jg];exact st.size,st.defers,fun j oj dj hj hoj hdj=>?_,fun j oj dj hj1 hj2 hoj hdj=>?_,fun t ht=>?_⟩
 ·obtain ⟨o2,ho2,hne⟩:=hp j (by omega) (by omega)
  obtain rfl:oj=o2:=Option.some.inj (hoj.symm.trans ho2)
  have:d≠dj:=fun e=>hne (by rw [hdj,e])
  rw [bR this,getD_set_ne false (by omega)]
  exact st.q j oj dj hj hoj hdj
 ·by_cases hji:j=i
  ·subst hji
   obtain rfl:oj=o:=Option.some.inj (hoj.symm.trans ho)
   obtain rfl:dj=d:=Option.some.inj (hdj.symm.trans hd)
   rw [dh (by rw [st.size];exact hsz),iM hl];simp
  ·obtain ⟨o2,ho2,hne⟩:=hp j hj2 hji
   obtain rfl:oj=o2:=Option.some.inj (hoj.symm.trans ho2)
   have:d≠dj:=fun e=>hne (by rw [hdj,e])
   rw [bR this,getD_set_ne false (Ne.symm hji),if_neg hji]
   exact st.k j oj dj hj1 hj2 hoj hdj
 ·have:d≠t:=fun e=>ht i o h2 ho (by rw [hd,e])
  rw [bR this];exact st.r t ht
theorem uY:∀ U:List Nat,U≠[]→∃ j,j∈U∧∀ k,k∈U→j≤k
 | [],h=>absurd rfl h
 | [x],_=>⟨x,by simp,fun k hk=>by simp at hk;omega⟩
 | x :: y :: U,_=>by
  obtain ⟨j,hj,hm⟩:=uY (y :: U) (by simp)
  by_cases h:x≤j
  ·refine ⟨x,by simp,fun k hk=>?_⟩
   rcases List.mem_cons.1 hk with rfl|hk
   ·exact Nat.le_refl _
   ·exact Nat.le_trans h (hm k hk)
  ·refine ⟨j,List.mem_cons_of_mem _ hj,fun k hk=>?_⟩
   rcases List.mem_cons.1 hk with rfl|hk
   ·omega
   ·exact hm k hk
theorem Gr.trans {V w w':World} (h:Gr V w) (h':Gr w w'):Gr V w':=regrown_of_below (h.below.trans (h'.below.mono h.below.size))
def qD (W:World) (z:Obj) (v:Value) (w':World):Prop:=∃ V,Below W.heap.size W V∧v = .pointer (some ⟨V.heap.size,0,none⟩)∧Below (V.alloc z).heap.size (V.alloc z) w'
theorem qD.keep {w' w'':World} {z:Obj} {v:Value} (h:qD W z v w') (hb:Below w'.heap.size w' w''):qD W z v w'':=by
 obtain ⟨V,hV,e,hVw⟩:=h
 exact ⟨V,hV,e,hVw.trans (hb.mono hVw.size)⟩
theorem jW {listed:Array Bool} (inv:HeadInv .any ops n listed) (hall:∀ j,j<n→listed.getD j false=true):listed=cC ops.size n:=by
 apply Array.ext
 ·simp [cC,inv.size]
 ·intro j h1 h2
  have hj:j<ops.size:=by rw [←inv.size];exact h1
  have e1:(cC ops.size n)[j]=decide (j<n):=by simp [cC]
  rw [e1]
  by_cases hjm:j<n
  ·have:=hall j hjm
   simp [h1] at this
   rw [this];simp [hjm]
  ·have:=inv.tail j (by omega) hj
   simp [h1] at this
   rw [this];simp [hjm]
theorem Hd.run (h:Hd P ops m n sz a A (Below W.heap.size W)) {Q':Exit→Act→World→Prop} {z:Obj} (hsel:∀ (j:Nat) (o:Oper) cs b,ops[j]?=some o→o.op≠.select cs b)
  (hn:n<ops.size) (hs:Region.sinkB .any ops n=true) (hc:Region.chainB .any ops n=true) (hseq:Region.seqB .any ops (ops.size-n) n (cC ops.size n)=true)
  (hA:∀ k o,m≤k→k<n→ops[k]?=some o→∀ ρ w,(execOp ρ o).run P w = .ok (.value (.pointer (some ⟨w.heap.size,0,none⟩))) (w.alloc z))
  {tl:List Oper} (htl:∀ j,tl[j]?=ops[n+j]?) (hlen:tl.length=ops.size-n)
  (T:∀ b (p:Nat→Value) w',Stq ops m n a A (cC ops.size n) p b→(∀ k,m≤k→k<n→qD W z (p k) w')→(∀ k k',m≤k→k<n→m≤k'→k'<n→k≠k'→p k≠p k')→Below W.heap.size W w'→wpList P ops Q' tl b w') :
  ∀ (f:Nat) (U:List Nat) (listed:Array Bool) (b:Act) (w':World) (p:Nat→Value),U.length=f→U.Nodup→(∀ j,j∈U→j<n)→(∀ j,j<n→(listed.getD j true=false↔j∈U)) →
   HeadInv .any ops n listed→Stq ops m n a A listed p b→Below W.heap.size W w' →
   (∀ k,m≤k→k<n→k ∉ U→qD W z (p k) w')→(∀ k k',m≤k→k<n→m≤k'→k'<n→k ∉ U→k' ∉ U→k≠k'→p k≠p k')→wpAny P .any ops Q' (f+tl.length) listed b w':=by
 intro f
 induction f with
 | zero =>
  intro U listed b w' p hU _ _ hmem inv st hw hp hdis
  have hU0:U=[]:=List.length_eq_zero_iff.1 hU
  subst hU0
  have hall:∀ j,j<n→listed.getD j false=true:=fun j hj=>by
   have h1:¬listed.getD j true=false:=fun h=>by have:=(hmem j hj).1 h;cases this
   cases hv:listed.getD j false with
   | true=>rfl
   | false=>exact absurd (getD_in (by rw [inv.size];omega) hv) h1
  have el:=jW inv hall
  subst el
  rw [Nat.zero_add]
  exact wpAny_of_seq tl n _ _ _ htl (by rw [hlen];exact hseq) (T b p w' st (fun k h1 h2=>hp k h1 h2 (by simp)) (fun k k' a1 a2 a3 a4=>hdis k k' a1 a2 a3 a4 (by simp) (by simp)) hw)
 | succ f ih =>
  intro U listed b w' p hU hnd hlt hmem inv st hw hp hdis
  obtain ⟨j0,hj0,hmin⟩:=uY U (fun e=>by rw [e] at hU;cases hU)
  have hj0m:=hlt j0 hj0
  have hr0:j0∈Region.ready .any ops listed:=by
   rw [mem_ready]
   refine ⟨(hmem j0 hj0m).2 hj0,?_⟩
   have lst:∀ k,k<j0→listed.getD k false=true:=fun k hk=>by
    cases hv:listed.getD k false with
    | true=>rfl
    | false =>
     have:=hmin k ((hmem k (by omega)).1 (getD_in (by rw [inv.size];omega) hv))
     omega
   by_cases hjm:j0<m
   ·obtain ⟨o,d,ho,_,_,hl,_⟩:=d9 (h.q j0 hjm)
    exact ⟨o,ho,fun e he hb=>lst _ (hl e he hb)⟩
   ·obtain ⟨o,d,ho,_,_,ha,_,_⟩:=cg h.z (by omega) hj0m
    exact ⟨o,ho,fun e he=>by rw [ha] at he;simp at he⟩
  have only:=ix hs hc hn inv hj0m hr0
  rw [show f+1+tl.length=(f+tl.length)+1 by omega]
  refine ⟨fun h0=>absurd h0 (List.ne_nil_of_mem hr0),fun i hi=>?_⟩
  have him:=only i hi
  have hiU:i∈U:=(hmem i him).1 (mem_ready.1 hi).1
  have hisz:i<listed.size:=by rw [inv.size];omega
  have hU':(U.erase i).length=f:=by rw [List.length_erase_of_mem hiU,hU];rfl
  have hmem':∀ j,j<n→((listed.setIfInBounds i true).getD j true=false↔j∈U.erase i):=fun j hj=>by
   rw [hnd.mem_erase_iff]
   by_cases hji:j=i
   ·subst hji
    simp [hisz]
   ·rw [getD_set_ne true (Ne.symm hji)]
    simp only [hji,ne_eq,not_false_eq_true,true_and]
    exact hmem j hj
  have hlt':∀ j,j∈U.erase i→j<n:=fun j hj=>hlt j (List.mem_of_mem_erase hj)
  have hback:∀ k,k≠i→k ∉ U.erase i→k ∉ U:=fun k hk hx hU=>hx ((hnd.mem_erase_iff).2 ⟨hk,hU⟩)
  have inv':=inv.set hi him
  unfold wpOp
  by_cases hie:i<m
  ·obtain ⟨o,d,ho,hd,hsz,hpp,_,hyl⟩:=h.at hsel st hie hi hw
   rw [ho]
   simp only
   have go:∀ w'',Gr w' w''→wpAny P .any ops Q' (f+tl.length) (listed.setIfInBounds i true) (b.put (some d) (A.tmps.getD d undef)) w'':=fun w'' hg'=>by
    have hb:=hg'.below
    exact ih (U.erase i) _ _ _ p hU' (hnd.erase i) hlt' hmem' inv' (st.setQ h.mn hie ho hd (by rw [h.size];exact hsz) hisz hpp) (hw.trans (hb.mono hw.size))
     (fun k h1 h2 hk=>(hp k h1 h2 (hback k (by omega) hk)).keep hb) (fun k k' a1 a2 a3 a4 a5 a6=>hdis k k' a1 a2 a3 a4 (hback k (by omega) a5) (hback k' (by omega) a6))
   rcases hyl with ⟨hwt,_⟩|⟨hwt,hund⟩
   ·rw [if_pos hwt]
    refine .inl (Oper.wp_of_quiet (C:=Gr w') (K:=fun b'=>b'=b.put (some d) (A.tmps.getD d undef)) (Gr.self w') (fun b' w'' hg' e=>by rw [e];exact go w'' hg') ⟨A.tmps.getD d undef,fun V hV=>?_,by rw [hd]⟩)
    obtain ⟨o2,d2,ho2,hd2,_,_,_,hy⟩:=h.at hsel st hie hi (hw.trans (hV.below.mono hw.size))
    obtain rfl:o2=o:=Option.some.inj (ho2.symm.trans ho)
    obtain rfl:d2=d:=Option.some.inj (hd2.symm.trans hd)
    rcases hy with ⟨_,hy⟩|⟨hw2,_⟩
    ·exact jf (fun x hx=>hV.trans hx) hy
    ·rw [hwt] at hw2;cases hw2
   ·rw [if_neg (by rw [hwt];exact Bool.false_ne_true),hd,←hund]
    exact go w' (Gr.self w')
  ·obtain ⟨o,d,ho,hd,hg,_,hsz,hpp⟩:=cg h.z (show m≤i by omega) him
   rw [ho]
   simp only
   rw [if_pos (by unfold Region.wanted;rw [hg])]
   refine .inl ?_
   unfold Oper.wp
   rw [hA i o (by omega) him ho,Oper.upon_value,hd]
   have grew:Below w'.heap.size w' (w'.alloc z):=(Below.refl _ _).alloc (Nat.le_refl _) z
   have far:∀ k,m≤k→k<n→k ∉ U→p k≠.pointer (some ⟨w'.heap.size,0,none⟩):=fun k h1 h2 hk=>by
    obtain ⟨V,_,e,hVw⟩:=hp k h1 h2 hk
    rw [e]
    intro e'
    have e2:V.heap.size=w'.heap.size:=by simpa using e'
    have:=hVw.size
    simp at this
    omega
   refine ih (U.erase i) _ _ _ (fun j=>if j=i then .pointer (some ⟨w'.heap.size,0,none⟩) else p j) hU' (hnd.erase i) hlt' hmem' inv' (st.setA (by omega) him ho hd (by rw [h.size];exact hsz) hisz hpp) (hw.alloc hw.size _) ?_ ?_
   ·intro k h1 h2 hk
    by_cases hki:k=i
    ·simp only [hki,if_true];exact ⟨w',hw,rfl,Below.refl _ _⟩
    ·simp only [hki,if_false];exact (hp k h1 h2 (hback k hki hk)).keep grew
   ·intro k k' a1 a2 a3 a4 a5 a6 a7
    by_cases hki:k=i
    ·have hk':k'≠i:=fun e=>a7 (by rw [hki,e])
     simp only [hki,hk',if_true,if_false]
     exact (far k' a3 a4 (hback k' hk' a6)).symm
    ·by_cases hk':k'=i
     ·simp only [hki,hk',if_true,if_false]
      exact far k a1 a2 (hback k hki a5)
     ·simp only [hki,hk',if_false]
      exact hdis k k' a1 a2 a3 a4 (hback k hki a5) (hback k' hk' a6) a7
theorem uZ {w V:World} (h:Below w.drew.heap.size w.drew V):Below w.heap.size w V:=⟨h.os,h.tape,h.output,h.size,fun k hk=>h.block k hk⟩
theorem jX {id:Nat} {Q:Exit→Act→World→Prop} {a A:Act} {w:World} {l:List Oper} (m n:Nat) {z:Obj} (hm:P.follows .mixedOrders=true) (hB:jH l.toArray m n a.tmps.size=true)
  (hA:∀ k o,m≤k→k<n→l.toArray[k]?=some o→∀ ρ w,(execOp ρ o).run P w = .ok (.value (.pointer (some ⟨w.heap.size,0,none⟩))) (w.alloc z))
  (H:∀ V,Below w.heap.size w V→wpQuiet P l.toArray (Gr V) (fun a'=>a'=A) (l.take m) a)
  (T:∀ b (p:Nat→Value) w',Hd P l.toArray m n a.tmps.size a A (Below w.drew.heap.size w.drew)→Stq l.toArray m n a A (cC l.toArray.size n) p b→(∀ k,m≤k→k<n→qD w.drew z (p k) w')→(∀ k k',m≤k→k<n→m≤k'→k'<n→k≠k'→p k≠p k')→wpList P l.toArray Q (l.drop n) b w') :
  (Code.region id l.toArray true).wp P Q a w:=by
 unfold jH at hB
 simp only [Bool.and_eq_true,decide_eq_true_eq] at hB
 obtain ⟨⟨⟨⟨⟨⟨⟨hsel,hn⟩,hs⟩,hc⟩,hseq⟩,hq⟩,hz⟩,hmn⟩:=hB
 have hn':n<l.length:=by simpa using hn
 refine wp_region_any hm ?_
 have hd:Hd P l.toArray m n a.tmps.size a A (Below w.drew.heap.size w.drew) :=
  ⟨Nat.le_of_lt hmn,⟨w.drew,Below.refl _ _⟩,fun i hi=>List.all_eq_true.1 hq i (List.mem_range.2 hi),hz,rfl,fun V hV=>⟨l.take m,by simp;omega,fun i hi=>by simp [hi],H V (uZ hV)⟩⟩
 have:=hd.run (Q':=Q) (z:=z) (Region.noSelect_spec hsel) hn hs hc hseq hA (tl:=l.drop n) (fun j=>by simp [List.getElem?_drop]) (by simp) (fun b p w' st h1 h2 _=>T b p w' hd st h1 h2)
  n (List.range n) (Array.replicate l.toArray.size false) a w.drew (fun _=>undef) (by simp) List.nodup_range (fun j hj=>List.mem_range.1 hj)
  (fun j hj=>⟨fun _=>List.mem_range.2 hj,fun _=>getD_in (by simp;omega) (getD_replicate_false _ _)⟩) ⟨by simp,fun j oj _ hl=>(by rw [getD_replicate_false] at hl;cases hl),fun t _ ht=>getD_in (by simpa using ht) (getD_replicate_false _ _)⟩
  ⟨rfl,rfl,fun j o d _ _ _=>(by rw [getD_replicate_false];rfl),fun j o d _ _ _ _=>(by rw [getD_replicate_false];rfl),fun t _=>rfl⟩ (Below.refl _ _) (fun k _ h2 h3=>absurd (List.mem_range.2 h2) h3) (fun k _ _ h2 _ _ h3 _=>absurd (List.mem_range.2 h2) h3)
 rw [show n+(l.drop n).length=l.toArray.size by simp;omega] at this
 exact this
theorem f9 {sz k:Nat} (h:k<n) (hs:n≤sz):(cC sz n).getD k false=true:=by
 have:k<sz:=by omega
 simp [cC,this,h]
theorem Stq.one {p:Nat→Value} {b:Act} (h:Hd P ops m (m+1) sz a A D) (hn:m+1<ops.size) (st:Stq ops m (m+1) a A (cC ops.size (m+1)) p b) {o:Oper} {d:Nat} (ho:ops[m]?=some o) (hd:o.dst=some d) :
  b=A.put (some d) (p m):=by
 obtain ⟨s1,f1⟩:=h.facts m (Nat.le_refl _)
 obtain ⟨t1,t2⟩:=h.tmps m (Nat.le_refl _)
 rw [h.last] at s1 f1 t1 t2
 obtain ⟨o',d',ho',hd',_,_,hsz,_⟩:=cg h.z (Nat.le_refl m) (by omega)
 obtain rfl:o'=o:=Option.some.inj (ho'.symm.trans ho)
 obtain rfl:d'=d:=Option.some.inj (hd'.symm.trans hd)
 have ht:b.tmps=(A.put (some d') (p m)).tmps:=by
  apply Array.ext'
  apply List.ext_getElem?
  intro t
  rw [Array.getElem?_toList,Array.getElem?_toList]
  by_cases htd:t=d'
  ·subst htd
   rw [st.k m o' t (Nat.le_refl _) (by omega) ho hd,f9 (by omega) (by omega),dh (by rw [s1];exact hsz)];rfl
  ·rw [bR (Ne.symm htd)]
   by_cases hex:∃ j oj,j<m∧ops[j]?=some oj∧oj.dst=some t
   ·obtain ⟨j,oj,hj,hoj,hdj⟩:=hex
    rw [st.q j oj t hj hoj hdj,f9 (by omega) (by omega),t2 j oj t hj hoj hdj];rfl
   ·have hno:∀ j o,j<m→ops[j]?=some o→o.dst≠some t:=fun j o hj ho hd=>hex ⟨j,o,hj,ho,hd⟩
    rw [st.r t,t1 t hno]
    intro j oj hj hoj hdj
    by_cases hjm:j<m
    ·exact hno j oj hjm hoj hdj
    ·obtain rfl:j=m:=by omega
     obtain rfl:oj=o':=Option.some.inj (hoj.symm.trans ho)
     exact htd (Option.some.inj (hdj.symm.trans hd))
 cases b with
 | mk bt bd =>
  have hd:bd=a.defers:=st.defers
  have ht':bt=(A.put (some d') (p m)).tmps:=ht
  rw [hd,ht',←f1];rfl
theorem Stq.two {p:Nat→Value} {b:Act} (h:Hd P ops m (m+2) sz a A D) (hn:m+2<ops.size) (st:Stq ops m (m+2) a A (cC ops.size (m+2)) p b) {o o2:Oper} {d d2:Nat} (ho:ops[m]?=some o) (hd:o.dst=some d)
  (ho2:ops[m+1]?=some o2) (hd2:o2.dst=some d2):b=(A.put (some d) (p m)).put (some d2) (p (m+1)):=by
 obtain ⟨s1,f1⟩:=h.facts m (Nat.le_refl _)
 obtain ⟨t1,t2⟩:=h.tmps m (Nat.le_refl _)
 rw [h.last] at s1 f1 t1 t2
 obtain ⟨o',d',ho',hd',_,_,hsz,hpp⟩:=cg h.z (Nat.le_refl m) (by omega)
 obtain rfl:o'=o:=Option.some.inj (ho'.symm.trans ho)
 obtain rfl:d'=d:=Option.some.inj (hd'.symm.trans hd)
 obtain ⟨o3,d3,ho3,hd3,_,_,hsz2,_⟩:=cg h.z (k:=m+1) (by omega) (by omega)
 obtain rfl:o3=o2:=Option.some.inj (ho3.symm.trans ho2)
 obtain rfl:d3=d2:=Option.some.inj (hd3.symm.trans hd2)
 have hne:d3≠d':=fun e=>by
  obtain ⟨oj,hoj,hx⟩:=hpp (m+1) (by omega) (by omega)
  obtain rfl:oj=o3:=Option.some.inj (hoj.symm.trans ho2)
  exact hx (by rw [hd2,e])
 have ht:b.tmps=((A.put (some d') (p m)).put (some d3) (p (m+1))).tmps:=by
  apply Array.ext'
  apply List.ext_getElem?
  intro t
  rw [Array.getElem?_toList,Array.getElem?_toList]
  by_cases ht2:t=d3
  ·subst ht2
   rw [st.k (m+1) o3 t (by omega) (by omega) ho2 hd2,f9 (by omega) (by omega),dh (by rw [jg,s1];exact hsz2)];rfl
  ·rw [bR (Ne.symm ht2)]
   by_cases htd:t=d'
   ·subst htd
    rw [st.k m o' t (Nat.le_refl _) (by omega) ho hd,f9 (by omega) (by omega),dh (by rw [s1];exact hsz)];rfl
   ·rw [bR (Ne.symm htd)]
    by_cases hex:∃ j oj,j<m∧ops[j]?=some oj∧oj.dst=some t
    ·obtain ⟨j,oj,hj,hoj,hdj⟩:=hex
     rw [st.q j oj t hj hoj hdj,f9 (by omega) (by omega),t2 j oj t hj hoj hdj];rfl
    ·have hno:∀ j o,j<m→ops[j]?=some o→o.dst≠some t:=fun j o hj ho hd=>hex ⟨j,o,hj,ho,hd⟩
     rw [st.r t,t1 t hno]
     intro j oj hj hoj hdj
     by_cases hjm:j<m
     ·exact hno j oj hjm hoj hdj
     ·by_cases hj1:j=m
      ·subst hj1
       obtain rfl:oj=o':=Option.some.inj (hoj.symm.trans ho)
       exact htd (Option.some.inj (hdj.symm.trans hd))
      ·obtain rfl:j=m+1:=by omega
       obtain rfl:oj=o3:=Option.some.inj (hoj.symm.trans ho2)
       exact ht2 (Option.some.inj (hdj.symm.trans hd2))
 cases b with
 | mk bt bd =>
  have hd:bd=a.defers:=st.defers
  have ht':bt=((A.put (some d') (p m)).put (some d3) (p (m+1))).tmps:=ht
  rw [hd,ht',←f1];rfl
theorem iT {w w':World} {z:Obj} {v:Value} (h:qD w.drew z v w'):∃ V,v = .pointer (some ⟨V.heap.size,0,none⟩)∧Below w.heap.size w V∧Below (V.alloc z).heap.size (V.alloc z) w':=by
 obtain ⟨V,hV,e,hVw⟩:=h
 exact ⟨V,e,uZ hV,hVw⟩
theorem aD {id:Nat} {Q:Exit→Act→World→Prop} {a A:Act} {w:World} {l:List Oper} (m:Nat) {om:Oper} {dm:Nat} {z:Obj} (hm:P.follows .mixedOrders=true)
  (hB:jH l.toArray m (m+1) a.tmps.size=true) (hom:l.toArray[m]?=some om) (hdm:om.dst=some dm)
  (hA:∀ ρ w,(execOp ρ om).run P w = .ok (.value (.pointer (some ⟨w.heap.size,0,none⟩))) (w.alloc z))
  (H:∀ V,Below w.heap.size w V→wpQuiet P l.toArray (Gr V) (fun a'=>a'=A) (l.take m) a)
  (T:∀ V w',Below w.heap.size w V→Below (V.alloc z).heap.size (V.alloc z) w'→wpList P l.toArray Q (l.drop (m+1)) (A.put (some dm) (.pointer (some ⟨V.heap.size,0,none⟩))) w') :
  (Code.region id l.toArray true).wp P Q a w:=by
 have hn:m+1<l.toArray.size:=by unfold jH at hB;simp only [Bool.and_eq_true,decide_eq_true_eq] at hB;exact hB.1.1.1.1.1.1.2
 refine jX (z:=z) m (m+1) hm hB (fun k o h1 h2 ho=>?_) H fun b p w' hd st hmade _=>?_
 ·obtain rfl:k=m:=by omega
  obtain rfl:o=om:=Option.some.inj (ho.symm.trans hom)
  exact hA
 ·rw [st.one hd hn hom hdm]
  obtain ⟨V,e,hV,hVw⟩:=iT (hmade m (Nat.le_refl _) (by omega))
  rw [e]
  exact T V w' hV hVw
theorem gg {id:Nat} {Q:Exit→Act→World→Prop} {a A:Act} {w:World} {l:List Oper} (m:Nat) {om o2:Oper} {dm d2:Nat} {z:Obj} (hm:P.follows .mixedOrders=true)
  (hB:jH l.toArray m (m+2) a.tmps.size=true) (hom:l.toArray[m]?=some om) (hdm:om.dst=some dm) (ho2:l.toArray[m+1]?=some o2) (hd2:o2.dst=some d2)
  (hA:∀ ρ w,(execOp ρ om).run P w = .ok (.value (.pointer (some ⟨w.heap.size,0,none⟩))) (w.alloc z))
  (hA2:∀ ρ w,(execOp ρ o2).run P w = .ok (.value (.pointer (some ⟨w.heap.size,0,none⟩))) (w.alloc z))
  (H:∀ V,Below w.heap.size w V→wpQuiet P l.toArray (Gr V) (fun a'=>a'=A) (l.take m) a)
  (T:∀ V V2 w',Below w.heap.size w V→Below (V.alloc z).heap.size (V.alloc z) w'→Below w.heap.size w V2→Below (V2.alloc z).heap.size (V2.alloc z) w'→V.heap.size≠V2.heap.size →
   wpList P l.toArray Q (l.drop (m+2)) ((A.put (some dm) (.pointer (some ⟨V.heap.size,0,none⟩))).put (some d2) (.pointer (some ⟨V2.heap.size,0,none⟩))) w') :
  (Code.region id l.toArray true).wp P Q a w:=by
 have hn:m+2<l.toArray.size:=by unfold jH at hB;simp only [Bool.and_eq_true,decide_eq_true_eq] at hB;exact hB.1.1.1.1.1.1.2
 refine jX (z:=z) m (m+2) hm hB (fun k o h1 h2 ho=>?_) H fun b p w' hd st hmade hdis=>?_
 ·by_cases hk:k=m
  ·subst hk
   obtain rfl:o=om:=Option.some.inj (ho.symm.trans hom)
   exact hA
  ·obtain rfl:k=m+1:=by omega
   obtain rfl:o=o2:=Option.some.inj (ho.symm.trans ho2)
   exact hA2
 ·rw [st.two hd hn hom hdm ho2 hd2]
  obtain ⟨V,e,hV,hVw⟩:=iT (hmade m (Nat.le_refl _) (by omega))
  obtain ⟨V2,e2,hV2,hVw2⟩:=iT (hmade (m+1) (by omega) (by omega))
  have hx:=hdis m (m+1) (Nat.le_refl _) (by omega) (by omega) (by omega) (by omega)
  rw [e,e2] at hx ⊢
  exact T V V2 w' hV hVw hV2 hVw2 fun e=>hx (by rw [e])
end
end
theorem ap {W V w1:World} {z:Obj} (hV:Below W.heap.size W V) (hw:Below (V.alloc z).heap.size (V.alloc z) w1):Below W.heap.size W w1 :=
 (hV.alloc hV.size z).trans (hw.mono (by have:=hV.size;simp;omega))
theorem aB (dst:Option Tmp) (pos:String) (ty:TypeId) (ρ:Operand→Value) (w:World):(execOp ρ { dst:=dst,op:=Op.alloc 24,type:=ty,pos:=pos,after:=#[],guard:=none }).run Tryz.prog w = .ok (.value (.pointer (some ⟨w.heap.size,0,none⟩))) (w.alloc (.cells #[.int .u64 0,.int .u64 0,.int .u64 0,.int .u64 0] 24)):=by
 simp [execOp,go_sem]
theorem ac.has {W:World} {b:Nat} (h:ac W b):Has W b 4:=fun i hi=>by rw [h.1 i (by simpa using hi)];rfl
open Go.RowKit Go.Sort
section
variable {P:Program} {ops:Array Oper}
def AD (ops:Array Oper) (m sz:Nat):Bool :=
 Region.noSelect ops&&decide (m+2<ops.size)&&Region.sinkB .any ops (m+2)&&Region.chainB .any ops (m+2) &&
 Region.seqB .any ops (ops.size-(m+2)) (m+2) (cC ops.size (m+2))&&(List.range m).all (li ops (m+1) sz)&&ot ops m (m+1) sz&&Region.waitsFor .any ops (m+1) m &&
 (match ops[m+1]? with
  | some o=>o.guard.isNone&&o.dst.isNone&&o.after.all (fun e=>decide (e.on<m+1)) &&
    (List.range m).all fun j=>(match ops[j]? with
     | some oj=>(match oj.dst with|some d => !(o.looksAt ops).contains d||Region.waitsFor .any ops (m+1) j|none=>true)
     | none=>false)
  | none=>false)
theorem vi {m:Nat} {o:Oper} (ho:ops[m+1]?=some o) (h:(match ops[m+1]? with
  | some o=>o.guard.isNone&&o.dst.isNone&&o.after.all (fun e=>decide (e.on<m+1)) &&
    (List.range m).all fun j=>(match ops[j]? with
     | some oj=>(match oj.dst with|some d => !(o.looksAt ops).contains d||Region.waitsFor .any ops (m+1) j|none=>true)
     | none=>false)
  | none=>false)=true):o.guard=none∧o.dst=none∧(∀ e∈o.after,e.on<m+1)∧∀ j,j<m→∀ oj t,ops[j]?=some oj→oj.dst=some t→t∈o.looksAt ops→Region.waitsFor .any ops (m+1) j=true:=by
 rw [ho] at h
 simp only [Bool.and_eq_true] at h
 obtain ⟨⟨⟨hg,hd⟩,ha⟩,hp⟩:=h
 refine ⟨by simpa using hg,by simpa using hd,fun e he=>?_,fun j hj oj t hoj ht hl=>?_⟩
 ·have:=Array.all_eq_true'.1 ha e he
  simpa using this
 ·have h1:=List.all_eq_true.1 hp j (List.mem_range.2 hj)
  rw [hoj] at h1
  simp only [ht,Bool.or_eq_true,Bool.not_eq_true',List.contains_eq_mem,decide_eq_false_iff_not] at h1
  rcases h1 with h1|h1
  ·exact absurd hl h1
  ·exact h1
variable {m sz:Nat} {a A:Act} {Pre:World→Prop} {Mid Post:Value→World→Prop} {D:World→Prop} {om os:Oper} {dm:Nat} {z:Obj}
theorem Stq.made {p:Nat→Value} {b:Act} {listed:Array Bool} (h:Hd P ops m (m+1) sz a A D) (st:Stq ops m (m+1) a A listed p b) (hall:∀ j,j<m+1→listed.getD j false=true) (ho:ops[m]?=some om) (hd:om.dst=some dm) :
  b=A.put (some dm) (p m):=by
 obtain ⟨s1,f1⟩:=h.facts m (Nat.le_refl _)
 obtain ⟨t1,t2⟩:=h.tmps m (Nat.le_refl _)
 rw [h.last] at s1 f1 t1 t2
 obtain ⟨o',d',ho',hd',_,_,hsz,_⟩:=cg h.z (Nat.le_refl m) (by omega)
 obtain rfl:o'=om:=Option.some.inj (ho'.symm.trans ho)
 obtain rfl:d'=dm:=Option.some.inj (hd'.symm.trans hd)
 have ht:b.tmps=(A.put (some d') (p m)).tmps:=by
  apply Array.ext'
  apply List.ext_getElem?
  intro t
  rw [Array.getElem?_toList,Array.getElem?_toList]
  by_cases htd:t=d'
  ·subst htd
   rw [st.k m o' t (Nat.le_refl _) (by omega) ho hd,hall m (by omega),dh (by rw [s1];exact hsz)];rfl
  ·rw [bR (Ne.symm htd)]
   by_cases hex:∃ j oj,j<m∧ops[j]?=some oj∧oj.dst=some t
   ·obtain ⟨j,oj,hj,hoj,hdj⟩:=hex
    rw [st.q j oj t hj hoj hdj,hall j (by omega),t2 j oj t hj hoj hdj];rfl
   ·have hno:∀ j o,j<m→ops[j]?=some o→o.dst≠some t:=fun j o hj ho hd=>hex ⟨j,o,hj,ho,hd⟩
    rw [st.r t,t1 t hno]
    intro j oj hj hoj hdj
    by_cases hjm:j<m
    ·exact hno j oj hjm hoj hdj
    ·obtain rfl:j=m:=by omega
     obtain rfl:oj=o':=Option.some.inj (hoj.symm.trans ho)
     exact htd (Option.some.inj (hdj.symm.trans hd))
 cases b with
 | mk bt bd =>
  have hd:bd=a.defers:=st.defers
  have ht':bt=(A.put (some d') (p m)).tmps:=ht
  rw [hd,ht',←f1];rfl
theorem Hd.puts (h:Hd P ops m (m+1) sz a A D) {Q':Exit→Act→World→Prop} (hsel:∀ (j:Nat) (o:Oper) cs b,ops[j]?=some o→o.op≠.select cs b)
  (hn:m+2<ops.size) (hs:Region.sinkB .any ops (m+2)=true) (hc:Region.chainB .any ops (m+2)=true) (hseq:Region.seqB .any ops (ops.size-(m+2)) (m+2) (cC ops.size (m+2))=true)
  (hom:ops[m]?=some om) (hdm:om.dst=some dm) (hA:∀ ρ w,(execOp ρ om).run P w = .ok (.value (.pointer (some ⟨w.heap.size,0,none⟩))) (w.alloc z))
  (hos:ops[m+1]?=some os) (hg:os.guard=none) (hdn:os.dst=none) (haf:∀ e∈os.after,e.on<m+1) (hw0:Region.waitsFor .any ops (m+1) m=true)
  (hwt:∀ j,j<m→∀ oj t,ops[j]?=some oj→oj.dst=some t→t∈os.looksAt ops→Region.waitsFor .any ops (m+1) j=true)
  (hPre:∀ V V',Pre V→Below V.heap.size V V'→Pre V') (hMid:∀ v V V',Mid v V→Below V.heap.size V V'→Mid v V') (hPost:∀ v V V',Post v V→Below V.heap.size V V'→Post v V')
  (hD0:∀ V,Pre V→D V) (hD1:∀ v V,Mid v V→D V) (hD2:∀ v V,Post v V→D V) (hPM:∀ V,Pre V→Mid (.pointer (some ⟨V.heap.size,0,none⟩)) (V.alloc z))
  (hE:∀ v V,Mid v V→∃ V',(execOp (A.put (some dm) v).eval os).run P V = .ok .skip V'∧Post v V')
  {tl:List Oper} (htl:∀ j,tl[j]?=ops[m+2+j]?) (hlen:tl.length=ops.size-(m+2))
  (T:∀ v w',Post v w'→wpList P ops Q' tl (A.put (some dm) v) w') :
  ∀ (f:Nat) (U:List Nat) (listed:Array Bool) (b:Act) (w':World) (p:Nat→Value),U.length=f→U.Nodup→(∀ j,j∈U→j<m+2)→(∀ j,j<m+2→(listed.getD j true=false↔j∈U)) →
   HeadInv .any ops (m+2) listed→Stq ops m (m+1) a A listed p b→(m∈U→m+1∈U)→(m∈U→Pre w')→(m ∉ U→m+1∈U→Mid (p m) w')→(m+1 ∉ U→Post (p m) w')→wpAny P .any ops Q' (f+tl.length) listed b w':=by
 intro f
 induction f with
 | zero =>
  intro U listed b w' p hU _ _ hmem inv st _ _ _ hpo
  have hU0:U=[]:=List.length_eq_zero_iff.1 hU
  subst hU0
  have hall:∀ j,j<m+2→listed.getD j false=true:=fun j hj=>by
   have h1:¬listed.getD j true=false:=fun h=>by have:=(hmem j hj).1 h;cases this
   cases hv:listed.getD j false with
   | true=>rfl
   | false=>exact absurd (getD_in (by rw [inv.size];omega) hv) h1
  have eb:=st.made h (fun j hj=>hall j (by omega)) hom hdm
  have el:=jW inv hall
  subst el;subst eb
  rw [Nat.zero_add]
  exact wpAny_of_seq tl (m+2) _ _ _ htl (by rw [hlen];exact hseq) (T _ w' (hpo (by simp)))
 | succ f ih =>
  intro U listed b w' p hU hnd hlt hmem inv st himp hpr hmi hpo
  have dw:∀ V,(m∈U→Pre V)→(m ∉ U→m+1∈U→Mid (p m) V)→(m+1 ∉ U→Post (p m) V)→D V:=fun V a1 a2 a3=>by
   by_cases h1:m∈U
   ·exact hD0 _ (a1 h1)
   ·by_cases h2:m+1∈U
    ·exact hD1 _ _ (a2 h1 h2)
    ·exact hD2 _ _ (a3 h2)
  have hD:=dw w' hpr hmi hpo
  obtain ⟨j0,hj0,hmin⟩:=uY U (fun e=>by rw [e] at hU;cases hU)
  have hj0m:=hlt j0 hj0
  have hr0:j0∈Region.ready .any ops listed:=by
   rw [mem_ready]
   refine ⟨(hmem j0 hj0m).2 hj0,?_⟩
   have lst:∀ k,k<j0→listed.getD k false=true:=fun k hk=>by
    cases hv:listed.getD k false with
    | true=>rfl
    | false =>
     have:=hmin k ((hmem k (by omega)).1 (getD_in (by rw [inv.size];omega) hv))
     omega
   by_cases hjm:j0<m
   ·obtain ⟨o,d,ho,_,_,hl,_⟩:=d9 (h.q j0 hjm)
    exact ⟨o,ho,fun e he hb=>lst _ (hl e he hb)⟩
   ·by_cases hj1:j0=m
    ·subst hj1
     obtain ⟨o,d,ho,_,_,ha,_,_⟩:=cg h.z (Nat.le_refl j0) (by omega)
     exact ⟨o,ho,fun e he=>by rw [ha] at he;simp at he⟩
    ·obtain rfl:j0=m+1:=by omega
     exact ⟨os,hos,fun e he _=>lst _ (haf e he)⟩
  have only:=ix hs hc hn inv hj0m hr0
  rw [show f+1+tl.length=(f+tl.length)+1 by omega]
  refine ⟨fun h0=>absurd h0 (List.ne_nil_of_mem hr0),fun i hi=>?_⟩
  have him:=only i hi
  have hiU:i∈U:=(hmem i him).1 (mem_ready.1 hi).1
  have hisz:i<listed.size:=by rw [inv.size];omega
  have hU':(U.erase i).length=f:=by rw [List.length_erase_of_mem hiU,hU];rfl
  have hmem':∀ j,j<m+2→((listed.setIfInBounds i true).getD j true=false↔j∈U.erase i):=fun j hj=>by
   rw [hnd.mem_erase_iff]
   by_cases hji:j=i
   ·subst hji
    simp [hisz]
   ·rw [getD_set_ne true (Ne.symm hji)]
    simp only [hji,ne_eq,not_false_eq_true,true_and]
    exact hmem j hj
  have hlt':∀ j,j∈U.erase i→j<m+2:=fun j hj=>hlt j (List.mem_of_mem_erase hj)
  have hback:∀ k,k≠i→k ∉ U.erase i→k ∉ U:=fun k hk hx hU=>hx ((hnd.mem_erase_iff).2 ⟨hk,hU⟩)
  have hin:∀ k,k≠i→k∈U→k∈U.erase i:=fun k hk hU=>(hnd.mem_erase_iff).2 ⟨hk,hU⟩
  have inv':=inv.set hi him
  unfold wpOp
  by_cases hie:i<m
  ·obtain ⟨o,d,ho,hd,hsz,hpp,_,hyl⟩:=h.at hsel st hie hi hD
   rw [ho]
   simp only
   have cl:∀ V,Gr w' V→(m∈U→Pre V)∧(m ∉ U→m+1∈U→Mid (p m) V)∧(m+1 ∉ U→Post (p m) V):=fun V hV=>⟨fun h=>hPre _ _ (hpr h) hV.below,fun h h'=>hMid _ _ _ (hmi h h') hV.below,fun h=>hPost _ _ _ (hpo h) hV.below⟩
   have go:∀ w'',Gr w' w''→wpAny P .any ops Q' (f+tl.length) (listed.setIfInBounds i true) (b.put (some d) (A.tmps.getD d undef)) w'':=fun w'' hg'=>by
    have hc:=cl w'' hg'
    exact ih (U.erase i) _ _ _ p hU' (hnd.erase i) hlt' hmem' inv' (st.setQ h.mn hie ho hd (by rw [h.size];exact hsz) hisz hpp)
     (fun hm=>hin _ (by omega) (himp (List.mem_of_mem_erase hm))) (fun hm=>hc.1 (List.mem_of_mem_erase hm)) (fun hm hm1=>hc.2.1 (hback m (by omega) hm) (List.mem_of_mem_erase hm1)) (fun hm=>hc.2.2 (hback _ (by omega) hm))
   rcases hyl with ⟨hwt,_⟩|⟨hwt,hund⟩
   ·rw [if_pos hwt]
    refine .inl (Oper.wp_of_quiet (C:=Gr w') (K:=fun b'=>b'=b.put (some d) (A.tmps.getD d undef)) (Gr.self w') (fun b' w'' hg' e=>by rw [e];exact go w'' hg') ⟨A.tmps.getD d undef,fun V hV=>?_,by rw [hd]⟩)
    have hc:=cl V hV
    obtain ⟨o2,d2,ho2,hd2,_,_,_,hy⟩:=h.at hsel st hie hi (dw V hc.1 hc.2.1 hc.2.2)
    obtain rfl:o2=o:=Option.some.inj (ho2.symm.trans ho)
    obtain rfl:d2=d:=Option.some.inj (hd2.symm.trans hd)
    rcases hy with ⟨_,hy⟩|⟨hw2,_⟩
    ·exact jf (fun x hx=>hV.trans hx) hy
    ·rw [hwt] at hw2;cases hw2
   ·rw [if_neg (by rw [hwt];exact Bool.false_ne_true),hd,←hund]
    exact go w' (Gr.self w')
  ·by_cases hi1:i=m
   ·subst hi1
    obtain ⟨o,d,ho,hd,hgd,_,hsz,hpp⟩:=cg h.z (Nat.le_refl i) (by omega)
    obtain rfl:o=om:=Option.some.inj (ho.symm.trans hom)
    obtain rfl:d=dm:=Option.some.inj (hd.symm.trans hdm)
    rw [ho]
    simp only
    rw [if_pos (by unfold Region.wanted;rw [hgd])]
    refine .inl ?_
    unfold Oper.wp
    rw [hA,Oper.upon_value,hd]
    have h1U:=himp hiU
    refine ih (U.erase i) _ _ _ (fun j=>if j=i then .pointer (some ⟨w'.heap.size,0,none⟩) else p j) hU' (hnd.erase i) hlt' hmem' inv' (st.setA (Nat.le_refl _) (by omega) ho hd (by rw [h.size];exact hsz) hisz hpp) (fun hm=>absurd rfl ((hnd.mem_erase_iff).1 hm).1) (fun hm=>absurd rfl ((hnd.mem_erase_iff).1 hm).1) (fun _ _=>?_) (fun hm=>absurd (hin _ (by omega) h1U) hm)
    simp only [if_true]
    exact hPM _ (hpr hiU)
   ·obtain rfl:i=m+1:=by omega
    rw [hos]
    simp only
    rw [if_pos (by unfold Region.wanted;rw [hg])]
    refine .inl ?_
    have isl:∀ j,Region.waitsFor .any ops (m+1) j=true→listed.getD j false=true:=fun j hj=>by
     obtain ⟨o3,h3,e,he,hb,hon⟩:=Region.waitsFor_spec hj
     obtain rfl:o3=os:=Option.some.inj (h3.symm.trans hos)
     obtain ⟨_,o4,h5,hall⟩:=mem_ready.1 hi
     obtain rfl:o4=o3:=Option.some.inj (h5.symm.trans h3)
     have h7:=hall e he hb
     rw [hon] at h7
     exact h7
    have hml:=isl m hw0
    have hmU:m ∉ U:=fun hx=>by
     have h1:=(hmem m (by omega)).2 hx
     rw [show listed.getD m true=listed.getD m false by simp [show m<listed.size by rw [inv.size];omega],hml] at h1
     cases h1
    obtain ⟨s1,f1⟩:=h.facts m (Nat.le_refl _)
    obtain ⟨t1,t2⟩:=h.tmps m (Nat.le_refl _)
    rw [h.last] at s1 t1 t2
    obtain ⟨o',d',ho',hd',_,_,hsz,_⟩:=cg h.z (Nat.le_refl m) (by omega)
    obtain rfl:o'=om:=Option.some.inj (ho'.symm.trans hom)
    obtain rfl:d'=dm:=Option.some.inj (hd'.symm.trans hdm)
    have same:execOp b.eval os=execOp (A.put (some d') (p m)).eval os:=by
     refine execOp_congr os (fun cs b=>hsel (m+1) os cs b hos) fun x hx=>?_
     cases x with
     | tmp t =>
      have key:b.tmps[t]?=(A.put (some d') (p m)).tmps[t]?:=by
       have look:t∈os.looksAt ops:=List.mem_append_left _ (List.mem_filterMap.2 ⟨.tmp t,by simpa using hx,rfl⟩)
       by_cases htd:t=d'
       ·subst htd
        rw [st.k m o' t (Nat.le_refl _) (by omega) hom hdm,hml,dh (by rw [s1];exact hsz)];rfl
       ·rw [bR (Ne.symm htd)]
        by_cases hex:∃ j oj,j<m∧ops[j]?=some oj∧oj.dst=some t
        ·obtain ⟨j,oj,hj,hoj,hdj⟩:=hex
         rw [st.q j oj t hj hoj hdj,isl j (hwt j hj oj t hoj hdj look),t2 j oj t hj hoj hdj];rfl
        ·have hno:∀ j o,j<m→ops[j]?=some o→o.dst≠some t:=fun j o hj ho hd=>hex ⟨j,o,hj,ho,hd⟩
         rw [st.r t,t1 t hno]
         intro j oj hj hoj hdj
         by_cases hjm:j<m
         ·exact hno j oj hjm hoj hdj
         ·obtain rfl:j=m:=by omega
          obtain rfl:oj=o':=Option.some.inj (hoj.symm.trans hom)
          exact htd (Option.some.inj (hdj.symm.trans hdm))
      show b.tmps.getD t undef=(A.put (some d') (p m)).tmps.getD t undef
      simp only [Array.getD_eq_getD_getElem?,key]
     | _=>rfl
    obtain ⟨V',e1,e2⟩:=hE _ w' (hmi hmU hiU)
    unfold Oper.wp
    rw [same,e1,Oper.upon_skip,hdn]
    have st':Stq ops m (m+1) a A (listed.setIfInBounds (m+1) true) p b:=by
     refine ⟨st.size,st.defers,fun j o d hj ho hd=>?_,fun j o d h1 h2 ho hd=>?_,st.r⟩
     ·rw [getD_set_ne false (by omega)];exact st.q j o d hj ho hd
     ·rw [getD_set_ne false (by omega)];exact st.k j o d h1 h2 ho hd
    exact ih (U.erase (m+1)) _ _ _ p hU' (hnd.erase _) hlt' hmem' inv' st' (fun hm=>absurd (List.mem_of_mem_erase hm) hmU) (fun hm=>absurd (List.mem_of_mem_erase hm) hmU) (fun _ hm=>absurd rfl ((hnd.mem_erase_iff).1 hm).1) (fun _=>e2)
theorem lj {id:Nat} {Q:Exit→Act→World→Prop} {a A:Act} {w:World} {l:List Oper} (m:Nat) {om os:Oper} {dm:Nat} {z:Obj} (Stq':World→Nat→World) (hm:P.follows .mixedOrders=true) (hB:AD l.toArray m a.tmps.size=true)
  (hom:l.toArray[m]?=some om) (hdm:om.dst=some dm) (hos:l.toArray[m+1]?=some os)
  (hA:∀ ρ w,(execOp ρ om).run P w = .ok (.value (.pointer (some ⟨w.heap.size,0,none⟩))) (w.alloc z))
  (hS:∀ V V0,Below w.heap.size w V0→Below (V0.alloc z).heap.size (V0.alloc z) V→Below w.heap.size w (Stq' V V0.heap.size))
  (H:∀ V,Below w.heap.size w V→wpQuiet P l.toArray (Gr V) (fun a'=>a'=A) (l.take m) a)
  (hE:∀ V V0,Below w.heap.size w V0→Below (V0.alloc z).heap.size (V0.alloc z) V→(execOp (A.put (some dm) (.pointer (some ⟨V0.heap.size,0,none⟩))).eval os).run P V = .ok .skip (Stq' V V0.heap.size))
  (T:∀ V0 V w',Below w.heap.size w V0→Below (V0.alloc z).heap.size (V0.alloc z) V→Below (Stq' V V0.heap.size).heap.size (Stq' V V0.heap.size) w'→wpList P l.toArray Q (l.drop (m+2)) (A.put (some dm) (.pointer (some ⟨V0.heap.size,0,none⟩))) w') :
  (Code.region id l.toArray true).wp P Q a w:=by
 unfold AD at hB
 simp only [Bool.and_eq_true,decide_eq_true_eq] at hB
 obtain ⟨⟨⟨⟨⟨⟨⟨⟨hsel,hn⟩,hs⟩,hc⟩,hseq⟩,hq⟩,hz⟩,hw0⟩,hl⟩:=hB
 have hn':m+2<l.length:=by simpa using hn
 obtain ⟨g1,g2,g3,g4⟩:=vi hos hl
 refine wp_region_any hm ?_
 have hd:Hd P l.toArray m (m+1) a.tmps.size a A (Below w.heap.size w) :=
  ⟨by omega,⟨w,Below.refl _ _⟩,fun i hi=>List.all_eq_true.1 hq i (List.mem_range.2 hi),hz,rfl,fun V hV=>⟨l.take m,by simp;omega,fun i hi=>by simp [hi],H V hV⟩⟩
 have:=hd.puts (Q':=Q) (z:=z) (Pre:=Below w.heap.size w) (Mid:=fun v V=>∃ V0,v = .pointer (some ⟨V0.heap.size,0,none⟩)∧Below w.heap.size w V0∧Below (V0.alloc z).heap.size (V0.alloc z) V)
  (Post:=fun v V=>∃ V0 V1,v = .pointer (some ⟨V0.heap.size,0,none⟩)∧Below w.heap.size w V0∧Below (V0.alloc z).heap.size (V0.alloc z) V1∧Below (Stq' V1 V0.heap.size).heap.size (Stq' V1 V0.heap.size) V)
  (Region.noSelect_spec hsel) hn hs hc hseq hom hdm hA hos g1 g2 g3 hw0 g4
  (fun V V' h h'=>h.trans (h'.mono h.size)) (fun v V V' h h'=>by obtain ⟨V0,e,h0,h1⟩:=h;exact ⟨V0,e,h0,h1.trans (h'.mono h1.size)⟩) (fun v V V' h h'=>by obtain ⟨V0,V1,e,h0,h1,h2⟩:=h;exact ⟨V0,V1,e,h0,h1,h2.trans (h'.mono h2.size)⟩)
  (fun V h=>h) (fun v V h=>by obtain ⟨V0,_,h0,h1⟩:=h;exact ap h0 h1) (fun v V h=>by obtain ⟨V0,V1,_,h0,h1,h2⟩:=h;exact (hS V1 V0 h0 h1).trans (h2.mono (hS V1 V0 h0 h1).size))
  (fun V h=>⟨V,rfl,h,Below.refl _ _⟩) (fun v V h=>by obtain ⟨V0,e,h0,h1⟩:=h;exact ⟨Stq' V V0.heap.size,by rw [e];exact hE V V0 h0 h1,V0,V,e,h0,h1,Below.refl _ _⟩)
  (tl:=l.drop (m+2)) (fun j=>by simp [List.getElem?_drop]) (by simp) (fun v w' h=>by obtain ⟨V0,V1,e,h0,h1,h2⟩:=h;rw [e];exact T V0 V1 w' h0 h1 h2)
  (m+2) (List.range (m+2)) (Array.replicate l.toArray.size false) a w.drew (fun _=>undef) (by simp) List.nodup_range (fun j hj=>List.mem_range.1 hj)
  (fun j hj=>⟨fun _=>List.mem_range.2 hj,fun _=>getD_in (by simp;omega) (getD_replicate_false _ _)⟩) ⟨by simp,fun j oj _ hl=>(by rw [getD_replicate_false] at hl;cases hl),fun t _ ht=>getD_in (by simpa using ht) (getD_replicate_false _ _)⟩
  ⟨rfl,rfl,fun j o d _ _ _=>(by rw [getD_replicate_false];rfl),fun j o d _ _ _ _=>(by rw [getD_replicate_false];rfl),fun t _=>rfl⟩ (fun _=>List.mem_range.2 (by omega)) (fun _=>(Below.refl _ _).drew) (fun hx=>absurd (List.mem_range.2 (by omega)) hx) (fun hx=>absurd (List.mem_range.2 (by omega)) hx)
 rw [show m+2+(l.drop (m+2)).length=l.toArray.size by simp;omega] at this
 exact this
end
end Go.Proofs.YtnnnaajgjniiaaaGreatDoor
