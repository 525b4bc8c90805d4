import Derived.Test.YtjoandmehahfgaaGreatDoorKCols
import Derived.OwnWalk
import Derived.Deep.OwnRows
import Derived.Laws.CopyOwn
import Derived.Maps.AppendAt
namespace Go.Proofs.YtjoandmehahfgaaGreatDoor.K
open Go.RowKit Go.Sort
theorem dE:(Tryz.prog.info? 5).map (fun i=>(i.zero,i.size,i.bytes))=some (some (.int .u8 0),1,1):=by kernel_rfl
theorem ig {P:Program} (w:World) {ops:Array Oper} {rest:List Oper} {o:Oper} {a:Act} {Q:Exit→Act→World→Prop}
  (hg:o.guard=none) (l c:Operand) (t:TypeId) (hop:o.op=Op.makeSlice t l c)
  (e:TypeId) (i:TypeInfo) (z:Value) (ht:P.underlying t=some (.slice e)) (hi:P.info? e=some i) (hz:i.zero=some z) (hsize:i.size=1) (hz1:z.cells=#[z]) (hby:i.bytes=1)
  (kl kc:IntKind) (L C:Int) (n m:Nat) (hl:a.eval l = .int kl L) (hc:a.eval c = .int kc C) (eL:L=(n:Int)) (eC:C=(m:Int)) (hnm:n≤m) (hm:m≤281474976710656)
  (hK:wpList P ops Q rest (a.put o.dst (.slice (some ⟨w.heap.size,0,none⟩) n m)) (w.alloc (.cells (madeCells #[z] m) e))) :
  wpList P ops Q (o :: rest) a w:=by
 subst eL eC
 refine wpList_plain hg fun K hK'=>?_
 have hr:=run_make (P:=P) w t e i z ht hi hz kl kc n m (by omega) (by omega) (by rw [hby];omega) (by omega)
 simp only [Int.toNat_natCast,hsize,Nat.mul_one,hz1] at hr
 unfold Oper.wp
 simp [execOp,hop,hl,hc,hr,Result.andThen]
 exact hK' _ _ hK
def aJ (W:World) (g:Nat) (X:List (BitVec 8)):Prop:=Byo W g 0 X∧ai W g X.length
theorem aJ.set {W:World} {g:Nat} {X:List (BitVec 8)} (h:aJ W g X) (i:Nat) (hi:i<X.length) (v:BitVec 8):aJ (W.setCell ⟨g,i,none⟩ (.int .u8 (Y v))) g (X.set i v):=by
 refine ⟨fun j hj=>?_,by rw [List.length_set];exact h.2.set _ _⟩
 rw [List.length_set] at hj
 rw [Nat.zero_add]
 have hc:=h.1 j hj
 rw [Nat.zero_add] at hc
 by_cases e:i=j
 ·subst e
  rw [World.cell?_setCell_same _ _ _ hc]
  simp [List.getD,hi]
 ·have ne:(⟨g,i,none⟩:Addr)≠⟨g,j,none⟩:=by first|(simp;done)|(simp;omega)
  rw [World.cell?_setCell_other _ _ _ _ ne,hc]
  simp [List.getD,List.getElem?_set_ne e]
theorem mR (n:Nat):madeCells #[Value.int .u8 0] n=(List.replicate n (Value.int .u8 0)).toArray:=by
 have:=toList_madeCells_one (Value.int .u8 0) n
 apply Array.toList_inj.1
 rw [this]
theorem qu (w:World) (o:Obj):(w.alloc o).heap[w.heap.size]?=some o:=by
 show (w.heap.push o)[w.heap.size]?=some o
 simp
open Go.RowKit Go.Sort
def Own (B:Nat) (W:World) (v:Value) (X:List (BitVec 8)):Prop:=W.ownsRow B 5 1 v X.length (byts X)
theorem Own.row {B:Nat} {W:World} {v:Value} {X:List (BitVec 8)} (h:Own B W v X):W.ownsRow B 5 1 v X.length (byts X):=h
open Go.RowKit Go.Sort
theorem mS (X:List (BitVec 8)) (i:Nat) (x:BitVec 8):(byts X).set i (.int .u8 (Y x))=byts (X.set i x):=by simp [byts,List.map_set]
open Go.RowKit Go.Sort
theorem Byo.far {W:World} {b b' o i:Nat} {v:Value} {X:List (BitVec 8)} (h:Byo W b o X) (ne:b'≠b):Byo (W.setCell ⟨b',i,none⟩ v) b o X:=fun j hj=>by rw [World.cell?_setCell_far _ _ _ _ ne];exact h j hj
end Go.Proofs.YtjoandmehahfgaaGreatDoor.K
