import Derived.Test.YtjoandmehahfgaaGreatDoorRows
import Derived.WalkKit
import Derived.WalkSpells
import Derived.WalkLawsBesides
import Derived.Laws.BitsAllLaws
import Derived.BigQuiet
import Derived.Lib.QuietBelow
import Derived.Deep.MidRow
import Derived.Deep.LoopGhost
import Derived.Deep.RegionHeld
import Derived.Deep.Upon
import Derived.OwnWalk
import Derived.Deep.OwnRows
import Derived.Laws.CopyOwn
import Derived.Maps.AppendAt
import Derived.Lib.LazyBuf
namespace Go.Proofs.YtjoandmehahfgaaGreatDoor.S
open Go.RowKit Go.Sort
theorem cell_keep {W w1:World} {p:Addr} {v:Value} (hb:Below W.heap.size W w1) (h:W.cell? p=some v):w1.cell? p=some v:=by
 rw [hb.cell (World.block_lt_of_cell? W p h)];exact h
theorem aa {P:Program} {f:FuncId} {args:Array Value} {w:World} {R:Ending→World→Prop} (S:World→Prop) (h:S w) (k:∀ W,S W→Calls P f args W R):Calls P f args w R:=k w h
theorem ah {P:Program} {c:Code} {Q:Exit→Act→World→Prop} {a:Act} {w:World} (S:World→Prop) (h:S w) (k:∀ W,S W→c.wp P Q a W):c.wp P Q a w:=k w h
def ai (W:World) (b n:Nat):Prop:=∀ i,i<n→W.frozen? ⟨b,i,none⟩=false
theorem ai.keep {W w1:World} {b n:Nat} (h:ai W b n) (hb:Below W.heap.size W w1) (hlt:b<W.heap.size):ai w1 b n:=fun i hi=>by rw [hb.frozen (p:=⟨b,i,none⟩) hlt];exact h i hi
theorem ai.alloc {W:World} {b n:Nat} (h:ai W b n) (hlt:b<W.heap.size) (o:Obj):ai (W.alloc o) b n:=h.keep ((Below.refl _ _).alloc (Nat.le_refl _) o) hlt
theorem ai.drew {W:World} {b n:Nat} (h:ai W b n):ai W.drew b n:=h
theorem ai.set {W:World} {b n:Nat} (h:ai W b n) (p:Addr) (v:Value):ai (W.setCell p v) b n:=fun i hi=>by rw [World.frozen?_setCell];exact h i hi
theorem ai.setCells {W:World} {b n:Nat} (h:ai W b n) (b' o:Nat) (cs:List Value):ai (W.setCells b' o cs) b n:=fun i hi=>by rw [World.frozen?_setCells];exact h i hi
theorem ai.new {W:World} {b:Nat} (cs:Array Value) (t:TypeId) (n:Nat) (e:b=W.heap.size):ai (W.alloc (.cells cs t)) b n:=by
 subst e
 intro i _
 simp [go_sem]
structure Off (b:Nat) (w w':World):Prop where
 os:w'.os=w.os
 tape:w'.tape=w.tape
 output:w'.output=w.output
 size:w.heap.size≤w'.heap.size
 block:∀ k,k<w.heap.size→k≠b→w'.heap[k]?=w.heap[k]?
theorem Off.of_below {b:Nat} {w w':World} (h:Below w.heap.size w w'):Off b w w':=⟨h.os,h.tape,h.output,h.size,fun k hk _=>h.block k hk⟩
theorem Off.trans {b:Nat} {w v u:World} (h:Off b w v) (k:Off b v u):Off b w u :=
 ⟨k.os.trans h.os,k.tape.trans h.tape,k.output.trans h.output,Nat.le_trans h.size k.size,fun i hi hb=>(k.block i (Nat.lt_of_lt_of_le hi h.size) hb).trans (h.block i hi hb)⟩
theorem Off.below {b B:Nat} {w w':World} (h:Off b w w') (h1:B≤w.heap.size) (h2:B≤b):Below B w w':=⟨h.os,h.tape,h.output,h.size,fun k hk=>h.block k (by omega) (by omega)⟩
theorem Off.refl (b:Nat) (w:World):Off b w w:=⟨rfl,rfl,rfl,Nat.le_refl _,fun _ _ _=>rfl⟩
theorem Off.setCell {b i:Nat} {w w':World} (h:Off b w w') (v:Value):Off b w (w'.setCell ⟨b,i,none⟩ v) :=
 h.trans ⟨rfl,rfl,rfl,by simp [World.setCell],fun k _ hb=>Below.heap_setCell _ _ _ _ (by simpa using hb)⟩
theorem Off.drew {b:Nat} {w w':World} (h:Off b w w'):Off b w w'.drew:=⟨h.os,h.tape,h.output,h.size,h.block⟩
theorem Off.cell {b:Nat} {w w':World} (h:Off b w w') {p:Addr} (hp:p.block≠b) {v:Value} (hv:w.cell? p=some v):w'.cell? p=some v:=by
 have lt:=World.block_lt_of_cell? w p hv
 rw [World.cell?_of_block (h.block p.block lt hp)];exact hv
theorem aF {P:Program} {ops:Array Oper} {Q:Exit→Act→World→Prop} {rest:List Oper} {a:Act} {w:World} (S:World→Prop) (h:S w) (k:∀ W,S W→wpList P ops Q rest a W):wpList P ops Q rest a w:=k w h
theorem jX:∃ f:BitVec 8→Int,∀ x,f x=(x.toNat:Int):=⟨_,fun _=>rfl⟩
noncomputable def Y:BitVec 8→Int:=Classical.choose jX
theorem Y_eq (x:BitVec 8):Y x=(x.toNat:Int):=Classical.choose_spec jX x
theorem Y_lo (x:BitVec 8):0≤Y x:=by rw [Y_eq];omega
theorem Y_hi (x:BitVec 8):Y x<256:=by rw [Y_eq];have:=x.isLt;omega
noncomputable def byts (M:List (BitVec 8)):List Value:=M.map fun x=>.int .u8 (Y x)
theorem byts_len (M:List (BitVec 8)):(byts M).length=M.length:=by simp [byts]
theorem one_byts (M:List (BitVec 8)):(byts M).toArray.all (·.oneCell')=true:=all_oneCell_toArray (by
 intro v hv
 obtain ⟨x,_,rfl⟩:=List.mem_map.1 hv
 rfl)
theorem Y_zero:Y 0=0:=by rw [Y_eq];rfl
def Hsh (W:World) (b:Nat) (M:List (BitVec 8)):Prop:=M.length=32∧(∀ i,i<32→W.cell? ⟨b,i,none⟩=some (.int .u8 (Y (M.getD i 0))))∧ai W b 32
theorem Hsh.lt {W:World} {b:Nat} {M:List (BitVec 8)} (h:Hsh W b M):b<W.heap.size:=World.block_lt_of_cell? W ⟨b,0,none⟩ (h.2.1 0 (by decide))
theorem Hsh.keep {W w1:World} {b:Nat} {M:List (BitVec 8)} (h:Hsh W b M) (hb:Below W.heap.size W w1):Hsh w1 b M:=⟨h.1,fun i hi=>cell_keep hb (h.2.1 i hi),h.2.2.keep hb h.lt⟩
theorem Hsh.alloc {W:World} {b:Nat} {M:List (BitVec 8)} (h:Hsh W b M) (o:Obj):Hsh (W.alloc o) b M:=h.keep ((Below.refl _ _).alloc (Nat.le_refl _) o)
theorem Hsh.drew {W:World} {b:Nat} {M:List (BitVec 8)} (h:Hsh W b M):Hsh W.drew b M:=h
theorem Hsh.other {W:World} {b b' i:Nat} {M:List (BitVec 8)} (h:Hsh W b M) (ne:b'≠b) (v:Value):Hsh (W.setCell ⟨b',i,none⟩ v) b M:=⟨h.1,fun j hj=>by rw [World.cell?_setCell_far _ _ _ _ ne];exact h.2.1 j hj,h.2.2.set _ _⟩
theorem Hsh.otherCells {W:World} {b b' o:Nat} {M:List (BitVec 8)} (h:Hsh W b M) (ne:b'≠b) (cs:List Value):Hsh (W.setCells b' o cs) b M:=⟨h.1,fun j hj=>by rw [World.cell?_setCells_out _ _ _ _ _ (fun e=>absurd e.symm ne)];exact h.2.1 j hj,h.2.2.setCells _ _ _⟩
theorem Hsh.set {W:World} {b:Nat} {M:List (BitVec 8)} (h:Hsh W b M) (i:Nat) (hi:i<32) (v:BitVec 8):Hsh (W.setCell ⟨b,i,none⟩ (.int .u8 (Y v))) b (M.set i v):=by
 refine ⟨by rw [List.length_set];exact h.1,fun j hj=>?_,h.2.2.set _ _⟩
 by_cases e:i=j
 ·subst e
  rw [World.cell?_setCell_same _ _ _ (h.2.1 i hi)]
  simp [List.getD,h.1,hi]
 ·have ne:(⟨b,i,none⟩:Addr)≠⟨b,j,none⟩:=by first|(simp;done)|(simp;omega)
  rw [World.cell?_setCell_other _ _ _ _ ne,h.2.1 j hj]
  simp [List.getD,List.getElem?_set_ne e]
theorem Hsh.range {W:World} {b:Nat} {M:List (BitVec 8)} (h:Hsh W b M):W.rangeAt b 0 (byts M):=by
 intro j v hv
 unfold byts at hv
 rw [List.getElem?_map] at hv
 obtain ⟨x,hx,rfl⟩:=Option.map_eq_some_iff.1 hv
 have hj:j<M.length:=(List.getElem?_eq_some_iff.1 hx).1
 rw [Nat.zero_add,h.2.1 j (by rw [←h.1];exact hj)]
 simp [List.getD,hx]
theorem Hsh.there {W:World} {b:Nat} {M:List (BitVec 8)} (h:Hsh W b M):W.there b 0 32:=by
 intro j hj
 rw [Nat.zero_add]
 exact ⟨by rw [h.2.1 j hj];rfl,h.2.2 j hj⟩
theorem Hsh.new {W:World} {b:Nat} {M:List (BitVec 8)} (hl:M.length=32) (t:TypeId) (e:b=W.heap.size):Hsh (W.alloc (.cells (byts M).toArray t)) b M:=by
 refine ⟨hl,fun i hi=>?_,ai.new _ _ _ e⟩
 subst e
 rw [World.cell?_alloc_mark]
 simp [byts,List.getD,show i<M.length by omega]
theorem Hsh.zeros {W:World} {b:Nat} (t:TypeId) (e:b=W.heap.size):Hsh (W.alloc (.cells #[.int .u8 0,.int .u8 0,.int .u8 0,.int .u8 0,.int .u8 0,.int .u8 0,.int .u8 0,.int .u8 0,.int .u8 0,.int .u8 0,.int .u8 0,.int .u8 0,.int .u8 0,.int .u8 0,.int .u8 0,.int .u8 0,.int .u8 0,.int .u8 0,.int .u8 0,.int .u8 0,.int .u8 0,.int .u8 0,.int .u8 0,.int .u8 0,.int .u8 0,.int .u8 0,.int .u8 0,.int .u8 0,.int .u8 0,.int .u8 0,.int .u8 0,.int .u8 0] t)) b (List.replicate 32 0):=by
 have h:Y 0#8=0:=Y_zero
 have z:(byts (List.replicate 32 0)).toArray=#[.int .u8 0,.int .u8 0,.int .u8 0,.int .u8 0,.int .u8 0,.int .u8 0,.int .u8 0,.int .u8 0,.int .u8 0,.int .u8 0,.int .u8 0,.int .u8 0,.int .u8 0,.int .u8 0,.int .u8 0,.int .u8 0,.int .u8 0,.int .u8 0,.int .u8 0,.int .u8 0,.int .u8 0,.int .u8 0,.int .u8 0,.int .u8 0,.int .u8 0,.int .u8 0,.int .u8 0,.int .u8 0,.int .u8 0,.int .u8 0,.int .u8 0,.int .u8 0]:=by simp [byts,List.replicate,h]
 rw [←z]
 exact Hsh.new (by simp) _ e
theorem Hsh.stored {W:World} {b:Nat} {M T:List (BitVec 8)} (h:Hsh W b T) (hl:M.length=32):Hsh (W.setCells b 0 (byts M)) b M:=by
 refine ⟨hl,fun i hi=>?_,h.2.2.setCells _ _ _⟩
 have:=World.rangeAt_setCells_same W b 0 (byts M) (by rw [byts_len,hl];exact h.there) i (.int .u8 (Y (M.getD i 0))) (by simp [byts,List.getD,show i<M.length by omega])
 rwa [Nat.zero_add] at this
theorem da {X:List (BitVec 8)} {i:Nat} (h:i<X.length):X.take (i+1)=X.take i++[X.getD i 0]:=by
 rw [List.take_add_one,List.getD,List.getElem?_eq_getElem h]
 rfl
def Byo (W:World) (b o:Nat) (X:List (BitVec 8)):Prop:=∀ i,i<X.length→W.cell? ⟨b,o+i,none⟩=some (.int .u8 (Y (X.getD i 0)))
theorem Byo.keep {W w1:World} {b o:Nat} {X:List (BitVec 8)} (h:Byo W b o X) (hb:Below W.heap.size W w1):Byo w1 b o X:=fun i hi=>cell_keep hb (h i hi)
theorem Byo.off {b b' o:Nat} {w w':World} {X:List (BitVec 8)} (h:Byo w b o X) (ho:Off b' w w') (ne:b≠b'):Byo w' b o X:=fun i hi=>ho.cell ne (h i hi)
theorem Byo.drop {W:World} {b o n:Nat} {X:List (BitVec 8)} (h:Byo W b o X):Byo W b (o+n) (X.drop n):=fun i hi=>by
 rw [List.length_drop] at hi
 have:=h (n+i) (by omega)
 rw [show o+n+i=o+(n+i) by omega,this]
 simp [List.getD,List.getElem?_drop]
theorem Off.setCells {b o:Nat} {w w':World} (h:Off b w w') (cs:List Value):Off b w (w'.setCells b o cs):=by
 have:=below_setCells (B:=0) (a:=w') (Nat.zero_le b) cs o w' (Below.refl _ _)
 refine h.trans ⟨this.os,this.tape,this.output,this.size,fun k hk hb=>World.heap_setCells_other _ _ _ _ hk hb⟩
def At (a:Option Addr) (b o:Nat) (X:List (BitVec 8)):Prop:=X=[]∨a=some ⟨b,o,none⟩
structure Part where
 a:Option Addr
 b:Nat
 o:Nat
 c:Nat
 X:List (BitVec 8)
def Part.none:Part:=⟨.none,0,0,0,[]⟩
def Part.val (p:Part):Value:=.slice p.a p.X.length p.c
def Part.ok (W:World) (p:Part):Prop:=At p.a p.b p.o p.X∧p.X.length≤p.c∧Byo W p.b p.o p.X
def Prts (W:World) (b o:Nat) (PS:List Part):Prop:=∀ i,i<PS.length→W.cell? ⟨b,o+i,none⟩=some (PS.getD i .none).val∧(PS.getD i .none).ok W
def catX (PS:List Part):List (BitVec 8):=PS.flatMap (·.X)
theorem ga {PS:List Part} {i:Nat} (h:i<PS.length):catX (PS.take (i+1))=catX (PS.take i)++(PS.getD i .none).X:=by
 rw [List.take_add_one,catX,List.flatMap_append,List.getD,List.getElem?_eq_getElem h]
 simp [catX]
theorem j7 {PS:List Part} (i:Nat):(catX (PS.take i)).length≤(catX PS).length:=by
 have h:catX PS=catX (PS.take i)++catX (PS.drop i):=by
  rw [catX,catX,catX,←List.flatMap_append,List.take_append_drop]
 rw [h,List.length_append]
 omega
theorem Hsh.off {w w':World} {a b:Nat} {M:List (BitVec 8)} (h:Hsh w a M) (o:Off b w w') (ne:a≠b):Hsh w' a M :=
 ⟨h.1,fun i hi=>o.cell ne (h.2.1 i hi),fun i hi=>by rw [World.frozen?_of_block (o.block a h.lt ne)];exact h.2.2 i hi⟩
theorem dE:(Tryz.prog.info? 5).map (fun i=>(i.zero,i.size,i.bytes))=some (some (.int .u8 0),1,1):=by kernel_rfl
theorem ig {P:Program} (w:World) {ops:Array Oper} {rest:List Oper} {o:Oper} {a:Act} {Q:Exit→Act→World→Prop}
  (hg:o.guard=none) (l c:Operand) (t:TypeId) (hop:o.op=Op.makeSlice t l c)
  (e:TypeId) (i:TypeInfo) (z:Value) (ht:P.underlying t=some (.slice e)) (hi:P.info? e=some i) (hz:i.zero=some z) (hsize:i.size=1) (hz1:z.cells=#[z]) (hby:i.bytes=1)
  (kl kc:IntKind) (L C:Int) (n m:Nat) (hl:a.eval l = .int kl L) (hc:a.eval c = .int kc C) (eL:L=(n:Int)) (eC:C=(m:Int)) (hnm:n≤m) (hm:m≤281474976710656)
  (hK:wpList P ops Q rest (a.put o.dst (.slice (some ⟨w.heap.size,0,none⟩) n m)) (w.alloc (.cells (madeCells #[z] m) e))) :
  wpList P ops Q (o :: rest) a w:=by
 subst eL eC
 refine wpList_plain hg fun K hK'=>?_
 have hr:=run_make (P:=P) w t e i z ht hi hz kl kc n m (by omega) (by omega) (by rw [hby];omega) (by omega)
 simp only [Int.toNat_natCast,hsize,Nat.mul_one,hz1] at hr
 unfold Oper.wp
 simp [execOp,hop,hl,hc,hr,Result.andThen]
 exact hK' _ _ hK
def aJ (W:World) (g:Nat) (X:List (BitVec 8)):Prop:=Byo W g 0 X∧ai W g X.length
theorem aJ.set {W:World} {g:Nat} {X:List (BitVec 8)} (h:aJ W g X) (i:Nat) (hi:i<X.length) (v:BitVec 8):aJ (W.setCell ⟨g,i,none⟩ (.int .u8 (Y v))) g (X.set i v):=by
 refine ⟨fun j hj=>?_,by rw [List.length_set];exact h.2.set _ _⟩
 rw [List.length_set] at hj
 rw [Nat.zero_add]
 have hc:=h.1 j hj
 rw [Nat.zero_add] at hc
 by_cases e:i=j
 ·subst e
  rw [World.cell?_setCell_same _ _ _ hc]
  simp [List.getD,hi]
 ·have ne:(⟨g,i,none⟩:Addr)≠⟨g,j,none⟩:=by first|(simp;done)|(simp;omega)
  rw [World.cell?_setCell_other _ _ _ _ ne,hc]
  simp [List.getD,List.getElem?_set_ne e]
theorem mR (n:Nat):madeCells #[Value.int .u8 0] n=(List.replicate n (Value.int .u8 0)).toArray:=by
 have:=toList_madeCells_one (Value.int .u8 0) n
 apply Array.toList_inj.1
 rw [this]
theorem qu (w:World) (o:Obj):(w.alloc o).heap[w.heap.size]?=some o:=by
 show (w.heap.push o)[w.heap.size]?=some o
 simp
def Own (B:Nat) (W:World) (v:Value) (X:List (BitVec 8)):Prop:=W.ownsRow B 5 1 v X.length (byts X)
theorem Own.row {B:Nat} {W:World} {v:Value} {X:List (BitVec 8)} (h:Own B W v X):W.ownsRow B 5 1 v X.length (byts X):=h
theorem mS (X:List (BitVec 8)) (i:Nat) (x:BitVec 8):(byts X).set i (.int .u8 (Y x))=byts (X.set i x):=by simp [byts,List.map_set]
theorem un (p:Part):catX [p]=p.X:=by simp [catX]
theorem Byo.far {W:World} {b b' o i:Nat} {v:Value} {X:List (BitVec 8)} (h:Byo W b o X) (ne:b'≠b):Byo (W.setCell ⟨b',i,none⟩ v) b o X:=fun j hj=>by rw [World.cell?_setCell_far _ _ _ _ ne];exact h j hj
theorem aJ.keep {W w1:World} {g:Nat} {X:List (BitVec 8)} (h:aJ W g X) (hb:Below W.heap.size W w1) (hl:g<W.heap.size):aJ w1 g X:=⟨h.1.keep hb,h.2.keep hb hl⟩
theorem aJ.far {W:World} {b' g i:Nat} {v:Value} {X:List (BitVec 8)} (h:aJ W g X) (ne:b'≠g):aJ (W.setCell ⟨b',i,none⟩ v) g X:=⟨h.1.far ne,h.2.set _ _⟩
theorem cg {P:Program} {C:World→Prop} {a:Act} {o:Oper} {K:Act→Prop} (ty:TypeId) (x:Operand) (ho:o.op = .load ty x)
  (b f:Nat) (hx:a.eval x = .pointer (some ⟨b,f,none⟩)) (cs:List Value) (d:TypeDesc) (hS:∀ w,C w→w.rangeAt b f cs)
  (hu:P.underlying ty=some d) (hd:d.isRow=true) (hi:(P.info? ty).map (·.size)=some cs.length) (h:K (a.put o.dst (.agg cs.toArray))):o.quiet P a C K :=
 ⟨.agg cs.toArray,fun w hw=>by
  unfold Oper.quietAt execOp
  simp only [ho,hx,Instr.loadAt,Instr.sureAddr,Sem.run_bind,Sem.run_pure,Result.andThen_ok,run_loadVar_mid w b f ty cs d (hS w hw) hu hd hi]
  exact ⟨rfl,rfl⟩,h⟩
open Go.RowKit Go.Sort
theorem uo:∃ f:BitVec 32→Int,∀ x,f x=(x.toNat:Int):=⟨_,fun _=>rfl⟩
noncomputable def U:BitVec 32→Int:=Classical.choose uo
theorem eG (x:BitVec 32):U x=(x.toNat:Int):=Classical.choose_spec uo x
theorem rz (x:BitVec 32):0≤U x:=by rw [eG];omega
theorem rA (x:BitVec 32):U x<4294967296:=by rw [eG];have:=x.isLt;omega
theorem tc:U 0=0:=by rw [eG];rfl
theorem jq (x y:BitVec 32):bits .xor .u32 (U x) (U y)=U (x ^^^ y):=by
 rw [eG,eG,eG,u32_xor_nat _ _ (by have:=x.isLt;omega) (by have:=y.isLt;omega),BitVec.toNat_xor]
theorem rB (x y:BitVec 32):bits .and .u32 (U x) (U y)=U (x &&& y):=by
 rw [eG,eG,eG,u32_and_nat _ _ (by have:=x.isLt;omega) (by have:=y.isLt;omega),BitVec.toNat_and]
theorem DN (x y:BitVec 32):bits .or .u32 (U x) (U y)=U (x ||| y):=by
 rw [eG,eG,eG,u32_or_nat _ _ (by have:=x.isLt;omega) (by have:=y.isLt;omega),BitVec.toNat_or]
theorem DO:IntKind.u32.max=U (BitVec.allOnes 32):=by rw [eG];decide
theorem DP (x:BitVec 32):bits .xor .u32 IntKind.u32.max (U x)=U (~~~x):=by
 rw [DO,jq,BitVec.allOnes_xor]
theorem DQ (x y:BitVec 32):IntKind.u32.wrap (U x+U y)=U (x+y):=by
 rw [IntKind.wrap_u32',eG,eG,eG,BitVec.toNat_add]
 simp
theorem yM (x:BitVec 32) (n:Nat):U x/2 ^ n=U (x >>> n):=by
 rw [eG,eG,BitVec.toNat_ushiftRight,Nat.shiftRight_eq_div_pow]
 simp
theorem BN (x:BitVec 32) (n:Nat):IntKind.u32.wrap (U x*2 ^ n)=U (x <<< n):=by
 rw [IntKind.wrap_u32',eG,eG,BitVec.toNat_shiftLeft,Nat.shiftLeft_eq]
 simp
def wide (x:BitVec 8):BitVec 32:=x.setWidth 32
theorem CJ (x:BitVec 8):Y x=U (wide x):=by
 have hx:=x.isLt
 rw [Y_eq,eG,wide,BitVec.toNat_setWidth,Nat.mod_eq_of_lt (by omega)]
def rC (x:BitVec 32) (n:Nat):BitVec 8:=(x >>> n).setWidth 8
theorem DR (x:BitVec 32) (n:Nat):IntKind.u8.wrap (U x/2 ^ n)=Y (rC x n):=by
 rw [IntKind.wrap_u8',eG,Y_eq,rC,BitVec.toNat_setWidth,BitVec.toNat_ushiftRight,Nat.shiftRight_eq_div_pow]
 simp
def dB (x:BitVec 32) (n:Nat):BitVec 32:=x >>> n ||| x <<< (32-n)
theorem CQ (x:BitVec 32) (n:Nat):bits .or .u32 (IntKind.u32.wrap (U x*2 ^ (32-n))) (U x/2 ^ n)=U (dB x n):=by
 rw [BN,yM,DN,dB,BitVec.or_comm]
theorem DS (x y:BitVec 8):bits .xor .u8 (Y x) (Y y)=Y (x ^^^ y):=by
 rw [Y_eq,Y_eq,Y_eq,u8_xor_nat _ _ (by have:=x.isLt;omega) (by have:=y.isLt;omega),BitVec.toNat_xor]
noncomputable def aW (L:List (BitVec 32)):List Value:=L.map fun x=>.int .u32 (U x)
theorem bO (L:List (BitVec 32)):(aW L).length=L.length:=by simp [aW]
theorem iL (L:List (BitVec 32)):(aW L).toArray.all (·.oneCell')=true:=all_oneCell_toArray (by
 intro v hv
 obtain ⟨x,_,rfl⟩:=List.mem_map.1 hv
 rfl)
def Wds (W:World) (b o:Nat) (L:List (BitVec 32)):Prop:=∀ i,i<L.length→W.cell? ⟨b,o+i,none⟩=some (.int .u32 (U (L.getD i 0)))
theorem Wds.lt {W:World} {b o:Nat} {L:List (BitVec 32)} (h:Wds W b o L) (hl:0<L.length):b<W.heap.size:=World.block_lt_of_cell? W ⟨b,o+0,none⟩ (h 0 hl)
theorem Wds.keep {W w1:World} {b o:Nat} {L:List (BitVec 32)} (h:Wds W b o L) (hb:Below W.heap.size W w1):Wds w1 b o L:=fun i hi=>cell_keep hb (h i hi)
theorem Wds.alloc {W:World} {b o:Nat} {L:List (BitVec 32)} (h:Wds W b o L) (x:Obj):Wds (W.alloc x) b o L:=h.keep ((Below.refl _ _).alloc (Nat.le_refl _) x)
theorem Wds.other {W:World} {b b' o i:Nat} {L:List (BitVec 32)} (h:Wds W b o L) (ne:b'≠b) (v:Value):Wds (W.setCell ⟨b',i,none⟩ v) b o L:=fun j hj=>by rw [World.cell?_setCell_far _ _ _ _ ne];exact h j hj
theorem Wds.otherCells {W:World} {b b' o p:Nat} {L:List (BitVec 32)} (h:Wds W b o L) (ne:b'≠b) (cs:List Value):Wds (W.setCells b' p cs) b o L:=fun j hj=>by
 rw [World.cell?_setCells_out _ _ _ _ _ (fun e=>absurd e.symm ne)];exact h j hj
theorem Wds.off {b a o:Nat} {w w':World} (h:Off b w w') {L:List (BitVec 32)} (ne:a≠b) (hL:Wds w a o L):Wds w' a o L:=fun i hi=>h.cell ne (hL i hi)
theorem Wds.set {W:World} {b o:Nat} {L:List (BitVec 32)} (h:Wds W b o L) (i:Nat) (hi:i<L.length) (v:BitVec 32):Wds (W.setCell ⟨b,o+i,none⟩ (.int .u32 (U v))) b o (L.set i v):=by
 intro j hj
 simp at hj
 by_cases e:i=j
 ·subst e
  rw [World.cell?_setCell_same _ _ _ (h i hi)]
  simp [List.getD,hi]
 ·have ne:(⟨b,o+i,none⟩:Addr)≠⟨b,o+j,none⟩:=by first|(simp;done)|(simp;omega)
  rw [World.cell?_setCell_other _ _ _ _ ne,h j hj]
  simp [List.getD,List.getElem?_set_ne e]
theorem Wds.range {W:World} {b o:Nat} {L:List (BitVec 32)} (h:Wds W b o L):W.rangeAt b o (aW L):=by
 intro j v hv
 unfold aW at hv
 rw [List.getElem?_map] at hv
 obtain ⟨x,hx,rfl⟩:=Option.map_eq_some_iff.1 hv
 have hj:j<L.length:=(List.getElem?_eq_some_iff.1 hx).1
 rw [h j hj]
 simp [List.getD,hx]
theorem Wds.of_range {W:World} {b o:Nat} {L:List (BitVec 32)} (h:W.rangeAt b o (aW L)):Wds W b o L:=fun j hj=>h j (.int .u32 (U (L.getD j 0))) (by simp [aW,List.getD,hj])
theorem Wds.new {W:World} {b:Nat} (L:List (BitVec 32)) (t:TypeId) (e:b=W.heap.size):Wds (W.alloc (.cells (aW L).toArray t)) b 0 L:=by
 subst e
 intro i hi
 rw [World.cell?_alloc_mark]
 simp [aW,List.getElem?_map,List.getD,List.getElem?_eq_getElem hi]
def Lse (W:World) (b o n:Nat):Prop:=∀ i,i<n→W.frozen? ⟨b,o+i,none⟩=false
theorem Wds.there {W:World} {b o n:Nat} {L:List (BitVec 32)} (h:Wds W b o L) (f:Lse W b o n) (e:L.length=n):W.there b o n:=by
 subst e
 intro j hj
 exact ⟨by rw [h j hj];rfl,f j hj⟩
theorem Wds.stored {W:World} {b o:Nat} {L:List (BitVec 32)} (h:W.there b o L.length):Wds (W.setCells b o (aW L)) b o L :=
 Wds.of_range (World.rangeAt_setCells_same _ _ _ _ (by rw [bO];exact h))
theorem ai.lse {W:World} {b n:Nat} (h:ai W b n):Lse W b 0 n:=fun i hi=>by rw [Nat.zero_add];exact h i hi
open Go.RowKit Go.Sort
structure St where
 a:BitVec 32
 b:BitVec 32
 c:BitVec 32
 d:BitVec 32
 e:BitVec 32
 f:BitVec 32
 g:BitVec 32
 h:BitVec 32
def tri (x:BitVec 32) (i j k:Nat):BitVec 32:=dB x i ^^^ dB x j ^^^ dB x k
def sml (x:BitVec 32) (i j k:Nat):BitVec 32:=dB x i ^^^ dB x j ^^^ x >>> k
def chs (e f g:BitVec 32):BitVec 32:=(e &&& f) ^^^ (~~~e &&& g)
def maj (a b c:BitVec 32):BitVec 32:=(a &&& b) ^^^ (a &&& c) ^^^ (b &&& c)
def AZ (s:St) (k w:BitVec 32):BitVec 32:=s.h+tri s.e 6 11 25+chs s.e s.f s.g+k+w
def CR (s:St):BitVec 32:=tri s.a 2 13 22+maj s.a s.b s.c
def rnd (s:St) (k w:BitVec 32):St:=⟨AZ s k w+CR s,s.a,s.b,s.c,s.d+AZ s k w,s.e,s.f,s.g⟩
def fU (K Wd:List (BitVec 32)) (s:St):Nat→St
 | 0=>s
 | n+1=>rnd (fU K Wd s n) (K.getD n 0) (Wd.getD n 0)
def CU (L:List (BitVec 32)) (i:Nat) (x:BitVec 8):List (BitVec 32):=L.set (i/4) (L.getD (i/4) 0 <<< 8 ||| wide x)
theorem yN (L:List (BitVec 32)) (i:Nat) (x:BitVec 8):(CU L i x).length=L.length:=by simp [CU]
def puts (B:List (BitVec 8)):Nat→List (BitVec 32)
 | 0=>List.replicate 64 0
 | n+1=>CU (puts B n) n (B.getD n 0)
theorem rD (B:List (BitVec 8)):∀ n,(puts B n).length=64
 | 0=>by simp [puts]
 | n+1=>by rw [puts,yN,rD B n]
def yO (M:List (BitVec 32)) (t:Nat):BitVec 32:=sml (M.getD (t-2) 0) 17 19 10+M.getD (t-7) 0+sml (M.getD (t-15) 0) 7 18 3+M.getD (t-16) 0
def fi (L:List (BitVec 32)):Nat→List (BitVec 32)
 | 0=>L
 | n+1=>(fi L n).set (16+n) (yO (fi L n) (16+n))
theorem rE (L:List (BitVec 32)):∀ n,(fi L n).length=L.length
 | 0=>rfl
 | n+1=>by rw [fi,List.length_set,rE L n]
def cR (B:List (BitVec 8)):List (BitVec 32):=fi (puts B 64) 48
theorem fF (B:List (BitVec 8)):(cR B).length=64:=by rw [cR,rE,rD]
def hN:List (BitVec 32):=[0x6a09e667,0xbb67ae85,0x3c6ef372,0xa54ff53a,0x510e527f,0x9b05688c,0x1f83d9ab,0x5be0cd19]
def kN:List (BitVec 32):=[
 0x428a2f98,0x71374491,0xb5c0fbcf,0xe9b5dba5,0x3956c25b,0x59f111f1,0x923f82a4,0xab1c5ed5,
 0xd807aa98,0x12835b01,0x243185be,0x550c7dc3,0x72be5d74,0x80deb1fe,0x9bdc06a7,0xc19bf174,
 0xe49b69c1,0xefbe4786,0x0fc19dc6,0x240ca1cc,0x2de92c6f,0x4a7484aa,0x5cb0a9dc,0x76f988da,
 0x983e5152,0xa831c66d,0xb00327c8,0xbf597fc7,0xc6e00bf3,0xd5a79147,0x06ca6351,0x14292967,
 0x27b70a85,0x2e1b2138,0x4d2c6dfc,0x53380d13,0x650a7354,0x766a0abb,0x81c2c92e,0x92722c85,
 0xa2bfe8a1,0xa81a664b,0xc24b8b70,0xc76c51a3,0xd192e819,0xd6990624,0xf40e3585,0x106aa070,
 0x19a4c116,0x1e376c08,0x2748774c,0x34b0bcb5,0x391c0cb3,0x4ed8aa4a,0x5b9cca4f,0x682e6ff3,
 0x748f82ee,0x78a5636f,0x84c87814,0x8cc70208,0x90befffa,0xa4506ceb,0xbef9a3f7,0xc67178f2]
def Eo (S:List (BitVec 32)):St:=⟨S.getD 0 0,S.getD 1 0,S.getD 2 0,S.getD 3 0,S.getD 4 0,S.getD 5 0,S.getD 6 0,S.getD 7 0⟩
def DT (S:List (BitVec 32)) (s:St):List (BitVec 32):=[S.getD 0 0+s.a,S.getD 1 0+s.b,S.getD 2 0+s.c,S.getD 3 0+s.d,S.getD 4 0+s.e,S.getD 5 0+s.f,S.getD 6 0+s.g,S.getD 7 0+s.h]
def jr (S:List (BitVec 32)) (B:List (BitVec 8)):List (BitVec 32):=DT S (fU kN (cR B) (Eo S) 64)
theorem pc (S:List (BitVec 32)) (B:List (BitVec 8)):(jr S B).length=8:=rfl
def blk (X:List (BitVec 8)) (n:Nat):List (BitVec 8):=(X.drop (64*n)).take 64
def nZ (X:List (BitVec 8)):Nat→List (BitVec 32)
 | 0=>hN
 | n+1=>jr (nZ X n) (blk X n)
theorem rF (X:List (BitVec 8)):∀ n,(nZ X n).length=8
 | 0=>rfl
 | _+1=>rfl
theorem Ba {X Z:List (BitVec 8)} {n:Nat} (h:64*n+64≤X.length):blk (X++Z) n=blk X n:=by
 rw [blk,blk,List.drop_append_of_le_length (by omega),List.take_append_of_le_length (by rw [List.length_drop];omega)]
theorem n8 {X Z:List (BitVec 8)}:∀ n,64*n≤X.length→nZ (X++Z) n=nZ X n
 | 0,_=>rfl
 | n+1,h=>by rw [nZ,nZ,n8 n (by omega),Ba (by omega)]
def kQ (S:List (BitVec 32)):List (BitVec 8):=(List.range 32).map fun i=>rC (S.getD (i/4) 0) (24-i%4*8)
theorem pd (S:List (BitVec 32)):(kQ S).length=32:=by simp [kQ]
theorem td (S:List (BitVec 32)) {i:Nat} (h:i<32):(kQ S).getD i 0=rC (S.getD (i/4) 0) (24-i%4*8):=by
 simp [kQ,List.getD,List.getElem?_map,List.getElem?_range h]
theorem wg {M:List (BitVec 8)} {S:List (BitVec 32)} (hl:M.length=32) (h:∀ i,i<32→M.getD i 0=rC (S.getD (i/4) 0) (24-i%4*8)):M=kQ S:=by
 apply List.ext_getElem (by rw [hl,pd])
 intro p h1 h2
 have e1:=h p (by omega)
 have e2:=td S (i:=p) (by omega)
 rw [List.getD,List.getElem?_eq_getElem h1] at e1
 rw [List.getD,List.getElem?_eq_getElem h2] at e2
 simp only [Option.getD_some] at e1 e2
 rw [e1,e2]
def zn (n:Nat):Nat:=(119-n%64)%64
def lb (n i:Nat):BitVec 8:=BitVec.ofNat 8 (8*n%18446744073709551616/2 ^ (56-8*i))
def lbs (n m:Nat):List (BitVec 8):=(List.range m).map (lb n)
theorem mI (n m:Nat):(lbs n m).length=m:=by simp [lbs]
theorem yP (n m:Nat):lbs n (m+1)=lbs n m++[lb n m]:=by simp [lbs,List.range_succ]
def lI (n:Nat):List (BitVec 8):=128 :: (List.replicate (zn n) 0++lbs n 8)
theorem kT (n:Nat):(lI n).length=zn n+9:=by simp [lI,mI]
theorem wi (n:Nat):(n+(lI n).length)%64=0:=by rw [kT,zn];omega
def mh (X:List (BitVec 8)):List (BitVec 8):=X++lI X.length
theorem wj (X:List (BitVec 8)):(mh X).length=X.length+(lI X.length).length:=by rw [mh,List.length_append]
def gl (X:List (BitVec 8)):List (BitVec 8):=kQ (nZ (mh X) ((mh X).length/64))
theorem shaL_len (X:List (BitVec 8)):(gl X).length=32:=pd _
end Go.Proofs.YtjoandmehahfgaaGreatDoor.S
