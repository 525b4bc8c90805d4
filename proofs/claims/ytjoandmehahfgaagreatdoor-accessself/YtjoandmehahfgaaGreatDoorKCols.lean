import Derived.Test.YtjoandmehahfgaaGreatDoorFNum
import Derived.Test.YtjoandmehahfgaaGreatDoorKPerm
import Derived.Test.YtjoandmehahfgaaGreatDoorTail
import Derived.Test.YtjoandmehahfgaaGreatDoorKBase
import Derived.Deep.Upon
import Derived.Test.YtjoandmehahfgaaGreatDoorAb
set_option maxRecDepth 100000
set_option maxHeartbeats 4000000
namespace Go.Proofs.YtjoandmehahfgaaGreatDoor.K
open Go.RowKit Go.Sort
def ar (W:World) (b:Nat) (C:List (BitVec 64)):Prop:=C.length=5∧Lns W b C∧ai W b 5
theorem ar.lt {W:World} {b:Nat} {C:List (BitVec 64)} (h:ar W b C):b<W.heap.size:=h.2.1.lt (by rw [h.1];decide)
theorem ar.keep {W w1:World} {b:Nat} {C:List (BitVec 64)} (h:ar W b C) (hb:Below W.heap.size W w1):ar w1 b C:=⟨h.1,h.2.1.keep hb,h.2.2.keep hb h.lt⟩
theorem ar.alloc {W:World} {b:Nat} {C:List (BitVec 64)} (h:ar W b C) (o:Obj):ar (W.alloc o) b C:=h.keep ((Below.refl _ _).alloc (Nat.le_refl _) o)
open Go.RowKit Go.Sort
theorem gE {L:List (BitVec 64)} (h:L.length=25):((aZ L).toArray).size=25:=by simp [bV,h]
open Go.RowKit Go.Sort
theorem cg {P:Program} {C:World→Prop} {a:Act} {o:Oper} {K:Act→Prop} (ty:TypeId) (x:Operand) (ho:o.op = .load ty x)
  (b f:Nat) (hx:a.eval x = .pointer (some ⟨b,f,none⟩)) (cs:List Value) (d:TypeDesc) (hS:∀ w,C w→w.rangeAt b f cs)
  (hu:P.underlying ty=some d) (hd:d.isRow=true) (hi:(P.info? ty).map (·.size)=some cs.length) (h:K (a.put o.dst (.agg cs.toArray))):o.quiet P a C K :=
 ⟨.agg cs.toArray,fun w hw=>by
  unfold Oper.quietAt execOp
  simp only [ho,hx,Instr.loadAt,Instr.sureAddr,Sem.run_bind,Sem.run_pure,Result.andThen_ok,run_loadVar_mid w b f ty cs d (hS w hw) hu hd hi]
  exact ⟨rfl,rfl⟩,h⟩
open Go.RowKit Go.Sort
theorem aF {P:Program} {ops:Array Oper} {Q:Exit→Act→World→Prop} {rest:List Oper} {a:Act} {w:World} (S:World→Prop) (h:S w) (k:∀ W,S W→wpList P ops Q rest a W):wpList P ops Q rest a w:=k w h
theorem iZ {W:World} {b:Nat} (e:b=W.heap.size):Arr (W.alloc (.cells #[.int .u64 0,.int .u64 0,.int .u64 0,.int .u64 0,.int .u64 0,.int .u64 0,.int .u64 0,.int .u64 0,.int .u64 0,.int .u64 0,.int .u64 0,.int .u64 0,.int .u64 0,.int .u64 0,.int .u64 0,.int .u64 0,.int .u64 0,.int .u64 0,.int .u64 0,.int .u64 0,.int .u64 0,.int .u64 0,.int .u64 0,.int .u64 0,.int .u64 0] 110)) b (List.replicate 25 0):=Arr.zeros _ e
open Go.RowKit Go.Sort
theorem jX:∃ f:BitVec 8→Int,∀ x,f x=(x.toNat:Int):=⟨_,fun _=>rfl⟩
noncomputable def Y:BitVec 8→Int:=Classical.choose jX
theorem Y_eq (x:BitVec 8):Y x=(x.toNat:Int):=Classical.choose_spec jX x
theorem Y_lo (x:BitVec 8):0≤Y x:=by rw [Y_eq];omega
theorem Y_hi (x:BitVec 8):Y x<256:=by rw [Y_eq];have:=x.isLt;omega
def up (x:BitVec 8) (n:Nat):BitVec 64:=(x.setWidth 64) <<< n
theorem Eb (x:BitVec 8) (n:Nat):IntKind.u64.wrap (Y x*2 ^ n)=V (up x n):=by
 have hx:=x.isLt
 rw [IntKind.wrap_u64,Y_eq,ji,up,BitVec.toNat_shiftLeft,BitVec.toNat_setWidth,Nat.shiftLeft_eq,Nat.mod_eq_of_lt (show x.toNat<2 ^ 64 by omega)]
 simp
def oy (a:BitVec 64) (n:Nat):BitVec 8:=(a >>> n).setWidth 8
theorem Ch (a:BitVec 64) (n:Nat):IntKind.u8.wrap (V a/2 ^ n)=Y (oy a n):=by
 rw [IntKind.wrap_u8',ji,Y_eq,oy,BitVec.toNat_setWidth,BitVec.toNat_ushiftRight,Nat.shiftRight_eq_div_pow]
 simp
def Lno (W:World) (b o:Nat) (L:List (BitVec 64)):Prop:=∀ i,i<L.length→W.cell? ⟨b,o+i,none⟩=some (.int .u64 (V (L.getD i 0)))
def f9 (L:List (BitVec 64)) (p:Nat) (x:BitVec 8):List (BitVec 64):=L.set (p/8) (L.getD (p/8) 0 ^^^ up x (p%8*8))
theorem qt (L:List (BitVec 64)) (p:Nat) (x:BitVec 8):(f9 L p x).length=L.length:=by simp [f9]
theorem jY {b o p:Nat} {z:BitVec 64} (x:BitVec 8) (hp:p<200) (w:World) (hz:w.cell? ⟨b,o+p/8,none⟩=some (.int .u64 (V z))) (hf:w.frozen? ⟨b,o+p/8,none⟩=false) :
  Calls Tryz.prog 105 #[.pointer (some ⟨b,o,none⟩),.int .i64 p,.int .u8 (Y x)] w fun e w'=>e = .returned (.tuple #[])∧w'=w.drew.setCell ⟨b,o+p/8,none⟩ (.int .u64 (V (z ^^^ up x (p%8*8)))):=by
 have hp':(p:Int)<200:=by omega
 have e1:((p:Int)/8).toNat=p/8:=by omega
 have e2:((p:Int)%8*8).toNat=p%8*8:=by omega
 have y0:=Y_lo x;have y1:=Y_hi x
 have v1:=Eb x (p%8*8)
 have v2:=bI z (up x (p%8*8))
 go_enter Tryz.func105,Tryz.ntmps105
 go_wp2_with fail
 refine aB 15 (by kernel_rfl) (by kernel_rfl) ?_
 simp only [List.take_succ_cons,List.take_zero,List.drop_succ_cons,List.drop_zero]
 repeat (first|go_big_quiet_skip|(go_big_quiet_want;go_big_quiet_op;go_big_quiet_on))
 refine wpQuiet_nil ?_
 go_wp2
 all_goals go_end0
 all_goals exact ⟨rfl,rfl⟩
open Go.RowKit Go.Sort
def dU (L:List (BitVec 64)) (p:Nat):List (BitVec 8)→List (BitVec 64)
 | []=>L
 | x :: X=>dU (f9 L p x) (p+1) X
theorem oP (L:List (BitVec 64)) (p:Nat) (x:BitVec 8):∀ X:List (BitVec 8),dU L p (X++[x])=f9 (dU L p X) (p+X.length) x
 | []=>rfl
 | y :: X=>by
  rw [List.cons_append,dU,dU,oP _ _ _ X]
  simp [Nat.add_assoc,Nat.add_comm 1]
theorem da {X:List (BitVec 8)} {i:Nat} (h:i<X.length):X.take (i+1)=X.take i++[X.getD i 0]:=by
 rw [List.take_add_one,List.getD,List.getElem?_eq_getElem h]
 rfl
theorem oQ {L:List (BitVec 64)} {p:Nat} {X:List (BitVec 8)} {i:Nat} (h:i<X.length):dU L p (X.take (i+1))=f9 (dU L p (X.take i)) (p+i) (X.getD i 0):=by
 rw [da h,oP,List.length_take,Nat.min_eq_left (by omega)]
def turn (L:List (BitVec 64)) (t:Nat):List (BitVec 64):=if t%136=0 then jt L else L
def absb (L:List (BitVec 64)) (t:Nat):List (BitVec 8)→List (BitVec 64)
 | []=>L
 | x :: X=>absb (turn (f9 L (t%136) x) (t+1)) (t+1) X
theorem ix (L:List (BitVec 64)):∀ (t:Nat) (X Z:List (BitVec 8)),absb L t (X++Z)=absb (absb L t X) (t+X.length) Z
 | t,[],Z=>rfl
 | t,x :: X,Z=>by
  rw [List.cons_append,absb,absb,ix _ (t+1) X Z]
  simp [Nat.add_assoc,Nat.add_comm 1]
theorem jx (L:List (BitVec 64)):∀ (t:Nat) (X:List (BitVec 8)),0<X.length→t%136+X.length≤136→absb L t X=turn (dU L (t%136) X) (t+X.length)
 | _,[],h,_=>absurd h (by simp)
 | t,[x],_,_=>by simp [absb,dU]
 | t,x :: y :: X,_,h=>by
  simp only [List.length_cons] at h
  have e1:turn (f9 L (t%136) x) (t+1)=f9 L (t%136) x:=by
   unfold turn
   rw [if_neg (by omega)]
  rw [absb,e1,jx _ (t+1) (y :: X) (by simp) (by simp only [List.length_cons];omega),show (t+1)%136=t%136+1 by omega]
  simp only [dU,List.length_cons]
  congr 1
  omega
def Sp (W:World) (b:Nat) (k:Int) (L:List (BitVec 64)) (t:Nat):Prop :=
 L.length=25∧W.cell? ⟨b,0,none⟩=some (.int .i64 k)∧Lno W b 1 L∧W.cell? ⟨b,26,none⟩=some (.int .i64 (t:Int))∧ai W b 27
theorem Sp.lt {W:World} {b:Nat} {k:Int} {L:List (BitVec 64)} {t:Nat} (h:Sp W b k L t):b<W.heap.size:=World.block_lt_of_cell? W ⟨b,0,none⟩ h.2.1
theorem Sp.keep {W w1:World} {b:Nat} {k:Int} {L:List (BitVec 64)} {t:Nat} (h:Sp W b k L t) (hb:Below W.heap.size W w1):Sp w1 b k L t :=
 ⟨h.1,cell_keep hb h.2.1,fun i hi=>cell_keep hb (h.2.2.1 i hi),cell_keep hb h.2.2.2.1,h.2.2.2.2.keep hb h.lt⟩
theorem Sp.alloc {W:World} {b:Nat} {k:Int} {L:List (BitVec 64)} {t:Nat} (h:Sp W b k L t) (o:Obj):Sp (W.alloc o) b k L t:=h.keep ((Below.refl _ _).alloc (Nat.le_refl _) o)
theorem Sp.drew {W:World} {b:Nat} {k:Int} {L:List (BitVec 64)} {t:Nat} (h:Sp W b k L t):Sp W.drew b k L t:=h
theorem Sp.taken {W:World} {b:Nat} {k:Int} {L:List (BitVec 64)} {t:Nat} (h:Sp W b k L t) (t':Nat):Sp (W.setCell ⟨b,26,none⟩ (.int .i64 (t':Int))) b k L t':=by
 have ne:∀ i,i<26→(⟨b,26,none⟩:Addr)≠⟨b,i,none⟩:=fun i hi=>by first|(simp;done)|(simp;omega)
 refine ⟨h.1,?_,fun j hj=>?_,?_,h.2.2.2.2.set _ _⟩
 ·rw [World.cell?_setCell_other _ _ _ _ (ne 0 (by decide))];exact h.2.1
 ·rw [World.cell?_setCell_other _ _ _ _ (ne (1+j) (by have:=h.1;omega))];exact h.2.2.1 j hj
 ·exact World.cell?_setCell_same _ _ _ h.2.2.2.1
theorem Sp.mix {W:World} {b:Nat} {k:Int} {L:List (BitVec 64)} {t:Nat} (h:Sp W b k L t) {p:Nat} (hp:p<136) (x:BitVec 8) :
  Sp (W.setCell ⟨b,1+p/8,none⟩ (.int .u64 (V (L.getD (p/8) 0 ^^^ up x (p%8*8))))) b k (f9 L p x) t:=by
 have hl:=h.1
 have ne:∀ i,i≠1+p/8→(⟨b,1+p/8,none⟩:Addr)≠⟨b,i,none⟩:=fun i hi=>by first|(simp;done)|(simp;omega)
 refine ⟨by rw [qt];exact h.1,?_,fun j hj=>?_,?_,h.2.2.2.2.set _ _⟩
 ·rw [World.cell?_setCell_other _ _ _ _ (ne 0 (by omega))];exact h.2.1
 ·rw [qt] at hj
  by_cases e:j=p/8
  ·subst e
   rw [World.cell?_setCell_same _ _ _ (h.2.2.1 _ hj)]
   simp [f9,List.getD,hj]
  ·rw [World.cell?_setCell_other _ _ _ _ (ne (1+j) (by omega)),h.2.2.1 j hj]
   simp [f9,List.getD,List.getElem?_set_ne (Ne.symm e)]
 ·rw [World.cell?_setCell_other _ _ _ _ (ne 26 (by omega))];exact h.2.2.2.1
open Go.RowKit Go.Sort
noncomputable def byts (M:List (BitVec 8)):List Value:=M.map fun x=>.int .u8 (Y x)
theorem byts_len (M:List (BitVec 8)):(byts M).length=M.length:=by simp [byts]
theorem one_byts (M:List (BitVec 8)):(byts M).toArray.all (·.oneCell')=true:=all_oneCell_toArray (by
 intro v hv
 obtain ⟨x,_,rfl⟩:=List.mem_map.1 hv
 rfl)
theorem Y_zero:Y 0=0:=by rw [Y_eq];rfl
def Hsh (W:World) (b:Nat) (M:List (BitVec 8)):Prop:=M.length=32∧(∀ i,i<32→W.cell? ⟨b,i,none⟩=some (.int .u8 (Y (M.getD i 0))))∧ai W b 32
theorem Hsh.lt {W:World} {b:Nat} {M:List (BitVec 8)} (h:Hsh W b M):b<W.heap.size:=World.block_lt_of_cell? W ⟨b,0,none⟩ (h.2.1 0 (by decide))
theorem Hsh.keep {W w1:World} {b:Nat} {M:List (BitVec 8)} (h:Hsh W b M) (hb:Below W.heap.size W w1):Hsh w1 b M:=⟨h.1,fun i hi=>cell_keep hb (h.2.1 i hi),h.2.2.keep hb h.lt⟩
theorem Hsh.alloc {W:World} {b:Nat} {M:List (BitVec 8)} (h:Hsh W b M) (o:Obj):Hsh (W.alloc o) b M:=h.keep ((Below.refl _ _).alloc (Nat.le_refl _) o)
theorem Hsh.drew {W:World} {b:Nat} {M:List (BitVec 8)} (h:Hsh W b M):Hsh W.drew b M:=h
theorem Hsh.other {W:World} {b b' i:Nat} {M:List (BitVec 8)} (h:Hsh W b M) (ne:b'≠b) (v:Value):Hsh (W.setCell ⟨b',i,none⟩ v) b M:=⟨h.1,fun j hj=>by rw [World.cell?_setCell_far _ _ _ _ ne];exact h.2.1 j hj,h.2.2.set _ _⟩
theorem Hsh.otherCells {W:World} {b b' o:Nat} {M:List (BitVec 8)} (h:Hsh W b M) (ne:b'≠b) (cs:List Value):Hsh (W.setCells b' o cs) b M:=⟨h.1,fun j hj=>by rw [World.cell?_setCells_out _ _ _ _ _ (fun e=>absurd e.symm ne)];exact h.2.1 j hj,h.2.2.setCells _ _ _⟩
theorem Hsh.set {W:World} {b:Nat} {M:List (BitVec 8)} (h:Hsh W b M) (i:Nat) (hi:i<32) (v:BitVec 8):Hsh (W.setCell ⟨b,i,none⟩ (.int .u8 (Y v))) b (M.set i v):=by
 refine ⟨by rw [List.length_set];exact h.1,fun j hj=>?_,h.2.2.set _ _⟩
 by_cases e:i=j
 ·subst e
  rw [World.cell?_setCell_same _ _ _ (h.2.1 i hi)]
  simp [List.getD,h.1,hi]
 ·have ne:(⟨b,i,none⟩:Addr)≠⟨b,j,none⟩:=by first|(simp;done)|(simp;omega)
  rw [World.cell?_setCell_other _ _ _ _ ne,h.2.1 j hj]
  simp [List.getD,List.getElem?_set_ne e]
theorem Hsh.range {W:World} {b:Nat} {M:List (BitVec 8)} (h:Hsh W b M):W.rangeAt b 0 (byts M):=by
 intro j v hv
 unfold byts at hv
 rw [List.getElem?_map] at hv
 obtain ⟨x,hx,rfl⟩:=Option.map_eq_some_iff.1 hv
 have hj:j<M.length:=(List.getElem?_eq_some_iff.1 hx).1
 rw [Nat.zero_add,h.2.1 j (by rw [←h.1];exact hj)]
 simp [List.getD,hx]
theorem Hsh.there {W:World} {b:Nat} {M:List (BitVec 8)} (h:Hsh W b M):W.there b 0 32:=by
 intro j hj
 rw [Nat.zero_add]
 exact ⟨by rw [h.2.1 j hj];rfl,h.2.2 j hj⟩
theorem Hsh.new {W:World} {b:Nat} {M:List (BitVec 8)} (hl:M.length=32) (t:TypeId) (e:b=W.heap.size):Hsh (W.alloc (.cells (byts M).toArray t)) b M:=by
 refine ⟨hl,fun i hi=>?_,ai.new _ _ _ e⟩
 subst e
 rw [World.cell?_alloc_mark]
 simp [byts,List.getD,show i<M.length by omega]
theorem Hsh.zeros {W:World} {b:Nat} (t:TypeId) (e:b=W.heap.size):Hsh (W.alloc (.cells #[.int .u8 0,.int .u8 0,.int .u8 0,.int .u8 0,.int .u8 0,.int .u8 0,.int .u8 0,.int .u8 0,.int .u8 0,.int .u8 0,.int .u8 0,.int .u8 0,.int .u8 0,.int .u8 0,.int .u8 0,.int .u8 0,.int .u8 0,.int .u8 0,.int .u8 0,.int .u8 0,.int .u8 0,.int .u8 0,.int .u8 0,.int .u8 0,.int .u8 0,.int .u8 0,.int .u8 0,.int .u8 0,.int .u8 0,.int .u8 0,.int .u8 0,.int .u8 0] t)) b (List.replicate 32 0):=by
 have h:Y 0#8=0:=Y_zero
 have z:(byts (List.replicate 32 0)).toArray=#[.int .u8 0,.int .u8 0,.int .u8 0,.int .u8 0,.int .u8 0,.int .u8 0,.int .u8 0,.int .u8 0,.int .u8 0,.int .u8 0,.int .u8 0,.int .u8 0,.int .u8 0,.int .u8 0,.int .u8 0,.int .u8 0,.int .u8 0,.int .u8 0,.int .u8 0,.int .u8 0,.int .u8 0,.int .u8 0,.int .u8 0,.int .u8 0,.int .u8 0,.int .u8 0,.int .u8 0,.int .u8 0,.int .u8 0,.int .u8 0,.int .u8 0,.int .u8 0]:=by simp [byts,List.replicate,h]
 rw [←z]
 exact Hsh.new (by simp) _ e
theorem Hsh.stored {W:World} {b:Nat} {M T:List (BitVec 8)} (h:Hsh W b T) (hl:M.length=32):Hsh (W.setCells b 0 (byts M)) b M:=by
 refine ⟨hl,fun i hi=>?_,h.2.2.setCells _ _ _⟩
 have:=World.rangeAt_setCells_same W b 0 (byts M) (by rw [byts_len,hl];exact h.there) i (.int .u8 (Y (M.getD i 0))) (by simp [byts,List.getD,show i<M.length by omega])
 rwa [Nat.zero_add] at this
def hashL (L:List (BitVec 64)):List (BitVec 8):=(List.range 32).map fun i=>oy (L.getD (i/8) 0) (i%8*8)
theorem dD (L:List (BitVec 64)):(hashL L).length=32:=by simp [hashL]
theorem sc (L:List (BitVec 64)) {i:Nat} (h:i<32):(hashL L).getD i 0=oy (L.getD (i/8) 0) (i%8*8):=by
 simp [hashL,List.getD,List.getElem?_map,List.getElem?_range h]
theorem xn {M:List (BitVec 8)} {L:List (BitVec 64)} (hl:M.length=32) (h:∀ i,i<32→M.getD i 0=oy (L.getD (i/8) 0) (i%8*8)):M=hashL L:=by
 apply List.ext_getElem (by rw [hl,dD])
 intro p h1 h2
 have e1:=h p (by omega)
 have e2:=sc L (i:=p) (by omega)
 rw [List.getD,List.getElem?_eq_getElem h1] at e1
 rw [List.getD,List.getElem?_eq_getElem h2] at e2
 simp only [Option.getD_some] at e1 e2
 rw [e1,e2]
theorem l5 {L:List (BitVec 64)} (hl:L.length=25) (w:World) :
  Calls Tryz.prog 108 #[.agg (aZ L).toArray] w fun e w'=>e = .returned (.agg (byts (hashL L)).toArray)∧Below w.heap.size w w':=by
 go_enter Tryz.func108,Tryz.ntmps108
 go_wp2_with fail
 refine ah (fun W=>Below w.heap.size w W∧Arr W w.heap.size L∧Hsh W (w.heap.size+1) (List.replicate 32 0)∧Hsh W (w.heap.size+1+1) (List.replicate 32 0)) ⟨?_,((Arr.new hl _ rfl).alloc _).alloc _,(Hsh.zeros _ (by simp)).alloc _,Hsh.zeros _ (by simp)⟩ ?_
 ·repeat (first|with_reducible exact Below.refl _ _|with_reducible refine Below.alloc ?_ (by first|omega|(simp;done)|(simp;omega)) _)
 rintro W ⟨B,hA,hR,hO⟩
 have NN:Hid (w.heap.size+1+1≠w.heap.size∧w.heap.size+1+1≠w.heap.size+1∧w.heap.size≤w.heap.size+1+1∧w.heap.size≤w.heap.size+1):=⟨by omega,by omega,by omega,by omega⟩
 clear hl
 generalize w.heap.size+1+1=bo at *
 generalize w.heap.size+1=br at *
 go_loopg [5] 32 (fun k iv wr=>∃ (i:Nat) (M:List (BitVec 8)),k=32-i∧i≤32∧iv = .int .i64 i∧(∀ t,t<i→M.getD t 0=oy (L.getD (t/8) 0) (t%8*8))∧Below w.heap.size w wr∧Arr wr w.heap.size L∧Hsh wr br (List.replicate 32 0)∧Hsh wr bo M)
 case atStart=>exact ⟨0,_,rfl,by decide,rfl,fun t h=>absurd h (Nat.not_lt_zero _),B,hA,hR,hO⟩
 case round =>
  clear B hA hR hO
  obtain ⟨i,M,hk,hi,rfl,up,hf⟩:=hrel
  have HK:Hid (gk=32-i):=hk
  have HF:Hid (Below w.heap.size w wr∧Arr wr w.heap.size L∧Hsh wr br (List.replicate 32 0)∧Hsh wr bo M):=hf
  have UP:Hid (∀ t,t<i→M.getD t 0=oy (L.getD (t/8) 0) (t%8*8)):=up
  clear hk hf up
  by_cases h8:i=32
  ·subst h8
   have EL:Hid (M=hashL L):=xn HF.out.2.2.2.1 UP.out
   have rb:=HF.out.2.2.2.range
   have sz:((byts M).toArray).size=32:=by simp [byts_len,HF.out.2.2.2.1]
   have tr:wr.there br 0 ((byts M).toArray).size:=by rw [sz];exact HF.out.2.2.1.there
   have oc:=one_byts M
   generalize hM:byts M=N at *
   have HM:Hid (N.length=32):=by rw [←hM,byts_len];exact HF.out.2.2.2.1
   go_wp2_with (first|refine wpList_load_mid rfl 47 _ rfl bo 0 rfl N _ rb Tryz.underlying47 rfl (by rw [HM.out];kernel_rfl) ?_|refine wpList_store_mid rfl 47 _ _ rfl br 0 _ rfl rfl tr (by rw [sz];kernel_rfl) oc ?_)
   have ld:=run_loadVar_mid (P:=Tryz.prog) (wr.setCells br 0 N) br 0 47 N _ (World.rangeAt_setCells_same _ _ _ _ (by simpa using tr)) Tryz.underlying47 rfl (by rw [HM.out];kernel_rfl)
   refine bodyPost_ret (v:=.agg N.toArray) ?_ rfl ⟨by rw [←hM,EL.out],below_setCells NN.out.2.2.2 N 0 wr HF.out.1⟩
   simp [results,Tryz.results108,Act.put,asAddr,ld]
  ·have hi':(i:Int)<32:=by omega
   have e1:((i:Int)/8).toNat=i/8:=by omega
   have e2:((i:Int)%8*8).toNat=i%8*8:=by omega
   have g0:=HF.out.2.1.2.1 (i/8) (by rw [HF.out.2.1.1];omega)
   have gs:=HF.out.2.2.2.2.1 i (by omega)
   have fs:=HF.out.2.2.2.2.2 i (by omega)
   have EF:Hid (oy (L.getD (i/8) 0) (i%8*8)=oy (L.getD (i/8) 0) (i%8*8)):=rfl
   obtain ⟨z,kz⟩:∃ z,z=L.getD (i/8) 0:=⟨_,rfl⟩
   rw [←kz] at g0
   have KZ:Hid (z=L.getD (i/8) 0):=kz
   clear kz EF
   have v0:=D9 z;have v1:=Ea z
   have vd:=Ch z (i%8*8)
   go_wp2
   go_roundg (32-(i+1))
   case measure=>have:=HK.out;omega
   case rel =>
    refine ⟨i+1,M.set i (oy z (i%8*8)),rfl,by omega,by go_num,fun t ht=>?_,HF.out.1.setCell NN.out.2.2.1 _,HF.out.2.1.other NN.out.1 _,HF.out.2.2.1.other NN.out.2.1 _,HF.out.2.2.2.set i (by omega) _⟩
    by_cases e:t=i
    ·subst e;rw [←KZ.out];simp [List.getD,HF.out.2.2.2.1,show t<32 by omega]
    ·rw [←UP.out t (by omega)];simp [List.getD,List.getElem?_set_ne (Ne.symm e)]
open Go.RowKit Go.Sort
def Byo (W:World) (b o:Nat) (X:List (BitVec 8)):Prop:=∀ i,i<X.length→W.cell? ⟨b,o+i,none⟩=some (.int .u8 (Y (X.getD i 0)))
theorem Byo.keep {W w1:World} {b o:Nat} {X:List (BitVec 8)} (h:Byo W b o X) (hb:Below W.heap.size W w1):Byo w1 b o X:=fun i hi=>cell_keep hb (h i hi)
theorem Byo.off {b b' o:Nat} {w w':World} {X:List (BitVec 8)} (h:Byo w b o X) (ho:Off b' w w') (ne:b≠b'):Byo w' b o X:=fun i hi=>ho.cell ne (h i hi)
theorem Byo.drop {W:World} {b o n:Nat} {X:List (BitVec 8)} (h:Byo W b o X):Byo W b (o+n) (X.drop n):=fun i hi=>by
 rw [List.length_drop] at hi
 have:=h (n+i) (by omega)
 rw [show o+n+i=o+(n+i) by omega,this]
 simp [List.getD,List.getElem?_drop]
theorem Sp.range {W:World} {b:Nat} {k:Int} {L:List (BitVec 64)} {t:Nat} (h:Sp W b k L t):W.rangeAt b 1 (aZ L):=by
 intro j v hv
 unfold aZ at hv
 rw [List.getElem?_map] at hv
 obtain ⟨x,hx,rfl⟩:=Option.map_eq_some_iff.1 hv
 have hj:j<L.length:=(List.getElem?_eq_some_iff.1 hx).1
 rw [h.2.2.1 j hj]
 simp [List.getD,hx]
theorem Sp.there {W:World} {b:Nat} {k:Int} {L:List (BitVec 64)} {t:Nat} (h:Sp W b k L t):W.there b 1 25:=by
 intro j hj
 exact ⟨by rw [h.2.2.1 j (by rw [h.1];exact hj)];rfl,h.2.2.2.2 (1+j) (by omega)⟩
theorem Sp.stored {W:World} {b:Nat} {k:Int} {L M:List (BitVec 64)} {t:Nat} (h:Sp W b k L t) (hl:M.length=25):Sp (W.setCells b 1 (aZ M)) b k M t:=by
 refine ⟨hl,?_,fun j hj=>?_,?_,h.2.2.2.2.setCells _ _ _⟩
 ·rw [World.cell?_setCells_out _ _ _ _ _ (fun _ _=>.inl (by simp))];exact h.2.1
 ·have:=World.rangeAt_setCells_same W b 1 (aZ M) (by rw [bV,hl];exact h.there) j (.int .u64 (V (M.getD j 0))) (by simp [aZ,List.getD,hj])
  exact this
 ·rw [World.cell?_setCells_out _ _ _ _ _ (fun _ _=>.inr (by rw [bV,hl];exact Nat.le_refl 26))];exact h.2.2.2.1
theorem Off.setCells {b o:Nat} {w w':World} (h:Off b w w') (cs:List Value):Off b w (w'.setCells b o cs):=by
 have:=below_setCells (B:=0) (a:=w') (Nat.zero_le b) cs o w' (Below.refl _ _)
 refine h.trans ⟨this.os,this.tape,this.output,this.size,fun k hk hb=>World.heap_setCells_other _ _ _ _ hk hb⟩
def At (a:Option Addr) (b o:Nat) (X:List (BitVec 8)):Prop:=X=[]∨a=some ⟨b,o,none⟩
theorem eO {b bd od cd:Nat} {a:Option Addr} {k:Int} {L:List (BitVec 64)} {t:Nat} {X:List (BitVec 8)} (ne:bd≠b) (nt:3≠b) (nm:2≠b) (hs:t+X.length<1073741824) (hc:X.length≤cd) (hx:At a bd od X) (w:World) (hS:Sp w b k L t) (hX:Byo w bd od X) (ht:Tab w 3 turnsN) (hm:Lns w 2 marksN) :
  Calls Tryz.prog 74 #[.pointer (some ⟨b,0,none⟩),.slice a X.length cd] w fun e w'=>e = .returned (.tuple #[])∧Sp w' b k (absb L t X) (t+X.length)∧Off b w w':=by
 have NN:Hid (bd≠b∧3≠b∧2≠b):=⟨ne,nt,nm⟩
 have HH:Hid (Byo w bd od X∧Tab w 3 turnsN∧Lns w 2 marksN):=⟨hX,ht,hm⟩
 clear ne nt nm hX ht hm
 go_enter Tryz.func74,Tryz.ntmps74
 go_wp2_with fail
 go_loopg [1] X.length (fun g v wr=>∃ (n:Nat) (a':Option Addr) (c':Nat),g=X.length-n∧n≤X.length∧v = .slice a' (X.length-n) c'∧X.length-n≤c'∧At a' bd (od+n) (X.drop n)∧Sp wr b k (absb L t (X.take n)) (t+n)∧Off b w wr)
 case atStart=>exact ⟨0,a,cd,rfl,Nat.zero_le _,rfl,hc,hx,hS,Off.refl _ _⟩
 case round =>
  clear hS hx hc
  obtain ⟨n,a',c',hk,hn,rfl,hc,ha,hS,hO⟩:=hrel
  have HK:Hid (gk=X.length-n):=hk
  have HF:Hid (Sp wr b k (absb L t (X.take n)) (t+n)∧Off b w wr∧At a' bd (od+n) (X.drop n)):=⟨hS,hO,ha⟩
  clear hk hS hO ha
  by_cases h8:n=X.length
  ·subst h8
   have e0:X.length-X.length=0:=Nat.sub_self _
   go_wp2
   all_goals go_end0
   all_goals exact ⟨rfl,by have h:=HF.out.1;rw [List.take_length] at h;exact h,HF.out.2.1⟩
  ·have hd:(X.drop n).length=X.length-n:=List.length_drop
   have ea:a'=some ⟨bd,od+n,none⟩:=by
    rcases HF.out.2.2 with h|h
    ·rw [h] at hd;simp at hd;omega
    ·exact h
   subst ea
   obtain ⟨T,eT⟩:∃ T,T=t+n:=⟨_,rfl⟩
   obtain ⟨p,ep⟩:∃ p:Nat,p=T%136:=⟨_,rfl⟩
   have EP:Hid ((T:Int)%136=(p:Int)):=by have h:(T:Int)%136=(p:Int):=(by omega);exact h
   have p0:(p:Int)<136:=by omega
   have hT:(T:Int)<1073741824:=by omega
   obtain ⟨m,em⟩:∃ m:Nat,m=min (X.length-n) (136-p):=⟨_,rfl⟩
   have m0:0<m:=by omega
   have m1:m≤X.length-n:=by omega
   have m2:p+m≤136:=by omega
   have g26:wr.cell? ⟨b,26,none⟩=some (.int .i64 (T:Int)):=by rw [eT];exact HF.out.1.2.2.2.1
   obtain ⟨A,kA⟩:∃ A,A=absb L t (X.take n):=⟨_,rfl⟩
   have HS:Hid (Sp wr b k A T):=by rw [kA,eT];exact HF.out.1
   obtain ⟨Z,kZ⟩:∃ Z,Z=(X.drop n).take m:=⟨_,rfl⟩
   have lZ:Z.length=m:=by rw [kZ,List.length_take,hd];omega
   have HZ:Hid (Byo wr bd (od+n) Z):=by
    intro i hi
    have h:=(HH.out.1.off HF.out.2.1 NN.out.1).drop (n:=n) i (by omega)
    rw [h,kZ]
    simp [List.getD,show i<m by omega]
   have FIN:Hid (absb L t (X.take (n+m))=turn (dU A p Z) (T+m)):=by
    have e1:X.take (n+m)=X.take n++Z:=by rw [kZ,List.take_add]
    rw [e1,ix,←kA,List.length_take,Nat.min_eq_left (by omega),←eT,jx _ _ _ (by omega) (by omega),lZ,ep]
    exact rfl
   have HO:Hid (Off b w wr):=HF.out.2.1
   have LZ:Hid (Z.length=m):=lZ
   have ET:Hid (T=t+n∧p=T%136):=⟨eT,ep⟩
   have EM:Hid (m=min (X.length-n) (136-p)):=em
   have HN:Hid (n≤X.length∧¬n=X.length∧t+X.length<1073741824):=⟨hn,h8,hs⟩
   have rb:((X.length-n:Nat):Int)<1073741824:=by omega
   clear kA kZ lZ HF hd eT ep em hn h8 hs
   generalize hr:X.length-n=r at *
   have RL:Hid (X.length-n=r):=hr
   clear hr
   have em':(if 136-(T:Int)%136<(r:Int) then 136-(T:Int)%136 else (r:Int))=(m:Int):=by have:=EM.out;rw [EP.out];split<;>omega
   have M3:Hid (0<m∧m≤r∧p+m≤136):=⟨m0,m1,m2⟩
   have m3:0<r:=by omega
   have m4:m≤c':=by omega
   clear m0 m2
   go_wp2_with fail
   go_loopg [27] m (fun g iv wr=>∃ i:Nat,g=m-i∧i≤m∧iv = .int .i64 i∧Sp wr b k (dU A p (Z.take i)) T∧Off b w wr∧Byo wr bd (od+n) Z)
   case atStart=>exact ⟨0,rfl,Nat.zero_le _,rfl,HS.out,HO.out,HZ.out⟩
   case round =>
    clear HS HO HZ g26
    obtain ⟨i,hk,hi,rfl,hf⟩:=hrel
    have HK2:Hid (gk=m-i):=hk
    have HF:Hid (Sp wr b k (dU A p (Z.take i)) T∧Off b w wr∧Byo wr bd (od+n) Z):=hf
    clear hk hf
    by_cases h9:i=m
    ·subst h9
     obtain ⟨C,kC⟩:∃ C,C=dU A p Z:=⟨_,rfl⟩
     have HS:Hid (Sp wr b k C T):=by have h:=HF.out.1;rw [←LZ.out,List.take_length,←kC] at h;exact h
     have HO:Hid (Off b w wr):=HF.out.2.1
     have FIN2:Hid (absb L t (X.take (n+i))=turn C (T+i)):=by rw [FIN.out,kC];exact rfl
     clear HF FIN kC
     have g26:=HS.out.2.2.2.1
     have f26:=HS.out.2.2.2.2 26 (by decide)
     obtain ⟨q,eq⟩:∃ q:Nat,q=(T+i)%136:=⟨_,rfl⟩
     have EQ:Hid (q=(T+i)%136):=eq
     have h136:i≤136:=by have:=M3.out;omega
     obtain ⟨a2,ha2⟩:∃ a2,(if c'=i then some (⟨bd,od+n,none⟩:Addr) else some ⟨bd,od+n+i,none⟩)=a2:=⟨_,rfl⟩
     have AT:Hid (At a2 bd (od+(n+i)) (X.drop (n+i))):=by
      by_cases h:c'=i
      ·refine .inl (List.drop_eq_nil_of_le ?_)
       have:=RL.out;have:=HN.out;omega
      ·rw [if_neg h] at ha2
       exact .inr (by rw [←ha2,Nat.add_assoc])
     have RR:Hid (X.length-(n+i)=r-i∧n+i≤X.length∧r-i≤c'-i∧X.length-(n+i)<X.length-n):=by
      have:=RL.out;have:=HN.out;have:=M3.out
      exact ⟨by omega,by omega,by omega,by omega⟩
     by_cases hq:q=0
     ·have q1:((T:Int)+(i:Int))%136=0:=by omega
      have q2:(((T:Int)+(i:Int))%136==0)=true:=beq_iff_eq.2 q1
      have HQ:Hid (q=0):=hq
      clear eq hq q1
      have HM:Hid ((aZ C).length=25):=by rw [bV];exact HS.out.1
      go_wp2_with (refine wpList_load_mid rfl 110 _ rfl b 1 rfl (aZ C) _ ((HS.out.taken (T+i)).range) Tryz.underlying110 rfl (by rw [HM.out];kernel_rfl) ?_)
      have HW:Hid (Sp (wr.setCell ⟨b,26,none⟩ (.int .i64 ((T:Int)+(i:Int)))) b k C (T+i)∧Off b w (wr.setCell ⟨b,26,none⟩ (.int .i64 ((T:Int)+(i:Int))))):=⟨HS.out.taken (T+i),HO.out.setCell _⟩
      refine aa (fun W=>Sp W b k C (T+i)∧Off b w W) HW.out ?_
      clear HW HS HO g26 f26 q2
      rintro W2 ⟨hs,ho⟩
      refine (jW hs.1 _ (ho.tab NN.out.2.1 HH.out.2.1) (ho.lns NN.out.2.2 HH.out.2.2)).mono ?_
      rintro e w3 ⟨rfl,hb⟩
      have HS:Hid (Sp w3 b k C (T+i)∧Off b w w3):=⟨hs.keep hb,ho.trans (.of_below hb)⟩
      clear hs ho hb W2
      have lP:(jt C).length=25:=jR HS.out.1.1
      have LP:Hid ((jt C).length=25):=lP
      have sz:=gE lP
      have tr:w3.there b 1 ((aZ (jt C)).toArray).size:=by rw [sz];exact HS.out.1.there
      have oc:=fZ (jt C)
      clear lP
      go_wp2_with (refine wpList_store_mid rfl 110 _ _ rfl b 1 _ rfl rfl tr (by rw [sz];kernel_rfl) oc ?_)
      go_roundg (X.length-(n+i))
      case measure=>have:=HK.out;have:=RR.out;have:=RL.out;omega
      case rel =>
       refine ⟨n+i,a2,c'-i,rfl,RR.out.2.1,by rw [RR.out.1],by rw [RR.out.1];exact RR.out.2.2.1,AT.out,?_⟩
       rw [FIN2.out]
       rw [turn,if_pos (by have:=EQ.out;have:=HQ.out;omega),show t+(n+i)=T+i by have:=ET.out;omega]
       exact ⟨HS.out.1.stored LP.out,HS.out.2.setCells _⟩
     ·have q1:¬((T:Int)+(i:Int))%136=0:=by omega
      have q2:(((T:Int)+(i:Int))%136==0)=false:=beq_eq_false_iff_ne.2 q1
      clear eq q1
      have HQ:Hid (¬q=0):=hq
      clear hq
      go_wp2
      go_roundg (X.length-(n+i))
      case measure=>have:=HK.out;have:=RR.out;have:=RL.out;omega
      case rel =>
       refine ⟨n+i,a2,c'-i,rfl,RR.out.2.1,by rw [RR.out.1],by rw [RR.out.1];exact RR.out.2.2.1,AT.out,?_⟩
       rw [FIN2.out]
       rw [turn,if_neg (by have:=EQ.out;have:=HQ.out;omega),show t+(n+i)=T+i by have:=ET.out;omega]
       exact ⟨HS.out.taken (T+i),HO.out.setCell _⟩
    ·have hi':(i:Int)<m:=by omega
     have hlt:i<m:=by omega
     have gy:=HF.out.2.2 i (by rw [LZ.out];omega)
     obtain ⟨y,ky⟩:∃ y,y=Z.getD i 0:=⟨_,rfl⟩
     rw [←ky] at gy
     have KY:Hid (dU A p (Z.take (i+1))=f9 (dU A p (Z.take i)) (p+i) y):=by rw [ky];exact oQ (by rw [LZ.out];omega)
     obtain ⟨C,kC⟩:∃ C,C=dU A p (Z.take i):=⟨_,rfl⟩
     have HS:Hid (Sp wr b k C T∧Off b w wr∧Byo wr bd (od+n) Z):=by rw [kC];exact HF.out
     rw [←kC] at KY
     clear ky kC HF
     have M5:=M3.out
     go_wp2_with fail
     have lC:C.length=25:=HS.out.1.1
     rw [show (T:Int)%136+(i:Int)=((p+i:Nat):Int) by rw [EP.out];omega]
     refine (jY (p:=p+i) (z:=C.getD ((p+i)/8) 0) y (by omega) _ (HS.out.1.2.2.1 _ (by omega)) (HS.out.1.2.2.2.2 _ (by omega))).mono ?_
     rintro e w1 ⟨rfl,h1⟩
     have HS2:Hid (Sp w1 b k (dU A p (Z.take (i+1))) T∧Off b w w1∧Byo w1 bd (od+n) Z):=by
      rw [KY.out,h1]
      exact ⟨HS.out.1.drew.mix (by omega) y,HS.out.2.1.drew.setCell _,fun j hj=>by rw [World.cell?_setCell_far _ _ _ _ NN.out.1.symm];exact HS.out.2.2 j hj⟩
     clear h1 HS KY lC M5
     go_wp2
     go_roundg (m-(i+1))
     case measure=>have:=HK2.out;omega
     case rel=>exact ⟨i+1,rfl,by omega,by go_num,HS2.out⟩
open Go.RowKit Go.Sort
def oz (k:Int):BitVec 8:=if k=1 then 6 else 1
def finL (k:Int) (L:List (BitVec 64)) (t:Nat):List (BitVec 64):=jt (f9 (f9 L (t%136) (oz k)) 135 128)
theorem oR {b:Nat} {k:Int} (w:World) (hk:w.cell? ⟨b,0,none⟩=some (.int .i64 k)) :
  Calls Tryz.prog 107 #[.pointer (some ⟨b,0,none⟩)] w fun e w'=>e = .returned (.int .u8 (Y (oz k)))∧w'=w:=by
 have y6:Y 6=6:=by rw [Y_eq];rfl
 have y1:Y 1=1:=by rw [Y_eq];rfl
 go_enter Tryz.func107,Tryz.ntmps107
 by_cases h:k=1
 ·subst h
  go_wp2
  go_ret
  exact ⟨by rw [oz,if_pos rfl,y6];rfl,rfl⟩
 ·have h2:(k==1)=false:=beq_eq_false_iff_ne.2 h
  go_wp2
  go_ret
  exact ⟨by rw [oz,if_neg h,y1];rfl,rfl⟩
theorem BD {b o p:Nat} {z:BitVec 64} {n:Int} {x:BitVec 8} (e:Y x=n) (hp:p<200) (w:World) (hz:w.cell? ⟨b,o+p/8,none⟩=some (.int .u64 (V z))) (hf:w.frozen? ⟨b,o+p/8,none⟩=false) :
  Calls Tryz.prog 105 #[.pointer (some ⟨b,o,none⟩),.int .i64 p,.int .u8 n] w fun e w'=>e = .returned (.tuple #[])∧w'=w.drew.setCell ⟨b,o+p/8,none⟩ (.int .u64 (V (z ^^^ up x (p%8*8)))):=by
 subst e;exact jY x hp w hz hf
theorem Arr.mix {W:World} {b:Nat} {L:List (BitVec 64)} (h:Arr W b L) {p:Nat} (hp:p<200) (x:BitVec 8):Arr (W.setCell ⟨b,0+p/8,none⟩ (.int .u64 (V (L.getD (p/8) 0 ^^^ up x (p%8*8))))) b (f9 L p x):=by
 rw [Nat.zero_add];exact h.set (p/8) (by omega) _
theorem jZ {b:Nat} {k:Int} {L:List (BitVec 64)} {t:Nat} (tb:t<1073741824) (w:World) (hS:Sp w b k L t) (ht:Tab w 3 turnsN) (hm:Lns w 2 marksN) :
  Calls Tryz.prog 75 #[.pointer (some ⟨b,0,none⟩)] w fun e w'=>e = .returned (.agg (byts (hashL (finL k L t))).toArray)∧Below w.heap.size w w':=by
 have HH:Hid (Tab w 3 turnsN∧Lns w 2 marksN):=⟨ht,hm⟩
 have HS:Hid (Sp w b k L t):=hS
 have lb:b<w.heap.size:=hS.lt
 have HM:Hid ((aZ L).length=25):=by rw [bV];exact hS.1
 have sz:=gE hS.1
 have oc:=fZ L
 have HL:Hid (L.length=25):=hS.1
 have TB:Hid (t<1073741824∧b<w.heap.size):=⟨tb,lb⟩
 clear ht hm hS lb
 go_enter Tryz.func75,Tryz.ntmps75
 go_wp2_with (first|refine wpList_load_mid rfl 110 _ rfl b 1 rfl (aZ L) _ ((HS.out.alloc _).range) Tryz.underlying110 rfl (by rw [HM.out];kernel_rfl) ?_|(refine wpList_store_mid rfl 110 _ _ rfl (w.heap.size+1) 0 _ rfl rfl (by rw [sz];exact (iZ (by simp)).there) (by rw [sz];kernel_rfl) oc ?_;refine aF (fun W=>Below w.heap.size w W∧Hsh W w.heap.size (List.replicate 32 0)∧Arr W (w.heap.size+1) L) ⟨below_setCells (by omega) _ 0 _ (((Below.refl _ _).alloc (Nat.le_refl _) _).alloc (by simp) _),((Hsh.zeros _ rfl).alloc _).otherCells (by omega) _,(iZ (by simp)).stored HL.out⟩ ?_;intro W2 hh;have HY:Hid (Below w.heap.size w W2∧Hsh W2 w.heap.size (List.replicate 32 0)∧Arr W2 (w.heap.size+1) L):=hh;clear hh))
 simp only [Act.put]
 have NN:Hid (w.heap.size+1≠w.heap.size∧w.heap.size≤w.heap.size+1):=⟨by omega,by omega⟩
 generalize w.heap.size+1=n1 at *
 have g26:W2.cell? ⟨b,26,none⟩=some (.int .i64 (t:Int)):=by rw [HY.out.1.cell (p:=⟨b,26,none⟩) TB.out.2];exact HS.out.2.2.2.1
 have g0:W2.cell? ⟨b,0,none⟩=some (.int .i64 k):=by rw [HY.out.1.cell (p:=⟨b,0,none⟩) TB.out.2];exact HS.out.2.1
 have G0:Hid (W2.cell? ⟨b,0,none⟩=some (.int .i64 k)):=g0
 clear g0 sz oc HM
 have t1:(t:Int)<1073741824:=by have:=TB.out.1;omega
 have P0:Hid (∀ W,W=W2.drew→Calls Tryz.prog 107 #[.pointer (some ⟨b,0,none⟩)] W fun e w'=>e = .returned (.int .u8 (Y (oz k)))∧w'=W):=by rintro W rfl;exact oR _ G0.out
 refine aB 7 (by kernel_rfl) (by kernel_rfl) ?_
 simp only [List.take_succ_cons,List.take_zero,List.drop_succ_cons,List.drop_zero]
 repeat (first|go_big_quiet_skip|(go_big_quiet_want;go_big_quiet_op;first|go_big_quiet_on|(with_reducible refine ⟨_,P0.out _ rfl,?_⟩;go_big_quiet_on)))
 refine wpQuiet_nil ?_
 go_wp2_with fail
 rw [show (t:Int)%136=((t%136:Nat):Int) by omega]
 refine (jY (b:=n1) (o:=0) (p:=t%136) (z:=L.getD (t%136/8) 0) (oz k) (by omega) _ (by rw [Nat.zero_add];exact HY.out.2.2.2.1 _ (by rw [HL.out];omega)) (by rw [Nat.zero_add];exact HY.out.2.2.2.2 _ (by omega))).mono ?_
 rintro e w3 ⟨rfl,h3⟩
 obtain ⟨A,kA⟩:∃ A,A=f9 L (t%136) (oz k):=⟨_,rfl⟩
 have H3:Hid (Below w.heap.size w w3∧Hsh w3 w.heap.size (List.replicate 32 0)∧Arr w3 n1 A):=by
  rw [h3,kA]
  exact ⟨HY.out.1.drew.drew.setCell NN.out.2 _,HY.out.2.1.drew.drew.other NN.out.1 _,HY.out.2.2.drew.drew.mix (by omega) _⟩
 clear h3 HY g26 G0 P0 t1
 go_wp2_with fail
 have y128:Y 128=128:=by rw [Y_eq];rfl
 have lA:A.length=25:=H3.out.2.2.1
 refine (BD (b:=n1) (o:=0) (p:=135) (z:=A.getD (135/8) 0) y128 (by decide) _ (H3.out.2.2.2.1 (135/8) (by omega)) (H3.out.2.2.2.2 (135/8) (by decide))).mono ?_
 rintro e w4 ⟨rfl,h4⟩
 obtain ⟨C,kC⟩:∃ C,C=f9 A 135 128:=⟨_,rfl⟩
 have H4:Hid (Below w.heap.size w w4∧Hsh w4 w.heap.size (List.replicate 32 0)∧Arr w4 n1 C):=by
  rw [h4,kC]
  exact ⟨H3.out.1.drew.setCell NN.out.2 _,H3.out.2.1.drew.other NN.out.1 _,H3.out.2.2.drew.mix (by decide) _⟩
 have FIN:Hid (finL k L t=jt C):=by rw [kC,kA];exact rfl
 clear h4 H3 kA kC y128 lA
 have lC:Hid (C.length=25):=H4.out.2.2.1
 have HM:Hid ((aZ C).length=25):=by rw [bV];exact lC.out
 go_wp2_with (refine wpList_load_mid rfl 110 _ rfl n1 0 rfl (aZ C) _ (H4.out.2.2.2.1.range) Tryz.underlying110 rfl (by rw [HM.out];kernel_rfl) ?_)
 refine (jW lC.out _ (HH.out.1.keep H4.out.1) (HH.out.2.keep H4.out.1)).mono ?_
 rintro e w5 ⟨rfl,hb⟩
 have H5:Hid (Below w.heap.size w w5∧Hsh w5 w.heap.size (List.replicate 32 0)):=⟨H4.out.1.trans (hb.mono H4.out.1.size),H4.out.2.1.keep hb⟩
 clear hb H4
 go_wp2_with fail
 refine (l5 (jR lC.out) _).mono ?_
 rintro e w6 ⟨rfl,hb⟩
 have H6:Hid (Below w.heap.size w w6∧Hsh w6 w.heap.size (List.replicate 32 0)):=⟨H5.out.1.trans (hb.mono H5.out.1.size),H5.out.2.keep hb⟩
 clear hb H5
 rw [←FIN.out]
 have lN:(byts (hashL (finL k L t))).length=32:=by rw [byts_len,dD]
 have oc:=one_byts (hashL (finL k L t))
 generalize hN:byts (hashL (finL k L t))=N at *
 have EN:Hid (byts (hashL (finL k L t))=N):=hN
 clear hN
 have sz:(N.toArray).size=32:=by simp [lN]
 have tr:w6.there w.heap.size 0 (N.toArray).size:=by rw [sz];exact H6.out.2.there
 have HN:Hid (N.length=32):=lN
 clear lN
 go_wp2_with (refine wpList_store_mid rfl 47 _ _ rfl w.heap.size 0 _ rfl rfl tr (by rw [sz];kernel_rfl) oc ?_)
 have ld:=run_loadVar_mid (P:=Tryz.prog) (w6.setCells w.heap.size 0 N) w.heap.size 0 47 N _ (World.rangeAt_setCells_same _ _ _ _ (by simpa using tr)) Tryz.underlying47 rfl (by rw [HN.out];kernel_rfl)
 refine bodyPost_ret (v:=.agg N.toArray) ?_ rfl ⟨by rw [EN.out],below_setCells (Nat.le_refl _) N 0 w6 H6.out.1⟩
 simp [results,Tryz.results75,Act.put,asAddr,ld]
open Go.RowKit Go.Sort
structure Part where
 a:Option Addr
 b:Nat
 o:Nat
 c:Nat
 X:List (BitVec 8)
def Part.none:Part:=⟨.none,0,0,0,[]⟩
def Part.val (p:Part):Value:=.slice p.a p.X.length p.c
def Part.ok (W:World) (p:Part):Prop:=At p.a p.b p.o p.X∧p.X.length≤p.c∧Byo W p.b p.o p.X
def Prts (W:World) (b o:Nat) (PS:List Part):Prop:=∀ i,i<PS.length→W.cell? ⟨b,o+i,none⟩=some (PS.getD i .none).val∧(PS.getD i .none).ok W
def catX (PS:List Part):List (BitVec 8):=PS.flatMap (·.X)
theorem ga {PS:List Part} {i:Nat} (h:i<PS.length):catX (PS.take (i+1))=catX (PS.take i)++(PS.getD i .none).X:=by
 rw [List.take_add_one,catX,List.flatMap_append,List.getD,List.getElem?_eq_getElem h]
 simp [catX]
theorem j7 {PS:List Part} (i:Nat):(catX (PS.take i)).length≤(catX PS).length:=by
 have h:catX PS=catX (PS.take i)++catX (PS.drop i):=by
  rw [catX,catX,catX,←List.flatMap_append,List.take_append_drop]
 rw [h,List.length_append]
 omega
theorem xo (n i:Nat):(List.replicate n (0:BitVec 64)).getD i 0=0:=by
 rw [List.getD,List.getElem?_replicate]
 split<;>rfl
theorem Sp.zeros {W:World} {b:Nat} (k:Int) (h:W.there b 0 27):Sp (W.setCells b 0 [.int .i64 k,.int .u64 0,.int .u64 0,.int .u64 0,.int .u64 0,.int .u64 0,.int .u64 0,.int .u64 0,.int .u64 0,.int .u64 0,.int .u64 0,.int .u64 0,.int .u64 0,.int .u64 0,.int .u64 0,.int .u64 0,.int .u64 0,.int .u64 0,.int .u64 0,.int .u64 0,.int .u64 0,.int .u64 0,.int .u64 0,.int .u64 0,.int .u64 0,.int .u64 0,.int .i64 0]) b k (List.replicate 25 0) 0:=by
 have r:=World.rangeAt_setCells_same W b 0 [.int .i64 k,.int .u64 0,.int .u64 0,.int .u64 0,.int .u64 0,.int .u64 0,.int .u64 0,.int .u64 0,.int .u64 0,.int .u64 0,.int .u64 0,.int .u64 0,.int .u64 0,.int .u64 0,.int .u64 0,.int .u64 0,.int .u64 0,.int .u64 0,.int .u64 0,.int .u64 0,.int .u64 0,.int .u64 0,.int .u64 0,.int .u64 0,.int .u64 0,.int .u64 0,.int .i64 0] h
 have z:V 0#64=0:=xm
 refine ⟨by simp,?_,fun i hi=>?_,?_,fun i hi=>?_⟩
 ·exact r 0 _ rfl
 ·have hi':i<25:=by simpa using hi
  rw [xo]
  have e:([.int .i64 k,.int .u64 0,.int .u64 0,.int .u64 0,.int .u64 0,.int .u64 0,.int .u64 0,.int .u64 0,.int .u64 0,.int .u64 0,.int .u64 0,.int .u64 0,.int .u64 0,.int .u64 0,.int .u64 0,.int .u64 0,.int .u64 0,.int .u64 0,.int .u64 0,.int .u64 0,.int .u64 0,.int .u64 0,.int .u64 0,.int .u64 0,.int .u64 0,.int .u64 0,.int .i64 0]:List Value) = .int .i64 k :: (List.replicate 25 (.int .u64 0)++[.int .i64 0]):=rfl
  have:=r (1+i) (.int .u64 0) (by rw [e,Nat.add_comm 1 i,List.getElem?_cons_succ,List.getElem?_append_left (by simpa using hi'),List.getElem?_replicate,if_pos hi'])
  rw [Nat.zero_add] at this
  rw [this]
  exact congrArg (fun z=>some (Value.int .u64 z)) z.symm
 ·exact r 26 _ rfl
 ·rw [World.frozen?_setCells]
  have:=(h i hi).2
  rwa [Nat.zero_add] at this
theorem Hsh.off {w w':World} {a b:Nat} {M:List (BitVec 8)} (h:Hsh w a M) (o:Off b w w') (ne:a≠b):Hsh w' a M :=
 ⟨h.1,fun i hi=>o.cell ne (h.2.1 i hi),fun i hi=>by rw [World.frozen?_of_block (o.block a h.lt ne)];exact h.2.2 i hi⟩
theorem gG {W:World} {b:Nat} (e:b=W.heap.size):(W.alloc (.cells #[.int .i64 0,.int .u64 0,.int .u64 0,.int .u64 0,.int .u64 0,.int .u64 0,.int .u64 0,.int .u64 0,.int .u64 0,.int .u64 0,.int .u64 0,.int .u64 0,.int .u64 0,.int .u64 0,.int .u64 0,.int .u64 0,.int .u64 0,.int .u64 0,.int .u64 0,.int .u64 0,.int .u64 0,.int .u64 0,.int .u64 0,.int .u64 0,.int .u64 0,.int .u64 0,.int .i64 0] 112)).there b 0 27:=by
 subst e
 intro j hj
 rw [Nat.zero_add,World.cell?_alloc_mark]
 refine ⟨?_,by simp [go_sem]⟩
 have:(#[.int .i64 0,.int .u64 0,.int .u64 0,.int .u64 0,.int .u64 0,.int .u64 0,.int .u64 0,.int .u64 0,.int .u64 0,.int .u64 0,.int .u64 0,.int .u64 0,.int .u64 0,.int .u64 0,.int .u64 0,.int .u64 0,.int .u64 0,.int .u64 0,.int .u64 0,.int .u64 0,.int .u64 0,.int .u64 0,.int .u64 0,.int .u64 0,.int .u64 0,.int .u64 0,.int .i64 0]:Array Value)[j]?.isSome=true:=by simp;omega
 exact this
theorem jn {W:World} {b:Nat} (k:Int) (e:b=W.heap.size):(W.alloc (.cells #[.int .i64 0,.int .u64 0,.int .u64 0,.int .u64 0,.int .u64 0,.int .u64 0,.int .u64 0,.int .u64 0,.int .u64 0,.int .u64 0,.int .u64 0,.int .u64 0,.int .u64 0,.int .u64 0,.int .u64 0,.int .u64 0,.int .u64 0,.int .u64 0,.int .u64 0,.int .u64 0,.int .u64 0,.int .u64 0,.int .u64 0,.int .u64 0,.int .u64 0,.int .u64 0,.int .i64 0] 112)).there b 0 ([.int .i64 k,.int .u64 0,.int .u64 0,.int .u64 0,.int .u64 0,.int .u64 0,.int .u64 0,.int .u64 0,.int .u64 0,.int .u64 0,.int .u64 0,.int .u64 0,.int .u64 0,.int .u64 0,.int .u64 0,.int .u64 0,.int .u64 0,.int .u64 0,.int .u64 0,.int .u64 0,.int .u64 0,.int .u64 0,.int .u64 0,.int .u64 0,.int .u64 0,.int .u64 0,.int .i64 0]:List Value).toArray.size:=gG e
theorem l6 (k:Int):(Tryz.prog.info? 112).map (·.size)=some ([.int .i64 k,.int .u64 0,.int .u64 0,.int .u64 0,.int .u64 0,.int .u64 0,.int .u64 0,.int .u64 0,.int .u64 0,.int .u64 0,.int .u64 0,.int .u64 0,.int .u64 0,.int .u64 0,.int .u64 0,.int .u64 0,.int .u64 0,.int .u64 0,.int .u64 0,.int .u64 0,.int .u64 0,.int .u64 0,.int .u64 0,.int .u64 0,.int .u64 0,.int .u64 0,.int .i64 0]:List Value).toArray.size:=by
 have:(Tryz.prog.info? 112).map (·.size)=some 27:=by kernel_rfl
 rw [this]
 rfl
theorem l7 (k:Int):([.int .i64 k,.int .u64 0,.int .u64 0,.int .u64 0,.int .u64 0,.int .u64 0,.int .u64 0,.int .u64 0,.int .u64 0,.int .u64 0,.int .u64 0,.int .u64 0,.int .u64 0,.int .u64 0,.int .u64 0,.int .u64 0,.int .u64 0,.int .u64 0,.int .u64 0,.int .u64 0,.int .u64 0,.int .u64 0,.int .u64 0,.int .u64 0,.int .u64 0,.int .u64 0,.int .i64 0]:List Value).toArray.all (·.oneCell')=true:=all_oneCell_toArray (by
 intro v hv
 simp only [List.mem_cons,List.not_mem_nil,or_false] at hv
 rcases hv with rfl|hv
 ·rfl
 ·repeat (first|(rcases hv with rfl|hv;rfl)|(subst hv;rfl)))
theorem sd {k:Int} {a:Option Addr} {bp op cp:Nat} {PS:List Part} (hs:(catX PS).length<1073741824) (hn:PS.length≤1073741824) (hc:PS.length≤cp) (ha:PS=[]∨a=some ⟨bp,op,none⟩) (w:World) (hP:Prts w bp op PS) (ht:Tab w 3 turnsN) (hm:Lns w 2 marksN) :
  Calls Tryz.prog 39 #[.int .i64 k,.slice a PS.length cp] w fun e w'=>e = .returned (.agg (byts (hashL (finL k (absb (List.replicate 25 0) 0 (catX PS)) (catX PS).length))).toArray)∧Below w.heap.size w w':=by
 have HH:Hid (Prts w bp op PS∧Tab w 3 turnsN∧Lns w 2 marksN):=⟨hP,ht,hm⟩
 have HC:Hid ((catX PS).length<1073741824∧PS.length≤cp∧(PS=[]∨a=some ⟨bp,op,none⟩)):=⟨hs,hc,ha⟩
 clear hP ht hm hs hc ha
 have oc:=l7 k
 go_enter Tryz.func39,Tryz.ntmps39
 have sz:=l6 k
 have NL:Hid (PS.length≤1073741824):=hn
 go_wp2_with (refine wpList_store_mid rfl 112 _ _ rfl (w.heap.size+1) 0 ([.int .i64 k,.int .u64 0,.int .u64 0,.int .u64 0,.int .u64 0,.int .u64 0,.int .u64 0,.int .u64 0,.int .u64 0,.int .u64 0,.int .u64 0,.int .u64 0,.int .u64 0,.int .u64 0,.int .u64 0,.int .u64 0,.int .u64 0,.int .u64 0,.int .u64 0,.int .u64 0,.int .u64 0,.int .u64 0,.int .u64 0,.int .u64 0,.int .u64 0,.int .u64 0,.int .i64 0]:List Value).toArray rfl rfl ?th sz oc ?go;exact jn k (by simp);refine aF (fun W=>Below w.heap.size w W∧Hsh W w.heap.size (List.replicate 32 0)∧Sp W (w.heap.size+1) k (List.replicate 25 0) 0) ⟨below_setCells (by omega) _ 0 _ (((Below.refl _ _).alloc (Nat.le_refl _) _).alloc (by simp) _),((Hsh.zeros _ rfl).alloc _).otherCells (by omega) _,Sp.zeros k (gG (by simp))⟩ ?_;intro W2 hh;have HY:Hid (Below w.heap.size w W2∧Hsh W2 w.heap.size (List.replicate 32 0)∧Sp W2 (w.heap.size+1) k (List.replicate 25 0) 0):=hh;clear hh)
 have NN:Hid (w.heap.size≠w.heap.size+1∧w.heap.size≤w.heap.size+1):=⟨by omega,by omega⟩
 have LT:Hid (3<w.heap.size∧2<w.heap.size):=⟨HH.out.2.1.lt (by decide),HH.out.2.2.lt (by decide)⟩
 clear sz oc
 generalize hbs:w.heap.size+1=bs at *
 have BS:Hid (w.heap.size+1=bs):=hbs
 clear hbs
 go_loopg [12] PS.length (fun g iv wr=>∃ i:Nat,g=PS.length-i∧i≤PS.length∧iv = .int .i64 i∧Below w.heap.size w wr∧Hsh wr w.heap.size (List.replicate 32 0)∧Sp wr bs k (absb (List.replicate 25 0) 0 (catX (PS.take i))) (catX (PS.take i)).length)
 case atStart=>exact ⟨0,rfl,Nat.zero_le _,rfl,HY.out⟩
 case round =>
  clear HY
  obtain ⟨i,hk,hi,rfl,hf⟩:=hrel
  have HK:Hid (gk=PS.length-i):=hk
  have HF:Hid (Below w.heap.size w wr∧Hsh wr w.heap.size (List.replicate 32 0)∧Sp wr bs k (absb (List.replicate 25 0) 0 (catX (PS.take i))) (catX (PS.take i)).length):=hf
  clear hk hf
  by_cases h8:i=PS.length
  ·subst h8
   rw [List.take_length] at HF
   go_wp2_with fail
   refine (jZ HC.out.1 _ HF.out.2.2 (HH.out.2.1.keep HF.out.1) (HH.out.2.2.keep HF.out.1)).mono ?_
   rintro e w6 ⟨rfl,hb⟩
   have H6:Hid (Below w.heap.size w w6∧Hsh w6 w.heap.size (List.replicate 32 0)):=⟨HF.out.1.trans (hb.mono HF.out.1.size),HF.out.2.1.keep hb⟩
   clear hb HF
   have oc:=one_byts (hashL (finL k (absb (List.replicate 25 0) 0 (catX PS)) (catX PS).length))
   have lN:(byts (hashL (finL k (absb (List.replicate 25 0) 0 (catX PS)) (catX PS).length))).length=32:=by rw [byts_len,dD]
   generalize hN:byts (hashL (finL k (absb (List.replicate 25 0) 0 (catX PS)) (catX PS).length))=N at *
   have EN:Hid (byts (hashL (finL k (absb (List.replicate 25 0) 0 (catX PS)) (catX PS).length))=N):=hN
   have sz:(N.toArray).size=32:=by simp [lN]
   have tr:w6.there w.heap.size 0 (N.toArray).size:=by rw [sz];exact H6.out.2.there
   have HN:Hid (N.length=32):=lN
   clear lN hN
   go_wp2_with (refine wpList_store_mid rfl 47 _ _ rfl w.heap.size 0 _ rfl rfl tr (by rw [sz];kernel_rfl) oc ?_)
   have ld:=run_loadVar_mid (P:=Tryz.prog) (w6.setCells w.heap.size 0 N) w.heap.size 0 47 N _ (World.rangeAt_setCells_same _ _ _ _ (by simpa using tr)) Tryz.underlying47 rfl (by rw [HN.out];kernel_rfl)
   refine bodyPost_ret (v:=.agg N.toArray) ?_ rfl ⟨by rw [EN.out],below_setCells (Nat.le_refl _) N 0 w6 H6.out.1⟩
   simp [results,Tryz.results39,Act.put,asAddr,ld]
  ·have hlt:i<PS.length:=by omega
   have hlt':(i:Int)<PS.length:=by omega
   have ea:a=some ⟨bp,op,none⟩:=by
    rcases HC.out.2.2 with h|h
    ·rw [h] at hlt;simp at hlt
    ·exact h
   subst ea
   obtain ⟨p,kp⟩:∃ p,p=PS.getD i .none:=⟨_,rfl⟩
   have g0:wr.cell? ⟨bp,op+i,none⟩=some (.slice p.a p.X.length p.c):=by
    have h:=(HH.out.1 i hlt).1
    rw [HF.out.1.cell (p:=⟨bp,op+i,none⟩) (World.block_lt_of_cell? w _ h),h,←kp]
    rfl
   have OK:Hid (p.ok wr):=by
    have h:=(HH.out.1 i hlt).2
    rw [←kp] at h
    exact ⟨h.1,h.2.1,fun j hj=>by rw [HF.out.1.cell (p:=⟨p.b,p.o+j,none⟩) (World.block_lt_of_cell? w _ (h.2.2 j hj))];exact h.2.2 j hj⟩
   have LB:Hid (p.X=[]∨p.b<w.heap.size):=by
    by_cases h0:p.X=[]
    ·exact .inl h0
    ·refine .inr ?_
     have h:=(HH.out.1 i hlt).2
     rw [←kp] at h
     exact World.block_lt_of_cell? w _ (h.2.2 0 (List.length_pos_iff.2 h0))
   have NX:Hid (catX (PS.take (i+1))=catX (PS.take i)++p.X):=by rw [kp];exact ga hlt
   have LN:Hid ((catX (PS.take i)).length+p.X.length<1073741824):=by
    have h1:=j7 (PS:=PS) (i+1)
    rw [NX.out,List.length_append] at h1
    have:=HC.out.1
    have h:(catX (PS.take i)).length+p.X.length<1073741824:=by omega
    exact h
   clear kp
   obtain ⟨bd,NB,hAt,hByo⟩:∃ bd,Hid (bd≠bs)∧Hid (At p.a bd p.o p.X)∧Hid (Byo wr bd p.o p.X):=by
    rcases LB.out with h|h
    ·refine ⟨bs+1,?_,.inl h,?_⟩
     ·have h:bs+1≠bs:=by omega
      exact h
     ·intro j hj;rw [h] at hj;simp at hj
    ·refine ⟨p.b,?_,OK.out.1,OK.out.2.2⟩
     have h:p.b≠bs:=by have:=BS.out;omega
     exact h
   go_wp2_with fail
   refine (eO NB.out (by have:=BS.out;have:=LT.out;omega) (by have:=BS.out;have:=LT.out;omega) LN.out OK.out.2.1 hAt.out _ HF.out.2.2 hByo.out (HH.out.2.1.keep HF.out.1) (HH.out.2.2.keep HF.out.1)).mono ?_
   rintro e w5 ⟨rfl,hs5,ho5⟩
   have H5:Hid (Below w.heap.size w w5∧Hsh w5 w.heap.size (List.replicate 32 0)∧Sp w5 bs k (absb (List.replicate 25 0) 0 (catX (PS.take (i+1)))) (catX (PS.take (i+1))).length):=by
    rw [NX.out,ix,List.length_append,Nat.zero_add]
    exact ⟨HF.out.1.trans (ho5.below HF.out.1.size NN.out.2),HF.out.2.1.off ho5 NN.out.1,hs5⟩
   clear hs5 ho5 HF OK LB NX LN g0 hAt hByo NB
   go_wp2
   go_roundg (PS.length-(i+1))
   case measure=>have:=HK.out;omega
   case rel=>exact ⟨i+1,rfl,by omega,by go_num,H5.out⟩
open Go.RowKit Go.Sort
noncomputable def digV (k:Int) (X:List (BitVec 8)):Value:=.agg (byts (hashL (finL k (absb (List.replicate 25 0) 0 X) X.length))).toArray
theorem sum_any {a:Option Addr} {bp op cp:Nat} {PS:List Part} (hs:(catX PS).length<1073741824) (hn:PS.length≤1073741824) (hc:PS.length≤cp) (ha:PS=[]∨a=some ⟨bp,op,none⟩) (w:World) (hP:Prts w bp op PS) (ht:Tab w 3 turnsN) (hm:Lns w 2 marksN) :
  Calls Tryz.prog 17 #[.slice a PS.length cp] w fun e w'=>e = .returned (digV 0 (catX PS))∧Below w.heap.size w w':=by
 have HH:Hid (Prts w bp op PS∧Tab w 3 turnsN∧Lns w 2 marksN):=⟨hP,ht,hm⟩
 have HC:Hid ((catX PS).length<1073741824∧PS.length≤1073741824∧PS.length≤cp∧(PS=[]∨a=some ⟨bp,op,none⟩)):=⟨hs,hn,hc,ha⟩
 clear hP ht hm hs hc ha hn
 go_enter Tryz.func17,Tryz.ntmps17
 go_wp2_with fail
 refine aa (fun W=>Below w.heap.size w W∧Hsh W w.heap.size (List.replicate 32 0)) ⟨(Below.refl _ _).alloc (Nat.le_refl _) _,Hsh.zeros _ rfl⟩ ?_
 rintro W ⟨B,hR⟩
 have PP:Prts W bp op PS:=fun i hi=>by
  obtain ⟨h1,h2,h3,h4⟩:=HH.out.1 i hi
  exact ⟨by rw [B.cell (p:=⟨bp,op+i,none⟩) (World.block_lt_of_cell? w _ h1)];exact h1,h2,h3,fun j hj=>by rw [B.cell (World.block_lt_of_cell? w _ (h4 j hj))];exact h4 j hj⟩
 refine (sd (k:=0) HC.out.1 HC.out.2.1 HC.out.2.2.1 HC.out.2.2.2 _ PP (HH.out.2.1.keep B) (HH.out.2.2.keep B)).mono ?_
 rintro e w6 ⟨rfl,hb⟩
 have H6:Hid (Below w.heap.size w w6∧Hsh w6 w.heap.size (List.replicate 32 0)):=⟨B.trans (hb.mono B.size),hR.keep hb⟩
 clear hb B hR PP
 have oc:=one_byts (hashL (finL 0 (absb (List.replicate 25 0) 0 (catX PS)) (catX PS).length))
 have lN:(byts (hashL (finL 0 (absb (List.replicate 25 0) 0 (catX PS)) (catX PS).length))).length=32:=by rw [byts_len,dD]
 generalize hN:byts (hashL (finL 0 (absb (List.replicate 25 0) 0 (catX PS)) (catX PS).length))=N at *
 have EN:Hid (byts (hashL (finL 0 (absb (List.replicate 25 0) 0 (catX PS)) (catX PS).length))=N):=hN
 clear hN
 have sz:(N.toArray).size=32:=by simp [lN]
 have tr:w6.there w.heap.size 0 (N.toArray).size:=by rw [sz];exact H6.out.2.there
 have HN:Hid (N.length=32):=lN
 clear lN
 go_wp2_with (refine wpList_store_mid rfl 47 _ _ rfl w.heap.size 0 _ rfl rfl tr (by rw [sz];kernel_rfl) oc ?_)
 have ld:=run_loadVar_mid (P:=Tryz.prog) (w6.setCells w.heap.size 0 N) w.heap.size 0 47 N _ (World.rangeAt_setCells_same _ _ _ _ (by simpa using tr)) Tryz.underlying47 rfl (by rw [HN.out];kernel_rfl)
 refine bodyPost_ret (v:=.agg N.toArray) ?_ rfl ⟨by rw [digV,EN.out],below_setCells (Nat.le_refl _) N 0 w6 H6.out.1⟩
 simp [results,Tryz.results17,Act.put,asAddr,ld]
open Go.RowKit Go.Sort
theorem uS {b bd od cd:Nat} {a:Option Addr} {k:Int} {L:List (BitVec 64)} {t:Nat} {X:List (BitVec 8)} (ne:bd≠b) (nt:3≠b) (nm:2≠b) (hs:t+X.length<140737488355328) (hc:X.length≤cd) (hx:At a bd od X) (w:World) (hS:Sp w b k L t) (hX:Byo w bd od X) (ht:Tab w 3 turnsN) (hm:Lns w 2 marksN) :
  Calls Tryz.prog 74 #[.pointer (some ⟨b,0,none⟩),.slice a X.length cd] w fun e w'=>e = .returned (.tuple #[])∧Sp w' b k (absb L t X) (t+X.length)∧Off b w w':=by
 have NN:Hid (bd≠b∧3≠b∧2≠b):=⟨ne,nt,nm⟩
 have HH:Hid (Byo w bd od X∧Tab w 3 turnsN∧Lns w 2 marksN):=⟨hX,ht,hm⟩
 clear ne nt nm hX ht hm
 go_enter Tryz.func74,Tryz.ntmps74
 go_wp2_with fail
 go_loopg [1] X.length (fun g v wr=>∃ (n:Nat) (a':Option Addr) (c':Nat),g=X.length-n∧n≤X.length∧v = .slice a' (X.length-n) c'∧X.length-n≤c'∧At a' bd (od+n) (X.drop n)∧Sp wr b k (absb L t (X.take n)) (t+n)∧Off b w wr)
 case atStart=>exact ⟨0,a,cd,rfl,Nat.zero_le _,rfl,hc,hx,hS,Off.refl _ _⟩
 case round =>
  clear hS hx hc
  obtain ⟨n,a',c',hk,hn,rfl,hc,ha,hS,hO⟩:=hrel
  have HK:Hid (gk=X.length-n):=hk
  have HF:Hid (Sp wr b k (absb L t (X.take n)) (t+n)∧Off b w wr∧At a' bd (od+n) (X.drop n)):=⟨hS,hO,ha⟩
  clear hk hS hO ha
  by_cases h8:n=X.length
  ·subst h8
   have e0:X.length-X.length=0:=Nat.sub_self _
   go_wp2
   all_goals go_end0
   all_goals exact ⟨rfl,by have h:=HF.out.1;rw [List.take_length] at h;exact h,HF.out.2.1⟩
  ·have hd:(X.drop n).length=X.length-n:=List.length_drop
   have ea:a'=some ⟨bd,od+n,none⟩:=by
    rcases HF.out.2.2 with h|h
    ·rw [h] at hd;simp at hd;omega
    ·exact h
   subst ea
   obtain ⟨T,eT⟩:∃ T,T=t+n:=⟨_,rfl⟩
   obtain ⟨p,ep⟩:∃ p:Nat,p=T%136:=⟨_,rfl⟩
   have EP:Hid ((T:Int)%136=(p:Int)):=by have h:(T:Int)%136=(p:Int):=(by omega);exact h
   have p0:(p:Int)<136:=by omega
   have hT:(T:Int)<140737488355328:=by omega
   obtain ⟨m,em⟩:∃ m:Nat,m=min (X.length-n) (136-p):=⟨_,rfl⟩
   have m0:0<m:=by omega
   have m1:m≤X.length-n:=by omega
   have m2:p+m≤136:=by omega
   have g26:wr.cell? ⟨b,26,none⟩=some (.int .i64 (T:Int)):=by rw [eT];exact HF.out.1.2.2.2.1
   obtain ⟨A,kA⟩:∃ A,A=absb L t (X.take n):=⟨_,rfl⟩
   have HS:Hid (Sp wr b k A T):=by rw [kA,eT];exact HF.out.1
   obtain ⟨Z,kZ⟩:∃ Z,Z=(X.drop n).take m:=⟨_,rfl⟩
   have lZ:Z.length=m:=by rw [kZ,List.length_take,hd];omega
   have HZ:Hid (Byo wr bd (od+n) Z):=by
    intro i hi
    have h:=(HH.out.1.off HF.out.2.1 NN.out.1).drop (n:=n) i (by omega)
    rw [h,kZ]
    simp [List.getD,show i<m by omega]
   have FIN:Hid (absb L t (X.take (n+m))=turn (dU A p Z) (T+m)):=by
    have e1:X.take (n+m)=X.take n++Z:=by rw [kZ,List.take_add]
    rw [e1,ix,←kA,List.length_take,Nat.min_eq_left (by omega),←eT,jx _ _ _ (by omega) (by omega),lZ,ep]
    exact rfl
   have HO:Hid (Off b w wr):=HF.out.2.1
   have LZ:Hid (Z.length=m):=lZ
   have ET:Hid (T=t+n∧p=T%136):=⟨eT,ep⟩
   have EM:Hid (m=min (X.length-n) (136-p)):=em
   have HN:Hid (n≤X.length∧¬n=X.length∧t+X.length<140737488355328):=⟨hn,h8,hs⟩
   have rb:((X.length-n:Nat):Int)<140737488355328:=by omega
   clear kA kZ lZ HF hd eT ep em hn h8 hs
   generalize hr:X.length-n=r at *
   have RL:Hid (X.length-n=r):=hr
   clear hr
   have em':(if 136-(T:Int)%136<(r:Int) then 136-(T:Int)%136 else (r:Int))=(m:Int):=by have:=EM.out;rw [EP.out];split<;>omega
   have M3:Hid (0<m∧m≤r∧p+m≤136):=⟨m0,m1,m2⟩
   have m3:0<r:=by omega
   have m4:m≤c':=by omega
   clear m0 m2
   go_wp2_with fail
   go_loopg [27] m (fun g iv wr=>∃ i:Nat,g=m-i∧i≤m∧iv = .int .i64 i∧Sp wr b k (dU A p (Z.take i)) T∧Off b w wr∧Byo wr bd (od+n) Z)
   case atStart=>exact ⟨0,rfl,Nat.zero_le _,rfl,HS.out,HO.out,HZ.out⟩
   case round =>
    clear HS HO HZ g26
    obtain ⟨i,hk,hi,rfl,hf⟩:=hrel
    have HK2:Hid (gk=m-i):=hk
    have HF:Hid (Sp wr b k (dU A p (Z.take i)) T∧Off b w wr∧Byo wr bd (od+n) Z):=hf
    clear hk hf
    by_cases h9:i=m
    ·subst h9
     obtain ⟨C,kC⟩:∃ C,C=dU A p Z:=⟨_,rfl⟩
     have HS:Hid (Sp wr b k C T):=by have h:=HF.out.1;rw [←LZ.out,List.take_length,←kC] at h;exact h
     have HO:Hid (Off b w wr):=HF.out.2.1
     have FIN2:Hid (absb L t (X.take (n+i))=turn C (T+i)):=by rw [FIN.out,kC];exact rfl
     clear HF FIN kC
     have g26:=HS.out.2.2.2.1
     have f26:=HS.out.2.2.2.2 26 (by decide)
     obtain ⟨q,eq⟩:∃ q:Nat,q=(T+i)%136:=⟨_,rfl⟩
     have EQ:Hid (q=(T+i)%136):=eq
     have h136:i≤136:=by have:=M3.out;omega
     obtain ⟨a2,ha2⟩:∃ a2,(if c'=i then some (⟨bd,od+n,none⟩:Addr) else some ⟨bd,od+n+i,none⟩)=a2:=⟨_,rfl⟩
     have AT:Hid (At a2 bd (od+(n+i)) (X.drop (n+i))):=by
      by_cases h:c'=i
      ·refine .inl (List.drop_eq_nil_of_le ?_)
       have:=RL.out;have:=HN.out;omega
      ·rw [if_neg h] at ha2
       exact .inr (by rw [←ha2,Nat.add_assoc])
     have RR:Hid (X.length-(n+i)=r-i∧n+i≤X.length∧r-i≤c'-i∧X.length-(n+i)<X.length-n):=by
      have:=RL.out;have:=HN.out;have:=M3.out
      exact ⟨by omega,by omega,by omega,by omega⟩
     by_cases hq:q=0
     ·have q1:((T:Int)+(i:Int))%136=0:=by omega
      have q2:(((T:Int)+(i:Int))%136==0)=true:=beq_iff_eq.2 q1
      have HQ:Hid (q=0):=hq
      clear eq hq q1
      have HM:Hid ((aZ C).length=25):=by rw [bV];exact HS.out.1
      go_wp2_with (refine wpList_load_mid rfl 110 _ rfl b 1 rfl (aZ C) _ ((HS.out.taken (T+i)).range) Tryz.underlying110 rfl (by rw [HM.out];kernel_rfl) ?_)
      have HW:Hid (Sp (wr.setCell ⟨b,26,none⟩ (.int .i64 ((T:Int)+(i:Int)))) b k C (T+i)∧Off b w (wr.setCell ⟨b,26,none⟩ (.int .i64 ((T:Int)+(i:Int))))):=⟨HS.out.taken (T+i),HO.out.setCell _⟩
      refine aa (fun W=>Sp W b k C (T+i)∧Off b w W) HW.out ?_
      clear HW HS HO g26 f26 q2
      rintro W2 ⟨hs,ho⟩
      refine (jW hs.1 _ (ho.tab NN.out.2.1 HH.out.2.1) (ho.lns NN.out.2.2 HH.out.2.2)).mono ?_
      rintro e w3 ⟨rfl,hb⟩
      have HS:Hid (Sp w3 b k C (T+i)∧Off b w w3):=⟨hs.keep hb,ho.trans (.of_below hb)⟩
      clear hs ho hb W2
      have lP:(jt C).length=25:=jR HS.out.1.1
      have LP:Hid ((jt C).length=25):=lP
      have sz:=gE lP
      have tr:w3.there b 1 ((aZ (jt C)).toArray).size:=by rw [sz];exact HS.out.1.there
      have oc:=fZ (jt C)
      clear lP
      go_wp2_with (refine wpList_store_mid rfl 110 _ _ rfl b 1 _ rfl rfl tr (by rw [sz];kernel_rfl) oc ?_)
      go_roundg (X.length-(n+i))
      case measure=>have:=HK.out;have:=RR.out;have:=RL.out;omega
      case rel =>
       refine ⟨n+i,a2,c'-i,rfl,RR.out.2.1,by rw [RR.out.1],by rw [RR.out.1];exact RR.out.2.2.1,AT.out,?_⟩
       rw [FIN2.out]
       rw [turn,if_pos (by have:=EQ.out;have:=HQ.out;omega),show t+(n+i)=T+i by have:=ET.out;omega]
       exact ⟨HS.out.1.stored LP.out,HS.out.2.setCells _⟩
     ·have q1:¬((T:Int)+(i:Int))%136=0:=by omega
      have q2:(((T:Int)+(i:Int))%136==0)=false:=beq_eq_false_iff_ne.2 q1
      clear eq q1
      have HQ:Hid (¬q=0):=hq
      clear hq
      go_wp2
      go_roundg (X.length-(n+i))
      case measure=>have:=HK.out;have:=RR.out;have:=RL.out;omega
      case rel =>
       refine ⟨n+i,a2,c'-i,rfl,RR.out.2.1,by rw [RR.out.1],by rw [RR.out.1];exact RR.out.2.2.1,AT.out,?_⟩
       rw [FIN2.out]
       rw [turn,if_neg (by have:=EQ.out;have:=HQ.out;omega),show t+(n+i)=T+i by have:=ET.out;omega]
       exact ⟨HS.out.taken (T+i),HO.out.setCell _⟩
    ·have hi':(i:Int)<m:=by omega
     have hlt:i<m:=by omega
     have gy:=HF.out.2.2 i (by rw [LZ.out];omega)
     obtain ⟨y,ky⟩:∃ y,y=Z.getD i 0:=⟨_,rfl⟩
     rw [←ky] at gy
     have KY:Hid (dU A p (Z.take (i+1))=f9 (dU A p (Z.take i)) (p+i) y):=by rw [ky];exact oQ (by rw [LZ.out];omega)
     obtain ⟨C,kC⟩:∃ C,C=dU A p (Z.take i):=⟨_,rfl⟩
     have HS:Hid (Sp wr b k C T∧Off b w wr∧Byo wr bd (od+n) Z):=by rw [kC];exact HF.out
     rw [←kC] at KY
     clear ky kC HF
     have M5:=M3.out
     go_wp2_with fail
     have lC:C.length=25:=HS.out.1.1
     rw [show (T:Int)%136+(i:Int)=((p+i:Nat):Int) by rw [EP.out];omega]
     refine (jY (p:=p+i) (z:=C.getD ((p+i)/8) 0) y (by omega) _ (HS.out.1.2.2.1 _ (by omega)) (HS.out.1.2.2.2.2 _ (by omega))).mono ?_
     rintro e w1 ⟨rfl,h1⟩
     have HS2:Hid (Sp w1 b k (dU A p (Z.take (i+1))) T∧Off b w w1∧Byo w1 bd (od+n) Z):=by
      rw [KY.out,h1]
      exact ⟨HS.out.1.drew.mix (by omega) y,HS.out.2.1.drew.setCell _,fun j hj=>by rw [World.cell?_setCell_far _ _ _ _ NN.out.1.symm];exact HS.out.2.2 j hj⟩
     clear h1 HS KY lC M5
     go_wp2
     go_roundg (m-(i+1))
     case measure=>have:=HK2.out;omega
     case rel=>exact ⟨i+1,rfl,by omega,by go_num,HS2.out⟩
theorem xp {b:Nat} {k:Int} {L:List (BitVec 64)} {t:Nat} (tb:t<140737488355328) (w:World) (hS:Sp w b k L t) (ht:Tab w 3 turnsN) (hm:Lns w 2 marksN) :
  Rt 75 #[.pointer (some ⟨b,0,none⟩)] w (.agg (byts (hashL (finL k L t))).toArray):=by
 have HH:Hid (Tab w 3 turnsN∧Lns w 2 marksN):=⟨ht,hm⟩
 have HS:Hid (Sp w b k L t):=hS
 have lb:b<w.heap.size:=hS.lt
 have HM:Hid ((aZ L).length=25):=by rw [bV];exact hS.1
 have sz:=gE hS.1
 have oc:=fZ L
 have HL:Hid (L.length=25):=hS.1
 have TB:Hid (t<140737488355328∧b<w.heap.size):=⟨tb,lb⟩
 clear ht hm hS lb
 go_enter Tryz.func75,Tryz.ntmps75
 go_wp2_with (first|refine wpList_load_mid rfl 110 _ rfl b 1 rfl (aZ L) _ ((HS.out.alloc _).range) Tryz.underlying110 rfl (by rw [HM.out];kernel_rfl) ?_|(refine wpList_store_mid rfl 110 _ _ rfl (w.heap.size+1) 0 _ rfl rfl (by rw [sz];exact (iZ (by simp)).there) (by rw [sz];kernel_rfl) oc ?_;refine aF (fun W=>Below w.heap.size w W∧Hsh W w.heap.size (List.replicate 32 0)∧Arr W (w.heap.size+1) L) ⟨below_setCells (by omega) _ 0 _ (((Below.refl _ _).alloc (Nat.le_refl _) _).alloc (by simp) _),((Hsh.zeros _ rfl).alloc _).otherCells (by omega) _,(iZ (by simp)).stored HL.out⟩ ?_;intro W2 hh;have HY:Hid (Below w.heap.size w W2∧Hsh W2 w.heap.size (List.replicate 32 0)∧Arr W2 (w.heap.size+1) L):=hh;clear hh))
 simp only [Act.put]
 have NN:Hid (w.heap.size+1≠w.heap.size∧w.heap.size≤w.heap.size+1):=⟨by omega,by omega⟩
 generalize w.heap.size+1=n1 at *
 have g26:W2.cell? ⟨b,26,none⟩=some (.int .i64 (t:Int)):=by rw [HY.out.1.cell (p:=⟨b,26,none⟩) TB.out.2];exact HS.out.2.2.2.1
 have g0:W2.cell? ⟨b,0,none⟩=some (.int .i64 k):=by rw [HY.out.1.cell (p:=⟨b,0,none⟩) TB.out.2];exact HS.out.2.1
 have G0:Hid (W2.cell? ⟨b,0,none⟩=some (.int .i64 k)):=g0
 clear g0 sz oc HM
 have t1:(t:Int)<140737488355328:=by have:=TB.out.1;omega
 have P0:Hid (∀ W,W=W2.drew→Calls Tryz.prog 107 #[.pointer (some ⟨b,0,none⟩)] W fun e w'=>e = .returned (.int .u8 (Y (oz k)))∧w'=W):=by rintro W rfl;exact oR _ G0.out
 refine aB 7 (by kernel_rfl) (by kernel_rfl) ?_
 simp only [List.take_succ_cons,List.take_zero,List.drop_succ_cons,List.drop_zero]
 repeat (first|go_big_quiet_skip|(go_big_quiet_want;go_big_quiet_op;first|go_big_quiet_on|(with_reducible refine ⟨_,P0.out _ rfl,?_⟩;go_big_quiet_on)))
 refine wpQuiet_nil ?_
 go_wp2_with fail
 rw [show (t:Int)%136=((t%136:Nat):Int) by omega]
 refine (jY (b:=n1) (o:=0) (p:=t%136) (z:=L.getD (t%136/8) 0) (oz k) (by omega) _ (by rw [Nat.zero_add];exact HY.out.2.2.2.1 _ (by rw [HL.out];omega)) (by rw [Nat.zero_add];exact HY.out.2.2.2.2 _ (by omega))).mono ?_
 rintro e w3 ⟨rfl,h3⟩
 obtain ⟨A,kA⟩:∃ A,A=f9 L (t%136) (oz k):=⟨_,rfl⟩
 have H3:Hid (Below w.heap.size w w3∧Hsh w3 w.heap.size (List.replicate 32 0)∧Arr w3 n1 A):=by
  rw [h3,kA]
  exact ⟨HY.out.1.drew.drew.setCell NN.out.2 _,HY.out.2.1.drew.drew.other NN.out.1 _,HY.out.2.2.drew.drew.mix (by omega) _⟩
 clear h3 HY g26 G0 P0 t1
 go_wp2_with fail
 have y128:Y 128=128:=by rw [Y_eq];rfl
 have lA:A.length=25:=H3.out.2.2.1
 refine (BD (b:=n1) (o:=0) (p:=135) (z:=A.getD (135/8) 0) y128 (by decide) _ (H3.out.2.2.2.1 (135/8) (by omega)) (H3.out.2.2.2.2 (135/8) (by decide))).mono ?_
 rintro e w4 ⟨rfl,h4⟩
 obtain ⟨C,kC⟩:∃ C,C=f9 A 135 128:=⟨_,rfl⟩
 have H4:Hid (Below w.heap.size w w4∧Hsh w4 w.heap.size (List.replicate 32 0)∧Arr w4 n1 C):=by
  rw [h4,kC]
  exact ⟨H3.out.1.drew.setCell NN.out.2 _,H3.out.2.1.drew.other NN.out.1 _,H3.out.2.2.drew.mix (by decide) _⟩
 have FIN:Hid (finL k L t=jt C):=by rw [kC,kA];exact rfl
 clear h4 H3 kA kC y128 lA
 have lC:Hid (C.length=25):=H4.out.2.2.1
 have HM:Hid ((aZ C).length=25):=by rw [bV];exact lC.out
 go_wp2_with (refine wpList_load_mid rfl 110 _ rfl n1 0 rfl (aZ C) _ (H4.out.2.2.2.1.range) Tryz.underlying110 rfl (by rw [HM.out];kernel_rfl) ?_)
 refine (jW lC.out _ (HH.out.1.keep H4.out.1) (HH.out.2.keep H4.out.1)).mono ?_
 rintro e w5 ⟨rfl,hb⟩
 have H5:Hid (Below w.heap.size w w5∧Hsh w5 w.heap.size (List.replicate 32 0)):=⟨H4.out.1.trans (hb.mono H4.out.1.size),H4.out.2.1.keep hb⟩
 clear hb H4
 go_wp2_with fail
 refine (l5 (jR lC.out) _).mono ?_
 rintro e w6 ⟨rfl,hb⟩
 have H6:Hid (Below w.heap.size w w6∧Hsh w6 w.heap.size (List.replicate 32 0)):=⟨H5.out.1.trans (hb.mono H5.out.1.size),H5.out.2.keep hb⟩
 clear hb H5
 rw [←FIN.out]
 have lN:(byts (hashL (finL k L t))).length=32:=by rw [byts_len,dD]
 have oc:=one_byts (hashL (finL k L t))
 generalize hN:byts (hashL (finL k L t))=N at *
 have EN:Hid (byts (hashL (finL k L t))=N):=hN
 clear hN
 have sz:(N.toArray).size=32:=by simp [lN]
 have tr:w6.there w.heap.size 0 (N.toArray).size:=by rw [sz];exact H6.out.2.there
 have HN:Hid (N.length=32):=lN
 clear lN
 go_wp2_with (refine wpList_store_mid rfl 47 _ _ rfl w.heap.size 0 _ rfl rfl tr (by rw [sz];kernel_rfl) oc ?_)
 have ld:=run_loadVar_mid (P:=Tryz.prog) (w6.setCells w.heap.size 0 N) w.heap.size 0 47 N _ (World.rangeAt_setCells_same _ _ _ _ (by simpa using tr)) Tryz.underlying47 rfl (by rw [HN.out];kernel_rfl)
 refine bodyPost_ret (v:=.agg N.toArray) ?_ rfl ⟨by rw [EN.out],below_setCells (Nat.le_refl _) N 0 w6 H6.out.1⟩
 simp [results,Tryz.results75,Act.put,asAddr,ld]
theorem se {k:Int} {a:Option Addr} {bp op cp:Nat} {PS:List Part} (hs:(catX PS).length<140737488355328) (hn:PS.length≤140737488355328) (hc:PS.length≤cp) (ha:PS=[]∨a=some ⟨bp,op,none⟩) (w:World) (hP:Prts w bp op PS) (ht:Tab w 3 turnsN) (hm:Lns w 2 marksN) :
  Rt 39 #[.int .i64 k,.slice a PS.length cp] w (.agg (byts (hashL (finL k (absb (List.replicate 25 0) 0 (catX PS)) (catX PS).length))).toArray):=by
 have HH:Hid (Prts w bp op PS∧Tab w 3 turnsN∧Lns w 2 marksN):=⟨hP,ht,hm⟩
 have HC:Hid ((catX PS).length<140737488355328∧PS.length≤cp∧(PS=[]∨a=some ⟨bp,op,none⟩)):=⟨hs,hc,ha⟩
 clear hP ht hm hs hc ha
 have oc:=l7 k
 go_enter Tryz.func39,Tryz.ntmps39
 have sz:=l6 k
 have NL:Hid (PS.length≤140737488355328):=hn
 go_wp2_with (refine wpList_store_mid rfl 112 _ _ rfl (w.heap.size+1) 0 ([.int .i64 k,.int .u64 0,.int .u64 0,.int .u64 0,.int .u64 0,.int .u64 0,.int .u64 0,.int .u64 0,.int .u64 0,.int .u64 0,.int .u64 0,.int .u64 0,.int .u64 0,.int .u64 0,.int .u64 0,.int .u64 0,.int .u64 0,.int .u64 0,.int .u64 0,.int .u64 0,.int .u64 0,.int .u64 0,.int .u64 0,.int .u64 0,.int .u64 0,.int .u64 0,.int .i64 0]:List Value).toArray rfl rfl ?th sz oc ?go;exact jn k (by simp);refine aF (fun W=>Below w.heap.size w W∧Hsh W w.heap.size (List.replicate 32 0)∧Sp W (w.heap.size+1) k (List.replicate 25 0) 0) ⟨below_setCells (by omega) _ 0 _ (((Below.refl _ _).alloc (Nat.le_refl _) _).alloc (by simp) _),((Hsh.zeros _ rfl).alloc _).otherCells (by omega) _,Sp.zeros k (gG (by simp))⟩ ?_;intro W2 hh;have HY:Hid (Below w.heap.size w W2∧Hsh W2 w.heap.size (List.replicate 32 0)∧Sp W2 (w.heap.size+1) k (List.replicate 25 0) 0):=hh;clear hh)
 have NN:Hid (w.heap.size≠w.heap.size+1∧w.heap.size≤w.heap.size+1):=⟨by omega,by omega⟩
 have LT:Hid (3<w.heap.size∧2<w.heap.size):=⟨HH.out.2.1.lt (by decide),HH.out.2.2.lt (by decide)⟩
 clear sz oc
 generalize hbs:w.heap.size+1=bs at *
 have BS:Hid (w.heap.size+1=bs):=hbs
 clear hbs
 go_loopg [12] PS.length (fun g iv wr=>∃ i:Nat,g=PS.length-i∧i≤PS.length∧iv = .int .i64 i∧Below w.heap.size w wr∧Hsh wr w.heap.size (List.replicate 32 0)∧Sp wr bs k (absb (List.replicate 25 0) 0 (catX (PS.take i))) (catX (PS.take i)).length)
 case atStart=>exact ⟨0,rfl,Nat.zero_le _,rfl,HY.out⟩
 case round =>
  clear HY
  obtain ⟨i,hk,hi,rfl,hf⟩:=hrel
  have HK:Hid (gk=PS.length-i):=hk
  have HF:Hid (Below w.heap.size w wr∧Hsh wr w.heap.size (List.replicate 32 0)∧Sp wr bs k (absb (List.replicate 25 0) 0 (catX (PS.take i))) (catX (PS.take i)).length):=hf
  clear hk hf
  by_cases h8:i=PS.length
  ·subst h8
   rw [List.take_length] at HF
   go_wp2_with fail
   refine (xp HC.out.1 _ HF.out.2.2 (HH.out.2.1.keep HF.out.1) (HH.out.2.2.keep HF.out.1)).mono ?_
   rintro e w6 ⟨rfl,hb⟩
   have H6:Hid (Below w.heap.size w w6∧Hsh w6 w.heap.size (List.replicate 32 0)):=⟨HF.out.1.trans (hb.mono HF.out.1.size),HF.out.2.1.keep hb⟩
   clear hb HF
   have oc:=one_byts (hashL (finL k (absb (List.replicate 25 0) 0 (catX PS)) (catX PS).length))
   have lN:(byts (hashL (finL k (absb (List.replicate 25 0) 0 (catX PS)) (catX PS).length))).length=32:=by rw [byts_len,dD]
   generalize hN:byts (hashL (finL k (absb (List.replicate 25 0) 0 (catX PS)) (catX PS).length))=N at *
   have EN:Hid (byts (hashL (finL k (absb (List.replicate 25 0) 0 (catX PS)) (catX PS).length))=N):=hN
   have sz:(N.toArray).size=32:=by simp [lN]
   have tr:w6.there w.heap.size 0 (N.toArray).size:=by rw [sz];exact H6.out.2.there
   have HN:Hid (N.length=32):=lN
   clear lN hN
   go_wp2_with (refine wpList_store_mid rfl 47 _ _ rfl w.heap.size 0 _ rfl rfl tr (by rw [sz];kernel_rfl) oc ?_)
   have ld:=run_loadVar_mid (P:=Tryz.prog) (w6.setCells w.heap.size 0 N) w.heap.size 0 47 N _ (World.rangeAt_setCells_same _ _ _ _ (by simpa using tr)) Tryz.underlying47 rfl (by rw [HN.out];kernel_rfl)
   refine bodyPost_ret (v:=.agg N.toArray) ?_ rfl ⟨by rw [EN.out],below_setCells (Nat.le_refl _) N 0 w6 H6.out.1⟩
   simp [results,Tryz.results39,Act.put,asAddr,ld]
  ·have hlt:i<PS.length:=by omega
   have hlt':(i:Int)<PS.length:=by omega
   have ea:a=some ⟨bp,op,none⟩:=by
    rcases HC.out.2.2 with h|h
    ·rw [h] at hlt;simp at hlt
    ·exact h
   subst ea
   obtain ⟨p,kp⟩:∃ p,p=PS.getD i .none:=⟨_,rfl⟩
   have g0:wr.cell? ⟨bp,op+i,none⟩=some (.slice p.a p.X.length p.c):=by
    have h:=(HH.out.1 i hlt).1
    rw [HF.out.1.cell (p:=⟨bp,op+i,none⟩) (World.block_lt_of_cell? w _ h),h,←kp]
    rfl
   have OK:Hid (p.ok wr):=by
    have h:=(HH.out.1 i hlt).2
    rw [←kp] at h
    exact ⟨h.1,h.2.1,fun j hj=>by rw [HF.out.1.cell (p:=⟨p.b,p.o+j,none⟩) (World.block_lt_of_cell? w _ (h.2.2 j hj))];exact h.2.2 j hj⟩
   have LB:Hid (p.X=[]∨p.b<w.heap.size):=by
    by_cases h0:p.X=[]
    ·exact .inl h0
    ·refine .inr ?_
     have h:=(HH.out.1 i hlt).2
     rw [←kp] at h
     exact World.block_lt_of_cell? w _ (h.2.2 0 (List.length_pos_iff.2 h0))
   have NX:Hid (catX (PS.take (i+1))=catX (PS.take i)++p.X):=by rw [kp];exact ga hlt
   have LN:Hid ((catX (PS.take i)).length+p.X.length<140737488355328):=by
    have h1:=j7 (PS:=PS) (i+1)
    rw [NX.out,List.length_append] at h1
    have:=HC.out.1
    have h:(catX (PS.take i)).length+p.X.length<140737488355328:=by omega
    exact h
   clear kp
   obtain ⟨bd,NB,hAt,hByo⟩:∃ bd,Hid (bd≠bs)∧Hid (At p.a bd p.o p.X)∧Hid (Byo wr bd p.o p.X):=by
    rcases LB.out with h|h
    ·refine ⟨bs+1,?_,.inl h,?_⟩
     ·have h:bs+1≠bs:=by omega
      exact h
     ·intro j hj;rw [h] at hj;simp at hj
    ·refine ⟨p.b,?_,OK.out.1,OK.out.2.2⟩
     have h:p.b≠bs:=by have:=BS.out;omega
     exact h
   go_wp2_with fail
   refine (uS NB.out (by have:=BS.out;have:=LT.out;omega) (by have:=BS.out;have:=LT.out;omega) LN.out OK.out.2.1 hAt.out _ HF.out.2.2 hByo.out (HH.out.2.1.keep HF.out.1) (HH.out.2.2.keep HF.out.1)).mono ?_
   rintro e w5 ⟨rfl,hs5,ho5⟩
   have H5:Hid (Below w.heap.size w w5∧Hsh w5 w.heap.size (List.replicate 32 0)∧Sp w5 bs k (absb (List.replicate 25 0) 0 (catX (PS.take (i+1)))) (catX (PS.take (i+1))).length):=by
    rw [NX.out,ix,List.length_append,Nat.zero_add]
    exact ⟨HF.out.1.trans (ho5.below HF.out.1.size NN.out.2),HF.out.2.1.off ho5 NN.out.1,hs5⟩
   clear hs5 ho5 HF OK LB NX LN g0 hAt hByo NB
   go_wp2
   go_roundg (PS.length-(i+1))
   case measure=>have:=HK.out;omega
   case rel=>exact ⟨i+1,rfl,by omega,by go_num,H5.out⟩
theorem sum_big {a:Option Addr} {bp op cp:Nat} {PS:List Part} (hs:(catX PS).length<140737488355328) (hn:PS.length≤140737488355328) (hc:PS.length≤cp) (ha:PS=[]∨a=some ⟨bp,op,none⟩) (w:World) (hP:Prts w bp op PS) (ht:Tab w 3 turnsN) (hm:Lns w 2 marksN) :
  Rt 17 #[.slice a PS.length cp] w (digV 0 (catX PS)):=by
 have HH:Hid (Prts w bp op PS∧Tab w 3 turnsN∧Lns w 2 marksN):=⟨hP,ht,hm⟩
 have HC:Hid ((catX PS).length<140737488355328∧PS.length≤140737488355328∧PS.length≤cp∧(PS=[]∨a=some ⟨bp,op,none⟩)):=⟨hs,hn,hc,ha⟩
 clear hP ht hm hs hc ha hn
 go_enter Tryz.func17,Tryz.ntmps17
 go_wp2_with fail
 refine aa (fun W=>Below w.heap.size w W∧Hsh W w.heap.size (List.replicate 32 0)) ⟨(Below.refl _ _).alloc (Nat.le_refl _) _,Hsh.zeros _ rfl⟩ ?_
 rintro W ⟨B,hR⟩
 have PP:Prts W bp op PS:=fun i hi=>by
  obtain ⟨h1,h2,h3,h4⟩:=HH.out.1 i hi
  exact ⟨by rw [B.cell (p:=⟨bp,op+i,none⟩) (World.block_lt_of_cell? w _ h1)];exact h1,h2,h3,fun j hj=>by rw [B.cell (World.block_lt_of_cell? w _ (h4 j hj))];exact h4 j hj⟩
 refine (se (k:=0) HC.out.1 HC.out.2.1 HC.out.2.2.1 HC.out.2.2.2 _ PP (HH.out.2.1.keep B) (HH.out.2.2.keep B)).mono ?_
 rintro e w6 ⟨rfl,hb⟩
 have H6:Hid (Below w.heap.size w w6∧Hsh w6 w.heap.size (List.replicate 32 0)):=⟨B.trans (hb.mono B.size),hR.keep hb⟩
 clear hb B hR PP
 have oc:=one_byts (hashL (finL 0 (absb (List.replicate 25 0) 0 (catX PS)) (catX PS).length))
 have lN:(byts (hashL (finL 0 (absb (List.replicate 25 0) 0 (catX PS)) (catX PS).length))).length=32:=by rw [byts_len,dD]
 generalize hN:byts (hashL (finL 0 (absb (List.replicate 25 0) 0 (catX PS)) (catX PS).length))=N at *
 have EN:Hid (byts (hashL (finL 0 (absb (List.replicate 25 0) 0 (catX PS)) (catX PS).length))=N):=hN
 clear hN
 have sz:(N.toArray).size=32:=by simp [lN]
 have tr:w6.there w.heap.size 0 (N.toArray).size:=by rw [sz];exact H6.out.2.there
 have HN:Hid (N.length=32):=lN
 clear lN
 go_wp2_with (refine wpList_store_mid rfl 47 _ _ rfl w.heap.size 0 _ rfl rfl tr (by rw [sz];kernel_rfl) oc ?_)
 have ld:=run_loadVar_mid (P:=Tryz.prog) (w6.setCells w.heap.size 0 N) w.heap.size 0 47 N _ (World.rangeAt_setCells_same _ _ _ _ (by simpa using tr)) Tryz.underlying47 rfl (by rw [HN.out];kernel_rfl)
 refine bodyPost_ret (v:=.agg N.toArray) ?_ rfl ⟨by rw [digV,EN.out],below_setCells (Nat.le_refl _) N 0 w6 H6.out.1⟩
 simp [results,Tryz.results17,Act.put,asAddr,ld]
end Go.Proofs.YtjoandmehahfgaaGreatDoor.K
