import Derived.Test.YtnnnaajgjniiaaaGreatDoorNum
import Derived.Test.YtnnnaajgjniiaaaGreatDoorKBase
import Derived.Test.YtnnnaajgjniiaaaGreatDoorTail
namespace Go.Proofs.YtnnnaajgjniiaaaGreatDoor.K
set_option maxRecDepth 100000
set_option maxHeartbeats 16000000
open Go.RowKit Go.Sort
def ar (W:World) (b:Nat) (C:List (BitVec 64)):Prop:=C.length=5∧Lns W b C∧ah W b 5
theorem ar.lt {W:World} {b:Nat} {C:List (BitVec 64)} (h:ar W b C):b<W.heap.size:=h.2.1.lt (by rw [h.1];decide)
theorem ar.keep {W w1:World} {b:Nat} {C:List (BitVec 64)} (h:ar W b C) (hb:Below W.heap.size W w1):ar w1 b C:=⟨h.1,h.2.1.keep hb,h.2.2.keep hb h.lt⟩
theorem ar.alloc {W:World} {b:Nat} {C:List (BitVec 64)} (h:ar W b C) (o:Obj):ar (W.alloc o) b C:=h.keep ((Below.refl _ _).alloc (Nat.le_refl _) o)
end Go.Proofs.YtnnnaajgjniiaaaGreatDoor.K
namespace Go.Proofs.YtnnnaajgjniiaaaGreatDoor.K
open Go.RowKit Go.Sort
theorem fk {L:List (BitVec 64)} (h:L.length=25):((aP L).toArray).size=25:=by simp [bI,h]
end Go.Proofs.YtnnnaajgjniiaaaGreatDoor.K
namespace Go.Proofs.YtnnnaajgjniiaaaGreatDoor.K
open Go.RowKit Go.Sort
theorem bS {P:Program} {C:World→Prop} {a:Act} {o:Oper} {K:Act→Prop} (ty:TypeId) (x:Operand) (ho:o.op = .load ty x)
  (b f:Nat) (hx:a.eval x = .pointer (some ⟨b,f,none⟩)) (cs:List Value) (d:TypeDesc) (hS:∀ w,C w→w.rangeAt b f cs)
  (hu:P.underlying ty=some d) (hd:d.isRow=true) (hi:(P.info? ty).map (·.size)=some cs.length) (h:K (a.put o.dst (.agg cs.toArray))):o.quiet P a C K :=
 ⟨.agg cs.toArray,fun w hw=>by
  unfold Oper.quietAt execOp
  simp only [ho,hx,Instr.loadAt,Instr.sureAddr,Sem.run_bind,Sem.run_pure,Result.andThen_ok,run_loadVar_mid w b f ty cs d (hS w hw) hu hd hi]
  exact ⟨rfl,rfl⟩,h⟩
end Go.Proofs.YtnnnaajgjniiaaaGreatDoor.K
namespace Go.Proofs.YtnnnaajgjniiaaaGreatDoor.K
open Go.RowKit Go.Sort
theorem aB {P:Program} {ops:Array Oper} {Q:Exit→Act→World→Prop} {rest:List Oper} {a:Act} {w:World} (S:World→Prop) (h:S w) (k:∀ W,S W→wpList P ops Q rest a W):wpList P ops Q rest a w:=k w h
theorem gu {W:World} {b:Nat} (e:b=W.heap.size):Arr (W.alloc (.cells #[.int .u64 0,.int .u64 0,.int .u64 0,.int .u64 0,.int .u64 0,.int .u64 0,.int .u64 0,.int .u64 0,.int .u64 0,.int .u64 0,.int .u64 0,.int .u64 0,.int .u64 0,.int .u64 0,.int .u64 0,.int .u64 0,.int .u64 0,.int .u64 0,.int .u64 0,.int .u64 0,.int .u64 0,.int .u64 0,.int .u64 0,.int .u64 0,.int .u64 0] 137)) b (List.replicate 25 0):=Arr.zeros _ e
end Go.Proofs.YtnnnaajgjniiaaaGreatDoor.K
namespace Go.Proofs.YtnnnaajgjniiaaaGreatDoor.K
open Go.RowKit Go.Sort
theorem iN:∃ f:BitVec 8→Int,∀ x,f x=(x.toNat:Int):=⟨_,fun _=>rfl⟩
noncomputable def Y:BitVec 8→Int:=Classical.choose iN
theorem Y_eq (x:BitVec 8):Y x=(x.toNat:Int):=Classical.choose_spec iN x
theorem Y_lo (x:BitVec 8):0≤Y x:=by rw [Y_eq];omega
theorem Y_hi (x:BitVec 8):Y x<256:=by rw [Y_eq];have:=x.isLt;omega
def up (x:BitVec 8) (n:Nat):BitVec 64:=(x.setWidth 64) <<< n
theorem zV (x:BitVec 8) (n:Nat):IntKind.u64.wrap (Y x*2 ^ n)=V (up x n):=by
 have hx:=x.isLt
 rw [IntKind.wrap_u64,Y_eq,g9,up,BitVec.toNat_shiftLeft,BitVec.toNat_setWidth,Nat.shiftLeft_eq,Nat.mod_eq_of_lt (show x.toNat<2 ^ 64 by omega)]
 simp
def l8 (a:BitVec 64) (n:Nat):BitVec 8:=(a >>> n).setWidth 8
theorem yj (a:BitVec 64) (n:Nat):IntKind.u8.wrap (V a/2 ^ n)=Y (l8 a n):=by
 rw [IntKind.wrap_u8',g9,Y_eq,l8,BitVec.toNat_setWidth,BitVec.toNat_ushiftRight,Nat.shiftRight_eq_div_pow]
 simp
def Lno (W:World) (b o:Nat) (L:List (BitVec 64)):Prop:=∀ i,i<L.length→W.cell? ⟨b,o+i,none⟩=some (.int .u64 (V (L.getD i 0)))
def eX (L:List (BitVec 64)) (p:Nat) (x:BitVec 8):List (BitVec 64):=L.set (p/8) (L.getD (p/8) 0 ^^^ up x (p%8*8))
theorem nT (L:List (BitVec 64)) (p:Nat) (x:BitVec 8):(eX L p x).length=L.length:=by simp [eX]
theorem iO {b o p:Nat} {z:BitVec 64} (x:BitVec 8) (hp:p<200) (w:World) (hz:w.cell? ⟨b,o+p/8,none⟩=some (.int .u64 (V z))) (hf:w.frozen? ⟨b,o+p/8,none⟩=false) :
  Calls Tryz.prog 158 #[.pointer (some ⟨b,o,none⟩),.int .i64 p,.int .u8 (Y x)] w fun e w'=>e = .returned (.tuple #[])∧w'=w.drew.setCell ⟨b,o+p/8,none⟩ (.int .u64 (V (z ^^^ up x (p%8*8)))):=by
 have hp':(p:Int)<200:=by omega
 have e1:((p:Int)/8).toNat=p/8:=by omega
 have e2:((p:Int)%8*8).toNat=p%8*8:=by omega
 have y0:=Y_lo x;have y1:=Y_hi x
 have v1:=zV x (p%8*8)
 have v2:=aX z (up x (p%8*8))
 go_enter Tryz.func158,Tryz.ntmps158
 go_wp2_with fail
 refine av 15 (by kernel_rfl) (by kernel_rfl) ?_
 simp only [List.take_succ_cons,List.take_zero,List.drop_succ_cons,List.drop_zero]
 repeat (first|go_big_quiet_skip|(go_big_quiet_want;go_big_quiet_op;go_big_quiet_on))
 refine wpQuiet_nil ?_
 go_wp2
 all_goals go_end0
 all_goals exact ⟨rfl,rfl⟩
end Go.Proofs.YtnnnaajgjniiaaaGreatDoor.K
namespace Go.Proofs.YtnnnaajgjniiaaaGreatDoor.K
open Go.RowKit Go.Sort
def dt (L:List (BitVec 64)) (p:Nat):List (BitVec 8)→List (BitVec 64)
 | []=>L
 | x :: X=>dt (eX L p x) (p+1) X
theorem mw (L:List (BitVec 64)) (p:Nat) (x:BitVec 8):∀ X:List (BitVec 8),dt L p (X++[x])=eX (dt L p X) (p+X.length) x
 | []=>rfl
 | y :: X=>by
  rw [List.cons_append,dt,dt,mw _ _ _ X]
  simp [Nat.add_assoc,Nat.add_comm 1]
theorem je {X:List (BitVec 8)} {i:Nat} (h:i<X.length):X.take (i+1)=X.take i++[X.getD i 0]:=by
 rw [List.take_add_one,List.getD,List.getElem?_eq_getElem h]
 rfl
theorem mx {L:List (BitVec 64)} {p:Nat} {X:List (BitVec 8)} {i:Nat} (h:i<X.length):dt L p (X.take (i+1))=eX (dt L p (X.take i)) (p+i) (X.getD i 0):=by
 rw [je h,mw,List.length_take,Nat.min_eq_left (by omega)]
def turn (L:List (BitVec 64)) (t:Nat):List (BitVec 64):=if t%136=0 then ig L else L
def absb (L:List (BitVec 64)) (t:Nat):List (BitVec 8)→List (BitVec 64)
 | []=>L
 | x :: X=>absb (turn (eX L (t%136) x) (t+1)) (t+1) X
theorem fQ (L:List (BitVec 64)):∀ (t:Nat) (X Z:List (BitVec 8)),absb L t (X++Z)=absb (absb L t X) (t+X.length) Z
 | t,[],Z=>rfl
 | t,x :: X,Z=>by
  rw [List.cons_append,absb,absb,fQ _ (t+1) X Z]
  simp [Nat.add_assoc,Nat.add_comm 1]
theorem ik (L:List (BitVec 64)):∀ (t:Nat) (X:List (BitVec 8)),0<X.length→t%136+X.length≤136→absb L t X=turn (dt L (t%136) X) (t+X.length)
 | _,[],h,_=>absurd h (by simp)
 | t,[x],_,_=>by simp [absb,dt]
 | t,x :: y :: X,_,h=>by
  simp only [List.length_cons] at h
  have e1:turn (eX L (t%136) x) (t+1)=eX L (t%136) x:=by
   unfold turn
   rw [if_neg (by omega)]
  rw [absb,e1,ik _ (t+1) (y :: X) (by simp) (by simp only [List.length_cons];omega),show (t+1)%136=t%136+1 by omega]
  simp only [dt,List.length_cons]
  congr 1
  omega
def Sp (W:World) (b:Nat) (k:Int) (L:List (BitVec 64)) (t:Nat):Prop :=
 L.length=25∧W.cell? ⟨b,0,none⟩=some (.int .i64 k)∧Lno W b 1 L∧W.cell? ⟨b,26,none⟩=some (.int .i64 (t:Int))∧ah W b 27
theorem Sp.lt {W:World} {b:Nat} {k:Int} {L:List (BitVec 64)} {t:Nat} (h:Sp W b k L t):b<W.heap.size:=World.block_lt_of_cell? W ⟨b,0,none⟩ h.2.1
theorem Sp.keep {W w1:World} {b:Nat} {k:Int} {L:List (BitVec 64)} {t:Nat} (h:Sp W b k L t) (hb:Below W.heap.size W w1):Sp w1 b k L t :=
 ⟨h.1,cell_keep hb h.2.1,fun i hi=>cell_keep hb (h.2.2.1 i hi),cell_keep hb h.2.2.2.1,h.2.2.2.2.keep hb h.lt⟩
theorem Sp.alloc {W:World} {b:Nat} {k:Int} {L:List (BitVec 64)} {t:Nat} (h:Sp W b k L t) (o:Obj):Sp (W.alloc o) b k L t:=h.keep ((Below.refl _ _).alloc (Nat.le_refl _) o)
theorem Sp.drew {W:World} {b:Nat} {k:Int} {L:List (BitVec 64)} {t:Nat} (h:Sp W b k L t):Sp W.drew b k L t:=h
theorem Sp.taken {W:World} {b:Nat} {k:Int} {L:List (BitVec 64)} {t:Nat} (h:Sp W b k L t) (t':Nat):Sp (W.setCell ⟨b,26,none⟩ (.int .i64 (t':Int))) b k L t':=by
 have ne:∀ i,i<26→(⟨b,26,none⟩:Addr)≠⟨b,i,none⟩:=fun i hi=>by first|(simp;done)|(simp;omega)
 refine ⟨h.1,?_,fun j hj=>?_,?_,h.2.2.2.2.set _ _⟩
 ·rw [World.cell?_setCell_other _ _ _ _ (ne 0 (by decide))];exact h.2.1
 ·rw [World.cell?_setCell_other _ _ _ _ (ne (1+j) (by have:=h.1;omega))];exact h.2.2.1 j hj
 ·exact World.cell?_setCell_same _ _ _ h.2.2.2.1
theorem Sp.mix {W:World} {b:Nat} {k:Int} {L:List (BitVec 64)} {t:Nat} (h:Sp W b k L t) {p:Nat} (hp:p<136) (x:BitVec 8) :
  Sp (W.setCell ⟨b,1+p/8,none⟩ (.int .u64 (V (L.getD (p/8) 0 ^^^ up x (p%8*8))))) b k (eX L p x) t:=by
 have hl:=h.1
 have ne:∀ i,i≠1+p/8→(⟨b,1+p/8,none⟩:Addr)≠⟨b,i,none⟩:=fun i hi=>by first|(simp;done)|(simp;omega)
 refine ⟨by rw [nT];exact h.1,?_,fun j hj=>?_,?_,h.2.2.2.2.set _ _⟩
 ·rw [World.cell?_setCell_other _ _ _ _ (ne 0 (by omega))];exact h.2.1
 ·rw [nT] at hj
  by_cases e:j=p/8
  ·subst e
   rw [World.cell?_setCell_same _ _ _ (h.2.2.1 _ hj)]
   simp [eX,List.getD,hj]
  ·rw [World.cell?_setCell_other _ _ _ _ (ne (1+j) (by omega)),h.2.2.1 j hj]
   simp [eX,List.getD,List.getElem?_set_ne (Ne.symm e)]
 ·rw [World.cell?_setCell_other _ _ _ _ (ne 26 (by omega))];exact h.2.2.2.1
end Go.Proofs.YtnnnaajgjniiaaaGreatDoor.K
namespace Go.Proofs.YtnnnaajgjniiaaaGreatDoor.K
open Go.RowKit Go.Sort
noncomputable def byts (M:List (BitVec 8)):List Value:=M.map fun x=>.int .u8 (Y x)
theorem byts_len (M:List (BitVec 8)):(byts M).length=M.length:=by simp [byts]
theorem one_byts (M:List (BitVec 8)):(byts M).toArray.all (·.oneCell')=true:=all_oneCell_toArray (by
 intro v hv
 obtain ⟨x,_,rfl⟩:=List.mem_map.1 hv
 rfl)
theorem Y_zero:Y 0=0:=by rw [Y_eq];rfl
def Hsh (W:World) (b:Nat) (M:List (BitVec 8)):Prop:=M.length=32∧(∀ i,i<32→W.cell? ⟨b,i,none⟩=some (.int .u8 (Y (M.getD i 0))))∧ah W b 32
theorem Hsh.lt {W:World} {b:Nat} {M:List (BitVec 8)} (h:Hsh W b M):b<W.heap.size:=World.block_lt_of_cell? W ⟨b,0,none⟩ (h.2.1 0 (by decide))
theorem Hsh.keep {W w1:World} {b:Nat} {M:List (BitVec 8)} (h:Hsh W b M) (hb:Below W.heap.size W w1):Hsh w1 b M:=⟨h.1,fun i hi=>cell_keep hb (h.2.1 i hi),h.2.2.keep hb h.lt⟩
theorem Hsh.alloc {W:World} {b:Nat} {M:List (BitVec 8)} (h:Hsh W b M) (o:Obj):Hsh (W.alloc o) b M:=h.keep ((Below.refl _ _).alloc (Nat.le_refl _) o)
theorem Hsh.drew {W:World} {b:Nat} {M:List (BitVec 8)} (h:Hsh W b M):Hsh W.drew b M:=h
theorem Hsh.other {W:World} {b b' i:Nat} {M:List (BitVec 8)} (h:Hsh W b M) (ne:b'≠b) (v:Value):Hsh (W.setCell ⟨b',i,none⟩ v) b M:=⟨h.1,fun j hj=>by rw [World.cell?_setCell_far _ _ _ _ ne];exact h.2.1 j hj,h.2.2.set _ _⟩
theorem Hsh.otherCells {W:World} {b b' o:Nat} {M:List (BitVec 8)} (h:Hsh W b M) (ne:b'≠b) (cs:List Value):Hsh (W.setCells b' o cs) b M:=⟨h.1,fun j hj=>by rw [World.cell?_setCells_out _ _ _ _ _ (fun e=>absurd e.symm ne)];exact h.2.1 j hj,h.2.2.setCells _ _ _⟩
theorem Hsh.set {W:World} {b:Nat} {M:List (BitVec 8)} (h:Hsh W b M) (i:Nat) (hi:i<32) (v:BitVec 8):Hsh (W.setCell ⟨b,i,none⟩ (.int .u8 (Y v))) b (M.set i v):=by
 refine ⟨by rw [List.length_set];exact h.1,fun j hj=>?_,h.2.2.set _ _⟩
 by_cases e:i=j
 ·subst e
  rw [World.cell?_setCell_same _ _ _ (h.2.1 i hi)]
  simp [List.getD,h.1,hi]
 ·have ne:(⟨b,i,none⟩:Addr)≠⟨b,j,none⟩:=by first|(simp;done)|(simp;omega)
  rw [World.cell?_setCell_other _ _ _ _ ne,h.2.1 j hj]
  simp [List.getD,List.getElem?_set_ne e]
theorem Hsh.range {W:World} {b:Nat} {M:List (BitVec 8)} (h:Hsh W b M):W.rangeAt b 0 (byts M):=by
 intro j v hv
 unfold byts at hv
 rw [List.getElem?_map] at hv
 obtain ⟨x,hx,rfl⟩:=Option.map_eq_some_iff.1 hv
 have hj:j<M.length:=(List.getElem?_eq_some_iff.1 hx).1
 rw [Nat.zero_add,h.2.1 j (by rw [←h.1];exact hj)]
 simp [List.getD,hx]
theorem Hsh.there {W:World} {b:Nat} {M:List (BitVec 8)} (h:Hsh W b M):W.there b 0 32:=by
 intro j hj
 rw [Nat.zero_add]
 exact ⟨by rw [h.2.1 j hj];rfl,h.2.2 j hj⟩
theorem Hsh.new {W:World} {b:Nat} {M:List (BitVec 8)} (hl:M.length=32) (t:TypeId) (e:b=W.heap.size):Hsh (W.alloc (.cells (byts M).toArray t)) b M:=by
 refine ⟨hl,fun i hi=>?_,ah.new _ _ _ e⟩
 subst e
 rw [World.cell?_alloc_mark]
 simp [byts,List.getD,show i<M.length by omega]
theorem Hsh.zeros {W:World} {b:Nat} (t:TypeId) (e:b=W.heap.size):Hsh (W.alloc (.cells #[.int .u8 0,.int .u8 0,.int .u8 0,.int .u8 0,.int .u8 0,.int .u8 0,.int .u8 0,.int .u8 0,.int .u8 0,.int .u8 0,.int .u8 0,.int .u8 0,.int .u8 0,.int .u8 0,.int .u8 0,.int .u8 0,.int .u8 0,.int .u8 0,.int .u8 0,.int .u8 0,.int .u8 0,.int .u8 0,.int .u8 0,.int .u8 0,.int .u8 0,.int .u8 0,.int .u8 0,.int .u8 0,.int .u8 0,.int .u8 0,.int .u8 0,.int .u8 0] t)) b (List.replicate 32 0):=by
 have h:Y 0#8=0:=Y_zero
 have z:(byts (List.replicate 32 0)).toArray=#[.int .u8 0,.int .u8 0,.int .u8 0,.int .u8 0,.int .u8 0,.int .u8 0,.int .u8 0,.int .u8 0,.int .u8 0,.int .u8 0,.int .u8 0,.int .u8 0,.int .u8 0,.int .u8 0,.int .u8 0,.int .u8 0,.int .u8 0,.int .u8 0,.int .u8 0,.int .u8 0,.int .u8 0,.int .u8 0,.int .u8 0,.int .u8 0,.int .u8 0,.int .u8 0,.int .u8 0,.int .u8 0,.int .u8 0,.int .u8 0,.int .u8 0,.int .u8 0]:=by simp [byts,List.replicate,h]
 rw [←z]
 exact Hsh.new (by simp) _ e
theorem Hsh.stored {W:World} {b:Nat} {M T:List (BitVec 8)} (h:Hsh W b T) (hl:M.length=32):Hsh (W.setCells b 0 (byts M)) b M:=by
 refine ⟨hl,fun i hi=>?_,h.2.2.setCells _ _ _⟩
 have:=World.rangeAt_setCells_same W b 0 (byts M) (by rw [byts_len,hl];exact h.there) i (.int .u8 (Y (M.getD i 0))) (by simp [byts,List.getD,show i<M.length by omega])
 rwa [Nat.zero_add] at this
def hashL (L:List (BitVec 64)):List (BitVec 8):=(List.range 32).map fun i=>l8 (L.getD (i/8) 0) (i%8*8)
theorem hashL_len (L:List (BitVec 64)):(hashL L).length=32:=by simp [hashL]
theorem pK (L:List (BitVec 64)) {i:Nat} (h:i<32):(hashL L).getD i 0=l8 (L.getD (i/8) 0) (i%8*8):=by
 simp [hashL,List.getD,List.getElem?_map,List.getElem?_range h]
theorem tN {M:List (BitVec 8)} {L:List (BitVec 64)} (hl:M.length=32) (h:∀ i,i<32→M.getD i 0=l8 (L.getD (i/8) 0) (i%8*8)):M=hashL L:=by
 apply List.ext_getElem (by rw [hl,hashL_len])
 intro p h1 h2
 have e1:=h p (by omega)
 have e2:=pK L (i:=p) (by omega)
 rw [List.getD,List.getElem?_eq_getElem h1] at e1
 rw [List.getD,List.getElem?_eq_getElem h2] at e2
 simp only [Option.getD_some] at e1 e2
 rw [e1,e2]
theorem jA {L:List (BitVec 64)} (hl:L.length=25) (w:World) :
  Calls Tryz.prog 161 #[.agg (aP L).toArray] w fun e w'=>e = .returned (.agg (byts (hashL L)).toArray)∧Below w.heap.size w w':=by
 go_enter Tryz.func161,Tryz.ntmps161
 go_wp2_with fail
 refine aj (fun W=>Below w.heap.size w W∧Arr W w.heap.size L∧Hsh W (w.heap.size+1) (List.replicate 32 0)∧Hsh W (w.heap.size+1+1) (List.replicate 32 0)) ⟨?_,((Arr.new hl _ rfl).alloc _).alloc _,(Hsh.zeros _ (by simp)).alloc _,Hsh.zeros _ (by simp)⟩ ?_
 ·repeat (first|with_reducible exact Below.refl _ _|with_reducible refine Below.alloc ?_ (by first|omega|(simp;done)|(simp;omega)) _)
 rintro W ⟨B,hA,hR,hO⟩
 have NN:Hid (w.heap.size+1+1≠w.heap.size∧w.heap.size+1+1≠w.heap.size+1∧w.heap.size≤w.heap.size+1+1∧w.heap.size≤w.heap.size+1):=⟨by omega,by omega,by omega,by omega⟩
 clear hl
 generalize w.heap.size+1+1=bo at *
 generalize w.heap.size+1=br at *
 go_loopg [5] 32 (fun k iv wr=>∃ (i:Nat) (M:List (BitVec 8)),k=32-i∧i≤32∧iv = .int .i64 i∧(∀ t,t<i→M.getD t 0=l8 (L.getD (t/8) 0) (t%8*8))∧Below w.heap.size w wr∧Arr wr w.heap.size L∧Hsh wr br (List.replicate 32 0)∧Hsh wr bo M)
 case atStart=>exact ⟨0,_,rfl,by decide,rfl,fun t h=>absurd h (Nat.not_lt_zero _),B,hA,hR,hO⟩
 case round =>
  clear B hA hR hO
  obtain ⟨i,M,hk,hi,rfl,up,hf⟩:=hrel
  have HK:Hid (gk=32-i):=hk
  have HF:Hid (Below w.heap.size w wr∧Arr wr w.heap.size L∧Hsh wr br (List.replicate 32 0)∧Hsh wr bo M):=hf
  have UP:Hid (∀ t,t<i→M.getD t 0=l8 (L.getD (t/8) 0) (t%8*8)):=up
  clear hk hf up
  by_cases h8:i=32
  ·subst h8
   have EL:Hid (M=hashL L):=tN HF.out.2.2.2.1 UP.out
   have rb:=HF.out.2.2.2.range
   have sz:((byts M).toArray).size=32:=by simp [byts_len,HF.out.2.2.2.1]
   have tr:wr.there br 0 ((byts M).toArray).size:=by rw [sz];exact HF.out.2.2.1.there
   have oc:=one_byts M
   generalize hM:byts M=N at *
   have HM:Hid (N.length=32):=by rw [←hM,byts_len];exact HF.out.2.2.2.1
   go_wp2_with (first|refine wpList_load_mid rfl 26 _ rfl bo 0 rfl N _ rb Tryz.underlying26 rfl (by rw [HM.out];kernel_rfl) ?_|refine wpList_store_mid rfl 26 _ _ rfl br 0 _ rfl rfl tr (by rw [sz];kernel_rfl) oc ?_)
   have ld:=run_loadVar_mid (P:=Tryz.prog) (wr.setCells br 0 N) br 0 26 N _ (World.rangeAt_setCells_same _ _ _ _ (by simpa using tr)) Tryz.underlying26 rfl (by rw [HM.out];kernel_rfl)
   refine bodyPost_ret (v:=.agg N.toArray) ?_ rfl ⟨by rw [←hM,EL.out],below_setCells NN.out.2.2.2 N 0 wr HF.out.1⟩
   simp [results,Tryz.results161,Act.put,asAddr,ld]
  ·have hi':(i:Int)<32:=by omega
   have e1:((i:Int)/8).toNat=i/8:=by omega
   have e2:((i:Int)%8*8).toNat=i%8*8:=by omega
   have g0:=HF.out.2.1.2.1 (i/8) (by rw [HF.out.2.1.1];omega)
   have gs:=HF.out.2.2.2.2.1 i (by omega)
   have fs:=HF.out.2.2.2.2.2 i (by omega)
   have EF:Hid (l8 (L.getD (i/8) 0) (i%8*8)=l8 (L.getD (i/8) 0) (i%8*8)):=rfl
   obtain ⟨z,kz⟩:∃ z,z=L.getD (i/8) 0:=⟨_,rfl⟩
   rw [←kz] at g0
   have KZ:Hid (z=L.getD (i/8) 0):=kz
   clear kz EF
   have v0:=zT z;have v1:=zU z
   have vd:=yj z (i%8*8)
   go_wp2
   go_roundg (32-(i+1))
   case measure=>have:=HK.out;omega
   case rel =>
    refine ⟨i+1,M.set i (l8 z (i%8*8)),rfl,by omega,by go_num,fun t ht=>?_,HF.out.1.setCell NN.out.2.2.1 _,HF.out.2.1.other NN.out.1 _,HF.out.2.2.1.other NN.out.2.1 _,HF.out.2.2.2.set i (by omega) _⟩
    by_cases e:t=i
    ·subst e;rw [←KZ.out];simp [List.getD,HF.out.2.2.2.1,show t<32 by omega]
    ·rw [←UP.out t (by omega)];simp [List.getD,List.getElem?_set_ne (Ne.symm e)]
end Go.Proofs.YtnnnaajgjniiaaaGreatDoor.K
