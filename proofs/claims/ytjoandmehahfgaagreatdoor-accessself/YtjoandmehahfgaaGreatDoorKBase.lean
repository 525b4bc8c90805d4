import Derived.Test.YtjoandmehahfgaaGreatDoorRows
import Derived.WalkKit
import Derived.WalkSpells
import Derived.WalkLawsBesides
import Derived.Laws.BitsAllLaws
import Derived.BigQuiet
import Derived.Lib.QuietBelow
import Derived.Deep.MidRow
import Derived.Deep.LoopGhost
import Derived.Deep.RegionHeld
import Derived.Test.YtjoandmehahfgaaGreatDoorFNum
set_option maxRecDepth 100000
set_option maxHeartbeats 4000000
namespace Go.Proofs.YtjoandmehahfgaaGreatDoor.K
open Go.RowKit
theorem tU:∃ f:BitVec 64→Int,∀ x,f x=(x.toNat:Int):=⟨_,fun _=>rfl⟩
noncomputable def V:BitVec 64→Int:=Classical.choose tU
theorem ji (x:BitVec 64):V x=(x.toNat:Int):=Classical.choose_spec tU x
theorem D9 (x:BitVec 64):0≤V x:=by rw [ji];omega
theorem Ea (x:BitVec 64):V x<18446744073709551616:=by rw [ji];have:=x.isLt;omega
theorem bI (x y:BitVec 64):bits .xor .u64 (V x) (V y)=V (x ^^^ y):=by
 rw [ji,ji,ji,u64_xor_nat _ _ (by have:=x.isLt;omega) (by have:=y.isLt;omega),BitVec.toNat_xor]
theorem qs (x y:BitVec 64):bits .and .u64 (V x) (V y)=V (x &&& y):=by
 rw [ji,ji,ji,u64_and_nat _ _ (by have:=x.isLt;omega) (by have:=y.isLt;omega),BitVec.toNat_and]
theorem Dl:IntKind.u64.max=V (BitVec.allOnes 64)  := by rw [ji];decide
theorem oL (x:BitVec 64):bits .xor .u64 IntKind.u64.max (V x)=V (~~~x):=by
 rw [Dl,bI,BitVec.allOnes_xor]
theorem mQ (x:BitVec 64):bits .xor .u64 18446744073709551615 (V x)=V (~~~x):=oL x
theorem Dm (x:BitVec 64) {n:Nat} (h:n<64):bits .or .u64 (IntKind.u64.wrap (V x*2 ^ n)) (V x/2 ^ (64-n))=V (x.rotateLeft n):=by
 have hx:=x.isLt
 have e1:IntKind.u64.wrap (V x*2 ^ n)=(((x.toNat*2 ^ n)%2 ^ 64:Nat):Int):=by
  rw [IntKind.wrap_u64,ji]
  simp
 have e2:V x/2 ^ (64-n)=((x.toNat/2 ^ (64-n):Nat):Int):=by rw [ji];simp
 have b2:x.toNat/2 ^ (64-n)<18446744073709551616:=Nat.lt_of_le_of_lt (Nat.div_le_self _ _) (by omega)
 rw [e1,e2,u64_or_nat _ _ (by omega) b2]
 rw [ji,BitVec.rotateLeft_def,Nat.mod_eq_of_lt h,BitVec.toNat_or,BitVec.toNat_shiftLeft,BitVec.toNat_ushiftRight,Nat.shiftLeft_eq,Nat.shiftRight_eq_div_pow]
def ai (W:World) (b n:Nat):Prop:=∀ i,i<n→W.frozen? ⟨b,i,none⟩=false
noncomputable def aZ (L:List (BitVec 64)):List Value:=L.map fun x=>.int .u64 (V x)
theorem bV (L:List (BitVec 64)):(aZ L).length=L.length:=by simp [aZ]
def Lns (W:World) (b:Nat) (L:List (BitVec 64)):Prop:=∀ i,i<L.length→W.cell? ⟨b,i,none⟩=some (.int .u64 (V (L.getD i 0)))
theorem cell_keep {W w1:World} {p:Addr} {v:Value} (hb:Below W.heap.size W w1) (h:W.cell? p=some v):w1.cell? p=some v:=by
 rw [hb.cell (World.block_lt_of_cell? W p h)];exact h
theorem aa {P:Program} {f:FuncId} {args:Array Value} {w:World} {R:Ending→World→Prop} (S:World→Prop) (h:S w) (k:∀ W,S W→Calls P f args W R):Calls P f args w R:=k w h
theorem ah {P:Program} {c:Code} {Q:Exit→Act→World→Prop} {a:Act} {w:World} (S:World→Prop) (h:S w) (k:∀ W,S W→c.wp P Q a W):c.wp P Q a w:=k w h
theorem Lns.lt {W:World} {b:Nat} {L:List (BitVec 64)} (h:Lns W b L) (hl:0<L.length):b<W.heap.size:=World.block_lt_of_cell? W ⟨b,0,none⟩ (h 0 hl)
theorem Lns.keep {W w1:World} {b:Nat} {L:List (BitVec 64)} (h:Lns W b L) (hb:Below W.heap.size W w1):Lns w1 b L:=fun i hi=>cell_keep hb (h i hi)
theorem Lns.alloc {W:World} {b:Nat} {L:List (BitVec 64)} (h:Lns W b L) (o:Obj):Lns (W.alloc o) b L:=h.keep ((Below.refl _ _).alloc (Nat.le_refl _) o)
theorem Lns.drew {W:World} {b:Nat} {L:List (BitVec 64)} (h:Lns W b L):Lns W.drew b L:=h
theorem Lns.new {W:World} {b:Nat} (L:List (BitVec 64)) (t:TypeId) (e:b=W.heap.size):Lns (W.alloc (.cells (aZ L).toArray t)) b L:=by
 subst e
 intro i hi
 rw [World.cell?_alloc_mark]
 simp [aZ,List.getElem?_map,List.getD,List.getElem?_eq_getElem hi]
theorem Lns.set {W:World} {b:Nat} {L:List (BitVec 64)} (h:Lns W b L) (i:Nat) (hi:i<L.length) (v:BitVec 64):Lns (W.setCell ⟨b,i,none⟩ (.int .u64 (V v))) b (L.set i v):=by
 intro j hj
 simp at hj
 by_cases e:i=j
 ·subst e
  rw [World.cell?_setCell_same _ _ _ (h i hi)]
  simp [List.getD,hi]
 ·have ne:(⟨b,i,none⟩:Addr)≠⟨b,j,none⟩:=by first|(simp;done)|(simp;omega)
  rw [World.cell?_setCell_other _ _ _ _ ne,h j hj]
  simp [List.getD,List.getElem?_set_ne e]
theorem Lns.other {W:World} {b b' i:Nat} {L:List (BitVec 64)} (h:Lns W b L) (ne:b'≠b) (v:Value):Lns (W.setCell ⟨b',i,none⟩ v) b L:=fun j hj=>by rw [World.cell?_setCell_far _ _ _ _ ne];exact h j hj
theorem Lns.range {W:World} {b:Nat} {L:List (BitVec 64)} (h:Lns W b L):W.rangeAt b 0 (aZ L):=by
 intro j v hv
 unfold aZ at hv
 rw [List.getElem?_map] at hv
 obtain ⟨x,hx,rfl⟩:=Option.map_eq_some_iff.1 hv
 have hj:j<L.length:=(List.getElem?_eq_some_iff.1 hx).1
 rw [Nat.zero_add,h j hj]
 simp [List.getD,hx]
theorem Lns.of_range {W:World} {b:Nat} {L:List (BitVec 64)} (h:W.rangeAt b 0 (aZ L)):Lns W b L:=by
 intro j hj
 have:=h j (.int .u64 (V (L.getD j 0))) (by simp [aZ,List.getD,hj])
 rwa [Nat.zero_add] at this
theorem xl {W:World} {b n:Nat} {L:List (BitVec 64)} (h:Lns W b L) (f:ai W b n) (e:L.length=n):W.there b 0 n:=by
 subst e
 intro j hj
 rw [Nat.zero_add]
 exact ⟨by rw [h j hj];rfl,f j hj⟩
theorem ai.keep {W w1:World} {b n:Nat} (h:ai W b n) (hb:Below W.heap.size W w1) (hlt:b<W.heap.size):ai w1 b n:=fun i hi=>by rw [hb.frozen (p:=⟨b,i,none⟩) hlt];exact h i hi
theorem ai.alloc {W:World} {b n:Nat} (h:ai W b n) (hlt:b<W.heap.size) (o:Obj):ai (W.alloc o) b n:=h.keep ((Below.refl _ _).alloc (Nat.le_refl _) o) hlt
theorem ai.drew {W:World} {b n:Nat} (h:ai W b n):ai W.drew b n:=h
theorem ai.set {W:World} {b n:Nat} (h:ai W b n) (p:Addr) (v:Value):ai (W.setCell p v) b n:=fun i hi=>by rw [World.frozen?_setCell];exact h i hi
theorem ai.setCells {W:World} {b n:Nat} (h:ai W b n) (b' o:Nat) (cs:List Value):ai (W.setCells b' o cs) b n:=fun i hi=>by rw [World.frozen?_setCells];exact h i hi
theorem ai.new {W:World} {b:Nat} (cs:Array Value) (t:TypeId) (n:Nat) (e:b=W.heap.size):ai (W.alloc (.cells cs t)) b n:=by
 subst e
 intro i _
 simp [go_sem]
theorem fZ (L:List (BitVec 64)):(aZ L).toArray.all (·.oneCell')=true:=all_oneCell_toArray (by
 intro v hv
 obtain ⟨x,_,rfl⟩:=List.mem_map.1 hv
 rfl)
theorem Lns.stored {W:World} {b:Nat} {L:List (BitVec 64)} (h:W.there b 0 L.length):Lns (W.setCells b 0 (aZ L)) b L :=
 Lns.of_range (World.rangeAt_setCells_same _ _ _ _ (by rw [bV];exact h))
structure Off (b:Nat) (w w':World):Prop where
 os:w'.os=w.os
 tape:w'.tape=w.tape
 output:w'.output=w.output
 size:w.heap.size≤w'.heap.size
 block:∀ k,k<w.heap.size→k≠b→w'.heap[k]?=w.heap[k]?
theorem Off.of_below {b:Nat} {w w':World} (h:Below w.heap.size w w'):Off b w w':=⟨h.os,h.tape,h.output,h.size,fun k hk _=>h.block k hk⟩
theorem Off.trans {b:Nat} {w v u:World} (h:Off b w v) (k:Off b v u):Off b w u :=
 ⟨k.os.trans h.os,k.tape.trans h.tape,k.output.trans h.output,Nat.le_trans h.size k.size,fun i hi hb=>(k.block i (Nat.lt_of_lt_of_le hi h.size) hb).trans (h.block i hi hb)⟩
theorem Off.below {b B:Nat} {w w':World} (h:Off b w w') (h1:B≤w.heap.size) (h2:B≤b):Below B w w':=⟨h.os,h.tape,h.output,h.size,fun k hk=>h.block k (by omega) (by omega)⟩
theorem Off.refl (b:Nat) (w:World):Off b w w:=⟨rfl,rfl,rfl,Nat.le_refl _,fun _ _ _=>rfl⟩
theorem Off.setCell {b i:Nat} {w w':World} (h:Off b w w') (v:Value):Off b w (w'.setCell ⟨b,i,none⟩ v) :=
 h.trans ⟨rfl,rfl,rfl,by simp [World.setCell],fun k _ hb=>Below.heap_setCell _ _ _ _ (by simpa using hb)⟩
theorem Off.drew {b:Nat} {w w':World} (h:Off b w w'):Off b w w'.drew:=⟨h.os,h.tape,h.output,h.size,h.block⟩
theorem Off.cell {b:Nat} {w w':World} (h:Off b w w') {p:Addr} (hp:p.block≠b) {v:Value} (hv:w.cell? p=some v):w'.cell? p=some v:=by
 have lt:=World.block_lt_of_cell? w p hv
 rw [World.cell?_of_block (h.block p.block lt hp)];exact hv
theorem Off.lns {b a:Nat} {w w':World} (h:Off b w w') {L:List (BitVec 64)} (ne:a≠b) (hL:Lns w a L):Lns w' a L:=fun i hi=>h.cell ne (hL i hi)
def Tab (W:World) (b:Nat) (l:List Nat):Prop:=∀ i,i<l.length→W.cell? ⟨b,i,none⟩=some (.int .i64 ((l.getD i 0:Nat):Int))
theorem Tab.keep {W w1:World} {b:Nat} {l:List Nat} (h:Tab W b l) (hb:Below W.heap.size W w1):Tab w1 b l:=fun i hi=>cell_keep hb (h i hi)
theorem Tab.lt {W:World} {b:Nat} {l:List Nat} (h:Tab W b l) (hl:0<l.length):b<W.heap.size:=World.block_lt_of_cell? W ⟨b,0,none⟩ (h 0 hl)
theorem Tab.alloc {W:World} {b:Nat} {l:List Nat} (h:Tab W b l) (o:Obj):Tab (W.alloc o) b l:=h.keep ((Below.refl _ _).alloc (Nat.le_refl _) o)
theorem Off.tab {b a:Nat} {w w':World} (h:Off b w w') {l:List Nat} (ne:a≠b) (hL:Tab w a l):Tab w' a l:=fun i hi=>h.cell ne (hL i hi)
open Go.RowKit Go.Sort
theorem Dn {k:Nat} (h:k<64):bits .and .u64 (k:Int) 63=k:=by
 rw [show (63:Int)=((63:Nat):Int) by rfl,u64_and_nat _ _ (by omega) (by omega),show (63:Nat)=2 ^ 6-1 by rfl,Nat.and_two_pow_sub_one_eq_mod,Nat.mod_eq_of_lt (by omega)]
theorem dS (x:BitVec 64) {k:Nat} (hk:k<64) (w:World) :
  Calls Tryz.prog 136 #[.int .u64 (V x),.int .i64 k] w fun e w'=>e = .returned (.int .u64 (V (x.rotateLeft k)))∧w'=w:=by
 have a:=Dn hk
 have r:=Dm x hk
 have b0:(k:Int)<64:=by omega
 have e1:(64-(k:Int)).toNat=64-k:=by omega
 go_enter Tryz.func136,Tryz.ntmps136
 go_wp2
 go_ret
 exact ⟨rfl,rfl⟩
theorem Cg (x:BitVec 64) {k:Nat} (hk:k<64) (w:World) :
  Calls Tryz.prog 136 #[.int .u64 (V x),.int .i64 k] w fun e w'=>e = .returned (.int .u64 (V (x.rotateLeft k)))∧Below w.heap.size w w' :=
 (dS x hk w).mono fun _ _ ⟨h1,h2⟩=>⟨h1,by rw [h2];exact Below.refl _ _⟩
theorem aO {b i k:Nat} {x:BitVec 64} (d:BitVec 64) (hi:i<25) (hk:k<64) (w:World) (hx:w.cell? ⟨b,i,none⟩=some (.int .u64 (V x))) (ht:w.cell? ⟨3,i,none⟩=some (.int .i64 k)) :
    Calls Tryz.prog 138 #[.pointer (some ⟨b,0,none⟩),.int .i64 i,.int .u64 (V d)] w fun e w'=>e = .returned (.int .u64 (V ((x ^^^ d).rotateLeft k)))∧Below w.heap.size w w':=by
  have vx:=bI x d
  have b0:(i:Int)<25:=by omega
  go_enter Tryz.func138,Tryz.ntmps138
  go_wp2
  have gx:=fun d os=>cell_regrown hx d os
  have gt:=fun d os=>cell_regrown ht d os
  refine wp_region_quiet_below (by kernel_rfl) (by kernel_rfl) ?_
  repeat
    first
      | go_big_quiet_skip
      | (go_big_quiet_want;go_big_quiet_op;go_big_quiet_on)
      | (go_big_quiet_want
         go_big_quiet_op
         apply Exists.intro
         refine ⟨fun p=>?_,?_⟩
         · (go_at_call 136;exact Calls.regrown_of (Cg (x ^^^ d) hk _))
         go_big_quiet_on)
  refine wpQuiet_nil ?_
  rintro w1 ⟨p,rfl⟩
  have hb:=below_regrown w p.d p.os
  generalize grow (redrawn w p.d) p.os=w1 at *
  go_wp2
  go_ret
  exact ⟨rfl,hb⟩
open Go.RowKit Go.Sort
theorem iw {b y:Nat} {L:List (BitVec 64)} (p q r s t:BitVec 64) (hy:y+4<L.length) (hl:L.length≤25) (w:World) (hL:Lns w b L) (hf:ai w b L.length) :
  Calls Tryz.prog 137 #[.pointer (some ⟨b,0,none⟩),.int .i64 y,.int .u64 (V p),.int .u64 (V q),.int .u64 (V r),.int .u64 (V s),.int .u64 (V t)] w fun e w'=>e = .returned (.tuple #[]) ∧
   Lns w' b (((((L.set y (p ^^^ (~~~q &&& r))).set (y+1) (q ^^^ (~~~r &&& s))).set (y+2) (r ^^^ (~~~s &&& t))).set (y+3) (s ^^^ (~~~t &&& p))).set (y+4) (t ^^^ (~~~p &&& q)))∧ai w' b L.length∧Off b w w':=by
 have n0:=mQ q;have m0:=oL q;have a0:=qs (~~~q) r;have x0:=bI p (~~~q &&& r)
 have n1:=mQ r;have m1:=oL r;have a1:=qs (~~~r) s;have x1:=bI q (~~~r &&& s)
 have n2:=mQ s;have m2:=oL s;have a2:=qs (~~~s) t;have x2:=bI r (~~~s &&& t)
 have n3:=mQ t;have m3:=oL t;have a3:=qs (~~~t) p;have x3:=bI s (~~~t &&& p)
 have n4:=mQ p;have m4:=oL p;have a4:=qs (~~~p) q;have x4:=bI t (~~~p &&& q)
 have b0:(y:Int)<25:=by omega
 have g0:=hL y (by omega);have g1:=hL (y+1) (by omega);have g2:=hL (y+2) (by omega);have g3:=hL (y+3) (by omega);have g4:=hL (y+4) (by omega)
 have f0:=hf y (by omega);have f1:=hf (y+1) (by omega);have f2:=hf (y+2) (by omega);have f3:=hf (y+3) (by omega);have f4:=hf (y+4) (by omega)
 go_enter Tryz.func137,Tryz.ntmps137
 go_wp2
 all_goals go_end0
 all_goals refine ⟨rfl,?_,((((hf.set _ _).set _ _).set _ _).set _ _).set _ _,(((((Off.refl b w).setCell _).setCell _).setCell _).setCell _).setCell _⟩
 all_goals refine ((((hL.set y (by omega) _).set (y+1) ?_ _).set (y+2) ?_ _).set (y+3) ?_ _).set (y+4) ?_ _
 all_goals simp only [List.length_set]
 all_goals omega
open Go.RowKit Go.Sort
theorem zR {T:List (BitVec 64)} (h:T.length=25) (v0 v1 v2 v3 v4 v5 v6 v7 v8 v9 v10 v11 v12 v13 v14 v15 v16 v17 v18 v19 v20 v21 v22 v23 v24:BitVec 64) :
  (((((((((((((((((((((((((T.set 0 v0).set (0+1) v1).set (0+2) v2).set (0+3) v3).set (0+4) v4).set 5 v5).set (5+1) v6).set (5+2) v7).set (5+3) v8).set (5+4) v9).set 10 v10).set (10+1) v11).set (10+2) v12).set (10+3) v13).set (10+4) v14).set 15 v15).set (15+1) v16).set (15+2) v17).set (15+3) v18).set (15+4) v19).set 20 v20).set (20+1) v21).set (20+2) v22).set (20+3) v23).set (20+4) v24)=[v0,v1,v2,v3,v4,v5,v6,v7,v8,v9,v10,v11,v12,v13,v14,v15,v16,v17,v18,v19,v20,v21,v22,v23,v24]:=by
 obtain ⟨x0,x1,x2,x3,x4,x5,x6,x7,x8,x9,x10,x11,x12,x13,x14,x15,x16,x17,x18,x19,x20,x21,x22,x23,x24,rfl⟩:=Dj h
 simp only [Nat.reduceAdd,List.set_cons_zero,List.set_cons_succ]
theorem oO {bt ba:Nat} (ne:ba≠bt) (nt:3≠bt) {A T:List (BitVec 64)} (lA:A.length=25) (lT:T.length=25) (m:BitVec 64) (w:World) (hA:Lns w ba A) (hT:Lns w bt T) (fT:ai w bt 25) (ht:Tab w 3 turnsN) :
  Calls Tryz.prog 128 #[.pointer (some ⟨bt,0,none⟩),.pointer (some ⟨ba,0,none⟩),.int .u64 (V m)] w fun e w'=>e = .returned (.tuple #[])∧Lns w' bt (rnd A m)∧ai w' bt 25∧Off bt w w':=by
 have HO:Hid (Off bt w w):=Off.refl bt w
 have LA:Hid (A.length=25):=lA
 have LT:Hid (T.length=25):=lT
 have LTT:Hid (T.length=25):=lT
 have NE:Hid (ba≠bt∧3≠bt):=⟨ne,nt⟩
 have HA:Hid (Lns w ba A):=hA
 have HT:Hid (Lns w bt T∧ai w bt 25):=⟨hT,fT⟩
 have HH:Hid (Tab w 3 turnsN):=ht
 clear lA lT ne nt hA hT fT ht
 go_enter Tryz.func128,Tryz.ntmps128
 have g0:=HA.out 0 (by rw [LA.out];decide)
 have g1:=HA.out 5 (by rw [LA.out];decide)
 have g2:=HA.out 10 (by rw [LA.out];decide)
 have g3:=HA.out 15 (by rw [LA.out];decide)
 have g4:=HA.out 20 (by rw [LA.out];decide)
 obtain ⟨a0,k0⟩:∃ a,a=A.getD 0 0:=⟨_,rfl⟩
 rw [←k0] at g0
 obtain ⟨a1,k1⟩:∃ a,a=A.getD 5 0:=⟨_,rfl⟩
 rw [←k1] at g1
 obtain ⟨a2,k2⟩:∃ a,a=A.getD 10 0:=⟨_,rfl⟩
 rw [←k2] at g2
 obtain ⟨a3,k3⟩:∃ a,a=A.getD 15 0:=⟨_,rfl⟩
 rw [←k3] at g3
 obtain ⟨a4,k4⟩:∃ a,a=A.getD 20 0:=⟨_,rfl⟩
 rw [←k4] at g4
 obtain ⟨c0,kc0⟩:∃ c,c=a0 ^^^ a1 ^^^ a2 ^^^ a3 ^^^ a4:=⟨_,rfl⟩
 have KC0:Hid (c0=rY A 0):=by rw [kc0,k0,k1,k2,k3,k4];exact rfl
 have v1:=bI a0 a1;have v2:=bI (a0 ^^^ a1) a2;have v3:=bI (a0 ^^^ a1 ^^^ a2) a3
 have v4:bits .xor .u64 (V (a0 ^^^ a1 ^^^ a2 ^^^ a3)) (V a4)=V c0:=by rw [kc0];exact bI _ _
 clear kc0 k0 k1 k2 k3 k4
 have h0:=fun d os=>cell_regrown g0 d os
 have h1:=fun d os=>cell_regrown g1 d os
 have h2:=fun d os=>cell_regrown g2 d os
 have h3:=fun d os=>cell_regrown g3 d os
 have h4:=fun d os=>cell_regrown g4 d os
 clear g0 g1 g2 g3 g4
 go_wp2_with fail
 refine wp_region_quiet_below (by kernel_rfl) (by kernel_rfl) ?_
 repeat
  first
   | go_big_quiet_skip
   | (go_big_quiet_want;go_big_quiet_op;go_big_quiet_on)
 refine wpQuiet_nil ?_
 rintro w0 ⟨p,rfl⟩
 have hb:=below_regrown w p.d p.os
 generalize grow (redrawn w p.d) p.os=w0 at *
 replace HO:=HO.out.trans (.of_below hb)
 replace HA:=HA.out.keep hb
 replace HT:=And.intro (HT.out.1.keep hb) (HT.out.2.keep hb (HT.out.1.lt (by rw [LT.out];decide)))
 replace HH:=HH.out.keep hb
 replace HO:Hid (Off bt w w0):=HO
 replace HA:Hid (Lns w0 ba A):=HA
 replace HT:Hid (Lns w0 bt T∧ai w0 bt 25):=HT
 replace HH:Hid (Tab w0 3 turnsN):=HH
 clear h0 h1 h2 h3 h4 v1 v2 v3 v4 hb
 have g0:=HA.out 1 (by rw [LA.out];decide)
 have g1:=HA.out 6 (by rw [LA.out];decide)
 have g2:=HA.out 11 (by rw [LA.out];decide)
 have g3:=HA.out 16 (by rw [LA.out];decide)
 have g4:=HA.out 21 (by rw [LA.out];decide)
 obtain ⟨a0,k0⟩:∃ a,a=A.getD 1 0:=⟨_,rfl⟩
 rw [←k0] at g0
 obtain ⟨a1,k1⟩:∃ a,a=A.getD 6 0:=⟨_,rfl⟩
 rw [←k1] at g1
 obtain ⟨a2,k2⟩:∃ a,a=A.getD 11 0:=⟨_,rfl⟩
 rw [←k2] at g2
 obtain ⟨a3,k3⟩:∃ a,a=A.getD 16 0:=⟨_,rfl⟩
 rw [←k3] at g3
 obtain ⟨a4,k4⟩:∃ a,a=A.getD 21 0:=⟨_,rfl⟩
 rw [←k4] at g4
 obtain ⟨c1,kc1⟩:∃ c,c=a0 ^^^ a1 ^^^ a2 ^^^ a3 ^^^ a4:=⟨_,rfl⟩
 have KC1:Hid (c1=rY A 1):=by rw [kc1,k0,k1,k2,k3,k4];exact rfl
 have v1:=bI a0 a1;have v2:=bI (a0 ^^^ a1) a2;have v3:=bI (a0 ^^^ a1 ^^^ a2) a3
 have v4:bits .xor .u64 (V (a0 ^^^ a1 ^^^ a2 ^^^ a3)) (V a4)=V c1:=by rw [kc1];exact bI _ _
 clear kc1 k0 k1 k2 k3 k4
 have h0:=fun d os=>cell_regrown g0 d os
 have h1:=fun d os=>cell_regrown g1 d os
 have h2:=fun d os=>cell_regrown g2 d os
 have h3:=fun d os=>cell_regrown g3 d os
 have h4:=fun d os=>cell_regrown g4 d os
 clear g0 g1 g2 g3 g4
 go_wp2_with fail
 refine wp_region_quiet_below (by kernel_rfl) (by kernel_rfl) ?_
 repeat
  first
   | go_big_quiet_skip
   | (go_big_quiet_want;go_big_quiet_op;go_big_quiet_on)
 refine wpQuiet_nil ?_
 rintro w1 ⟨p,rfl⟩
 have hb:=below_regrown w0 p.d p.os
 generalize grow (redrawn w0 p.d) p.os=w1 at *
 replace HO:=HO.out.trans (.of_below hb)
 replace HA:=HA.out.keep hb
 replace HT:=And.intro (HT.out.1.keep hb) (HT.out.2.keep hb (HT.out.1.lt (by rw [LT.out];decide)))
 replace HH:=HH.out.keep hb
 replace HO:Hid (Off bt w w1):=HO
 replace HA:Hid (Lns w1 ba A):=HA
 replace HT:Hid (Lns w1 bt T∧ai w1 bt 25):=HT
 replace HH:Hid (Tab w1 3 turnsN):=HH
 clear h0 h1 h2 h3 h4 v1 v2 v3 v4 hb
 have g0:=HA.out 2 (by rw [LA.out];decide)
 have g1:=HA.out 7 (by rw [LA.out];decide)
 have g2:=HA.out 12 (by rw [LA.out];decide)
 have g3:=HA.out 17 (by rw [LA.out];decide)
 have g4:=HA.out 22 (by rw [LA.out];decide)
 obtain ⟨a0,k0⟩:∃ a,a=A.getD 2 0:=⟨_,rfl⟩
 rw [←k0] at g0
 obtain ⟨a1,k1⟩:∃ a,a=A.getD 7 0:=⟨_,rfl⟩
 rw [←k1] at g1
 obtain ⟨a2,k2⟩:∃ a,a=A.getD 12 0:=⟨_,rfl⟩
 rw [←k2] at g2
 obtain ⟨a3,k3⟩:∃ a,a=A.getD 17 0:=⟨_,rfl⟩
 rw [←k3] at g3
 obtain ⟨a4,k4⟩:∃ a,a=A.getD 22 0:=⟨_,rfl⟩
 rw [←k4] at g4
 obtain ⟨c2,kc2⟩:∃ c,c=a0 ^^^ a1 ^^^ a2 ^^^ a3 ^^^ a4:=⟨_,rfl⟩
 have KC2:Hid (c2=rY A 2):=by rw [kc2,k0,k1,k2,k3,k4];exact rfl
 have v1:=bI a0 a1;have v2:=bI (a0 ^^^ a1) a2;have v3:=bI (a0 ^^^ a1 ^^^ a2) a3
 have v4:bits .xor .u64 (V (a0 ^^^ a1 ^^^ a2 ^^^ a3)) (V a4)=V c2:=by rw [kc2];exact bI _ _
 clear kc2 k0 k1 k2 k3 k4
 have h0:=fun d os=>cell_regrown g0 d os
 have h1:=fun d os=>cell_regrown g1 d os
 have h2:=fun d os=>cell_regrown g2 d os
 have h3:=fun d os=>cell_regrown g3 d os
 have h4:=fun d os=>cell_regrown g4 d os
 clear g0 g1 g2 g3 g4
 go_wp2_with fail
 refine wp_region_quiet_below (by kernel_rfl) (by kernel_rfl) ?_
 repeat
  first
   | go_big_quiet_skip
   | (go_big_quiet_want;go_big_quiet_op;go_big_quiet_on)
 refine wpQuiet_nil ?_
 rintro w2 ⟨p,rfl⟩
 have hb:=below_regrown w1 p.d p.os
 generalize grow (redrawn w1 p.d) p.os=w2 at *
 replace HO:=HO.out.trans (.of_below hb)
 replace HA:=HA.out.keep hb
 replace HT:=And.intro (HT.out.1.keep hb) (HT.out.2.keep hb (HT.out.1.lt (by rw [LT.out];decide)))
 replace HH:=HH.out.keep hb
 replace HO:Hid (Off bt w w2):=HO
 replace HA:Hid (Lns w2 ba A):=HA
 replace HT:Hid (Lns w2 bt T∧ai w2 bt 25):=HT
 replace HH:Hid (Tab w2 3 turnsN):=HH
 clear h0 h1 h2 h3 h4 v1 v2 v3 v4 hb
 have g0:=HA.out 3 (by rw [LA.out];decide)
 have g1:=HA.out 8 (by rw [LA.out];decide)
 have g2:=HA.out 13 (by rw [LA.out];decide)
 have g3:=HA.out 18 (by rw [LA.out];decide)
 have g4:=HA.out 23 (by rw [LA.out];decide)
 obtain ⟨a0,k0⟩:∃ a,a=A.getD 3 0:=⟨_,rfl⟩
 rw [←k0] at g0
 obtain ⟨a1,k1⟩:∃ a,a=A.getD 8 0:=⟨_,rfl⟩
 rw [←k1] at g1
 obtain ⟨a2,k2⟩:∃ a,a=A.getD 13 0:=⟨_,rfl⟩
 rw [←k2] at g2
 obtain ⟨a3,k3⟩:∃ a,a=A.getD 18 0:=⟨_,rfl⟩
 rw [←k3] at g3
 obtain ⟨a4,k4⟩:∃ a,a=A.getD 23 0:=⟨_,rfl⟩
 rw [←k4] at g4
 obtain ⟨c3,kc3⟩:∃ c,c=a0 ^^^ a1 ^^^ a2 ^^^ a3 ^^^ a4:=⟨_,rfl⟩
 have KC3:Hid (c3=rY A 3):=by rw [kc3,k0,k1,k2,k3,k4];exact rfl
 have v1:=bI a0 a1;have v2:=bI (a0 ^^^ a1) a2;have v3:=bI (a0 ^^^ a1 ^^^ a2) a3
 have v4:bits .xor .u64 (V (a0 ^^^ a1 ^^^ a2 ^^^ a3)) (V a4)=V c3:=by rw [kc3];exact bI _ _
 clear kc3 k0 k1 k2 k3 k4
 have h0:=fun d os=>cell_regrown g0 d os
 have h1:=fun d os=>cell_regrown g1 d os
 have h2:=fun d os=>cell_regrown g2 d os
 have h3:=fun d os=>cell_regrown g3 d os
 have h4:=fun d os=>cell_regrown g4 d os
 clear g0 g1 g2 g3 g4
 go_wp2_with fail
 refine wp_region_quiet_below (by kernel_rfl) (by kernel_rfl) ?_
 repeat
  first
   | go_big_quiet_skip
   | (go_big_quiet_want;go_big_quiet_op;go_big_quiet_on)
 refine wpQuiet_nil ?_
 rintro w3 ⟨p,rfl⟩
 have hb:=below_regrown w2 p.d p.os
 generalize grow (redrawn w2 p.d) p.os=w3 at *
 replace HO:=HO.out.trans (.of_below hb)
 replace HA:=HA.out.keep hb
 replace HT:=And.intro (HT.out.1.keep hb) (HT.out.2.keep hb (HT.out.1.lt (by rw [LT.out];decide)))
 replace HH:=HH.out.keep hb
 replace HO:Hid (Off bt w w3):=HO
 replace HA:Hid (Lns w3 ba A):=HA
 replace HT:Hid (Lns w3 bt T∧ai w3 bt 25):=HT
 replace HH:Hid (Tab w3 3 turnsN):=HH
 clear h0 h1 h2 h3 h4 v1 v2 v3 v4 hb
 have g0:=HA.out 4 (by rw [LA.out];decide)
 have g1:=HA.out 9 (by rw [LA.out];decide)
 have g2:=HA.out 14 (by rw [LA.out];decide)
 have g3:=HA.out 19 (by rw [LA.out];decide)
 have g4:=HA.out 24 (by rw [LA.out];decide)
 obtain ⟨a0,k0⟩:∃ a,a=A.getD 4 0:=⟨_,rfl⟩
 rw [←k0] at g0
 obtain ⟨a1,k1⟩:∃ a,a=A.getD 9 0:=⟨_,rfl⟩
 rw [←k1] at g1
 obtain ⟨a2,k2⟩:∃ a,a=A.getD 14 0:=⟨_,rfl⟩
 rw [←k2] at g2
 obtain ⟨a3,k3⟩:∃ a,a=A.getD 19 0:=⟨_,rfl⟩
 rw [←k3] at g3
 obtain ⟨a4,k4⟩:∃ a,a=A.getD 24 0:=⟨_,rfl⟩
 rw [←k4] at g4
 obtain ⟨c4,kc4⟩:∃ c,c=a0 ^^^ a1 ^^^ a2 ^^^ a3 ^^^ a4:=⟨_,rfl⟩
 have KC4:Hid (c4=rY A 4):=by rw [kc4,k0,k1,k2,k3,k4];exact rfl
 have v1:=bI a0 a1;have v2:=bI (a0 ^^^ a1) a2;have v3:=bI (a0 ^^^ a1 ^^^ a2) a3
 have v4:bits .xor .u64 (V (a0 ^^^ a1 ^^^ a2 ^^^ a3)) (V a4)=V c4:=by rw [kc4];exact bI _ _
 clear kc4 k0 k1 k2 k3 k4
 have h0:=fun d os=>cell_regrown g0 d os
 have h1:=fun d os=>cell_regrown g1 d os
 have h2:=fun d os=>cell_regrown g2 d os
 have h3:=fun d os=>cell_regrown g3 d os
 have h4:=fun d os=>cell_regrown g4 d os
 clear g0 g1 g2 g3 g4
 go_wp2_with fail
 refine wp_region_quiet_below (by kernel_rfl) (by kernel_rfl) ?_
 repeat
  first
   | go_big_quiet_skip
   | (go_big_quiet_want;go_big_quiet_op;go_big_quiet_on)
 refine wpQuiet_nil ?_
 rintro w4 ⟨p,rfl⟩
 have hb:=below_regrown w3 p.d p.os
 generalize grow (redrawn w3 p.d) p.os=w4 at *
 replace HO:=HO.out.trans (.of_below hb)
 replace HA:=HA.out.keep hb
 replace HT:=And.intro (HT.out.1.keep hb) (HT.out.2.keep hb (HT.out.1.lt (by rw [LT.out];decide)))
 replace HH:=HH.out.keep hb
 replace HO:Hid (Off bt w w4):=HO
 replace HA:Hid (Lns w4 ba A):=HA
 replace HT:Hid (Lns w4 bt T∧ai w4 bt 25):=HT
 replace HH:Hid (Tab w4 3 turnsN):=HH
 clear h0 h1 h2 h3 h4 v1 v2 v3 v4 hb
 obtain ⟨d0,kd0⟩:∃ d,d=c4 ^^^ c1.rotateLeft 1:=⟨_,rfl⟩
 have KD0:Hid (d0=uN A 0):=by rw [kd0,KC4.out,KC1.out];exact rfl
 have vd:bits .xor .u64 (V c4) (V (c1.rotateLeft 1))=V d0:=by rw [kd0];exact bI _ _
 go_wp2_with fail
 refine (dS c1 (k:=1) (by decide) _).mono ?_
 rintro e u ⟨rfl,rfl⟩
 clear kd0
 obtain ⟨d1,kd1⟩:∃ d,d=c0 ^^^ c2.rotateLeft 1:=⟨_,rfl⟩
 have KD1:Hid (d1=uN A 1):=by rw [kd1,KC0.out,KC2.out];exact rfl
 have vd:bits .xor .u64 (V c0) (V (c2.rotateLeft 1))=V d1:=by rw [kd1];exact bI _ _
 go_wp2_with fail
 refine (dS c2 (k:=1) (by decide) _).mono ?_
 rintro e u ⟨rfl,rfl⟩
 clear kd1
 obtain ⟨d2,kd2⟩:∃ d,d=c1 ^^^ c3.rotateLeft 1:=⟨_,rfl⟩
 have KD2:Hid (d2=uN A 2):=by rw [kd2,KC1.out,KC3.out];exact rfl
 have vd:bits .xor .u64 (V c1) (V (c3.rotateLeft 1))=V d2:=by rw [kd2];exact bI _ _
 go_wp2_with fail
 refine (dS c3 (k:=1) (by decide) _).mono ?_
 rintro e u ⟨rfl,rfl⟩
 clear kd2
 obtain ⟨d3,kd3⟩:∃ d,d=c2 ^^^ c4.rotateLeft 1:=⟨_,rfl⟩
 have KD3:Hid (d3=uN A 3):=by rw [kd3,KC2.out,KC4.out];exact rfl
 have vd:bits .xor .u64 (V c2) (V (c4.rotateLeft 1))=V d3:=by rw [kd3];exact bI _ _
 go_wp2_with fail
 refine (dS c4 (k:=1) (by decide) _).mono ?_
 rintro e u ⟨rfl,rfl⟩
 clear kd3
 obtain ⟨d4,kd4⟩:∃ d,d=c3 ^^^ c0.rotateLeft 1:=⟨_,rfl⟩
 have KD4:Hid (d4=uN A 4):=by rw [kd4,KC3.out,KC0.out];exact rfl
 have vd:bits .xor .u64 (V c3) (V (c0.rotateLeft 1))=V d4:=by rw [kd4];exact bI _ _
 go_wp2_with fail
 refine (dS c0 (k:=1) (by decide) _).mono ?_
 rintro e u ⟨rfl,rfl⟩
 clear kd4
 go_wp2_with fail
 clear vd
 go_wp2_with fail
 refine (aO (x:=A.getD 0 0) (k:=turnsN.getD 0 0) d0 (i:=0) (by decide) (by decide) _ (HA.out 0 (by rw [LA.out];decide)) (HH.out 0 (by decide))).mono ?_
 rintro e w5 ⟨rfl,hb⟩
 replace HO:Hid (Off bt w w5):=HO.out.trans (.of_below hb)
 replace HA:Hid (Lns w5 ba A):=HA.out.keep hb
 replace HT:Hid (Lns w5 bt T∧ai w5 bt 25):=And.intro (HT.out.1.keep hb) (HT.out.2.keep hb (HT.out.1.lt (by rw [LT.out];decide)))
 replace HH:Hid (Tab w5 3 turnsN):=HH.out.keep hb
 clear hb
 obtain ⟨u0,ku0⟩:∃ u,(A.getD 0 0 ^^^ d0).rotateLeft (turnsN.getD 0 0)=u:=⟨_,rfl⟩
 rw [ku0]
 have U0:Hid (u0=dO A 0):=by rw [←ku0,KD0.out];exact rfl
 clear ku0
 go_wp2_with fail
 refine (aO (x:=A.getD 6 0) (k:=turnsN.getD 6 0) d1 (i:=6) (by decide) (by decide) _ (HA.out 6 (by rw [LA.out];decide)) (HH.out 6 (by decide))).mono ?_
 rintro e w6 ⟨rfl,hb⟩
 replace HO:Hid (Off bt w w6):=HO.out.trans (.of_below hb)
 replace HA:Hid (Lns w6 ba A):=HA.out.keep hb
 replace HT:Hid (Lns w6 bt T∧ai w6 bt 25):=And.intro (HT.out.1.keep hb) (HT.out.2.keep hb (HT.out.1.lt (by rw [LT.out];decide)))
 replace HH:Hid (Tab w6 3 turnsN):=HH.out.keep hb
 clear hb
 obtain ⟨u6,ku6⟩:∃ u,(A.getD 6 0 ^^^ d1).rotateLeft (turnsN.getD 6 0)=u:=⟨_,rfl⟩
 rw [ku6]
 have U6:Hid (u6=dO A 6):=by rw [←ku6,KD1.out];exact rfl
 clear ku6
 go_wp2_with fail
 refine (aO (x:=A.getD 12 0) (k:=turnsN.getD 12 0) d2 (i:=12) (by decide) (by decide) _ (HA.out 12 (by rw [LA.out];decide)) (HH.out 12 (by decide))).mono ?_
 rintro e w7 ⟨rfl,hb⟩
 replace HO:Hid (Off bt w w7):=HO.out.trans (.of_below hb)
 replace HA:Hid (Lns w7 ba A):=HA.out.keep hb
 replace HT:Hid (Lns w7 bt T∧ai w7 bt 25):=And.intro (HT.out.1.keep hb) (HT.out.2.keep hb (HT.out.1.lt (by rw [LT.out];decide)))
 replace HH:Hid (Tab w7 3 turnsN):=HH.out.keep hb
 clear hb
 obtain ⟨u12,ku12⟩:∃ u,(A.getD 12 0 ^^^ d2).rotateLeft (turnsN.getD 12 0)=u:=⟨_,rfl⟩
 rw [ku12]
 have U12:Hid (u12=dO A 12):=by rw [←ku12,KD2.out];exact rfl
 clear ku12
 go_wp2_with fail
 refine (aO (x:=A.getD 18 0) (k:=turnsN.getD 18 0) d3 (i:=18) (by decide) (by decide) _ (HA.out 18 (by rw [LA.out];decide)) (HH.out 18 (by decide))).mono ?_
 rintro e w8 ⟨rfl,hb⟩
 replace HO:Hid (Off bt w w8):=HO.out.trans (.of_below hb)
 replace HA:Hid (Lns w8 ba A):=HA.out.keep hb
 replace HT:Hid (Lns w8 bt T∧ai w8 bt 25):=And.intro (HT.out.1.keep hb) (HT.out.2.keep hb (HT.out.1.lt (by rw [LT.out];decide)))
 replace HH:Hid (Tab w8 3 turnsN):=HH.out.keep hb
 clear hb
 obtain ⟨u18,ku18⟩:∃ u,(A.getD 18 0 ^^^ d3).rotateLeft (turnsN.getD 18 0)=u:=⟨_,rfl⟩
 rw [ku18]
 have U18:Hid (u18=dO A 18):=by rw [←ku18,KD3.out];exact rfl
 clear ku18
 go_wp2_with fail
 refine (aO (x:=A.getD 24 0) (k:=turnsN.getD 24 0) d4 (i:=24) (by decide) (by decide) _ (HA.out 24 (by rw [LA.out];decide)) (HH.out 24 (by decide))).mono ?_
 rintro e w9 ⟨rfl,hb⟩
 replace HO:Hid (Off bt w w9):=HO.out.trans (.of_below hb)
 replace HA:Hid (Lns w9 ba A):=HA.out.keep hb
 replace HT:Hid (Lns w9 bt T∧ai w9 bt 25):=And.intro (HT.out.1.keep hb) (HT.out.2.keep hb (HT.out.1.lt (by rw [LT.out];decide)))
 replace HH:Hid (Tab w9 3 turnsN):=HH.out.keep hb
 clear hb
 obtain ⟨u24,ku24⟩:∃ u,(A.getD 24 0 ^^^ d4).rotateLeft (turnsN.getD 24 0)=u:=⟨_,rfl⟩
 rw [ku24]
 have U24:Hid (u24=dO A 24):=by rw [←ku24,KD4.out];exact rfl
 clear ku24
 go_wp2_with fail
 refine (iw (y:=0) u0 u6 u12 u18 u24 (by rw [LT.out];decide) (by rw [LT.out];decide) _ HT.out.1 (by rw [LT.out];exact HT.out.2)).mono ?_
 rintro e w10 ⟨rfl,hl,hf,ho⟩
 replace HO:Hid (Off bt w w10):=HO.out.trans ho
 replace HA:Hid (Lns w10 ba A):=ho.lns NE.out.1 HA.out
 replace HH:Hid (Tab w10 3 turnsN):=ho.tab NE.out.2 HH.out
 rw [LT.out] at hf
 obtain ⟨T0,kT0⟩:∃ t,t=((((T.set 0 (u0 ^^^ (~~~u6 &&& u12))).set (0+1) (u6 ^^^ (~~~u12 &&& u18))).set (0+2) (u12 ^^^ (~~~u18 &&& u24))).set (0+3) (u18 ^^^ (~~~u24 &&& u0))).set (0+4) (u24 ^^^ (~~~u0 &&& u6)):=⟨_,rfl⟩
 replace HT:Hid (Lns w10 bt T0∧ai w10 bt 25):=⟨by rw [kT0];exact hl,hf⟩
 have E0:Hid (T0=((((T.set 0 (u0 ^^^ (~~~u6 &&& u12))).set (0+1) (u6 ^^^ (~~~u12 &&& u18))).set (0+2) (u12 ^^^ (~~~u18 &&& u24))).set (0+3) (u18 ^^^ (~~~u24 &&& u0))).set (0+4) (u24 ^^^ (~~~u0 &&& u6))):=kT0
 have LT2:Hid (T0.length=25):=by rw [kT0];simp only [List.length_set];exact LT.out
 clear hl hf ho kT0 LT
 have LT:Hid (T0.length=25):=LT2
 clear LT2
 go_wp2_with fail
 refine (aO (x:=A.getD 3 0) (k:=turnsN.getD 3 0) d3 (i:=3) (by decide) (by decide) _ (HA.out 3 (by rw [LA.out];decide)) (HH.out 3 (by decide))).mono ?_
 rintro e w11 ⟨rfl,hb⟩
 replace HO:Hid (Off bt w w11):=HO.out.trans (.of_below hb)
 replace HA:Hid (Lns w11 ba A):=HA.out.keep hb
 replace HT:Hid (Lns w11 bt T0∧ai w11 bt 25):=And.intro (HT.out.1.keep hb) (HT.out.2.keep hb (HT.out.1.lt (by rw [LT.out];decide)))
 replace HH:Hid (Tab w11 3 turnsN):=HH.out.keep hb
 clear hb
 obtain ⟨u3,ku3⟩:∃ u,(A.getD 3 0 ^^^ d3).rotateLeft (turnsN.getD 3 0)=u:=⟨_,rfl⟩
 rw [ku3]
 have U3:Hid (u3=dO A 3):=by rw [←ku3,KD3.out];exact rfl
 clear ku3
 go_wp2_with fail
 refine (aO (x:=A.getD 9 0) (k:=turnsN.getD 9 0) d4 (i:=9) (by decide) (by decide) _ (HA.out 9 (by rw [LA.out];decide)) (HH.out 9 (by decide))).mono ?_
 rintro e w12 ⟨rfl,hb⟩
 replace HO:Hid (Off bt w w12):=HO.out.trans (.of_below hb)
 replace HA:Hid (Lns w12 ba A):=HA.out.keep hb
 replace HT:Hid (Lns w12 bt T0∧ai w12 bt 25):=And.intro (HT.out.1.keep hb) (HT.out.2.keep hb (HT.out.1.lt (by rw [LT.out];decide)))
 replace HH:Hid (Tab w12 3 turnsN):=HH.out.keep hb
 clear hb
 obtain ⟨u9,ku9⟩:∃ u,(A.getD 9 0 ^^^ d4).rotateLeft (turnsN.getD 9 0)=u:=⟨_,rfl⟩
 rw [ku9]
 have U9:Hid (u9=dO A 9):=by rw [←ku9,KD4.out];exact rfl
 clear ku9
 go_wp2_with fail
 refine (aO (x:=A.getD 10 0) (k:=turnsN.getD 10 0) d0 (i:=10) (by decide) (by decide) _ (HA.out 10 (by rw [LA.out];decide)) (HH.out 10 (by decide))).mono ?_
 rintro e w13 ⟨rfl,hb⟩
 replace HO:Hid (Off bt w w13):=HO.out.trans (.of_below hb)
 replace HA:Hid (Lns w13 ba A):=HA.out.keep hb
 replace HT:Hid (Lns w13 bt T0∧ai w13 bt 25):=And.intro (HT.out.1.keep hb) (HT.out.2.keep hb (HT.out.1.lt (by rw [LT.out];decide)))
 replace HH:Hid (Tab w13 3 turnsN):=HH.out.keep hb
 clear hb
 obtain ⟨u10,ku10⟩:∃ u,(A.getD 10 0 ^^^ d0).rotateLeft (turnsN.getD 10 0)=u:=⟨_,rfl⟩
 rw [ku10]
 have U10:Hid (u10=dO A 10):=by rw [←ku10,KD0.out];exact rfl
 clear ku10
 go_wp2_with fail
 refine (aO (x:=A.getD 16 0) (k:=turnsN.getD 16 0) d1 (i:=16) (by decide) (by decide) _ (HA.out 16 (by rw [LA.out];decide)) (HH.out 16 (by decide))).mono ?_
 rintro e w14 ⟨rfl,hb⟩
 replace HO:Hid (Off bt w w14):=HO.out.trans (.of_below hb)
 replace HA:Hid (Lns w14 ba A):=HA.out.keep hb
 replace HT:Hid (Lns w14 bt T0∧ai w14 bt 25):=And.intro (HT.out.1.keep hb) (HT.out.2.keep hb (HT.out.1.lt (by rw [LT.out];decide)))
 replace HH:Hid (Tab w14 3 turnsN):=HH.out.keep hb
 clear hb
 obtain ⟨u16,ku16⟩:∃ u,(A.getD 16 0 ^^^ d1).rotateLeft (turnsN.getD 16 0)=u:=⟨_,rfl⟩
 rw [ku16]
 have U16:Hid (u16=dO A 16):=by rw [←ku16,KD1.out];exact rfl
 clear ku16
 go_wp2_with fail
 refine (aO (x:=A.getD 22 0) (k:=turnsN.getD 22 0) d2 (i:=22) (by decide) (by decide) _ (HA.out 22 (by rw [LA.out];decide)) (HH.out 22 (by decide))).mono ?_
 rintro e w15 ⟨rfl,hb⟩
 replace HO:Hid (Off bt w w15):=HO.out.trans (.of_below hb)
 replace HA:Hid (Lns w15 ba A):=HA.out.keep hb
 replace HT:Hid (Lns w15 bt T0∧ai w15 bt 25):=And.intro (HT.out.1.keep hb) (HT.out.2.keep hb (HT.out.1.lt (by rw [LT.out];decide)))
 replace HH:Hid (Tab w15 3 turnsN):=HH.out.keep hb
 clear hb
 obtain ⟨u22,ku22⟩:∃ u,(A.getD 22 0 ^^^ d2).rotateLeft (turnsN.getD 22 0)=u:=⟨_,rfl⟩
 rw [ku22]
 have U22:Hid (u22=dO A 22):=by rw [←ku22,KD2.out];exact rfl
 clear ku22
 go_wp2_with fail
 refine (iw (y:=5) u3 u9 u10 u16 u22 (by rw [LT.out];decide) (by rw [LT.out];decide) _ HT.out.1 (by rw [LT.out];exact HT.out.2)).mono ?_
 rintro e w16 ⟨rfl,hl,hf,ho⟩
 replace HO:Hid (Off bt w w16):=HO.out.trans ho
 replace HA:Hid (Lns w16 ba A):=ho.lns NE.out.1 HA.out
 replace HH:Hid (Tab w16 3 turnsN):=ho.tab NE.out.2 HH.out
 rw [LT.out] at hf
 obtain ⟨T5,kT5⟩:∃ t,t=((((T0.set 5 (u3 ^^^ (~~~u9 &&& u10))).set (5+1) (u9 ^^^ (~~~u10 &&& u16))).set (5+2) (u10 ^^^ (~~~u16 &&& u22))).set (5+3) (u16 ^^^ (~~~u22 &&& u3))).set (5+4) (u22 ^^^ (~~~u3 &&& u9)):=⟨_,rfl⟩
 replace HT:Hid (Lns w16 bt T5∧ai w16 bt 25):=⟨by rw [kT5];exact hl,hf⟩
 have E5:Hid (T5=((((T0.set 5 (u3 ^^^ (~~~u9 &&& u10))).set (5+1) (u9 ^^^ (~~~u10 &&& u16))).set (5+2) (u10 ^^^ (~~~u16 &&& u22))).set (5+3) (u16 ^^^ (~~~u22 &&& u3))).set (5+4) (u22 ^^^ (~~~u3 &&& u9))):=kT5
 have LT2:Hid (T5.length=25):=by rw [kT5];simp only [List.length_set];exact LT.out
 clear hl hf ho kT5 LT
 have LT:Hid (T5.length=25):=LT2
 clear LT2
 go_wp2_with fail
 refine (aO (x:=A.getD 1 0) (k:=turnsN.getD 1 0) d1 (i:=1) (by decide) (by decide) _ (HA.out 1 (by rw [LA.out];decide)) (HH.out 1 (by decide))).mono ?_
 rintro e w17 ⟨rfl,hb⟩
 replace HO:Hid (Off bt w w17):=HO.out.trans (.of_below hb)
 replace HA:Hid (Lns w17 ba A):=HA.out.keep hb
 replace HT:Hid (Lns w17 bt T5∧ai w17 bt 25):=And.intro (HT.out.1.keep hb) (HT.out.2.keep hb (HT.out.1.lt (by rw [LT.out];decide)))
 replace HH:Hid (Tab w17 3 turnsN):=HH.out.keep hb
 clear hb
 obtain ⟨u1,ku1⟩:∃ u,(A.getD 1 0 ^^^ d1).rotateLeft (turnsN.getD 1 0)=u:=⟨_,rfl⟩
 rw [ku1]
 have U1:Hid (u1=dO A 1):=by rw [←ku1,KD1.out];exact rfl
 clear ku1
 go_wp2_with fail
 refine (aO (x:=A.getD 7 0) (k:=turnsN.getD 7 0) d2 (i:=7) (by decide) (by decide) _ (HA.out 7 (by rw [LA.out];decide)) (HH.out 7 (by decide))).mono ?_
 rintro e w18 ⟨rfl,hb⟩
 replace HO:Hid (Off bt w w18):=HO.out.trans (.of_below hb)
 replace HA:Hid (Lns w18 ba A):=HA.out.keep hb
 replace HT:Hid (Lns w18 bt T5∧ai w18 bt 25):=And.intro (HT.out.1.keep hb) (HT.out.2.keep hb (HT.out.1.lt (by rw [LT.out];decide)))
 replace HH:Hid (Tab w18 3 turnsN):=HH.out.keep hb
 clear hb
 obtain ⟨u7,ku7⟩:∃ u,(A.getD 7 0 ^^^ d2).rotateLeft (turnsN.getD 7 0)=u:=⟨_,rfl⟩
 rw [ku7]
 have U7:Hid (u7=dO A 7):=by rw [←ku7,KD2.out];exact rfl
 clear ku7
 go_wp2_with fail
 refine (aO (x:=A.getD 13 0) (k:=turnsN.getD 13 0) d3 (i:=13) (by decide) (by decide) _ (HA.out 13 (by rw [LA.out];decide)) (HH.out 13 (by decide))).mono ?_
 rintro e w19 ⟨rfl,hb⟩
 replace HO:Hid (Off bt w w19):=HO.out.trans (.of_below hb)
 replace HA:Hid (Lns w19 ba A):=HA.out.keep hb
 replace HT:Hid (Lns w19 bt T5∧ai w19 bt 25):=And.intro (HT.out.1.keep hb) (HT.out.2.keep hb (HT.out.1.lt (by rw [LT.out];decide)))
 replace HH:Hid (Tab w19 3 turnsN):=HH.out.keep hb
 clear hb
 obtain ⟨u13,ku13⟩:∃ u,(A.getD 13 0 ^^^ d3).rotateLeft (turnsN.getD 13 0)=u:=⟨_,rfl⟩
 rw [ku13]
 have U13:Hid (u13=dO A 13):=by rw [←ku13,KD3.out];exact rfl
 clear ku13
 go_wp2_with fail
 refine (aO (x:=A.getD 19 0) (k:=turnsN.getD 19 0) d4 (i:=19) (by decide) (by decide) _ (HA.out 19 (by rw [LA.out];decide)) (HH.out 19 (by decide))).mono ?_
 rintro e w20 ⟨rfl,hb⟩
 replace HO:Hid (Off bt w w20):=HO.out.trans (.of_below hb)
 replace HA:Hid (Lns w20 ba A):=HA.out.keep hb
 replace HT:Hid (Lns w20 bt T5∧ai w20 bt 25):=And.intro (HT.out.1.keep hb) (HT.out.2.keep hb (HT.out.1.lt (by rw [LT.out];decide)))
 replace HH:Hid (Tab w20 3 turnsN):=HH.out.keep hb
 clear hb
 obtain ⟨u19,ku19⟩:∃ u,(A.getD 19 0 ^^^ d4).rotateLeft (turnsN.getD 19 0)=u:=⟨_,rfl⟩
 rw [ku19]
 have U19:Hid (u19=dO A 19):=by rw [←ku19,KD4.out];exact rfl
 clear ku19
 go_wp2_with fail
 refine (aO (x:=A.getD 20 0) (k:=turnsN.getD 20 0) d0 (i:=20) (by decide) (by decide) _ (HA.out 20 (by rw [LA.out];decide)) (HH.out 20 (by decide))).mono ?_
 rintro e w21 ⟨rfl,hb⟩
 replace HO:Hid (Off bt w w21):=HO.out.trans (.of_below hb)
 replace HA:Hid (Lns w21 ba A):=HA.out.keep hb
 replace HT:Hid (Lns w21 bt T5∧ai w21 bt 25):=And.intro (HT.out.1.keep hb) (HT.out.2.keep hb (HT.out.1.lt (by rw [LT.out];decide)))
 replace HH:Hid (Tab w21 3 turnsN):=HH.out.keep hb
 clear hb
 obtain ⟨u20,ku20⟩:∃ u,(A.getD 20 0 ^^^ d0).rotateLeft (turnsN.getD 20 0)=u:=⟨_,rfl⟩
 rw [ku20]
 have U20:Hid (u20=dO A 20):=by rw [←ku20,KD0.out];exact rfl
 clear ku20
 go_wp2_with fail
 refine (iw (y:=10) u1 u7 u13 u19 u20 (by rw [LT.out];decide) (by rw [LT.out];decide) _ HT.out.1 (by rw [LT.out];exact HT.out.2)).mono ?_
 rintro e w22 ⟨rfl,hl,hf,ho⟩
 replace HO:Hid (Off bt w w22):=HO.out.trans ho
 replace HA:Hid (Lns w22 ba A):=ho.lns NE.out.1 HA.out
 replace HH:Hid (Tab w22 3 turnsN):=ho.tab NE.out.2 HH.out
 rw [LT.out] at hf
 obtain ⟨T10,kT10⟩:∃ t,t=((((T5.set 10 (u1 ^^^ (~~~u7 &&& u13))).set (10+1) (u7 ^^^ (~~~u13 &&& u19))).set (10+2) (u13 ^^^ (~~~u19 &&& u20))).set (10+3) (u19 ^^^ (~~~u20 &&& u1))).set (10+4) (u20 ^^^ (~~~u1 &&& u7)):=⟨_,rfl⟩
 replace HT:Hid (Lns w22 bt T10∧ai w22 bt 25):=⟨by rw [kT10];exact hl,hf⟩
 have E10:Hid (T10=((((T5.set 10 (u1 ^^^ (~~~u7 &&& u13))).set (10+1) (u7 ^^^ (~~~u13 &&& u19))).set (10+2) (u13 ^^^ (~~~u19 &&& u20))).set (10+3) (u19 ^^^ (~~~u20 &&& u1))).set (10+4) (u20 ^^^ (~~~u1 &&& u7))):=kT10
 have LT2:Hid (T10.length=25):=by rw [kT10];simp only [List.length_set];exact LT.out
 clear hl hf ho kT10 LT
 have LT:Hid (T10.length=25):=LT2
 clear LT2
 go_wp2_with fail
 refine (aO (x:=A.getD 4 0) (k:=turnsN.getD 4 0) d4 (i:=4) (by decide) (by decide) _ (HA.out 4 (by rw [LA.out];decide)) (HH.out 4 (by decide))).mono ?_
 rintro e w23 ⟨rfl,hb⟩
 replace HO:Hid (Off bt w w23):=HO.out.trans (.of_below hb)
 replace HA:Hid (Lns w23 ba A):=HA.out.keep hb
 replace HT:Hid (Lns w23 bt T10∧ai w23 bt 25):=And.intro (HT.out.1.keep hb) (HT.out.2.keep hb (HT.out.1.lt (by rw [LT.out];decide)))
 replace HH:Hid (Tab w23 3 turnsN):=HH.out.keep hb
 clear hb
 obtain ⟨u4,ku4⟩:∃ u,(A.getD 4 0 ^^^ d4).rotateLeft (turnsN.getD 4 0)=u:=⟨_,rfl⟩
 rw [ku4]
 have U4:Hid (u4=dO A 4):=by rw [←ku4,KD4.out];exact rfl
 clear ku4
 go_wp2_with fail
 refine (aO (x:=A.getD 5 0) (k:=turnsN.getD 5 0) d0 (i:=5) (by decide) (by decide) _ (HA.out 5 (by rw [LA.out];decide)) (HH.out 5 (by decide))).mono ?_
 rintro e w24 ⟨rfl,hb⟩
 replace HO:Hid (Off bt w w24):=HO.out.trans (.of_below hb)
 replace HA:Hid (Lns w24 ba A):=HA.out.keep hb
 replace HT:Hid (Lns w24 bt T10∧ai w24 bt 25):=And.intro (HT.out.1.keep hb) (HT.out.2.keep hb (HT.out.1.lt (by rw [LT.out];decide)))
 replace HH:Hid (Tab w24 3 turnsN):=HH.out.keep hb
 clear hb
 obtain ⟨u5,ku5⟩:∃ u,(A.getD 5 0 ^^^ d0).rotateLeft (turnsN.getD 5 0)=u:=⟨_,rfl⟩
 rw [ku5]
 have U5:Hid (u5=dO A 5):=by rw [←ku5,KD0.out];exact rfl
 clear ku5
 go_wp2_with fail
 refine (aO (x:=A.getD 11 0) (k:=turnsN.getD 11 0) d1 (i:=11) (by decide) (by decide) _ (HA.out 11 (by rw [LA.out];decide)) (HH.out 11 (by decide))).mono ?_
 rintro e w25 ⟨rfl,hb⟩
 replace HO:Hid (Off bt w w25):=HO.out.trans (.of_below hb)
 replace HA:Hid (Lns w25 ba A):=HA.out.keep hb
 replace HT:Hid (Lns w25 bt T10∧ai w25 bt 25):=And.intro (HT.out.1.keep hb) (HT.out.2.keep hb (HT.out.1.lt (by rw [LT.out];decide)))
 replace HH:Hid (Tab w25 3 turnsN):=HH.out.keep hb
 clear hb
 obtain ⟨u11,ku11⟩:∃ u,(A.getD 11 0 ^^^ d1).rotateLeft (turnsN.getD 11 0)=u:=⟨_,rfl⟩
 rw [ku11]
 have U11:Hid (u11=dO A 11):=by rw [←ku11,KD1.out];exact rfl
 clear ku11
 go_wp2_with fail
 refine (aO (x:=A.getD 17 0) (k:=turnsN.getD 17 0) d2 (i:=17) (by decide) (by decide) _ (HA.out 17 (by rw [LA.out];decide)) (HH.out 17 (by decide))).mono ?_
 rintro e w26 ⟨rfl,hb⟩
 replace HO:Hid (Off bt w w26):=HO.out.trans (.of_below hb)
 replace HA:Hid (Lns w26 ba A):=HA.out.keep hb
 replace HT:Hid (Lns w26 bt T10∧ai w26 bt 25):=And.intro (HT.out.1.keep hb) (HT.out.2.keep hb (HT.out.1.lt (by rw [LT.out];decide)))
 replace HH:Hid (Tab w26 3 turnsN):=HH.out.keep hb
 clear hb
 obtain ⟨u17,ku17⟩:∃ u,(A.getD 17 0 ^^^ d2).rotateLeft (turnsN.getD 17 0)=u:=⟨_,rfl⟩
 rw [ku17]
 have U17:Hid (u17=dO A 17):=by rw [←ku17,KD2.out];exact rfl
 clear ku17
 go_wp2_with fail
 refine (aO (x:=A.getD 23 0) (k:=turnsN.getD 23 0) d3 (i:=23) (by decide) (by decide) _ (HA.out 23 (by rw [LA.out];decide)) (HH.out 23 (by decide))).mono ?_
 rintro e w27 ⟨rfl,hb⟩
 replace HO:Hid (Off bt w w27):=HO.out.trans (.of_below hb)
 replace HA:Hid (Lns w27 ba A):=HA.out.keep hb
 replace HT:Hid (Lns w27 bt T10∧ai w27 bt 25):=And.intro (HT.out.1.keep hb) (HT.out.2.keep hb (HT.out.1.lt (by rw [LT.out];decide)))
 replace HH:Hid (Tab w27 3 turnsN):=HH.out.keep hb
 clear hb
 obtain ⟨u23,ku23⟩:∃ u,(A.getD 23 0 ^^^ d3).rotateLeft (turnsN.getD 23 0)=u:=⟨_,rfl⟩
 rw [ku23]
 have U23:Hid (u23=dO A 23):=by rw [←ku23,KD3.out];exact rfl
 clear ku23
 go_wp2_with fail
 refine (iw (y:=15) u4 u5 u11 u17 u23 (by rw [LT.out];decide) (by rw [LT.out];decide) _ HT.out.1 (by rw [LT.out];exact HT.out.2)).mono ?_
 rintro e w28 ⟨rfl,hl,hf,ho⟩
 replace HO:Hid (Off bt w w28):=HO.out.trans ho
 replace HA:Hid (Lns w28 ba A):=ho.lns NE.out.1 HA.out
 replace HH:Hid (Tab w28 3 turnsN):=ho.tab NE.out.2 HH.out
 rw [LT.out] at hf
 obtain ⟨T15,kT15⟩:∃ t,t=((((T10.set 15 (u4 ^^^ (~~~u5 &&& u11))).set (15+1) (u5 ^^^ (~~~u11 &&& u17))).set (15+2) (u11 ^^^ (~~~u17 &&& u23))).set (15+3) (u17 ^^^ (~~~u23 &&& u4))).set (15+4) (u23 ^^^ (~~~u4 &&& u5)):=⟨_,rfl⟩
 replace HT:Hid (Lns w28 bt T15∧ai w28 bt 25):=⟨by rw [kT15];exact hl,hf⟩
 have E15:Hid (T15=((((T10.set 15 (u4 ^^^ (~~~u5 &&& u11))).set (15+1) (u5 ^^^ (~~~u11 &&& u17))).set (15+2) (u11 ^^^ (~~~u17 &&& u23))).set (15+3) (u17 ^^^ (~~~u23 &&& u4))).set (15+4) (u23 ^^^ (~~~u4 &&& u5))):=kT15
 have LT2:Hid (T15.length=25):=by rw [kT15];simp only [List.length_set];exact LT.out
 clear hl hf ho kT15 LT
 have LT:Hid (T15.length=25):=LT2
 clear LT2
 go_wp2_with fail
 refine (aO (x:=A.getD 2 0) (k:=turnsN.getD 2 0) d2 (i:=2) (by decide) (by decide) _ (HA.out 2 (by rw [LA.out];decide)) (HH.out 2 (by decide))).mono ?_
 rintro e w29 ⟨rfl,hb⟩
 replace HO:Hid (Off bt w w29):=HO.out.trans (.of_below hb)
 replace HA:Hid (Lns w29 ba A):=HA.out.keep hb
 replace HT:Hid (Lns w29 bt T15∧ai w29 bt 25):=And.intro (HT.out.1.keep hb) (HT.out.2.keep hb (HT.out.1.lt (by rw [LT.out];decide)))
 replace HH:Hid (Tab w29 3 turnsN):=HH.out.keep hb
 clear hb
 obtain ⟨u2,ku2⟩:∃ u,(A.getD 2 0 ^^^ d2).rotateLeft (turnsN.getD 2 0)=u:=⟨_,rfl⟩
 rw [ku2]
 have U2:Hid (u2=dO A 2):=by rw [←ku2,KD2.out];exact rfl
 clear ku2
 go_wp2_with fail
 refine (aO (x:=A.getD 8 0) (k:=turnsN.getD 8 0) d3 (i:=8) (by decide) (by decide) _ (HA.out 8 (by rw [LA.out];decide)) (HH.out 8 (by decide))).mono ?_
 rintro e w30 ⟨rfl,hb⟩
 replace HO:Hid (Off bt w w30):=HO.out.trans (.of_below hb)
 replace HA:Hid (Lns w30 ba A):=HA.out.keep hb
 replace HT:Hid (Lns w30 bt T15∧ai w30 bt 25):=And.intro (HT.out.1.keep hb) (HT.out.2.keep hb (HT.out.1.lt (by rw [LT.out];decide)))
 replace HH:Hid (Tab w30 3 turnsN):=HH.out.keep hb
 clear hb
 obtain ⟨u8,ku8⟩:∃ u,(A.getD 8 0 ^^^ d3).rotateLeft (turnsN.getD 8 0)=u:=⟨_,rfl⟩
 rw [ku8]
 have U8:Hid (u8=dO A 8):=by rw [←ku8,KD3.out];exact rfl
 clear ku8
 go_wp2_with fail
 refine (aO (x:=A.getD 14 0) (k:=turnsN.getD 14 0) d4 (i:=14) (by decide) (by decide) _ (HA.out 14 (by rw [LA.out];decide)) (HH.out 14 (by decide))).mono ?_
 rintro e w31 ⟨rfl,hb⟩
 replace HO:Hid (Off bt w w31):=HO.out.trans (.of_below hb)
 replace HA:Hid (Lns w31 ba A):=HA.out.keep hb
 replace HT:Hid (Lns w31 bt T15∧ai w31 bt 25):=And.intro (HT.out.1.keep hb) (HT.out.2.keep hb (HT.out.1.lt (by rw [LT.out];decide)))
 replace HH:Hid (Tab w31 3 turnsN):=HH.out.keep hb
 clear hb
 obtain ⟨u14,ku14⟩:∃ u,(A.getD 14 0 ^^^ d4).rotateLeft (turnsN.getD 14 0)=u:=⟨_,rfl⟩
 rw [ku14]
 have U14:Hid (u14=dO A 14):=by rw [←ku14,KD4.out];exact rfl
 clear ku14
 go_wp2_with fail
 refine (aO (x:=A.getD 15 0) (k:=turnsN.getD 15 0) d0 (i:=15) (by decide) (by decide) _ (HA.out 15 (by rw [LA.out];decide)) (HH.out 15 (by decide))).mono ?_
 rintro e w32 ⟨rfl,hb⟩
 replace HO:Hid (Off bt w w32):=HO.out.trans (.of_below hb)
 replace HA:Hid (Lns w32 ba A):=HA.out.keep hb
 replace HT:Hid (Lns w32 bt T15∧ai w32 bt 25):=And.intro (HT.out.1.keep hb) (HT.out.2.keep hb (HT.out.1.lt (by rw [LT.out];decide)))
 replace HH:Hid (Tab w32 3 turnsN):=HH.out.keep hb
 clear hb
 obtain ⟨u15,ku15⟩:∃ u,(A.getD 15 0 ^^^ d0).rotateLeft (turnsN.getD 15 0)=u:=⟨_,rfl⟩
 rw [ku15]
 have U15:Hid (u15=dO A 15):=by rw [←ku15,KD0.out];exact rfl
 clear ku15
 go_wp2_with fail
 refine (aO (x:=A.getD 21 0) (k:=turnsN.getD 21 0) d1 (i:=21) (by decide) (by decide) _ (HA.out 21 (by rw [LA.out];decide)) (HH.out 21 (by decide))).mono ?_
 rintro e w33 ⟨rfl,hb⟩
 replace HO:Hid (Off bt w w33):=HO.out.trans (.of_below hb)
 replace HA:Hid (Lns w33 ba A):=HA.out.keep hb
 replace HT:Hid (Lns w33 bt T15∧ai w33 bt 25):=And.intro (HT.out.1.keep hb) (HT.out.2.keep hb (HT.out.1.lt (by rw [LT.out];decide)))
 replace HH:Hid (Tab w33 3 turnsN):=HH.out.keep hb
 clear hb
 obtain ⟨u21,ku21⟩:∃ u,(A.getD 21 0 ^^^ d1).rotateLeft (turnsN.getD 21 0)=u:=⟨_,rfl⟩
 rw [ku21]
 have U21:Hid (u21=dO A 21):=by rw [←ku21,KD1.out];exact rfl
 clear ku21
 go_wp2_with fail
 refine (iw (y:=20) u2 u8 u14 u15 u21 (by rw [LT.out];decide) (by rw [LT.out];decide) _ HT.out.1 (by rw [LT.out];exact HT.out.2)).mono ?_
 rintro e w34 ⟨rfl,hl,hf,ho⟩
 replace HO:Hid (Off bt w w34):=HO.out.trans ho
 replace HA:Hid (Lns w34 ba A):=ho.lns NE.out.1 HA.out
 replace HH:Hid (Tab w34 3 turnsN):=ho.tab NE.out.2 HH.out
 rw [LT.out] at hf
 obtain ⟨T20,kT20⟩:∃ t,t=((((T15.set 20 (u2 ^^^ (~~~u8 &&& u14))).set (20+1) (u8 ^^^ (~~~u14 &&& u15))).set (20+2) (u14 ^^^ (~~~u15 &&& u21))).set (20+3) (u15 ^^^ (~~~u21 &&& u2))).set (20+4) (u21 ^^^ (~~~u2 &&& u8)):=⟨_,rfl⟩
 replace HT:Hid (Lns w34 bt T20∧ai w34 bt 25):=⟨by rw [kT20];exact hl,hf⟩
 have E20:Hid (T20=((((T15.set 20 (u2 ^^^ (~~~u8 &&& u14))).set (20+1) (u8 ^^^ (~~~u14 &&& u15))).set (20+2) (u14 ^^^ (~~~u15 &&& u21))).set (20+3) (u15 ^^^ (~~~u21 &&& u2))).set (20+4) (u21 ^^^ (~~~u2 &&& u8))):=kT20
 have LT2:Hid (T20.length=25):=by rw [kT20];simp only [List.length_set];exact LT.out
 clear hl hf ho kT20 LT
 have LT:Hid (T20.length=25):=LT2
 clear LT2
 have eT:Hid (T20=(List.range 25).map (B8 (B5 A))):=by
  rw [E20.out,E15.out,E10.out,E5.out,E0.out]
  obtain rfl:=U0.out
  obtain rfl:=U1.out
  obtain rfl:=U2.out
  obtain rfl:=U3.out
  obtain rfl:=U4.out
  obtain rfl:=U5.out
  obtain rfl:=U6.out
  obtain rfl:=U7.out
  obtain rfl:=U8.out
  obtain rfl:=U9.out
  obtain rfl:=U10.out
  obtain rfl:=U11.out
  obtain rfl:=U12.out
  obtain rfl:=U13.out
  obtain rfl:=U14.out
  obtain rfl:=U15.out
  obtain rfl:=U16.out
  obtain rfl:=U17.out
  obtain rfl:=U18.out
  obtain rfl:=U19.out
  obtain rfl:=U20.out
  obtain rfl:=U21.out
  obtain rfl:=U22.out
  obtain rfl:=U23.out
  obtain rfl:=U24.out
  exact zR LTT.out _ _ _ _ _ _ _ _ _ _ _ _ _ _ _ _ _ _ _ _ _ _ _ _ _
 have g:=HT.out.1 0 (by rw [LT.out];decide)
 have f:=HT.out.2 0 (by decide)
 obtain ⟨z,kz⟩:∃ z,z=T20.getD 0 0:=⟨_,rfl⟩
 rw [←kz] at g
 have vz:=bI z m
 have KZ:Hid (z=T20.getD 0 0):=kz
 clear kz
 go_wp2_with fail
 go_region
 go_wp2
 all_goals go_end0
 all_goals refine ⟨rfl,?_,HT.out.2.drew.set _ _,HO.out.drew.setCell _⟩
 all_goals (have h:=HT.out.1.drew.set 0 (by rw [LT.out];decide) (z ^^^ m);rw [KZ.out,eT.out] at h;rw [KZ.out,eT.out];exact h)
end Go.Proofs.YtjoandmehahfgaaGreatDoor.K
