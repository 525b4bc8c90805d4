import Derived.Test.YtjoandmehahfgaaGreatDoorSTx
import Derived.Test.YtjoandmehahfgaaGreatDoorGet
import Derived.Deep.RegionHeld
import Derived.Lib.AppendZeros
import Derived.Test.YtjoandmehahfgaaGreatDoorAb
import Derived.Test.YtjoandmehahfgaaGreatDoorFExp
set_option maxRecDepth 100000
set_option maxHeartbeats 8000000
namespace Go.Proofs.YtjoandmehahfgaaGreatDoor
open Go.RowKit Go.Sort
noncomputable def ivZ (M:List (BitVec 8)):List Int:=M.map S.Y
theorem qh (M:List (BitVec 8)):(ivZ M).length=M.length:=by simp [ivZ]
theorem yZ {M:List (BitVec 8)} {i:Nat} (h:i<M.length):(ivZ M).getD i 0=S.Y (M.getD i 0):=by
 simp [ivZ,List.getD,h]
theorem oo (M:List (BitVec 8)):iu (ivZ M):=fun i=>by
 by_cases h:i<M.length
 ·rw [yZ h];exact ⟨S.Y_lo _,S.Y_hi _⟩
 ·have:(ivZ M).getD i 0=0:=by simp [ivZ,List.getD,List.getElem?_eq_none (Nat.le_of_not_lt h)]
  rw [this];decide
def bvZ (l:List Int):List (BitVec 8):=l.map (BitVec.ofInt 8)
theorem Bi (l:List Int):(bvZ l).length=l.length:=by simp [bvZ]
theorem DU {z:Int} (h0:0≤z) (h1:z<256):S.Y (BitVec.ofInt 8 z)=z:=by
 rw [S.Y_eq,BitVec.toNat_ofInt]
 omega
theorem DV {l:List Int} (h:iu l) {i:Nat} (hi:i<l.length):S.Y ((bvZ l).getD i 0)=l.getD i 0:=by
 have hm:=h i
 rw [List.getD,List.getElem?_eq_getElem hi] at hm
 rw [bvZ,List.getD,List.getElem?_map,List.getElem?_eq_getElem hi,List.getD,List.getElem?_eq_getElem hi]
 exact DU hm.1 hm.2
theorem y7 {l:List Int} (h:iu l):S.byts (bvZ l)=l.map fun z=>Value.int .u8 z:=by
 apply List.ext_getElem? fun i=>?_
 by_cases hi:i<l.length
 ·have:=DV h hi
  rw [List.getD,List.getD,List.getElem?_eq_getElem hi,bvZ,List.getElem?_map,List.getElem?_eq_getElem hi] at this
  rw [S.byts,bvZ,List.getElem?_map,List.getElem?_map,List.getElem?_map,List.getElem?_eq_getElem hi]
  simpa using this
 ·simp [S.byts,bvZ,List.getElem?_eq_none (Nat.le_of_not_lt hi)]
theorem eU (X T:List (BitVec 8)):(S.hmacL X T).length=32:=by rw [S.hmacL,S.shaL_len]
structure KvZ where
 k:List (BitVec 8)
 v:List (BitVec 8)
def dh (s:KvZ) (T:List (BitVec 8)):KvZ:=⟨S.hmacL s.k (s.v++T),S.hmacL (S.hmacL s.k (s.v++T)) s.v⟩
def du (s:KvZ):KvZ:=⟨s.k,S.hmacL s.k s.v⟩
def kvZ (s:KvZ):Nat→KvZ
 | 0=>s
 | 1=>du s
 | i+2=>du (dh (kvZ s (i+1)) [0])
def CZ (s:KvZ) (i:Nat):KvZ:=if i=0 then s else dh (kvZ s i) [0]
theorem DW (s:KvZ) (i:Nat):kvZ s (i+1)=du (CZ s i):=by
 cases i with
 | zero=>rfl
 | succ i=>rfl
def KvZ.ok (s:KvZ):Prop:=s.k.length=32∧s.v.length=32
theorem y8 (s:KvZ) (T:List (BitVec 8)):(dh s T).ok:=⟨eU _ _,eU _ _⟩
noncomputable def cP (s:KvZ) (i:Nat):Int:=bF (ivZ (kvZ s (i+1)).v) 32
theorem y9 (M:List (BitVec 8)):Num (bF (ivZ M) 32):=by
 have:=gz (oo M) 32
 exact ⟨this.1,by have:=this.2;simpa using this⟩
theorem rL (s:KvZ) (i:Nat):Num (cP s i):=y9 _
def za (d e:List (BitVec 8)):KvZ:=dh (dh ⟨List.replicate 32 0,List.replicate 32 1⟩ ([0]++d++e)) ([1]++d++e)
theorem Bj (d e:List (BitVec 8)):(za d e).ok:=y8 _ _
def iQ (C:Nat→Int):Nat→Nat
 | 0=>0
 | n+1=>if co (C n) then iQ C n+1 else iQ C n
theorem uw (C:Nat→Int):∀ n,iQ C n≤n
 | 0=>Nat.le_refl _
 | n+1=>by
  have:=uw C n
  rw [iQ]
  split<;>omega
def pkZ (C:Nat→Int) (w:Nat):Nat→Option Int
 | 0=>none
 | n+1=>(pkZ C w n).or (if co (C n)=true∧iQ C n=w then some (C n) else none)
theorem zc {C:Nat→Int} {w n:Nat} {x:Int} (h:pkZ C w n=some x):pkZ C w (n+1)=some x:=by rw [pkZ,h];rfl
theorem rM {C:Nat→Int} {w n:Nat} {x:Int} (h:pkZ C w n=some x):∀ d,pkZ C w (n+d)=some x
 | 0=>h
 | d+1=>zc (rM h d)
theorem zd {C:Nat→Int} {w n:Nat} (h:pkZ C w n=none) (hf:co (C n)=true) (hc:iQ C n=w):pkZ C w (n+1)=some (C n):=by
 rw [pkZ,h,if_pos ⟨hf,hc⟩];rfl
theorem wv {C:Nat→Int} {w n:Nat} (h:pkZ C w n=none) (hf:co (C n)=false):pkZ C w (n+1)=none:=by
 rw [pkZ,h,if_neg (fun k=>by rw [hf] at k;exact absurd k.1 (by decide))];rfl
theorem ww {C:Nat→Int} {w n:Nat} (h:pkZ C w n=none) (hc:iQ C n≠w):pkZ C w (n+1)=none:=by
 rw [pkZ,h,if_neg (fun k=>hc k.2)];rfl
theorem ux {C:Nat→Int} (hC:∀ i,Num (C i)) {w:Nat} {x:Int}:∀ {n:Nat},pkZ C w n=some x→Num x
 | 0,h=>by simp [pkZ] at h
 | n+1,h=>by
  rw [pkZ] at h
  cases e:pkZ C w n with
  | some y=>rw [e] at h;exact ux hC (n:=n) (by rw [e];exact h)
  | none =>
   rw [e] at h
   by_cases k:co (C n)=true∧iQ C n=w
   ·rw [if_pos k] at h
    have:C n=x:=by simpa using h
    rw [←this];exact hC n
   ·rw [if_neg k] at h
    simp at h
open Go.RowKit Go.Sort
structure BtZ (P:Nat→Prop) (w w':World):Prop where
 os:w'.os=w.os
 tape:w'.tape=w.tape
 output:w'.output=w.output
 size:w.heap.size≤w'.heap.size
 block:∀ k,k<w.heap.size→¬P k→w'.heap[k]?=w.heap[k]?
theorem BtZ.of_below {P:Nat→Prop} {w w':World} (h:Below w.heap.size w w'):BtZ P w w':=⟨h.os,h.tape,h.output,h.size,fun k hk _=>h.block k hk⟩
theorem BtZ.trans {P:Nat→Prop} {w v u:World} (h:BtZ P w v) (k:BtZ P v u):BtZ P w u :=
 ⟨k.os.trans h.os,k.tape.trans h.tape,k.output.trans h.output,Nat.le_trans h.size k.size,fun i hi hb=>(k.block i (Nat.lt_of_lt_of_le hi h.size) hb).trans (h.block i hi hb)⟩
theorem BtZ.off {P:Nat→Prop} {b:Nat} {w w':World} (hb:P b) (h:S.Off b w w'):BtZ P w w':=⟨h.os,h.tape,h.output,h.size,fun k hk hn=>h.block k hk (fun e=>hn (e ▸ hb))⟩
theorem BtZ.wide {P Q:Nat→Prop} {w w':World} (h:BtZ P w w') (i:∀ k,P k→Q k):BtZ Q w w':=⟨h.os,h.tape,h.output,h.size,fun k hk hn=>h.block k hk (fun p=>hn (i k p))⟩
theorem BtZ.below {P:Nat→Prop} {B:Nat} {w w':World} (h:BtZ P w w') (h1:B≤w.heap.size) (h2:∀ k,P k→B≤k):Below B w w':=⟨h.os,h.tape,h.output,h.size,fun k hk=>h.block k (by omega) (fun p=>by have:=h2 k p;omega)⟩
theorem BtZ.cell {P:Nat→Prop} {w w':World} (h:BtZ P w w') {p:Addr} (hp:¬P p.block) {v:Value} (hv:w.cell? p=some v):w'.cell? p=some v:=by
 have lt:=World.block_lt_of_cell? w p hv
 rw [World.cell?_of_block (h.block p.block lt hp)];exact hv
theorem BtZ.hsh {P:Nat→Prop} {w w':World} (h:BtZ P w w') {b:Nat} {M:List (BitVec 8)} (hp:¬P b) (hh:S.Hsh w b M):S.Hsh w' b M :=
 ⟨hh.1,fun i hi=>h.cell (p:=⟨b,i,none⟩) hp (hh.2.1 i hi),fun i hi=>by rw [World.frozen?_of_block (h.block b hh.lt hp)];exact hh.2.2 i hi⟩
def ShT (W:World):Prop:=S.Wds W 4 0 S.hN∧S.Wds W 5 0 S.kN
theorem ShT.keep {W w1:World} (h:ShT W) (hb:Below W.heap.size W w1):ShT w1:=⟨h.1.keep hb,h.2.keep hb⟩
theorem ShT.lt {W:World} (h:ShT W):4<W.heap.size∧5<W.heap.size:=⟨h.1.lt (by decide),h.2.lt (by decide)⟩
theorem BtZ.sht {P:Nat→Prop} {w w':World} (h:BtZ P w w') (hp:¬P 4∧¬P 5) (hh:ShT w):ShT w' :=
 ⟨fun i hi=>h.cell (p:=⟨4,0+i,none⟩) hp.1 (hh.1 i hi),fun i hi=>h.cell (p:=⟨5,0+i,none⟩) hp.2 (hh.2 i hi)⟩
theorem BtZ.mds {P:Nat→Prop} {w w':World} (h:BtZ P w w') (hp:¬P 1) (hh:Mds w):Mds w' :=
 fun i hi=>h.cell (p:=⟨1,i,none⟩) hp (hh i hi)
def mv (W:World) (bk bv:Nat) (s:KvZ):Prop:=S.Hsh W bk s.k∧S.Hsh W bv s.v
theorem mv.keep {W w1:World} {bk bv:Nat} {s:KvZ} (h:mv W bk bv s) (hb:Below W.heap.size W w1):mv w1 bk bv s:=⟨h.1.keep hb,h.2.keep hb⟩
theorem cC {W:World} {b:Nat} {M:List (BitVec 8)} (h:S.Hsh W b M) {c:Nat} (hc:32≤c):(⟨some ⟨b,0,none⟩,b,0,c,M⟩:S.Part).ok W :=
 ⟨.inr rfl,by show M.length≤c;have:=h.1;omega,fun i hi=>by rw [Nat.zero_add];exact h.2.1 i (by have h1:i<M.length:=hi;have:=h.1;omega)⟩
theorem qi {w:World} {g bp op cp m n:Nat} {PS QS:List S.Part} {ty:TypeId} (hm:PS.length=m) (hn:QS.length=n) (n0:0<n) (hP:S.Prts w g 0 PS) (hQ:S.Prts w bp op QS) (hl:m+n<1024) :
  ∃ c' w',(Builtin.append_ #[81,81] ty #[.slice (some ⟨g,0,none⟩) m m,.slice (some ⟨bp,op,none⟩) n cp]).run Tryz.prog w = .ok (.slice (some ⟨w.heap.size,0,none⟩) (m+n) c') w'∧S.Prts w' w.heap.size 0 (PS++QS)∧Below w.heap.size w w':=by
 have hi0:(Tryz.prog.info? 52).map (fun i=>(i.zero,i.size,i.bytes))=some (some (.slice none 0 0),1,24):=by kernel_rfl
 obtain ⟨i0,hi,hz0,hz1,hz2⟩:∃ i0,Tryz.prog.info? 52=some i0∧i0.zero=some (.slice none 0 0)∧i0.size=1∧i0.bytes=24:=by
  cases e:Tryz.prog.info? 52 with
  | none=>rw [e] at hi0;simp at hi0
  | some i=>rw [e] at hi0;simp at hi0;exact ⟨i,rfl,hi0.1,hi0.2.1,hi0.2.2⟩
 have ht:=Tryz.underlying81
 have at_:∀ {RS:List S.Part} {b o:Nat},S.Prts w b o RS→∀ j v,(RS.map S.Part.val)[j]?=some v→w.cell? ((⟨b,o,none⟩:Addr).add j)=some v:=fun {RS b o} h j v hv=>by
  rw [List.getElem?_map] at hv
  obtain ⟨x,hx,rfl⟩:=Option.map_eq_some_iff.1 hv
  have hj:j<RS.length:=(List.getElem?_eq_some_iff.1 hx).1
  rw [Addr.add_mid,(h j hj).1]
  simp [List.getD,hx]
 have hr:=run_append_grow (P:=Tryz.prog) w 81 ty 52 i0 (.slice none 0 0) ht hi hz0 ⟨g,0,none⟩ m m (PS.map S.Part.val) (by rw [hz1];simp [hm]) (at_ hP) ⟨bp,op,none⟩ n cp (QS.map S.Part.val) (by rw [hz1];simp [hn]) (at_ hQ) (by omega) (by omega) (by rw [hz2];exact growslice_fits (by omega) (by omega))
 refine ⟨_,_,hr,fun i hi'=>?_,(Below.refl _ _).drew.alloc (Nat.le_refl _) _⟩
 have B:Below w.heap.size w (w.drew.alloc (.cells ((PS.map S.Part.val).toArray++(QS.map S.Part.val).toArray++Builtin.zeroCells (Value.slice none 0 0).cells (grownCap w (m+n) m 52-(m+n))) 52)):=(Below.refl _ _).drew.alloc (Nat.le_refl _) _
 have okk:∀ {p:S.Part},p.ok w→p.ok (w.drew.alloc (.cells ((PS.map S.Part.val).toArray++(QS.map S.Part.val).toArray++Builtin.zeroCells (Value.slice none 0 0).cells (grownCap w (m+n) m 52-(m+n))) 52)):=fun {p} h=>⟨h.1,h.2.1,h.2.2.keep B⟩
 rw [Nat.zero_add]
 have hnw:(w.drew.alloc (.cells ((PS.map S.Part.val).toArray++(QS.map S.Part.val).toArray++Builtin.zeroCells (Value.slice none 0 0).cells (grownCap w (m+n) m 52-(m+n))) 52)).heap[w.heap.size]?=some (.cells ((PS.map S.Part.val).toArray++(QS.map S.Part.val).toArray++Builtin.zeroCells (Value.slice none 0 0).cells (grownCap w (m+n) m 52-(m+n))) 52):=by
  show (w.heap.push _)[w.heap.size]?=_
  simp
 rw [List.length_append] at hi'
 rw [cell_of_row _ _ i _ _ _ hnw,Array.getElem?_append_left (by simp;omega)]
 by_cases k:i<PS.length
 ·rw [Array.getElem?_append_left (by simpa using k)]
  have e:(PS++QS).getD i .none=PS.getD i .none:=by simp [List.getD,List.getElem?_append_left k]
  rw [e]
  exact ⟨by simp [List.getD,k],okk (hP i k).2⟩
 ·rw [Array.getElem?_append_right (by simp;omega)]
  have k2:i-PS.length<QS.length:=by omega
  have e:(PS++QS).getD i .none=QS.getD (i-PS.length) .none:=by simp [List.getD,List.getElem?_append_right (Nat.le_of_not_lt k)]
  rw [e]
  exact ⟨by simp [List.getD,k2],okk (hQ _ k2).2⟩
theorem rN {w:World} {g bp op cp n:Nat} {a:Option Addr} {PS QS:List S.Part} {ty:TypeId} (hm:PS.length=2) (hn:QS.length=n) (ha:(QS=[]∧a=none∧cp=0)∨(QS≠[]∧a=some ⟨bp,op,none⟩)) (hP:S.Prts w g 0 PS) (hQ:S.Prts w bp op QS) (hl:n<1000) :
  ∃ b' c' w',(Builtin.append_ #[81,81] ty #[.slice (some ⟨g,0,none⟩) 2 2,.slice a n cp]).run Tryz.prog w = .ok (.slice (some ⟨b',0,none⟩) (PS++QS).length c') w'∧S.Prts w' b' 0 (PS++QS)∧Below w.heap.size w w':=by
 rcases ha with ⟨rfl,rfl,rfl⟩|⟨h0,rfl⟩
 ·subst hn
  have hi0:(Tryz.prog.info? 52).map (fun i=>i.size)=some 1:=by kernel_rfl
  have ht:=Tryz.underlying81
  refine ⟨g,2,w,?_,by rw [List.append_nil];exact hP,Below.refl _ _⟩
  rw [List.append_nil,hm]
  cases e:Tryz.prog.info? 52 with
  | none=>rw [e] at hi0;simp at hi0
  | some i=>simp [Builtin.append_,run_underlying ht,sizeOf,typeInfo,e,Builtin.lenOf,Builtin.firstCells,storeCells]
 ·have n0:0<n:=by rw [←hn];exact List.length_pos_iff.2 h0
  obtain ⟨c',w',h1,h2,h3⟩:=qi (cp:=cp) (ty:=ty) hm hn n0 hP hQ (by omega)
  exact ⟨_,c',w',by rw [h1,List.length_append,hm,hn],h2,h3⟩
theorem cW {P:Program} {md:Region.Mode} {ops:Array Oper} {Q:Exit→Act→World→Prop} {S:World→Prop} {i:Nat} {oi:Oper} {v:Value} {fuel:Nat} {listed:Array Bool} {a:Act} {w:World} (d:Nat) (hi:ops[i]?=some oi) (hd:oi.dst=some d)
  (hs:Region.noSelect ops=true) (hf:Region.free md ops listed i=true) (hr:(Region.ready md ops listed).contains i=true)
  (hQ:∀ c a w,Q (.panic c) (a.put oi.dst v) w→Q (.panic c) a w) (hy:YieldsIf P ops S oi v a) (hS:S w)
  (h:wpAnyH P md ops Q S fuel (listed.setIfInBounds i true) (a.put (some d) v) w):wpAnyH P md ops Q S (fuel+1) listed a w :=
 wpAnyH_take hi hs hf hr hQ hy hS (by rw [hd];exact h)
theorem d9 {K:Act→World→Prop} {a:Act} {w:World} (I:World→Prop) (h:I w) (k:∀ V,I V→K a V):K a w:=k w h
theorem lL {W:World} {p:S.Part} {v:Value} {g:Nat} {ty:TypeId} (e:g=W.heap.size) (ev:v=p.val) (h:p.ok W):S.Prts (W.alloc (.cells #[v] ty)) g 0 [p]:=by
 subst e;subst ev
 intro i hi
 obtain rfl:i=0:=by simpa using hi
 exact ⟨by rw [Nat.zero_add,World.cell?_alloc_mark];rfl,h.1,h.2.1,h.2.2.keep ((Below.refl _ _).alloc (Nat.le_refl _) _)⟩
theorem lO {W:World} {p q:S.Part} {v1 v2:Value} {g:Nat} {ty:TypeId} (e:g=W.heap.size) (e1:v1=p.val) (e2:v2=q.val) (h:p.ok W) (k:q.ok W):S.Prts (W.alloc (.cells #[v1,v2] ty)) g 0 [p,q]:=by
 subst e;subst e1;subst e2
 intro i hi
 have i2:i<2:=by simpa using hi
 have B:∀ o,Below W.heap.size W (W.alloc o):=fun o=>(Below.refl _ _).alloc (Nat.le_refl _) o
 rcases (by omega:i=0∨i=1) with rfl|rfl
 ·exact ⟨by rw [Nat.zero_add,World.cell?_alloc_mark];rfl,h.1,h.2.1,h.2.2.keep (B _)⟩
 ·exact ⟨by rw [Nat.zero_add,World.cell?_alloc_mark];rfl,k.1,k.2.1,k.2.2.keep (B _)⟩
theorem okZ {W w1:World} {p:S.Part} (h:p.ok W) (B:Below W.heap.size W w1):p.ok w1:=⟨h.1,h.2.1,h.2.2.keep B⟩
theorem pg {W w1:World} {b o:Nat} {PS:List S.Part} (h:S.Prts W b o PS) (B:Below W.heap.size W w1):S.Prts w1 b o PS:=fun i hi=>⟨S.cell_keep B (h i hi).1,okZ (h i hi).2 B⟩
theorem wx (PS QS:List S.Part):S.catX (PS++QS)=S.catX PS++S.catX QS:=by simp [S.catX]
theorem tA {W:World} {m:Int} {mb:BitVec 8} {ty:TypeId} (hm:S.Y mb=m):(⟨some ⟨W.heap.size,0,none⟩,W.heap.size,0,1,[mb]⟩:S.Part).ok (W.alloc (.cells #[.int .u8 m] ty)) :=
 ⟨.inr rfl,Nat.le_refl _,fun i hi=>by
  obtain rfl:i=0:=by simpa using hi
  rw [Nat.zero_add,World.cell?_alloc_mark,←hm];rfl⟩
theorem dJ {W:World} {b:Nat} {M T:List (BitVec 8)} (h:S.Hsh W b T) (hl:M.length=32):S.Hsh (W.setCells b 0 (S.byts M)) b M∧S.Off b W (W.setCells b 0 (S.byts M)):=⟨h.stored hl,(S.Off.refl b W).setCells _⟩
open Go.RowKit Go.Sort
theorem ot {bk bv bp op cp n:Nat} {a:Option Addr} {m:Int} {mb:BitVec 8} {s:KvZ} {PS:List S.Part} (hm:S.Y mb=m) (hn:PS.length=n) (n2:n≤8) (ha:(PS=[]∧a=none∧cp=0)∨(PS≠[]∧a=some ⟨bp,op,none⟩)) (hs:(S.catX PS).length<1000000) (ne:bk≠bv) (w:World) (hk:mv w bk bv s) (hP:S.Prts w bp op PS) (ht:ShT w) (nf:(bk≠4∧bk≠5)∧bv≠4∧bv≠5) :
  Calls Tryz.prog 83 #[.int .u8 m,.slice a n cp,.pointer (some ⟨bk,0,none⟩),.pointer (some ⟨bv,0,none⟩)] w fun e w'=>e = .returned (.tuple #[])∧mv w' bk bv (dh s ([mb]++S.catX PS))∧BtZ (fun k=>k=bk∨k=bv) w w':=by
 have H0:Hid (S.Y mb=m∧PS.length=n∧n≤8∧((PS=[]∧a=none∧cp=0)∨(PS≠[]∧a=some ⟨bp,op,none⟩))∧(S.catX PS).length<1000000):=⟨hm,hn,n2,ha,hs⟩
 have HW:Hid (mv w bk bv s∧S.Prts w bp op PS∧ShT w):=⟨hk,hP,ht⟩
 have HN:Hid (bk≠bv∧bk≠4∧bk≠5∧bv≠4∧bv≠5):=⟨ne,nf.1.1,nf.1.2,nf.2⟩
 clear hm hn n2 ha hs hk hP ht ne nf
 go_enter Tryz.func83,Tryz.ntmps83
 go_wp2_with fail
 refine wp_region_held_drew (S:=fun _=>True) (by kernel_rfl) trivial (fun hHeld=>?_)
 refine cW (i:=0) (oi:=_) (v:=.slice (some ⟨bk,0,none⟩) 32 32) 6 rfl (by kernel_rfl) (by kernel_rfl) (by kernel_rfl) (by kernel_rfl) (fun _ _ _ h=>h) (Or.inl ⟨by kernel_rfl,?_⟩) trivial ?_
 ·intro wq hSw
  have _:=hSw
  go_simp
 simp only [Act.put,List.setIfInBounds_toArray,List.set_cons_succ,List.set_cons_zero]
 refine cW (i:=1) (oi:=_) (v:=.slice (some ⟨bv,0,none⟩) 32 32) 7 rfl (by kernel_rfl) (by kernel_rfl) (by kernel_rfl) (by kernel_rfl) (fun _ _ _ h=>h) (Or.inl ⟨by kernel_rfl,?_⟩) trivial ?_
 ·intro wq hSw
  have _:=hSw
  go_simp
 simp only [Act.put,List.setIfInBounds_toArray,List.set_cons_succ,List.set_cons_zero]
 refine cW (i:=2) (oi:=_) (v:=.int .u8 m) 8 rfl (by kernel_rfl) (by kernel_rfl) (by kernel_rfl) (by kernel_rfl) (fun _ _ _ h=>h) (Or.inl ⟨by kernel_rfl,?_⟩) trivial ?_
 ·intro wq hSw
  have _:=hSw
  go_simp
 simp only [Act.put,List.setIfInBounds_toArray,List.set_cons_succ,List.set_cons_zero]
 refine cW (i:=5) (oi:=_) (v:=.slice a n cp) 11 rfl (by kernel_rfl) (by kernel_rfl) (by kernel_rfl) (by kernel_rfl) (fun _ _ _ h=>h) (Or.inl ⟨by kernel_rfl,?_⟩) trivial ?_
 ·intro wq hSw
  have _:=hSw
  go_simp
 simp only [Act.put,List.setIfInBounds_toArray,List.set_cons_succ,List.set_cons_zero]
 refine wpAnyH_ready (rs:=[3]) (by kernel_rfl) (by simp) ?_
 refine AllReadyH.cons rfl (fun K hK=>?_) AllReadyH.nil
 go_simp
 go_wp2_with fail
 refine d9 (fun V=>Below w.heap.size w V∧(⟨some ⟨w.heap.size,0,none⟩,w.heap.size,0,1,[mb]⟩:S.Part).ok V) ⟨((Below.refl _ _).alloc (Nat.le_refl _) _).drew,okZ (tA H0.out.1) (Below.refl _ _).drew⟩ ?_
 rintro V ⟨BV,hP0⟩
 refine hK.out _ _ trivial (fun hHeld=>?_)
 clear hK K hHeld
 refine wpAnyH_ready (rs:=[4]) (by kernel_rfl) (by simp) ?_
 refine AllReadyH.cons rfl (fun K hK=>?_) AllReadyH.nil
 go_simp
 go_wp2_with fail
 refine d9 (fun U=>Below w.heap.size w U∧S.Prts U V.heap.size 0 [⟨some ⟨bv,0,none⟩,bv,0,32,s.v⟩,⟨some ⟨w.heap.size,0,none⟩,w.heap.size,0,1,[mb]⟩]) ⟨BV.alloc BV.size _,lO rfl (by rw [S.Part.val,HW.out.1.2.1]) rfl (okZ (cC HW.out.1.2 (Nat.le_refl _)) BV) hP0⟩ ?_
 rintro U ⟨BU,hP2⟩
 refine hK.out _ _ trivial (fun hHeld=>?_)
 clear hK K hHeld hP0 BV
 generalize V.heap.size=b4 at *
 clear V
 refine wpAnyH_ready (rs:=[6]) (by kernel_rfl) (by simp) ?_
 refine AllReadyH.cons rfl (fun K hK=>?_) AllReadyH.nil
 refine (if_pos (by kernel_rfl)).mpr ?_
 obtain ⟨b6,c6,U6,hr6,hP6,B6⟩:=rN (cp:=cp) (ty:=81) rfl H0.out.2.1 H0.out.2.2.2.1 hP2 (pg HW.out.2.1 BU) (by have:=H0.out.2.2.1;omega)
 refine Lib.wp_append_run (P:=Tryz.prog) U _ _ 81 81 rfl (.slice (some ⟨b4,0,none⟩) 2 2) (.slice a n cp) rfl rfl _ _ hr6 ?_
 refine hK.out _ _ trivial (fun hHeld=>?_)
 clear hK K hHeld hr6
 have BY:Below w.heap.size w U6:=BU.trans (B6.mono BU.size)
 have kl:=HW.out.1.1.1
 have cx:S.catX ([⟨some ⟨bv,0,none⟩,bv,0,32,s.v⟩,⟨some ⟨w.heap.size,0,none⟩,w.heap.size,0,1,[mb]⟩]++PS)=s.v++([mb]++S.catX PS):=by rw [wx];simp [S.catX]
 have CH:Hid (∀ _:Nat,Calls Tryz.prog 84 #[.slice (some ⟨bk,0,none⟩) 32 32,.slice (some ⟨b6,0,none⟩) ([⟨some ⟨bv,0,none⟩,bv,0,32,s.v⟩,⟨some ⟨w.heap.size,0,none⟩,w.heap.size,0,1,[mb]⟩]++PS:List S.Part).length c6] U6 fun e w'=>e = .returned (.agg (S.byts (S.hmacL s.k (s.v++([mb]++S.catX PS)))).toArray)∧Below U6.heap.size U6 w'):=fun _=>by
  have h:=S.hmac_any (ka:=some ⟨bk,0,none⟩) (kb:=bk) (ko:=0) (kc:=32) (X:=s.k) (a:=some ⟨b6,0,none⟩) (bp:=b6) (op:=0) (cp:=c6) (PS:=[⟨some ⟨bv,0,none⟩,bv,0,32,s.v⟩,⟨some ⟨w.heap.size,0,none⟩,w.heap.size,0,1,[mb]⟩]++PS) (by omega) (by omega) (.inr rfl) (by rw [cx];have:=H0.out.2.2.2.2;have:=HW.out.1.2.1;simp only [List.length_append,List.length_cons,List.length_nil];omega) (by have:=H0.out.2.2.1;have:=H0.out.2.1;simp only [List.length_append,List.length_cons,List.length_nil];omega) (.inr rfl) U6 (okZ (cC HW.out.1.1 (Nat.le_refl 32)) BY).2.2 hP6 (HW.out.2.2.keep BY).1 (HW.out.2.2.keep BY).2
  rw [kl,cx] at h
  exact h
 clear cx kl hP6 B6 BU hP2
 generalize ([⟨some ⟨bv,0,none⟩,bv,0,32,s.v⟩,⟨some ⟨w.heap.size,0,none⟩,w.heap.size,0,1,[mb]⟩]++PS:List S.Part).length=n6 at *
 obtain ⟨K1,eK1⟩:∃ K1,K1=S.hmacL s.k (s.v++([mb]++S.catX PS)):=⟨_,rfl⟩
 rw [←eK1] at CH
 have l1:K1.length=32:=by rw [eK1,eU]
 have E1:Hid (K1=S.hmacL s.k (s.v++([mb]++S.catX PS))∧K1.length=32):=⟨eK1,l1⟩
 clear eK1
 have sz1:(S.byts K1).toArray.size=32:=by simp [S.byts_len,l1]
 have oc1:=S.one_byts K1
 have hl1:(S.byts K1).length=32:=by rw [S.byts_len,l1]
 clear l1
 obtain ⟨M,eM⟩:∃ M,M=S.byts K1:=⟨_,rfl⟩
 rw [←eM] at CH sz1 oc1 hl1
 refine wpAnyH_ready (rs:=[7]) (by kernel_rfl) (by simp) ?_
 refine AllReadyH.cons rfl (fun K hK=>?_) AllReadyH.nil
 go_simp
 refine (CH.out 0).mono ?_
 rintro e y1 ⟨rfl,hbx⟩
 have BZ:=BY.trans (hbx.mono BY.size)
 refine hK.out _ _ trivial (fun hHeld=>?_)
 clear hK K CH hHeld hbx BY
 have tr:=(HW.out.1.1.keep BZ).there
 rw [←sz1] at tr
 refine wpAnyH_ready (rs:=[8]) (by kernel_rfl) (by simp) ?_
 refine AllReadyH.cons rfl (fun K hK=>?_) AllReadyH.nil
 refine (if_pos (by kernel_rfl)).mpr ?_
 refine wp_store_mid 47 _ _ rfl bk 0 M.toArray rfl rfl tr (by rw [sz1];kernel_rfl) oc1 ?_
 have LI:mv (y1.setCells bk 0 M) bk bv ⟨K1,s.v⟩∧BtZ (fun k=>k=bk∨k=bv) w (y1.setCells bk 0 M):=by
  rw [eM]
  have h:=dJ (M:=K1) (HW.out.1.1.keep BZ) E1.out.2
  exact ⟨⟨h.1,(HW.out.1.2.keep BZ).off h.2 (Ne.symm HN.out.1)⟩,(BtZ.of_below BZ).trans (BtZ.off (.inl rfl) h.2)⟩
 refine d9 (fun V=>mv V bk bv ⟨K1,s.v⟩∧BtZ (fun k=>k=bk∨k=bv) w V) LI ?_
 clear LI tr BZ sz1 oc1 hl1 eM U6 U
 rintro W HW1
 refine hK.out _ _ trivial (fun hHeld=>?_)
 clear hK K hHeld
 refine wpAnyH_done (by kernel_rfl) ?_ _
 go_wp2_with fail
 refine wp_region_held_drew (S:=fun _=>True) (by kernel_rfl) trivial (fun hHeld=>?_)
 refine cW (i:=0) (oi:=_) (v:=.slice (some ⟨bk,0,none⟩) 32 32) 14 rfl (by kernel_rfl) (by kernel_rfl) (by kernel_rfl) (by kernel_rfl) (fun _ _ _ h=>h) (Or.inl ⟨by kernel_rfl,?_⟩) trivial ?_
 ·intro wq hSw
  have _:=hSw
  go_simp
 simp only [Act.put,List.setIfInBounds_toArray]
 refine cW (i:=1) (oi:=_) (v:=.slice (some ⟨bv,0,none⟩) 32 32) 15 rfl (by kernel_rfl) (by kernel_rfl) (by kernel_rfl) (by kernel_rfl) (fun _ _ _ h=>h) (Or.inl ⟨by kernel_rfl,?_⟩) trivial ?_
 ·intro wq hSw
  have _:=hSw
  go_simp
 simp only [Act.put]
 refine wpAnyH_ready (rs:=[2]) (by kernel_rfl) (by simp) ?_
 refine AllReadyH.cons rfl (fun K hK=>?_) AllReadyH.nil
 go_simp
 go_wp2_with fail
 refine d9 (fun U=>Below W.heap.size W U∧S.Prts U W.heap.size 0 [⟨some ⟨bv,0,none⟩,bv,0,32,s.v⟩]) ⟨((Below.refl _ _).alloc (Nat.le_refl _) _).drew,pg (lL rfl (by rw [S.Part.val,HW.out.1.2.1]) (cC HW1.1.2 (Nat.le_refl _))) (Below.refl _ _).drew⟩ ?_
 rintro U ⟨BU,hP2⟩
 refine hK.out _ _ trivial (fun hHeld=>?_)
 clear hK K hHeld
 have ht1:ShT W:=HW1.2.sht ⟨fun h=>h.elim (fun e=>HN.out.2.1 e.symm) (fun e=>HN.out.2.2.2.1 e.symm),fun h=>h.elim (fun e=>HN.out.2.2.1 e.symm) (fun e=>HN.out.2.2.2.2 e.symm)⟩ HW.out.2.2
 have CH:Hid (∀ _:Nat,Calls Tryz.prog 84 #[.slice (some ⟨bk,0,none⟩) 32 32,.slice (some ⟨W.heap.size,0,none⟩) 1 1] U fun e w'=>e = .returned (.agg (S.byts (S.hmacL K1 s.v)).toArray)∧Below U.heap.size U w'):=fun _=>by
  have kl:=E1.out.2
  have h:=S.hmac_any (ka:=some ⟨bk,0,none⟩) (kb:=bk) (ko:=0) (kc:=32) (X:=K1) (a:=some ⟨W.heap.size,0,none⟩) (bp:=W.heap.size) (op:=0) (cp:=1) (PS:=[⟨some ⟨bv,0,none⟩,bv,0,32,s.v⟩]) (by omega) (by omega) (.inr rfl) (by have:=HW.out.1.2.1;simp only [S.catX,List.flatMap_cons,List.flatMap_nil,List.append_nil];omega) (by show 1≤_;omega) (.inr rfl) U (okZ (cC HW1.1.1 (Nat.le_refl 32)) BU).2.2 hP2 (ht1.keep BU).1 (ht1.keep BU).2
  rw [kl] at h
  have cx:S.catX [⟨some ⟨bv,0,none⟩,bv,0,32,s.v⟩]=s.v:=by simp [S.catX]
  rw [cx] at h
  exact h
 obtain ⟨V1,eV1⟩:∃ V1,V1=S.hmacL K1 s.v:=⟨_,rfl⟩
 rw [←eV1] at CH
 have l1:V1.length=32:=by rw [eV1,eU]
 have sz1:(S.byts V1).toArray.size=32:=by simp [S.byts_len,l1]
 have oc1:=S.one_byts V1
 have E2:Hid ((⟨K1,V1⟩:KvZ)=dh s ([mb]++S.catX PS)∧V1.length=32):=⟨by rw [eV1,E1.out.1];rfl,l1⟩
 clear eV1 l1
 obtain ⟨M2,eM⟩:∃ M,M=S.byts V1:=⟨_,rfl⟩
 rw [←eM] at CH sz1 oc1
 refine wpAnyH_ready (rs:=[3]) (by kernel_rfl) (by simp) ?_
 refine AllReadyH.cons rfl (fun K hK=>?_) AllReadyH.nil
 go_simp
 refine (CH.out 0).mono ?_
 rintro e y2 ⟨rfl,hbx⟩
 have BZ:=BU.trans (hbx.mono BU.size)
 refine hK.out _ _ trivial (fun hHeld=>?_)
 clear hK K CH hHeld hbx BU
 have tr:=(HW1.1.2.keep BZ).there
 rw [←sz1] at tr
 refine wpAnyH_ready (rs:=[4]) (by kernel_rfl) (by simp) ?_
 refine AllReadyH.cons rfl (fun K hK=>?_) AllReadyH.nil
 refine (if_pos (by kernel_rfl)).mpr ?_
 refine wp_store_mid 47 _ _ rfl bv 0 M2.toArray rfl rfl tr (by rw [sz1];kernel_rfl) oc1 ?_
 have LI:mv (y2.setCells bv 0 M2) bk bv ⟨K1,V1⟩∧BtZ (fun k=>k=bk∨k=bv) w (y2.setCells bv 0 M2):=by
  rw [eM]
  have h:=dJ (M:=V1) (HW1.1.2.keep BZ) E2.out.2
  exact ⟨⟨(HW1.1.1.keep BZ).off h.2 HN.out.1,h.1⟩,HW1.2.trans ((BtZ.of_below BZ).trans (BtZ.off (.inr rfl) h.2))⟩
 refine d9 (fun V=>mv V bk bv ⟨K1,V1⟩∧BtZ (fun k=>k=bk∨k=bv) w V) LI ?_
 clear LI tr BZ sz1 oc1 eM
 rintro V HV
 refine hK.out _ _ trivial (fun hHeld=>?_)
 clear hK K hHeld
 refine wpAnyH_done (by kernel_rfl) ?_ _
 go_wp2_with fail
 rw [E2.out.1] at HV
 go_end0
 exact ⟨rfl,HV⟩
open Go.RowKit Go.Sort
structure NxZ (W:World) (bf bs bk bv:Nat) (f:Bool) (s:KvZ):Prop where
 mark:W.cell? ⟨bf,0,none⟩=some (.bool f)
 loose:W.frozen? ⟨bf,0,none⟩=false
 stir:W.cell? ⟨bs,0,none⟩=some (.func (.func 83) #[] #[.pointer (some ⟨bk,0,none⟩),.pointer (some ⟨bv,0,none⟩)])
 kv:mv W bk bv s
def ApZ (bf bs bk bv:Nat):Prop:=bf≠bs∧bf≠bk∧bf≠bv∧bs≠bk∧bs≠bv∧bk≠bv∧(bk≠4∧bk≠5)∧(bv≠4∧bv≠5)∧(bf≠4∧bf≠5)
def PsZ (bf bk bv:Nat) (k:Nat):Prop:=k=bf∨k=bk∨k=bv
theorem NxZ.keep {W w1:World} {bf bs bk bv:Nat} {f:Bool} {s:KvZ} (h:NxZ W bf bs bk bv f s) (hb:Below W.heap.size W w1):NxZ w1 bf bs bk bv f s :=
 ⟨S.cell_keep hb h.mark,by rw [hb.frozen (p:=⟨bf,0,none⟩) (World.block_lt_of_cell? W _ h.mark)];exact h.loose,S.cell_keep hb h.stir,h.kv.keep hb⟩
theorem zf {W:World} {b:Nat} {M:List (BitVec 8)} (h:S.Hsh W b M):∀ i,i<(ivZ M).length→W.cell? ⟨b,0+i,none⟩=some (.int .u8 ((ivZ M).getD i 0)):=fun i hi=>by
 rw [qh] at hi
 rw [Nat.zero_add,yZ hi]
 exact h.2.1 i (by have:=h.1;omega)
theorem BtZ.blank {P:Nat→Prop} {w w':World} (h:BtZ P w w') {b:Nat} (hp:¬P b) (hh:af w b):af w' b :=
 ⟨fun i hi=>h.cell (p:=⟨b,i,none⟩) hp (hh.1 i hi),fun i hi=>by rw [World.frozen?_of_block (h.block b (hh.1.lt (by simp)) hp)];exact hh.2 i hi⟩
theorem BtZ.loose {P:Nat→Prop} {w w':World} (h:BtZ P w w') {b:Nat} (hp:¬P b) (hl:b<w.heap.size) (hh:w.frozen? ⟨b,0,none⟩=false):w'.frozen? ⟨b,0,none⟩=false:=by
 rw [World.frozen?_of_block (h.block b hl hp)];exact hh
structure MdZ (w W:World) (bf bs bk bv:Nat) (s:KvZ):Prop where
 nx:NxZ W bf bs bk bv false s
 tab:ShT W
 bt:BtZ (PsZ bf bk bv) w W
 res:af W w.heap.size
theorem BtZ.off_new {P:Nat→Prop} {w v u:World} (h:BtZ P w v) (k:S.Off w.heap.size v u):BtZ P w u :=
 ⟨k.os.trans h.os,k.tape.trans h.tape,k.output.trans h.output,Nat.le_trans h.size k.size,fun i hi hb=>(k.block i (Nat.lt_of_lt_of_le hi h.size) (by omega)).trans (h.block i hi hb)⟩
theorem NxZ.off {w v:World} {b bf bs bk bv:Nat} {f:Bool} {s:KvZ} (h:NxZ w bf bs bk bv f s) (k:S.Off b w v) (n1:bf≠b) (n2:bs≠b) (n3:bk≠b) (n4:bv≠b):NxZ v bf bs bk bv f s :=
 ⟨k.cell (p:=⟨bf,0,none⟩) n1 h.mark,by rw [World.frozen?_of_block (k.block bf (World.block_lt_of_cell? w _ h.mark) n1)];exact h.loose,k.cell (p:=⟨bs,0,none⟩) n2 h.stir,h.kv.1.off k n3,h.kv.2.off k n4⟩
theorem ph {W:World} {b:Nat} (v:Value):S.Off b W (W.setCell ⟨b,0,none⟩ v):=(S.Off.refl b W).setCell v
theorem tB {bf bs bk bv:Nat} {s:KvZ} (w:World) (hx:NxZ w bf bs bk bv true s) (ha:ApZ bf bs bk bv) (ht:ShT w) :
  Calls Tryz.prog 85 #[.pointer (some ⟨bf,0,none⟩),.pointer (some ⟨bs,0,none⟩),.pointer (some ⟨bk,0,none⟩),.pointer (some ⟨bv,0,none⟩)] w fun e w'=>e = .returned (.agg #[.int .u64 (l0 (bF (ivZ (du s).v) 32)),.int .u64 (l1 (bF (ivZ (du s).v) 32)),.int .u64 (l2 (bF (ivZ (du s).v) 32)),.int .u64 (l3 (bF (ivZ (du s).v) 32))])∧NxZ w' bf bs bk bv false (du s)∧BtZ (PsZ bf bk bv) w w':=by
 have HA:Hid (ApZ bf bs bk bv):=ha
 have B0:∀ o,Below w.heap.size w (w.alloc o):=fun o=>(Below.refl _ _).alloc (Nat.le_refl _) o
 have HX:Hid (NxZ w bf bs bk bv true s∧ShT w):=⟨hx,ht⟩
 have HB:Hid (∀ o,Below w.heap.size w (w.alloc o)):=B0
 have bflt:=World.block_lt_of_cell? w _ hx.mark
 have LT:Hid (bf<w.heap.size∧bs<w.heap.size∧bk<w.heap.size∧bv<w.heap.size):=⟨bflt,World.block_lt_of_cell? w _ hx.stir,hx.kv.1.lt,hx.kv.2.lt⟩
 have c1:=fun o=>(hx.keep (B0 o)).mark
 have c2:=fun o=>(hx.keep (B0 o)).stir
 have c3:=fun o=>(hx.keep (B0 o)).loose
 clear hx ht ha B0
 obtain ⟨r,er⟩:∃ r,r=du s:=⟨_,rfl⟩
 rw [←er]
 have ER:Hid (r=du s):=er
 clear er
 go_enter Tryz.func85,Tryz.ntmps85
 go_wp2_with fail
 obtain ⟨s1,es1⟩:∃ s1,s1=s:=⟨_,rfl⟩
 have ES:Hid (r=du s1):=by rw [es1];exact ER.out
 have M0:∀ z,MdZ w ((w.setCell ⟨bf,0,none⟩ (.bool false)).alloc (.cells #[.int .u64 0,.int .u64 0,.int .u64 0,.int .u64 0] z)) bf bs bk bv s1:=fun z=>by
  rw [es1]
  obtain ⟨a1,a2,a3,a4,a5,a6,a7,a8,a9⟩:=HA.out
  have o1:=ph (W:=w) (b:=bf) (.bool false)
  have b1:BtZ (PsZ bf bk bv) w (w.setCell ⟨bf,0,none⟩ (.bool false)):=BtZ.off (.inl rfl) o1
  have nx:NxZ (w.setCell ⟨bf,0,none⟩ (.bool false)) bf bs bk bv false s:=⟨by rw [World.cell?_setCell_same _ _ _ HX.out.1.mark],by rw [World.frozen?_setCell];exact HX.out.1.loose,o1.cell (p:=⟨bs,0,none⟩) (Ne.symm a1) HX.out.1.stir,HX.out.1.kv.1.off o1 (Ne.symm a2),HX.out.1.kv.2.off o1 (Ne.symm a3)⟩
  have tb:ShT (w.setCell ⟨bf,0,none⟩ (.bool false)):=⟨fun i hi=>o1.cell (Ne.symm a9.1) (HX.out.2.1 i hi),fun i hi=>o1.cell (Ne.symm a9.2) (HX.out.2.2 i hi)⟩
  have b2:=(Below.refl (w.setCell ⟨bf,0,none⟩ (.bool false)).heap.size _).alloc (Nat.le_refl _) (.cells #[.int .u64 0,.int .u64 0,.int .u64 0,.int .u64 0] z)
  exact ⟨nx.keep b2,tb.keep b2,b1.trans (BtZ.of_below b2),af.new (by simp)⟩
 refine ah (fun W=>MdZ w W bf bs bk bv s1) (M0 _) ?_
 clear M0 es1 c1 c2 c3 ER
 rintro W HW
 refine wp_region_held_drew (S:=fun _=>True) (by kernel_rfl) trivial (fun hHeld=>?_)
 refine cW (i:=0) (oi:=_) (v:=.slice (some ⟨bk,0,none⟩) 32 32) 9 rfl (by kernel_rfl) (by kernel_rfl) (by kernel_rfl) (by kernel_rfl) (fun _ _ _ h=>h) (Or.inl ⟨by kernel_rfl,?_⟩) trivial ?_
 ·intro wq hSw
  have _:=hSw
  go_simp
 simp only [Act.put,List.setIfInBounds_toArray,List.set_cons_succ,List.set_cons_zero]
 refine cW (i:=1) (oi:=_) (v:=.slice (some ⟨bv,0,none⟩) 32 32) 10 rfl (by kernel_rfl) (by kernel_rfl) (by kernel_rfl) (by kernel_rfl) (fun _ _ _ h=>h) (Or.inl ⟨by kernel_rfl,?_⟩) trivial ?_
 ·intro wq hSw
  have _:=hSw
  go_simp
 simp only [Act.put,List.setIfInBounds_toArray,List.set_cons_succ,List.set_cons_zero]
 refine wpAnyH_ready (rs:=[2]) (by kernel_rfl) (by simp) ?_
 refine AllReadyH.cons rfl (fun K hK=>?_) AllReadyH.nil
 go_simp
 go_wp2_with fail
 have vl:=HW.nx.kv.2.1
 refine d9 (fun U=>Below W.heap.size W U∧S.Prts U W.heap.size 0 [⟨some ⟨bv,0,none⟩,bv,0,32,s1.v⟩]) ⟨((Below.refl _ _).alloc (Nat.le_refl _) _).drew,pg (lL rfl (by rw [S.Part.val,vl]) (cC HW.nx.kv.2 (Nat.le_refl _))) (Below.refl _ _).drew⟩ ?_
 rintro U ⟨BU,hP2⟩
 refine hK.out _ _ trivial (fun hHeld=>?_)
 clear hK K hHeld
 have CH:Hid (∀ _:Nat,Rt 84 #[.slice (some ⟨bk,0,none⟩) 32 32,.slice (some ⟨W.heap.size,0,none⟩) 1 1] U (.agg (S.byts (S.hmacL s1.k s1.v)).toArray)):=fun _=>by
  have kl:=HW.nx.kv.1.1
  have h:=S.hmac_any (ka:=some ⟨bk,0,none⟩) (kb:=bk) (ko:=0) (kc:=32) (X:=s1.k) (a:=some ⟨W.heap.size,0,none⟩) (bp:=W.heap.size) (op:=0) (cp:=1) (PS:=[⟨some ⟨bv,0,none⟩,bv,0,32,s1.v⟩]) (by omega) (by omega) (.inr rfl) (by simp only [S.catX,List.flatMap_cons,List.flatMap_nil,List.append_nil];omega) (by show 1≤_;omega) (.inr rfl) U (okZ (cC HW.nx.kv.1 (Nat.le_refl 32)) BU).2.2 hP2 (HW.tab.keep BU).1 (HW.tab.keep BU).2
  rw [kl] at h
  have cx:S.catX [⟨some ⟨bv,0,none⟩,bv,0,32,s1.v⟩]=s1.v:=by simp [S.catX]
  rw [cx] at h
  exact h
 clear vl
 obtain ⟨V1,eV1⟩:∃ V1,V1=S.hmacL s1.k s1.v:=⟨_,rfl⟩
 rw [←eV1] at CH
 have l1:V1.length=32:=by rw [eV1,eU]
 have sz1:(S.byts V1).toArray.size=32:=by simp [S.byts_len,l1]
 have oc1:=S.one_byts V1
 have E2:Hid ((⟨s1.k,V1⟩:KvZ)=r∧V1.length=32):=⟨by rw [eV1,ES.out];rfl,l1⟩
 clear eV1 l1
 obtain ⟨M2,eM⟩:∃ M,M=S.byts V1:=⟨_,rfl⟩
 rw [←eM] at CH sz1 oc1
 refine wpAnyH_ready (rs:=[3]) (by kernel_rfl) (by simp) ?_
 refine AllReadyH.cons rfl (fun K hK=>?_) AllReadyH.nil
 go_simp
 refine (CH.out 0).mono ?_
 rintro e y2 ⟨rfl,hbx⟩
 have BZ:=BU.trans (hbx.mono BU.size)
 refine hK.out _ _ trivial (fun hHeld=>?_)
 clear hK K CH hHeld hbx BU hP2
 have tr:=(HW.nx.kv.2.keep BZ).there
 rw [←sz1] at tr
 refine wpAnyH_ready (rs:=[4]) (by kernel_rfl) (by simp) ?_
 refine AllReadyH.cons rfl (fun K hK=>?_) AllReadyH.nil
 refine (if_pos (by kernel_rfl)).mpr ?_
 refine wp_store_mid 47 _ _ rfl bv 0 M2.toArray rfl rfl tr (by rw [sz1];kernel_rfl) oc1 ?_
 have LI:MdZ w (y2.setCells bv 0 M2) bf bs bk bv r:=by
  rw [eM,←E2.out.1]
  obtain ⟨a1,a2,a3,a4,a5,a6,a7,a8,a9⟩:=HA.out
  have n2:=HW.nx.keep BZ
  have h:=dJ (M:=V1) n2.kv.2 E2.out.2
  have hbt:BtZ (fun k=>k=bv) y2 (y2.setCells bv 0 (S.byts V1)):=BtZ.off rfl h.2
  have tb:=HW.tab.keep BZ
  have rs:=HW.res.keep BZ
  obtain ⟨l1,l2,l3,l4⟩:=LT.out
  exact ⟨⟨hbt.cell (p:=⟨bf,0,none⟩) a3 n2.mark,hbt.loose a3 (World.block_lt_of_cell? y2 _ n2.mark) n2.loose,hbt.cell (p:=⟨bs,0,none⟩) a5 n2.stir,n2.kv.1.off h.2 a6,h.1⟩,hbt.sht ⟨Ne.symm a8.1,Ne.symm a8.2⟩ tb,HW.bt.trans ((BtZ.of_below BZ).trans (hbt.wide fun k e=>.inr (.inr e))),hbt.blank (by omega) rs⟩
 refine d9 (fun V=>MdZ w V bf bs bk bv r) LI ?_
 clear LI tr BZ sz1 oc1 eM HW E2 ES
 rintro V HV
 refine hK.out _ _ trivial (fun hHeld=>?_)
 clear hK K hHeld
 refine wpAnyH_done (by kernel_rfl) ?_ _
 go_wp2_with fail
 have WH:Hid (∀ W,S.Hsh W bv r.v→Rt 70 #[.slice (some ⟨bv,0,none⟩) 32 32] W (U4 (bF (ivZ r.v) 32))):=fun W h=>by
  have h32:(ivZ r.v).length=32:=by rw [qh];exact h.1
  have:=jE (ob:=0) (cb:=32) (oo r.v) (by omega) W (zf h)
  rw [h32] at this
  exact this
 obtain ⟨n,en⟩:∃ n,n=bF (ivZ r.v) 32:=⟨_,rfl⟩
 rw [←en] at WH
 have EN:Hid (n=bF (ivZ r.v) 32):=en
 clear en
 have hv2:=HV.nx.kv.2
 with_reducible refine (WH.out _ hv2).mono ?_
 rintro e w3 ⟨rfl,hb⟩
 have hR:=HV.res.keep hb
 have gR0:=hR.1.all4
 have fR0:=hR.2.all4
 have FIN:Hid (NxZ w3 bf bs bk bv false r∧BtZ (PsZ bf bk bv) w w3∧w.heap.size<w3.heap.size):=⟨HV.nx.keep hb,HV.bt.trans (BtZ.of_below hb),hR.1.lt (by simp)⟩
 clear hb HV hR WH hv2
 go_wp2
 simp [bodyPost,results,Tryz.results85,go_sem, *]
 obtain ⟨l1,l2,l3,l4⟩:=LT.out
 have o4:=fun v0 v1 v2 v3=>((((S.Off.refl w.heap.size w3).setCell (i:=0) v0).setCell (i:=1) v1).setCell (i:=2) v2).setCell (i:=3) v3
 exact ⟨by rw [EN.out];exact ⟨rfl,rfl,rfl,rfl⟩,FIN.out.1.off (o4 _ _ _ _) (by omega) (by omega) (by omega) (by omega),FIN.out.2.1.off_new (o4 _ _ _ _)⟩
theorem wy {bf bs bk bv:Nat} {s:KvZ} (w:World) (hx:NxZ w bf bs bk bv false s) (ha:ApZ bf bs bk bv) (ht:ShT w) :
  Calls Tryz.prog 85 #[.pointer (some ⟨bf,0,none⟩),.pointer (some ⟨bs,0,none⟩),.pointer (some ⟨bk,0,none⟩),.pointer (some ⟨bv,0,none⟩)] w fun e w'=>e = .returned (.agg #[.int .u64 (l0 (bF (ivZ (du (dh s [0])).v) 32)),.int .u64 (l1 (bF (ivZ (du (dh s [0])).v) 32)),.int .u64 (l2 (bF (ivZ (du (dh s [0])).v) 32)),.int .u64 (l3 (bF (ivZ (du (dh s [0])).v) 32))])∧NxZ w' bf bs bk bv false (du (dh s [0]))∧BtZ (PsZ bf bk bv) w w':=by
 have HA:Hid (ApZ bf bs bk bv):=ha
 have B0:∀ o,Below w.heap.size w (w.alloc o):=fun o=>(Below.refl _ _).alloc (Nat.le_refl _) o
 have HX:Hid (NxZ w bf bs bk bv false s∧ShT w):=⟨hx,ht⟩
 have HB:Hid (∀ o,Below w.heap.size w (w.alloc o)):=B0
 have bflt:=World.block_lt_of_cell? w _ hx.mark
 have LT:Hid (bf<w.heap.size∧bs<w.heap.size∧bk<w.heap.size∧bv<w.heap.size):=⟨bflt,World.block_lt_of_cell? w _ hx.stir,hx.kv.1.lt,hx.kv.2.lt⟩
 have c1:=fun o=>(hx.keep (B0 o)).mark
 have c2:=fun o=>(hx.keep (B0 o)).stir
 have c3:=fun o=>(hx.keep (B0 o)).loose
 clear hx ht ha B0
 obtain ⟨r,er⟩:∃ r,r=du (dh s [0]):=⟨_,rfl⟩
 rw [←er]
 have ER:Hid (r=du (dh s [0])):=er
 clear er
 go_enter Tryz.func85,Tryz.ntmps85
 go_wp2_with fail
 obtain ⟨s1,es1⟩:∃ s1,s1=dh s ([0]++S.catX []):=⟨_,rfl⟩
 have ES:Hid (r=du s1):=by rw [es1];exact ER.out
 refine aa (fun W=>Below w.heap.size w W∧af W w.heap.size) ⟨HB.out _,af.new rfl⟩ ?_
 rintro W1 ⟨BW,hbl⟩
 have nx1:=HX.out.1.keep BW
 have HM:Hid (BtZ (PsZ bf bk bv) w W1∧af W1 w.heap.size∧NxZ W1 bf bs bk bv false s∧ShT W1):=⟨BtZ.of_below BW,hbl,nx1,HX.out.2.keep BW⟩
 refine (ot (m:=0) (mb:=0) (PS:=[]) (n:=0) (cp:=0) (a:=none) (bp:=0) (op:=0) S.Y_zero rfl (by decide) (.inl ⟨rfl,rfl,rfl⟩) (by show 0<_;decide) HA.out.2.2.2.2.2.1 W1 nx1.kv (fun i hi=>absurd hi (Nat.not_lt_zero _)) (HX.out.2.keep BW) ⟨HA.out.2.2.2.2.2.2.1,HA.out.2.2.2.2.2.2.2.1⟩).mono ?_
 rw [←es1]
 clear BW hbl nx1
 rintro e w2 ⟨rfl,hkv,hbt⟩
 have M1:MdZ w w2 bf bs bk bv s1:=by
  obtain ⟨a1,a2,a3,a4,a5,a6,a7,a8,a9⟩:=HA.out
  obtain ⟨m1,m2,m3,m4⟩:=HM.out
  have np:∀ {x:Nat},x≠bk→x≠bv→¬(x=bk∨x=bv):=fun h1 h2 h=>h.elim h1 h2
  obtain ⟨l1,l2,l3,l4⟩:=LT.out
  exact ⟨⟨hbt.cell (p:=⟨bf,0,none⟩) (np a2 a3) m3.mark,hbt.loose (np a2 a3) (World.block_lt_of_cell? W1 _ m3.mark) m3.loose,hbt.cell (p:=⟨bs,0,none⟩) (np a4 a5) m3.stir,hkv⟩,hbt.sht ⟨np (Ne.symm a7.1) (Ne.symm a8.1),np (Ne.symm a7.2) (Ne.symm a8.2)⟩ m4,m1.trans (hbt.wide fun k h=>.inr h),hbt.blank (np (by omega) (by omega)) m2⟩
 clear HM hkv hbt W1 es1 c1 c2 c3 ER
 have fz:=M1.nx.loose
 have mk:=M1.nx.mark
 have M2:Hid (MdZ w (w2.setCell ⟨bf,0,none⟩ (.bool false)) bf bs bk bv s1):=by
  obtain ⟨a1,a2,a3,a4,a5,a6,a7,a8,a9⟩:=HA.out
  have o1:=ph (W:=w2) (b:=bf) (.bool false)
  have nx:NxZ (w2.setCell ⟨bf,0,none⟩ (.bool false)) bf bs bk bv false s1:=⟨by rw [World.cell?_setCell_same _ _ _ M1.nx.mark],by rw [World.frozen?_setCell];exact M1.nx.loose,o1.cell (p:=⟨bs,0,none⟩) (Ne.symm a1) M1.nx.stir,M1.nx.kv.1.off o1 (Ne.symm a2),M1.nx.kv.2.off o1 (Ne.symm a3)⟩
  obtain ⟨l1,l2,l3,l4⟩:=LT.out
  exact ⟨nx,⟨fun i hi=>o1.cell (Ne.symm a9.1) (M1.tab.1 i hi),fun i hi=>o1.cell (Ne.symm a9.2) (M1.tab.2 i hi)⟩,M1.bt.trans (BtZ.off (.inl rfl) o1),M1.res.set (by omega) _⟩
 clear M1
 go_wp2_with fail
 refine ah (fun W=>MdZ w W bf bs bk bv s1) M2.out ?_
 clear M2 fz mk
 rintro W HW
 refine wp_region_held_drew (S:=fun _=>True) (by kernel_rfl) trivial (fun hHeld=>?_)
 refine cW (i:=0) (oi:=_) (v:=.slice (some ⟨bk,0,none⟩) 32 32) 9 rfl (by kernel_rfl) (by kernel_rfl) (by kernel_rfl) (by kernel_rfl) (fun _ _ _ h=>h) (Or.inl ⟨by kernel_rfl,?_⟩) trivial ?_
 ·intro wq hSw
  have _:=hSw
  go_simp
 simp only [Act.put,List.setIfInBounds_toArray,List.set_cons_succ,List.set_cons_zero]
 refine cW (i:=1) (oi:=_) (v:=.slice (some ⟨bv,0,none⟩) 32 32) 10 rfl (by kernel_rfl) (by kernel_rfl) (by kernel_rfl) (by kernel_rfl) (fun _ _ _ h=>h) (Or.inl ⟨by kernel_rfl,?_⟩) trivial ?_
 ·intro wq hSw
  have _:=hSw
  go_simp
 simp only [Act.put,List.setIfInBounds_toArray,List.set_cons_succ,List.set_cons_zero]
 refine wpAnyH_ready (rs:=[2]) (by kernel_rfl) (by simp) ?_
 refine AllReadyH.cons rfl (fun K hK=>?_) AllReadyH.nil
 go_simp
 go_wp2_with fail
 have vl:=HW.nx.kv.2.1
 refine d9 (fun U=>Below W.heap.size W U∧S.Prts U W.heap.size 0 [⟨some ⟨bv,0,none⟩,bv,0,32,s1.v⟩]) ⟨((Below.refl _ _).alloc (Nat.le_refl _) _).drew,pg (lL rfl (by rw [S.Part.val,vl]) (cC HW.nx.kv.2 (Nat.le_refl _))) (Below.refl _ _).drew⟩ ?_
 rintro U ⟨BU,hP2⟩
 refine hK.out _ _ trivial (fun hHeld=>?_)
 clear hK K hHeld
 have CH:Hid (∀ _:Nat,Rt 84 #[.slice (some ⟨bk,0,none⟩) 32 32,.slice (some ⟨W.heap.size,0,none⟩) 1 1] U (.agg (S.byts (S.hmacL s1.k s1.v)).toArray)):=fun _=>by
  have kl:=HW.nx.kv.1.1
  have h:=S.hmac_any (ka:=some ⟨bk,0,none⟩) (kb:=bk) (ko:=0) (kc:=32) (X:=s1.k) (a:=some ⟨W.heap.size,0,none⟩) (bp:=W.heap.size) (op:=0) (cp:=1) (PS:=[⟨some ⟨bv,0,none⟩,bv,0,32,s1.v⟩]) (by omega) (by omega) (.inr rfl) (by simp only [S.catX,List.flatMap_cons,List.flatMap_nil,List.append_nil];omega) (by show 1≤_;omega) (.inr rfl) U (okZ (cC HW.nx.kv.1 (Nat.le_refl 32)) BU).2.2 hP2 (HW.tab.keep BU).1 (HW.tab.keep BU).2
  rw [kl] at h
  have cx:S.catX [⟨some ⟨bv,0,none⟩,bv,0,32,s1.v⟩]=s1.v:=by simp [S.catX]
  rw [cx] at h
  exact h
 clear vl
 obtain ⟨V1,eV1⟩:∃ V1,V1=S.hmacL s1.k s1.v:=⟨_,rfl⟩
 rw [←eV1] at CH
 have l1:V1.length=32:=by rw [eV1,eU]
 have sz1:(S.byts V1).toArray.size=32:=by simp [S.byts_len,l1]
 have oc1:=S.one_byts V1
 have E2:Hid ((⟨s1.k,V1⟩:KvZ)=r∧V1.length=32):=⟨by rw [eV1,ES.out];rfl,l1⟩
 clear eV1 l1
 obtain ⟨M2,eM⟩:∃ M,M=S.byts V1:=⟨_,rfl⟩
 rw [←eM] at CH sz1 oc1
 refine wpAnyH_ready (rs:=[3]) (by kernel_rfl) (by simp) ?_
 refine AllReadyH.cons rfl (fun K hK=>?_) AllReadyH.nil
 go_simp
 refine (CH.out 0).mono ?_
 rintro e y2 ⟨rfl,hbx⟩
 have BZ:=BU.trans (hbx.mono BU.size)
 refine hK.out _ _ trivial (fun hHeld=>?_)
 clear hK K CH hHeld hbx BU hP2
 have tr:=(HW.nx.kv.2.keep BZ).there
 rw [←sz1] at tr
 refine wpAnyH_ready (rs:=[4]) (by kernel_rfl) (by simp) ?_
 refine AllReadyH.cons rfl (fun K hK=>?_) AllReadyH.nil
 refine (if_pos (by kernel_rfl)).mpr ?_
 refine wp_store_mid 47 _ _ rfl bv 0 M2.toArray rfl rfl tr (by rw [sz1];kernel_rfl) oc1 ?_
 have LI:MdZ w (y2.setCells bv 0 M2) bf bs bk bv r:=by
  rw [eM,←E2.out.1]
  obtain ⟨a1,a2,a3,a4,a5,a6,a7,a8,a9⟩:=HA.out
  have n2:=HW.nx.keep BZ
  have h:=dJ (M:=V1) n2.kv.2 E2.out.2
  have hbt:BtZ (fun k=>k=bv) y2 (y2.setCells bv 0 (S.byts V1)):=BtZ.off rfl h.2
  have tb:=HW.tab.keep BZ
  have rs:=HW.res.keep BZ
  obtain ⟨l1,l2,l3,l4⟩:=LT.out
  exact ⟨⟨hbt.cell (p:=⟨bf,0,none⟩) a3 n2.mark,hbt.loose a3 (World.block_lt_of_cell? y2 _ n2.mark) n2.loose,hbt.cell (p:=⟨bs,0,none⟩) a5 n2.stir,n2.kv.1.off h.2 a6,h.1⟩,hbt.sht ⟨Ne.symm a8.1,Ne.symm a8.2⟩ tb,HW.bt.trans ((BtZ.of_below BZ).trans (hbt.wide fun k e=>.inr (.inr e))),hbt.blank (by omega) rs⟩
 refine d9 (fun V=>MdZ w V bf bs bk bv r) LI ?_
 clear LI tr BZ sz1 oc1 eM HW E2 ES
 rintro V HV
 refine hK.out _ _ trivial (fun hHeld=>?_)
 clear hK K hHeld
 refine wpAnyH_done (by kernel_rfl) ?_ _
 go_wp2_with fail
 have WH:Hid (∀ W,S.Hsh W bv r.v→Rt 70 #[.slice (some ⟨bv,0,none⟩) 32 32] W (U4 (bF (ivZ r.v) 32))):=fun W h=>by
  have h32:(ivZ r.v).length=32:=by rw [qh];exact h.1
  have:=jE (ob:=0) (cb:=32) (oo r.v) (by omega) W (zf h)
  rw [h32] at this
  exact this
 obtain ⟨n,en⟩:∃ n,n=bF (ivZ r.v) 32:=⟨_,rfl⟩
 rw [←en] at WH
 have EN:Hid (n=bF (ivZ r.v) 32):=en
 clear en
 have hv2:=HV.nx.kv.2
 with_reducible refine (WH.out _ hv2).mono ?_
 rintro e w3 ⟨rfl,hb⟩
 have hR:=HV.res.keep hb
 have gR0:=hR.1.all4
 have fR0:=hR.2.all4
 have FIN:Hid (NxZ w3 bf bs bk bv false r∧BtZ (PsZ bf bk bv) w w3∧w.heap.size<w3.heap.size):=⟨HV.nx.keep hb,HV.bt.trans (BtZ.of_below hb),hR.1.lt (by simp)⟩
 clear hb HV hR WH hv2
 go_wp2
 simp [bodyPost,results,Tryz.results85,go_sem, *]
 obtain ⟨l1,l2,l3,l4⟩:=LT.out
 have o4:=fun v0 v1 v2 v3=>((((S.Off.refl w.heap.size w3).setCell (i:=0) v0).setCell (i:=1) v1).setCell (i:=2) v2).setCell (i:=3) v3
 exact ⟨by rw [EN.out];exact ⟨rfl,rfl,rfl,rfl⟩,FIN.out.1.off (o4 _ _ _ _) (by omega) (by omega) (by omega) (by omega),FIN.out.2.1.off_new (o4 _ _ _ _)⟩
open Go.RowKit Go.Sort
def nzV (C:Nat→Int) (w:Nat):Int:=(pkZ C w 256).getD 0
def nzE (C:Nat→Int) (w:Nat):Int:=if (pkZ C w 256).isSome then 0 else 65
theorem Bk {C:Nat→Int} {w n:Nat} {x:Int} (h:pkZ C w n=some x) (hn:n≤256):nzV C w=x∧nzE C w=0:=by
 have:=rM h (256-n)
 rw [show n+(256-n)=256 by omega] at this
 exact ⟨by rw [nzV,this];rfl,by rw [nzE,this];rfl⟩
theorem Bl {C:Nat→Int} {w:Nat} (h:pkZ C w 256=none):nzV C w=0∧nzE C w=65:=⟨by rw [nzV,h];rfl,by rw [nzE,h];rfl⟩
theorem zg {bf bs bk bv:Nat} {s:KvZ} {i:Nat} (w:World) (hx:NxZ w bf bs bk bv (decide (i=0)) (kvZ s i)) (ha:ApZ bf bs bk bv) (ht:ShT w) :
  Calls Tryz.prog 85 #[.pointer (some ⟨bf,0,none⟩),.pointer (some ⟨bs,0,none⟩),.pointer (some ⟨bk,0,none⟩),.pointer (some ⟨bv,0,none⟩)] w fun e w'=>e = .returned (U4 (cP s i))∧NxZ w' bf bs bk bv (decide (i+1=0)) (kvZ s (i+1))∧BtZ (PsZ bf bk bv) w w':=by
 cases i with
 | zero=>exact tB w hx ha ht
 | succ i=>exact wy w hx ha ht
structure DrZ (w W:World) (bf bs bk bv:Nat) (s:KvZ) (i:Nat):Prop where
 nx:NxZ W bf bs bk bv (decide (i=0)) (kvZ s i)
 tab:ShT W
 mds:Mds W
 bt:BtZ (PsZ bf bk bv) w W
 res:af W w.heap.size
theorem DrZ.keep {w W W':World} {bf bs bk bv i:Nat} {s:KvZ} (h:DrZ w W bf bs bk bv s i) (b:Below W.heap.size W W'):DrZ w W' bf bs bk bv s i:=⟨h.nx.keep b,h.tab.keep b,h.mds.keep b,h.bt.trans (BtZ.of_below b),h.res.keep b⟩
def MpZ (bf bk bv:Nat):Prop:=¬PsZ bf bk bv 1
theorem mK {bf bk bv x:Nat} (h1:x≠bf) (h2:x≠bk) (h3:x≠bv):¬PsZ bf bk bv x:=fun h=>h.elim h1 fun h=>h.elim h2 h3
theorem DrZ.step {w W W':World} {bf bs bk bv i:Nat} {s:KvZ} (h:DrZ w W bf bs bk bv s i) (nx:NxZ W' bf bs bk bv (decide (i+1=0)) (kvZ s (i+1))) (bt:BtZ (PsZ bf bk bv) W W') (ha:ApZ bf bs bk bv) (hp:MpZ bf bk bv) (lt:bf<w.heap.size∧bs<w.heap.size∧bk<w.heap.size∧bv<w.heap.size):DrZ w W' bf bs bk bv s (i+1):=by
 obtain ⟨a1,a2,a3,a4,a5,a6,a7,a8,a9⟩:=ha
 exact ⟨nx,bt.sht ⟨mK (Ne.symm a9.1) (Ne.symm a7.1) (Ne.symm a8.1),mK (Ne.symm a9.2) (Ne.symm a7.2) (Ne.symm a8.2)⟩ h.tab,bt.mds hp h.mds,h.bt.trans bt,bt.blank (mK (by omega) (by omega) (by omega)) h.res⟩
theorem tC {bf bs bk bv wh:Nat} {s:KvZ} (hs:s.ok) (hw:wh<64) (w:World) (hx:NxZ w bf bs bk bv true s) (ha:ApZ bf bs bk bv) (hp:MpZ bf bk bv) (ht:ShT w) (hm:Mds w) :
  Calls Tryz.prog 52 #[.func (.func 85) #[] #[.pointer (some ⟨bf,0,none⟩),.pointer (some ⟨bs,0,none⟩),.pointer (some ⟨bk,0,none⟩),.pointer (some ⟨bv,0,none⟩)],.int .i64 (wh:Int)] w fun e w'=>e = .returned (.tuple #[U4 (nzV (cP s) wh),.int .i64 (nzE (cP s) wh)])∧BtZ (PsZ bf bk bv) w w':=by
 have HA:Hid (ApZ bf bs bk bv∧MpZ bf bk bv∧s.ok∧wh<64):=⟨ha,hp,hs,hw⟩
 have LT:Hid (bf<w.heap.size∧bs<w.heap.size∧bk<w.heap.size∧bv<w.heap.size):=⟨World.block_lt_of_cell? w _ hx.mark,World.block_lt_of_cell? w _ hx.stir,hx.kv.1.lt,hx.kv.2.lt⟩
 have D0:∀ z,DrZ w (w.alloc (.cells #[.int .u64 0,.int .u64 0,.int .u64 0,.int .u64 0] z)) bf bs bk bv s 0:=fun z=>by
  have b:=(Below.refl w.heap.size w).alloc (Nat.le_refl _) (.cells #[.int .u64 0,.int .u64 0,.int .u64 0,.int .u64 0] z)
  exact ⟨hx.keep b,ht.keep b,hm.keep b,BtZ.of_below b,af.new rfl⟩
 have w64:(wh:Int)<64:=by omega
 clear hx ha hp ht hm hs hw
 go_enter Tryz.func52,Tryz.ntmps52
 go_wp2_with fail
 refine ah (fun W=>DrZ w W bf bs bk bv s 0) (D0 _) ?_
 clear D0
 rintro W0 D0
 go_loopg [6,8] 256 (fun k fv iv wr=>∃ i:Nat,k=256-i∧i≤256∧fv = .int .i64 (iQ (cP s) i:Nat)∧iv = .int .i64 (i:Int)∧pkZ (cP s) wh i=none∧DrZ w wr bf bs bk bv s i)
 case atStart=>exact ⟨0,rfl,Nat.zero_le _,rfl,rfl,rfl,D0⟩
 case round =>
  clear D0
  obtain ⟨i,hk,hi,rfl,rfl,hpk,hd⟩:=hrel
  have HK:Hid (gk=256-i):=hk
  have HD:Hid (pkZ (cP s) wh i=none∧DrZ w wr bf bs bk bv s i):=⟨hpk,hd⟩
  clear hk hpk hd
  by_cases h8:i=256
  ·subst h8
   have hR:=HD.out.2.res
   have gR0:=hR.1.all4
   have fR0:=hR.2.all4
   clear hR
   go_wp2
   obtain ⟨e1,e2⟩:=Bl HD.out.1
   have z0:l0 0=0∧l1 0=0∧l2 0=0∧l3 0=0:=by decide
   have o4:=fun v0 v1 v2 v3=>((((S.Off.refl w.heap.size wr).setCell (i:=0) v0).setCell (i:=1) v1).setCell (i:=2) v2).setCell (i:=3) v3
   have fin:=fun v0 v1 v2 v3=>HD.out.2.bt.off_new (o4 v0 v1 v2 v3)
   simp [bodyPost,results,Tryz.results52,go_sem,gR0,e1,e2,z0]
   exact fin _ _ _ _
  ·have hi':(i:Int)<256:=by omega
   have cl:=uw (cP s) i
   have nm:=rL s i
   go_wp2_with fail
   refine (zg wr HD.out.2.nx HA.out.1 HD.out.2.tab).mono ?_
   rintro e w1 ⟨rfl,hnx,hbt⟩
   have D1:=HD.out.2.step hnx hbt HA.out.1 HA.out.2.1 LT.out
   have P1:Hid (pkZ (cP s) wh i=none):=HD.out.1
   have CN:Hid (iQ (cP s) (i+1)=if co (cP s i) then iQ (cP s) i+1 else iQ (cP s) i):=rfl
   clear hnx hbt HD
   go_wp2_with fail
   refine aa (fun W=>DrZ w W bf bs bk bv s (i+1)∧ae W w1.heap.size (cP s i)) ⟨D1.keep ((Below.refl _ _).alloc (Nat.le_refl _) _),ae.new _ _ _⟩ ?_
   rintro W1 ⟨D2,hC⟩
   clear D1
   generalize w1.heap.size=b7 at *
   have IN:=cK nm
   clear nm
   have EC:Hid (∀ x,cP s i=x→cP s i=x):=fun _ h=>h
   cases hf:co (cP s i) with
   | false =>
    rw [hf] at IN
    with_reducible refine (IN.out _ D2.mds).mono ?_
    rintro e w2 ⟨rfl,hb⟩
    have D3:=D2.keep hb
    have FN:Hid (co (cP s i)=false∧DrZ w w2 bf bs bk bv s (i+1)):=⟨hf,D3⟩
    clear hb D2 D3 hC IN hf EC
    go_wp2
    go_roundg (256-(i+1))
    case measure=>have:=HK.out;omega
    case rel =>
     refine ⟨i+1,rfl,by omega,?_,by go_num,wv P1.out FN.out.1,FN.out.2⟩
     rw [CN.out,FN.out.1]
     rfl
   | true =>
    rw [hf] at IN
    with_reducible refine (IN.out _ D2.mds).mono ?_
    rintro e w2 ⟨rfl,hb⟩
    have D3:=D2.keep hb
    have hC2:=hC.keep hb
    have FN:Hid (co (cP s i)=true∧DrZ w w2 bf bs bk bv s (i+1)):=⟨hf,D3⟩
    have gC:=hC2.cells
    have gR0:=D3.res.1.all4
    have fR0:=D3.res.2.all4
    clear hb D2 D3 hC hC2 IN hf EC
    by_cases he:iQ (cP s) i=wh
    ·have HE:Hid (pkZ (cP s) wh (i+1)=some (cP s i)):=zd P1.out FN.out.1 he
     have he':((iQ (cP s) i:Nat):Int)=(wh:Int):=by rw [he]
     clear CN
     generalize iQ (cP s) i=ct at *
     go_wp2
     obtain ⟨e1,e2⟩:=Bk HE.out (by omega)
     have o4:=fun v0 v1 v2 v3=>((((S.Off.refl w.heap.size w2).setCell (i:=0) v0).setCell (i:=1) v1).setCell (i:=2) v2).setCell (i:=3) v3
     have fin:=fun v0 v1 v2 v3=>FN.out.2.bt.off_new (o4 v0 v1 v2 v3)
     simp [bodyPost,results,Tryz.results52,go_sem,gR0,e1,e2]
     exact fin _ _ _ _
    ·have HE:Hid (pkZ (cP s) wh (i+1)=none):=ww P1.out he
     have he':¬((iQ (cP s) i:Nat):Int)=(wh:Int):=by omega
     clear gC gR0 fR0
     obtain ⟨ct,ect⟩:∃ ct,ct=iQ (cP s) i:=⟨_,rfl⟩
     rw [←ect] at he he' cl ⊢
     rw [←ect] at CN
     clear ect
     go_wp2
     go_roundg (256-(i+1))
     case measure=>have:=HK.out;omega
     case rel =>
      refine ⟨i+1,rfl,by omega,?_,by go_num,HE.out,FN.out.2⟩
      rw [CN.out,FN.out.1]
      go_num
end Go.Proofs.YtjoandmehahfgaaGreatDoor
