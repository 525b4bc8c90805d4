import Derived.Test.YtjoandmehahfgaaGreatDoorAdLast
import Derived.Test.YtjoandmehahfgaaGreatDoorKLent
import Derived.Test.YtjoandmehahfgaaGreatDoorKCols
import Derived.Test.YtjoandmehahfgaaGreatDoorUbA
namespace Go.Proofs.YtjoandmehahfgaaGreatDoor
open Go.RowKit Go.Sort
def KtC (W:World):Prop:=K.Tab W 3 K.turnsN∧K.Lns W 2 K.marksN
theorem KtC.keep {W w1:World} (h:KtC W) (hb:Below W.heap.size W w1):KtC w1:=⟨h.1.keep hb,h.2.keep hb⟩
theorem KtC.alloc {W:World} (h:KtC W) (o:Obj):KtC (W.alloc o):=⟨h.1.alloc o,h.2.alloc o⟩
def bvC (l:List Int):List (BitVec 8):=l.map (BitVec.ofInt 8)
theorem ks (l:List Int):(bvC l).length=l.length:=by simp [bvC]
theorem DH {z:Int} (h0:0≤z) (h1:z<256):K.Y (BitVec.ofInt 8 z)=z:=by
 rw [K.Y_eq,BitVec.toNat_ofInt]
 omega
theorem DI {l:List Int} (h:Bys l) {i:Nat} (hi:i<l.length):K.Y ((bvC l).getD i 0)=l.getD i 0:=by
 have hm:=h (l[i]) (List.getElem_mem hi)
 rw [bvC,List.getD,List.getElem?_map,List.getElem?_eq_getElem hi,List.getD,List.getElem?_eq_getElem hi]
 exact DH hm.1 hm.2
theorem Ay (a b:List Int):bvC (a++b)=bvC a++bvC b:=by simp [bvC]
noncomputable def pP (l:List Int):List Int:=(K.hashL (K.finL 0 (K.absb (List.replicate 25 0) 0 (bvC l)) l.length)).map K.Y
theorem nD (l:List Int):(pP l).length=32:=by simp [pP,K.hashL]
theorem DJ (b:BitVec 8):0≤K.Y b∧K.Y b<256:=by rw [K.Y_eq];have:=b.isLt;omega
theorem yn (l:List Int):Bys (pP l):=fun x hx=>by
 obtain ⟨b,_,rfl⟩:=List.mem_map.1 hx
 exact DJ b
theorem Ek (l:List Int):K.digV 0 (bvC l) = .agg ((pP l).map (Value.int .u8)).toArray:=by
 rw [K.digV,pP,ks,List.map_map]
 rfl
structure PtC where
 a:Option Addr
 b:Nat
 o:Nat
 c:Nat
 X:List Int
def PtC.k (p:PtC):K.Part:=⟨p.a,p.b,p.o,p.c,bvC p.X⟩
def PtC.ok (W:World) (p:PtC):Prop:=Az p.a p.b p.o p.X∧p.X.length≤p.c∧Bys p.X∧Bz W p.b p.o p.X
def PtC.val (p:PtC):Value:=.slice p.a p.X.length p.c
theorem PtC.kval (p:PtC):p.k.val=p.val:=by rw [K.Part.val,PtC.val,PtC.k,ks]
theorem PtC.kok {W:World} {p:PtC} (h:p.ok W):p.k.ok W:=by
 obtain ⟨h1,h2,h3,h4⟩:=h
 refine ⟨?_,by rw [PtC.k,ks];exact h2,fun i hi=>?_⟩
 ·rcases h1 with e|e
  ·left;show bvC p.X=[];rw [e];rfl
  ·exact .inr e
 ·have hi':i<p.X.length:=by rw [←ks p.X];exact hi
  show W.cell? ⟨p.b,p.o+i,none⟩=some (.int .u8 (K.Y ((bvC p.X).getD i 0)))
  rw [DI h3 hi'];exact h4 i hi'
def nE (W:World) (b o:Nat):List PtC→Prop
 | []=>True
 | p :: ps=>(W.cell? ⟨b,o,none⟩=some p.val∧p.ok W)∧nE W b (o+1) ps
theorem nE.at {W:World} {b:Nat}:∀ {o:Nat} {ps:List PtC},nE W b o ps→K.Prts W b o (ps.map PtC.k)
 | _,[],_=>fun i hi=>absurd hi (Nat.not_lt_zero _)
 | o,p :: ps,h=>fun i hi=>by
  rw [nE] at h
  rcases i with _|i
  ·exact ⟨by show W.cell? ⟨b,o+0,none⟩=some p.k.val;rw [PtC.kval];exact h.1.1,PtC.kok h.1.2⟩
  ·have:=nE.at h.2 i (by simpa using hi)
   rw [Nat.add_right_comm,Nat.add_assoc] at this
   simpa using this
theorem PtC.ok.keep {W W':World} {p:PtC} (h:p.ok W) (B:Below W.heap.size W W'):p.ok W':=⟨h.1,h.2.1,h.2.2.1,h.2.2.2.keep B⟩
def vL (ps:List PtC):List Int:=ps.flatMap (·.X)
theorem nF:∀ ps:List PtC,K.catX (ps.map PtC.k)=bvC (vL ps)
 | []=>rfl
 | p :: ps=>by
  have h:=nF ps
  unfold K.catX vL at h ⊢
  rw [List.map_cons,List.flatMap_cons,List.flatMap_cons,h,Ay]
  rfl
theorem DK {ps:List PtC} {b o n c:Nat} (e:n=ps.length) (hl:(vL ps).length<140737488355328) (hn:ps.length≤1000) (hc:ps.length≤c) (w:World) (hb:nE w b o ps) (hk:KtC w) :
  Calls Tryz.prog 17 #[.slice (some ⟨b,o,none⟩) n c] w fun e w'=>e = .returned (.agg ((pP (vL ps)).map (Value.int .u8)).toArray)∧Below w.heap.size w w':=by
 have h:=K.sum_big (PS:=ps.map PtC.k) (a:=some ⟨b,o,none⟩) (bp:=b) (op:=o) (cp:=c) (by rw [nF,ks];exact hl) (by rw [List.length_map];omega) (by rw [List.length_map];exact hc) (.inr rfl) w hb.at hk.1 hk.2
 rw [List.length_map,nF,Ek] at h
 rw [e];exact h
end Go.Proofs.YtjoandmehahfgaaGreatDoor
