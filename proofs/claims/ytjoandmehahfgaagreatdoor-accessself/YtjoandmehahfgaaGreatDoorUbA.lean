import Derived.Test.YtjoandmehahfgaaGreatDoorGet
import Derived.Test.YtjoandmehahfgaaGreatDoorFExp
import Derived.Test.YtjoandmehahfgaaGreatDoorMul2
import Derived.Test.YtjoandmehahfgaaGreatDoorLen
import Derived.Test.YtjoandmehahfgaaGreatDoorAdd
import Derived.Test.YtjoandmehahfgaaGreatDoorRowB
import Derived.Deep.LoopGhost
import Derived.Test.YtjoandmehahfgaaGreatDoorRoomy
import Derived.Maps.AppendAt
import Derived.Lib.AppendZeros
import Derived.StillTail
import Derived.Lib.QuietBelow
import Derived.Laws.OwnMore
import Derived.Test.YtjoandmehahfgaaGreatDoorAb
import Derived.Test.YtjoandmehahfgaaGreatDoorMulNum
import Derived.BigQuiet
import Derived.Deep.RegionHeld
set_option maxRecDepth 100000
set_option maxHeartbeats 4000000
namespace Go.Proofs.YtjoandmehahfgaaGreatDoor
open Go.RowKit Go.Sort
def Bz (W:World) (b o:Nat) (X:List Int):Prop:=∀ i,i<X.length→W.cell? ⟨b,o+i,none⟩=some (.int .u8 (X.getD i 0))
def Az (a:Option Addr) (b o:Nat) (X:List Int):Prop:=X=[]∨a=some ⟨b,o,none⟩
def Bys (X:List Int):Prop:=∀ x∈X,0≤x∧x<256
theorem Bys.at {X:List Int} (h:Bys X) (i:Nat):0≤X.getD i 0∧X.getD i 0<256:=by
 by_cases hi:i<X.length
 ·rw [List.getD,List.getElem?_eq_getElem hi]
  exact h _ (List.getElem_mem hi)
 ·rw [List.getD,List.getElem?_eq_none (by omega)]
  exact ⟨by decide,by decide⟩
theorem Bys.app {X Z:List Int} (h:Bys X) (k:Bys Z):Bys (X++Z):=fun x hx=>by
 rcases List.mem_append.1 hx with e|e
 ·exact h x e
 ·exact k x e
theorem Bz.keep {W W':World} {b o:Nat} {X:List Int} (h:Bz W b o X) (hb:Below W.heap.size W W'):Bz W' b o X:=fun i hi=>cell_keep hb (h i hi)
theorem Bz.grown {W W':World} {b o:Nat} {X:List Int} {row:Option Nat} (h:Bz W b o X) (hg:W.grownBy W' row) (hn:X≠[]→row≠some b):Bz W' b o X:=fun i hi=>by
 have c:=h i hi
 have hb:=hg.block b (World.block_lt_of_cell? W _ c) (fun e=>hn (fun e=>by rw [e] at hi;simp at hi) e.symm)
 rw [World.cell?_of_block (w:=W) (a:=⟨b,o+i,none⟩) hb];exact c
def cc (B:Nat) (W:World) (v:Value) (X:List Int):Prop:=W.ownsRow B 5 1 v X.length (X.map (Value.int .u8))
theorem cc.row {B:Nat} {W:World} {v:Value} {X:List Int} (h:cc B W v X):W.ownsRow B 5 1 v X.length (X.map (Value.int .u8)):=h
theorem cc.nil (B:Nat) (W:World):cc B W (.slice none 0 0) []:=⟨rfl,.inl ⟨rfl,rfl⟩⟩
theorem ny {W W':World} (h:Below W.heap.size W W') (row:Option Nat):W.grownBy W' row:=⟨h.os,h.tape,h.output,h.size,fun k hk _=>h.block k hk⟩
theorem cc.keep {B:Nat} {W W':World} {v:Value} {X:List Int} (h:cc B W v X) (hb:Below W.heap.size W W'):cc B W' v X :=
 World.ownsRow.kept h (ny hb Option.none) (by cases v.ownBlock<;>simp)
theorem cc.base {B B':Nat} {W:World} {v:Value} {X:List Int} (h:cc B W v X) (hB:B'≤B):cc B' W v X:=by
 refine ⟨h.1,?_⟩
 rcases h.2 with h|⟨g,cap,cur,rfl,hb,r⟩
 ·exact .inl h
 ·exact .inr ⟨g,cap,cur,rfl,by omega,r⟩
theorem cc.cell {B g n cap:Nat} {W:World} {X:List Int} (h:cc B W (.slice (some ⟨g,0,none⟩) n cap) X) (hn:X.length=n) {i:Nat} (hi:i<n):W.cell? ⟨g,i,none⟩=some (.int .u8 (X.getD i 0)):=by
 subst hn
 rw [World.ownsRow.cellAt h i (by omega),List.getElem?_map,List.getElem?_eq_getElem hi,List.getD,List.getElem?_eq_getElem hi]
 rfl
theorem cc.lies {B:Nat} {W:World} {v:Value} {X:List Int} (h:cc B W v X):∃ a g c,v = .slice a X.length c∧X.length≤c∧Az a g 0 X∧Bz W g 0 X∧(∀ k,v.ownBlock=some k→k=g∧B≤k∧k<W.heap.size)∧(X≠[]→v.ownBlock=some g)∧(a=none→c=0):=by
 rcases h.2 with ⟨rfl,h0⟩|⟨g,cap,cur,rfl,hb,hg,hle,_⟩
 ·have e:X=[]:=List.length_eq_zero_iff.1 h0
  subst e
  exact ⟨_,0,0,rfl,Nat.le_refl _,.inl rfl,fun i hi=>absurd hi (Nat.not_lt_zero _),(fun k hk=>by cases hk),fun h=>absurd rfl h,fun _=>rfl⟩
 ·refine ⟨_,g,cap,rfl,hle,.inr rfl,fun i hi=>by rw [Nat.zero_add];exact cc.cell h rfl hi,fun k hk=>?_,fun _=>rfl,fun e=>by cases e⟩
  have e:g=k:=Option.some.inj hk
  subst e
  exact ⟨rfl,hb,(Array.getElem?_eq_some_iff.1 hg).1⟩
theorem cc.lt {B:Nat} {W:World} {v:Value} {X:List Int} (h:cc B W v X) (k:Nat) (hk:v.ownBlock=some k):B≤k∧k<W.heap.size:=by
 obtain ⟨_,_,_,_,_,_,_,h5,_⟩:=h.lies
 exact (h5 k hk).2
theorem nz {X:List Int} {i:Nat} (h:i<X.length):X.take (i+1)=X.take i++[X.getD i 0]:=by
 rw [List.take_add_one,List.getD,List.getElem?_eq_getElem h]
 rfl
theorem Az.cons {a:Option Addr} {b o:Nat} {X:List Int} (h:Az a b o X) (hx:0<X.length):a=some ⟨b,o,none⟩:=by
 rcases h with e|e
 ·rw [e] at hx;simp at hx
 ·exact e
open Go.RowKit
def aI:List Int→List Int
 | []=>[]
 | x :: xs=>if x=0 then aI xs else x :: xs
theorem lg:∀ (l:List Int) {k:Nat},l.length≤k→(aI l).length≤k
 | [],k,_=>by simp [aI]
 | x :: xs,k,h=>by
  by_cases e:x=0
  ·simp only [aI,if_pos e];exact lg xs (by simp at h;omega)
  ·simp only [aI,if_neg e];exact h
theorem kn {W:World} {b:Nat} {l:List Int} (ht:W.there b 0 (l.map (Value.int .u8)).length):Bts (W.setCells b 0 (l.map (Value.int .u8))) b l:=by
 have h1:=World.rangeAt_setCells_same W b 0 (l.map (Value.int .u8)) ht
 refine ⟨fun i hi=>?_,fun i hi=>?_⟩
 ·have:=h1 i (.int .u8 (l.getD i 0)) (by simp [List.getD,List.getElem?_eq_getElem hi])
  rw [Nat.zero_add] at this
  exact this
 ·have:=(ht i (by simpa using hi)).2
  rw [Nat.zero_add] at this
  rw [World.frozen?_setCells]
  exact this
open Go.RowKit Go.Sort
theorem mf:∀ (k:Nat) (l:List Int),(∀ t,t<k→l.getD t 0=0)→(k<l.length→l.getD k 0≠0)→k≤l.length→aI l=l.drop k
 | 0,[],_,_,_=>rfl
 | 0,x :: l,_,h,_=>by
  have:=h (by simp)
  simp [aI] at this ⊢
  simp [this]
 | k+1,[],_,_,h=>by simp at h
 | k+1,x :: l,h0,h1,hk=>by
  have e:x=0:=by simpa using h0 0 (by omega)
  rw [aI,if_pos e,List.drop_succ_cons]
  exact mf k l (fun t ht=>by simpa using h0 (t+1) (by omega)) (fun h=>by simpa using h1 (by simpa using h)) (by simpa using hk)
def jF (n:Int):Nat:=((iy n+7)/8).toNat
theorem nA (k:Nat):(256:Int) ^ k=2 ^ (8*k):=by rw [show (256:Int)=2 ^ 8 by decide,←Int.pow_mul]
theorem sF {n:Int} (h0:0<n):∃ k:Nat,iy n=(k:Int)+1∧(2:Int) ^ k≤n∧n<2 ^ (k+1):=by
 refine ⟨Nat.log2 n.toNat,by rw [iy,if_neg (by omega)],?_,?_⟩
 ·have h:=Nat.log2_self_le (n:=n.toNat) (by omega)
  have:((2 ^ Nat.log2 n.toNat:Nat):Int)≤(n.toNat:Int):=by exact_mod_cast h
  rw [Int.toNat_of_nonneg (by omega)] at this
  exact_mod_cast this
 ·have h:=Nat.lt_log2_self (n:=n.toNat)
  have:(n.toNat:Int)<((2 ^ (Nat.log2 n.toNat+1):Nat):Int):=by exact_mod_cast h
  rw [Int.toNat_of_nonneg (by omega)] at this
  exact_mod_cast this
theorem nB {a b:Nat} (h:a≤b):(2:Int) ^ a≤2 ^ b:=by
 have:(2:Nat) ^ a≤2 ^ b:=Nat.pow_le_pow_right (by decide) h
 exact_mod_cast this
theorem oX {n:Int} (hn:Num n) (h0:0<n):0<jF n∧jF n≤32∧((jF n:Nat):Int)=(iy n+7)/8∧256 ^ (jF n-1)≤n∧n<256 ^ jF n:=by
 obtain ⟨k,e,h1,h2⟩:=sF h0
 have hk:k<256:=by
  have h3:n<2 ^ 256:=by have:=hn.2;simpa using this
  have h4:(2:Int) ^ k<2 ^ 256:=by omega
  have h5:(2:Nat) ^ k<2 ^ 256:=by exact_mod_cast h4
  exact (Nat.pow_lt_pow_iff_right (by decide)).1 h5
 have es:jF n=(k+8)/8:=by rw [jF,e];omega
 refine ⟨by omega,by omega,by rw [es,e];omega,?_,?_⟩
 ·rw [nA];exact Int.le_trans (nB (by omega)) h1
 ·rw [nA];exact Int.lt_of_lt_of_le h2 (nB (by omega))
theorem vF {n:Int} (hn:Num n) (h0:0<n):aI (aK n)=(aK n).drop (32-jF n):=by
 obtain ⟨a,b,_,c,d⟩:=oX hn h0
 refine mf _ _ (fun t ht=>?_) (fun h=>?_) (by rw [aX];omega)
 ·rw [fY n (by omega),Int.ediv_eq_zero_of_lt (by omega) ?_]
  ·rfl
  ·refine Int.lt_of_lt_of_le d ?_
   rw [nA,nA];exact nB (by omega)
 ·rw [fY n (by omega),show 31-(32-jF n)=jF n-1 by omega]
  obtain ⟨m,em⟩:∃ m,jF n=m+1:=⟨jF n-1,by omega⟩
  rw [em] at c d ⊢
  rw [Nat.add_sub_cancel] at c ⊢
  have hp:(0:Int)<256 ^ m:=by rw [nA];exact Int.pow_pos (by decide)
  have q1:1≤n/256 ^ m:=Int.le_ediv_of_mul_le hp (by omega)
  have q2:n/256 ^ m<256:=Int.ediv_lt_of_lt_mul hp (by rw [Int.pow_succ] at d;rw [Int.mul_comm];exact d)
  omega
theorem oY:∀ k:Nat,aI (List.replicate k 0)=[]
 | 0=>rfl
 | k+1=>by rw [List.replicate_succ,aI,if_pos rfl];exact oY k
theorem sG:aI (aK 0)=[]:=by
 have e:aK 0=List.replicate 32 0:=by
  refine Cf (by simp [aX]) fun t ht=>?_
  rw [aX] at ht
  have r:∀ t,(List.replicate 32 (0:Int)).getD t 0=0:=fun t=>by
   rw [List.getD,List.getElem?_replicate]
   split<;>rfl
  rw [fY 0 ht,r,Int.zero_ediv]
  rfl
 rw [e];exact oY 32
theorem vG (W:World) (o:Obj):(W.alloc o).heap[W.heap.size]?=some o:=by
 show (W.heap.push o)[W.heap.size]?=some o
 simp
theorem sH {W:World} {b o:Nat} {X:List Int} (h:Bz W b o X) (j:Nat) (u:Value) (hu:(X.map (Value.int .u8))[j]?=some u):W.cell? ((⟨b,o,none⟩:Addr).add j)=some u:=by
 rw [List.getElem?_map] at hu
 obtain ⟨x,hx,rfl⟩:=Option.map_eq_some_iff.1 hu
 have hj:j<X.length:=(List.getElem?_eq_some_iff.1 hx).1
 rw [Addr.add_mid,h j hj]
 simp [List.getD,hx]
theorem jp {P:Program} {ops:Array Oper} {Q:Exit→Act→World→Prop} {l:List Oper} {a:Act} {w:World} (S:World→Prop) (h:S w) (k:∀ W,S W→wpList P ops Q l a W):wpList P ops Q l a w:=k w h
theorem ym (B:Nat) (W:World) (hB:B≤W.heap.size):cc B (W.alloc (.cells #[] 5)) (.slice (some ⟨W.heap.size,0,none⟩) 0 0) [] :=
 ⟨rfl,.inr ⟨W.heap.size,0,_,rfl,hB,vG _ _,Nat.le_refl _,by unfold maxLen;omega,rfl,rfl⟩⟩
theorem ub (w:World) (a:Addr) (n c:Nat):(binOp .eql 52 (.slice (some a) n c) (.slice none 0 0)).run Tryz.prog w = .ok (.bool false) w:=by kernel_rfl
theorem oZ {b o c:Nat} {X:List Int} (hl:X.length<140737488355000) (w:World) (hz:Bz w b o X) :
  Calls Tryz.prog 93 #[.slice (some ⟨b,o,none⟩) X.length c] w fun e w'=>∃ v,e = .returned v∧cc w.heap.size w' v X∧Below w.heap.size w w':=by
 obtain ⟨i0,hi,hz0,hz1,hz2⟩:=info_parts dE
 have sl:=ub
 have HA:Hid (X.length<140737488355000∧Bz w b o X):=⟨hl,hz⟩
 obtain ⟨n,en⟩:∃ n,n=X.length:=⟨_,rfl⟩
 rw [←en]
 have EN:Hid (X.length=n):=en.symm
 clear en hl hz
 go_enter Tryz.func93,Tryz.ntmps93
 go_wp2_with (at_builtin;go_loud (refine wpList_append_own_at _ rfl _ _ 52 rfl w.heap.size 5 i0 (.int .u8 0) 1 1 Tryz.underlying52 hi hz0 hz1 hz2 rfl (by decide) _ 0 [] rfl (ym _ _ (Nat.le_refl _)).row ⟨b,o,none⟩ n c (X.map (Value.int .u8)) rfl (by rw [List.length_map,EN.out,Nat.mul_one]) (fun j u hu=>sH (HA.out.2.keep ((Below.refl _ _).alloc (Nat.le_refl _) _)) j u hu) (fun u hu=>by obtain ⟨y,_,rfl⟩:=List.mem_map.1 hu;rfl) (by unfold maxLen;have:=HA.out.1;have:=EN.out;omega) (by have:=HA.out.1;have:=EN.out;omega) (by simp) ?_);intro v' w3 hown' hgrow3 hnil3 hblk)
 go_ret
 refine ⟨_,rfl,?_,((Below.refl _ _).alloc (Nat.le_refl _) _).grown hgrow3 (by simp) (fun k hk=>by have e:w.heap.size=k:=Option.some.inj hk;omega)⟩
 rw [cc,EN.out]
 simpa using hown'
theorem vH {b p:Nat} (hp:p<32) (w:World):(Instr.sliceAt 46 (.pointer (some ⟨b,0,none⟩)) (some (.int .i64 (p:Int))) none none).run Tryz.prog w = .ok (.slice (some ⟨b,p,none⟩) (32-p) (32-p)) w:=by
 have tu:=Tryz.underlying46
 have tz:=Tryz.sizeOf5
 have hb:(Instr.sliceBounds false 32 32 (some (.int .i64 (p:Int))) none none).run Tryz.prog w = .ok (p,32,32) w:=by
  have h1:(p:Int)≤32:=by omega
  simp [Instr.sliceBounds,go_sem,h1]
 have hz:(sizeOf 5).run Tryz.prog w = .ok 1 w:=by simp [go_sem,tz]
 simp only [Instr.sliceAt,Instr.sureAddr,Sem.run_bind,Sem.run_pure,Result.andThen_ok,run_underlying tu,hb,hz]
 rw [if_neg (by omega)]
 simp [Addr.add]
 (try omega)
theorem vI {b:Nat} (w:World):(Instr.sliceAt 46 (.pointer (some ⟨b,0,none⟩)) (some (.int .i64 32)) none none).run Tryz.prog w = .ok (.slice (some ⟨b,0,none⟩) 0 0) w:=by
 have tu:=Tryz.underlying46
 have tz:=Tryz.sizeOf5
 have hb:(Instr.sliceBounds false 32 32 (some (.int .i64 32)) none none).run Tryz.prog w = .ok (32,32,32) w:=by
  simp [Instr.sliceBounds,go_sem]
 have hz:(sizeOf 5).run Tryz.prog w = .ok 1 w:=by simp [go_sem,tz]
 simp only [Instr.sliceAt,Instr.sureAddr,Sem.run_bind,Sem.run_pure,Result.andThen_ok,run_underlying tu,hb,hz]
 rfl
theorem vJ {n:Int} (hn:Num n) (h0:0<n) (w:World) :
  Calls Tryz.prog 59 #[U4 n] w fun e w'=>∃ v,e = .returned v∧cc w.heap.size w' v (aI (aK n))∧Below w.heap.size w w':=by
 rw [vF hn h0]
 obtain ⟨s0,s1,s2,_,_⟩:=oX hn h0
 have PU:Hid (∀ w,Rt 38 #[U4 n] w (.agg ((aK n).map (Value.int .u8)).toArray)):=fun w=>km w
 have LE:Hid (∀ w,Rt 92 #[U4 n] w (.int .i64 (iy n))):=fun w=>pE hn w
 have sz:((aK n).map (Value.int .u8)).toArray.size=32:=by simp [aX]
 have oc:=aU (aK n)
 have LD:Hid (((aK n).drop (32-jF n)).length=jF n):=by show _=_;rw [List.length_drop,aX];omega
 generalize jF n=s at *
 generalize iy n=ln at *
 have ln0:0≤ln∧ln≤256:=by omega
 go_enter Tryz.func59,Tryz.ntmps59
 go_wp2_with fail
 refine aa (fun W=>Below w.heap.size w W∧ae W w.heap.size n) ⟨(Below.refl _ _).alloc (Nat.le_refl _) _,ae.new w n _⟩ ?_
 rintro W ⟨B,hX⟩
 refine (PU.out _).mono ?_
 rintro e w1 ⟨rfl,hb⟩
 have S1:Hid (Below w.heap.size w w1∧ae w1 w.heap.size n):=⟨B.trans (hb.mono B.size),hX.keep hb⟩
 clear hb B hX PU W
 have hz:Bts (w1.alloc (.cells #[.int .u8 0,.int .u8 0,.int .u8 0,.int .u8 0,.int .u8 0,.int .u8 0,.int .u8 0,.int .u8 0,.int .u8 0,.int .u8 0,.int .u8 0,.int .u8 0,.int .u8 0,.int .u8 0,.int .u8 0,.int .u8 0,.int .u8 0,.int .u8 0,.int .u8 0,.int .u8 0,.int .u8 0,.int .u8 0,.int .u8 0,.int .u8 0,.int .u8 0,.int .u8 0,.int .u8 0,.int .u8 0,.int .u8 0,.int .u8 0,.int .u8 0,.int .u8 0] 46)) w1.heap.size (List.replicate 32 0):=Bts.new (List.replicate 32 0) _ rfl
 have tr:=hz.there (k:=((aK n).map (Value.int .u8)).toArray.size) (by rw [sz];rfl)
 have T1:Hid (∀ v,Below w.heap.size w ((w1.alloc v).setCells w1.heap.size 0 ((aK n).map (Value.int .u8)))∧ae ((w1.alloc v).setCells w1.heap.size 0 ((aK n).map (Value.int .u8))) w.heap.size n):=fun v=>⟨below_setCells S1.out.1.size _ 0 _ (S1.out.1.alloc S1.out.1.size _),S1.out.2.keep (below_setCells (Nat.le_refl _) _ 0 _ ((Below.refl _ _).alloc (Nat.le_refl _) _))⟩
 go_wp2_with (go_loud (refine wpList_store_mid rfl 46 _ _ rfl w1.heap.size 0 _ rfl rfl tr (by rw [sz];kernel_rfl) oc ?_);refine jp (fun W=>(Below w.heap.size w W∧ae W w.heap.size n)∧Bts W w1.heap.size (aK n)) ⟨T1.out _,kn (by simpa using tr)⟩ ?_;intro W hW;obtain ⟨⟨B,hX0,hX1,hX2,hX3⟩,hB⟩:=hW;have S2:Hid (Below w.heap.size w W∧Bts W w1.heap.size (aK n)):=⟨B,hB⟩;(clear B hB))
 clear T1 tr hz S1
 refine (LE.out _).mono ?_
 rintro e w2 ⟨rfl,hb⟩
 have S3:Hid (Below w.heap.size w w2∧Bts w2 w1.heap.size (aK n)):=⟨S2.out.1.trans (hb.mono S2.out.1.size),S2.out.2.keep (by rw [aX];decide) hb⟩
 clear hb S2 LE hX0 hX1 hX2 hX3 oc sz
 generalize w1.heap.size=bA at *
 have q8:(ln+7)/8=(s:Int):=s2.symm
 obtain ⟨k,ek⟩:∃ k:Nat,k=32-s:=⟨_,rfl⟩
 have e32:(32:Int)-(s:Int)=(k:Int):=by omega
 have hk:k<32:=by omega
 have hk':(k:Int)<32:=by omega
 have hk3:¬k=32:=by omega
 have EK:Hid (32-k=s∧32-s=k):=⟨by omega,by omega⟩
 clear s2 s0 s1 ek ln0
 have sl:=vH (b:=bA) hk
 go_wp2_with fail
 have bz:Bz w2 bA k ((aK n).drop (32-s)):=fun i hi=>by
  rw [LD.out] at hi
  have:=S3.out.2.1 (k+i) (by rw [aX];have:=EK.out;omega)
  rw [this,EK.out.2]
  simp [List.getD,List.getElem?_drop]
 have hc:=oZ (c:=32-k) (by rw [LD.out];have:=EK.out;omega) w2 bz
 rw [LD.out] at hc
 rw [EK.out.1] at hc ⊢
 with_reducible refine hc.mono ?_
 rintro e w3 ⟨v,rfl,O,hb⟩
 have S4:Hid (cc w2.heap.size w3 v ((aK n).drop (32-s))∧Below w.heap.size w w3):=⟨O,S3.out.1.trans (hb.mono S3.out.1.size)⟩
 have l2:w.heap.size≤w2.heap.size:=S3.out.1.size
 clear hc hb O bz S3
 go_wp2
 go_ret
 exact ⟨_,rfl,S4.out.1.base l2,S4.out.2⟩
theorem sI (w:World) :
  Calls Tryz.prog 59 #[.agg #[.int .u64 (l0 0),.int .u64 (l1 0),.int .u64 (l2 0),.int .u64 (l3 0)]] w fun e w'=>∃ v,e = .returned v∧cc w.heap.size w' v (aI (aK 0))∧Below w.heap.size w w':=by
 rw [sG]
 obtain ⟨n,hn0⟩:∃ n:Int,n=0:=⟨_,rfl⟩
 rw [←hn0]
 have PU:Hid (∀ w,Rt 38 #[U4 n] w (.agg ((aK n).map (Value.int .u8)).toArray)):=fun w=>km w
 have LE:Hid (∀ w,Rt 92 #[U4 n] w (.int .i64 0)):=fun w=>by
  have h:=pE (n:=n) (by rw [hn0];exact ⟨by decide,by decide⟩) w
  rw [iy,if_pos hn0] at h
  exact h
 have sz:((aK n).map (Value.int .u8)).toArray.size=32:=by simp [aX]
 have oc:=aU (aK n)
 clear hn0
 go_enter Tryz.func59,Tryz.ntmps59
 go_wp2_with fail
 refine aa (fun W=>Below w.heap.size w W∧ae W w.heap.size n) ⟨(Below.refl _ _).alloc (Nat.le_refl _) _,ae.new w n _⟩ ?_
 rintro W ⟨B,hX⟩
 refine (PU.out _).mono ?_
 rintro e w1 ⟨rfl,hb⟩
 have S1:Hid (Below w.heap.size w w1∧ae w1 w.heap.size n):=⟨B.trans (hb.mono B.size),hX.keep hb⟩
 clear hb B hX PU W
 have hz:Bts (w1.alloc (.cells #[.int .u8 0,.int .u8 0,.int .u8 0,.int .u8 0,.int .u8 0,.int .u8 0,.int .u8 0,.int .u8 0,.int .u8 0,.int .u8 0,.int .u8 0,.int .u8 0,.int .u8 0,.int .u8 0,.int .u8 0,.int .u8 0,.int .u8 0,.int .u8 0,.int .u8 0,.int .u8 0,.int .u8 0,.int .u8 0,.int .u8 0,.int .u8 0,.int .u8 0,.int .u8 0,.int .u8 0,.int .u8 0,.int .u8 0,.int .u8 0,.int .u8 0,.int .u8 0] 46)) w1.heap.size (List.replicate 32 0):=Bts.new (List.replicate 32 0) _ rfl
 have tr:=hz.there (k:=((aK n).map (Value.int .u8)).toArray.size) (by rw [sz];rfl)
 have T1:Hid (∀ v,Below w.heap.size w ((w1.alloc v).setCells w1.heap.size 0 ((aK n).map (Value.int .u8)))∧ae ((w1.alloc v).setCells w1.heap.size 0 ((aK n).map (Value.int .u8))) w.heap.size n):=fun v=>⟨below_setCells S1.out.1.size _ 0 _ (S1.out.1.alloc S1.out.1.size _),S1.out.2.keep (below_setCells (Nat.le_refl _) _ 0 _ ((Below.refl _ _).alloc (Nat.le_refl _) _))⟩
 go_wp2_with (go_loud (refine wpList_store_mid rfl 46 _ _ rfl w1.heap.size 0 _ rfl rfl tr (by rw [sz];kernel_rfl) oc ?_);refine jp (fun W=>(Below w.heap.size w W∧ae W w.heap.size n)∧Bts W w1.heap.size (aK n)) ⟨T1.out _,kn (by simpa using tr)⟩ ?_;intro W hW;obtain ⟨⟨B,hX0,hX1,hX2,hX3⟩,hB⟩:=hW;have S2:Hid (Below w.heap.size w W∧Bts W w1.heap.size (aK n)):=⟨B,hB⟩;(clear B hB))
 clear T1 tr hz S1
 refine (LE.out _).mono ?_
 rintro e w2 ⟨rfl,hb⟩
 have S3:Hid (Below w.heap.size w w2∧Bts w2 w1.heap.size (aK n)):=⟨S2.out.1.trans (hb.mono S2.out.1.size),S2.out.2.keep (by rw [aX];decide) hb⟩
 clear hb S2 LE hX0 hX1 hX2 hX3 oc sz
 generalize w1.heap.size=bA at *
 have sl:=vI (b:=bA)
 go_wp2_with fail
 have bz:Bz w2 bA 0 ([]:List Int):=fun i hi=>absurd hi (Nat.not_lt_zero _)
 have hc:=oZ (X:=[]) (c:=0) (by simp) w2 bz
 rw [List.length_nil] at hc
 with_reducible refine hc.mono ?_
 rintro e w3 ⟨v,rfl,O,hb⟩
 have S4:Hid (cc w2.heap.size w3 v []∧Below w.heap.size w w3):=⟨O,S3.out.1.trans (hb.mono S3.out.1.size)⟩
 have l2:w.heap.size≤w2.heap.size:=S3.out.1.size
 clear hc hb O bz S3
 go_wp2
 go_ret
 exact ⟨_,rfl,S4.out.1.base l2,S4.out.2⟩
theorem vK {n:Int} (hn:Num n) (w:World) :
  Calls Tryz.prog 59 #[U4 n] w fun e w'=>∃ v,e = .returned v∧cc w.heap.size w' v (aI (aK n))∧Below w.heap.size w w':=by
 by_cases h:n=0
 ·rw [h];exact sI w
 ·exact vJ hn (by have:=hn.1;omega) w
open Go.RowKit
def kr (A:List Int):Bool:=decide (A.length=1)&&decide (A.getD 0 0<128)
theorem qW {A:List Int} {ao:Option Addr} {b o c:Nat} (ha:Az ao b o A) (w:World) (h:Bz w b o A) :
  Calls Tryz.prog 120 #[.slice ao A.length c] w fun e w'=>e = .returned (.bool (kr A))∧w'=w:=by
 unfold kr
 by_cases h1:A.length=1
 ·have ea:ao=some ⟨b,o,none⟩:=by
   rcases ha with rfl|e
   ·simp at h1
   ·exact e
  subst ea
  have g:=h 0 (by omega)
  rw [Nat.add_zero] at g
  have e1:decide (A.length=1)=true:=decide_eq_true h1
  rw [e1]
  generalize A.getD 0 0=x at *
  rw [h1]
  clear h1 e1 ha h
  go_enter Tryz.func120,Tryz.ntmps120
  go_wp2
  go_ret
  exact ⟨by simp,rfl⟩
 ·have e1:decide (A.length=1)=false:=decide_eq_false h1
  have h2:¬((A.length:Int)=1):=by omega
  rw [e1]
  generalize A.length=n at *
  clear h1 e1 ha h
  go_enter Tryz.func120,Tryz.ntmps120
  go_wp2
  go_ret
  exact ⟨by simp,rfl⟩
open Go.RowKit Go.Sort
theorem iE {W w1:World} {p:Addr} {v:Value} (hb:Below W.heap.size W w1) (h:W.cell? p=some v):w1.cell? p=some v:=by
 rw [hb.cell (p:=p) (World.block_lt_of_cell? W _ h)];exact h
def Hb (W:World) (b:Nat) (l:Bool) (s h:Int):Prop:=W.cell? ⟨b,0,none⟩=some (.bool l)∧W.cell? ⟨b,1,none⟩=some (.int .i64 s)∧W.cell? ⟨b,2,none⟩=some (.int .i64 h)
theorem Hb.keep {W w1:World} {b:Nat} {l:Bool} {s h:Int} (x:Hb W b l s h) (hb:Below W.heap.size W w1):Hb w1 b l s h:=⟨iE hb x.1,iE hb x.2.1,iE hb x.2.2⟩
def Fr3 (W:World) (b:Nat):Prop:=W.frozen? ⟨b,0,none⟩=false∧W.frozen? ⟨b,1,none⟩=false∧W.frozen? ⟨b,2,none⟩=false
theorem Fr3.keep {W w1:World} {b:Nat} (x:Fr3 W b) (hlt:b<W.heap.size) (hb:Below W.heap.size W w1):Fr3 w1 b:=⟨by rw [hb.frozen (p:=⟨b,0,none⟩) hlt];exact x.1,by rw [hb.frozen (p:=⟨b,1,none⟩) hlt];exact x.2.1,by rw [hb.frozen (p:=⟨b,2,none⟩) hlt];exact x.2.2⟩
open Go.RowKit Go.Sort
theorem Hb.new {W:World} {t:TypeId} {l:Bool} {s h:Int}:Hb (W.alloc (.cells #[.bool l,.int .i64 s,.int .i64 h] t)) W.heap.size l s h:=⟨by simp [go_sem],by simp [go_sem],by simp [go_sem]⟩
theorem Fr3.new {W:World} {t:TypeId} {l:Bool} {s h:Int}:Fr3 (W.alloc (.cells #[.bool l,.int .i64 s,.int .i64 h] t)) W.heap.size:=⟨by simp [go_sem],by simp [go_sem],by simp [go_sem]⟩
theorem Hb.size {W:World} {b:Nat} {l:Bool} {s h:Int} (x:Hb W b l s h) (y:Int):Hb (W.setCell ⟨b,1,none⟩ (.int .i64 y)) b l y h:=⟨by simp [go_sem,x.1],by simp [go_sem,x.2.1],by simp [go_sem,x.2.2]⟩
theorem Hb.held {W:World} {b:Nat} {l:Bool} {s h:Int} (x:Hb W b l s h) (y:Int):Hb (W.setCell ⟨b,2,none⟩ (.int .i64 y)) b l s y:=⟨by simp [go_sem,x.1],by simp [go_sem,x.2.1],by simp [go_sem,x.2.2]⟩
theorem Hb.other {W:World} {b b' i:Nat} {l:Bool} {s h:Int} (x:Hb W b l s h) (ne:b'≠b) (v:Value):Hb (W.setCell ⟨b',i,none⟩ v) b l s h:=by
 have hg:=heap_setCell_other W ⟨b',i,none⟩ b v (fun e=>ne e.symm)
 refine ⟨?_,?_,?_⟩
 ·rw [←x.1];simp only [World.cell?,hg]
 ·rw [←x.2.1];simp only [World.cell?,hg]
 ·rw [←x.2.2];simp only [World.cell?,hg]
theorem Fr3.set {W:World} {b:Nat} (x:Fr3 W b) (p:Addr) (v:Value):Fr3 (W.setCell p v) b:=⟨by rw [World.frozen?_setCell];exact x.1,by rw [World.frozen?_setCell];exact x.2.1,by rw [World.frozen?_setCell];exact x.2.2⟩
theorem Hb.lt {W:World} {b:Nat} {l:Bool} {s h:Int} (x:Hb W b l s h):b<W.heap.size:=World.block_lt_of_cell? W _ x.1
open Go.RowKit Go.Sort
theorem Aw (w:World) (n c:Nat):(binOp .eql 52 (.slice none n c) (.slice none 0 0)).run Tryz.prog w = .ok (.bool true) w:=by kernel_rfl
theorem sJ (n c:Nat) (w:World):Calls Tryz.prog 60 #[.slice none n c] w fun e w'=>e = .returned (.slice none 0 0)∧w'=w:=by
 have h:=Aw
 go_enter Tryz.func60,Tryz.ntmps60
 go_wp2
 simp [bodyPost,results,Tryz.results60,go_sem]
open Go.RowKit Go.Sort
theorem an {P:Program} {md:Region.Mode} {ops:Array Oper} {Q:Exit→Act→World→Prop} {S:World→Prop} {i:Nat} {oi:Oper} {v:Value} {fuel:Nat} {listed:Array Bool} {a:Act} {w:World} (d:Nat) (hi:ops[i]?=some oi) (hd:oi.dst=some d)
  (hs:Region.noSelect ops=true) (hf:Region.free md ops listed i=true) (hr:(Region.ready md ops listed).contains i=true)
  (hQ:∀ c a w,Q (.panic c) (a.put oi.dst v) w→Q (.panic c) a w) (hy:YieldsIf P ops S oi v a) (hS:S w)
  (h:wpAnyH P md ops Q S fuel (listed.setIfInBounds i true) (a.put (some d) v) w):wpAnyH P md ops Q S (fuel+1) listed a w :=
 wpAnyH_take hi hs hf hr hQ hy hS (by rw [hd];exact h)
end Go.Proofs.YtjoandmehahfgaaGreatDoor
