import Derived.Test.YtjoandmehahfgaaGreatDoorUbA
import Derived.Test.YtjoandmehahfgaaGreatDoorShelf
import Derived.Deep.OwnRows
import Derived.Laws.CopyOwn
import Derived.Test.YtjoandmehahfgaaGreatDoorAb
import Derived.Test.YtjoandmehahfgaaGreatDoorTail
import Derived.Laws.OwnMore
import Derived.Test.YtjoandmehahfgaaGreatDoorMul2
import Derived.Test.YtjoandmehahfgaaGreatDoorRefNum
import Derived.Test.YtjoandmehahfgaaGreatDoorAdd
import Derived.Deep.MidRow
import Derived.Lib.LazyBuf
import Derived.Test.YtjoandmehahfgaaGreatDoorRoomy
import Derived.Test.YtjoandmehahfgaaGreatDoorGet
import Derived.Test.YtjoandmehahfgaaGreatDoorLen
import Derived.Test.YtjoandmehahfgaaGreatDoorMulNum
import Derived.ArgAppend
set_option maxRecDepth 100000
set_option maxHeartbeats 8000000
namespace Go.Proofs.YtjoandmehahfgaaGreatDoor
open Go.RowKit Go.Sort
def beN (n:Nat):List Int:=if n<256 then [(n:Int)] else if n<65536 then [(n:Int)/256,(n:Int)%256] else [(n:Int)/65536,(n:Int)/256%256,(n:Int)%256]
def hdR (f:Int) (n:Nat):List Int:=if n≤55 then [f+n] else (f+55+(beN n).length) :: beN n
theorem kw (n:Nat):1≤(beN n).length∧(beN n).length≤3:=by
 unfold beN
 split
 ·exact ⟨Nat.le_refl 1,by show 1≤3;decide⟩
 ·split
  ·exact ⟨by show 1≤2;decide,by show 2≤3;decide⟩
  ·exact ⟨by show 1≤3;decide,Nat.le_refl 3⟩
theorem mG (f:Int) (n:Nat):(hdR f n).length≤4:=by
 unfold hdR
 have:=kw n
 split
 ·exact (by decide:1≤4)
 ·rw [List.length_cons];omega
theorem ue {n k:Nat} (h:n<2 ^ k) (hk:k≤64):Lib.bitLen n≤k:=Lib.bitLen_le n k hk h
theorem yt {n k:Nat} (h:2 ^ k≤n) (hn:n<2 ^ 64):k<Lib.bitLen n:=by
 have h0:n≠0:=by have:=Nat.one_le_two_pow (n:=k);omega
 have:=(Lib.bitLenAux_bounds 64 n hn h0).2.2
 have e:n<2 ^ Lib.bitLen n:=this
 exact (Nat.pow_lt_pow_iff_right (by decide:1<2)).1 (Nat.lt_of_le_of_lt h e)
theorem DL {n:Nat} (h0:0<n) (h1:n<16777216):(Lib.bitLen n+7)/8=(beN n).length:=by
 unfold beN
 have a0:=yt (k:=0) (n:=n) (by rw [Nat.pow_zero];exact h0) (by omega)
 by_cases k1:n<256
 ·rw [if_pos k1]
  have a1:=ue (k:=8) (n:=n) (by simpa using k1) (by decide)
  show _=1
  omega
 ·rw [if_neg k1]
  have a1:=yt (k:=8) (n:=n) (by simp;omega) (by omega)
  by_cases k2:n<65536
  ·rw [if_pos k2]
   have a2:=ue (k:=16) (n:=n) (by simpa using k2) (by decide)
   show _=2
   omega
  ·rw [if_neg k2]
   have a2:=yt (k:=16) (n:=n) (by simp;omega) (by omega)
   have a3:=ue (k:=24) (n:=n) (by simpa using h1) (by decide)
   show _=3
   omega
theorem fg {n:Nat} (h0:0<n) (h1:n<16777216) (w:World) :
  Calls Tryz.prog 132 #[.int .i64 (n:Int)] w fun e w'=>e = .returned (.int .i64 ((beN n).length:Int))∧w'=w:=by
 have c:=Tryz.bits_Len (n:Int)
 have e:=DL h0 h1
 have hb:=ue (k:=24) (n:=n) (by simpa using h1) (by decide)
 have e2:((Lib.bitLen n:Int)+7).tdiv 8=((beN n).length:Int):=by
  rw [Int.tdiv_eq_ediv_of_nonneg (by omega)];omega
 have e3:((Lib.bitLen n:Int)+7)/8=((beN n).length:Int):=by omega
 have c2:∀ w,Calls Tryz.prog 141 #[.int .u64 (n:Int)] w fun e w'=>e = .returned (.int .i64 (Lib.bitLen n:Int))∧w'=w:=fun w=>by
  have:=c w (by omega) (by omega)
  rwa [Int.toNat_natCast] at this
 have hn1:(n:Int)<16777216:=by omega
 have hb':(Lib.bitLen n:Int)≤24:=by omega
 clear e c hb
 generalize Lib.bitLen n=bl at *
 generalize (beN n).length=r at *
 go_enter Tryz.func132,Tryz.ntmps132
 go_wp2_with ((with_reducible refine (c2 _).mono ?_);rintro e1 w1 ⟨rfl,hw⟩;(rw [hw]);(clear hw w1))
 simp [bodyPost,results,Tryz.results132,go_sem]
 all_goals first|exact e3|exact e2|omega
theorem kx {n:Nat} (h1:n<16777216) (w:World) :
  Calls Tryz.prog 118 #[.int .i64 (n:Int)] w fun e w'=>e = .returned (.int .i64 ((hdR 192 n).length:Int))∧w'=w:=by
 by_cases k:n≤55
 ·have hk:(n:Int)≤55:=by omega
  have e:(hdR 192 n).length=1:=by unfold hdR;rw [if_pos k];rfl
  rw [e]
  go_enter Tryz.func118,Tryz.ntmps118
  go_wp2
  simp [bodyPost,results,Tryz.results118,go_sem]
 ·have hk:¬((n:Int)≤55):=by omega
  have c:=fg (n:=n) (by omega) h1
  have e:(hdR 192 n).length=(beN n).length+1:=by unfold hdR;rw [if_neg k];rfl
  have hl:=(kw n).2
  have hl':((beN n).length:Int)≤3:=by omega
  rw [e]
  generalize (beN n).length=r at *
  clear e hl
  go_enter Tryz.func118,Tryz.ntmps118
  go_wp2_with ((with_reducible refine (c _).mono ?_);rintro e1 w1 ⟨rfl,hw⟩;(rw [hw]);(clear hw w1))
  simp [bodyPost,results,Tryz.results118,go_sem]
  omega
open Go.RowKit Go.Sort
theorem BM (n:Nat):((beN n).length=1∧(beN n).getD 0 0=n∧n<256)∨((beN n).length=2∧(beN n).getD 0 0=(n:Int)/256∧(beN n).getD 1 0=(n:Int)%256∧n<65536)∨((beN n).length=3∧(beN n).getD 0 0=(n:Int)/65536∧(beN n).getD 1 0=(n:Int)/256%256∧(beN n).getD 2 0=(n:Int)%256):=by
 unfold beN
 by_cases k1:n<256
 ·rw [if_pos k1];exact .inl ⟨rfl,rfl,k1⟩
 ·rw [if_neg k1]
  by_cases k2:n<65536
  ·rw [if_pos k2];exact .inr (.inl ⟨rfl,rfl,rfl,k2⟩)
  ·rw [if_neg k2];exact .inr (.inr ⟨rfl,rfl,rfl,rfl⟩)
open Go.RowKit Go.Sort
inductive Tr where
 | mk (l:Bool) (X:List Int) (ts:List Tr)
namespace Tr
def l:Tr→Bool | .mk l _ _=>l
def X:Tr→List Int | .mk _ X _=>X
def ts:Tr→List Tr | .mk _ _ ts=>ts
end Tr
def zT:Tr:=.mk false [] []
theorem Tr.ind {P:Tr→Prop} (h:∀ l X ts,(∀ t∈ts,P t)→P (.mk l X ts)):∀ t,P t :=
 Tr.rec (motive_1:=P) (motive_2:=fun ts=>∀ t∈ts,P t) (fun l X ts ih=>h l X ts ih) (fun _ ht=>by cases ht)
  (fun t ts h1 h2 u hu=>by
   rcases List.mem_cons.1 hu with rfl|hu
   ·exact h1
   ·exact h2 u hu)
mutual
def It (W:World):Tr→Value→Value→Prop
 | .mk _ X ts,d,q=>(∃ a b o c,d = .slice a X.length c∧(X.length≤c∧(a=none→c=0))∧Az a b o X∧Bz W b o X)∧∃ a b o c,q = .slice a ts.length c∧(ts.length≤c∧(a=none→c=0))∧(ts=[]∨a=some ⟨b,o,none⟩)∧Its W b o ts
def Its (W:World) (b:Nat):Nat→List Tr→Prop
 | _,[]=>True
 | o,t :: ts=>(∃ d q,W.rangeAt b o [.bool t.l,d,q]∧It W t d q)∧Its W b (o+3) ts
end
theorem fC {W W':World} {b o:Nat} {cs:List Value} (h:W.rangeAt b o cs) (hb:Below W.heap.size W W'):W'.rangeAt b o cs:=fun j v hv=>by
 rw [hb.cell (World.block_lt_of_cell? W _ (h j v hv))];exact h j v hv
theorem Its.at {W:World} {b:Nat}:∀ {o:Nat} {ts:List Tr} (_:Its W b o ts) (i:Nat),i<ts.length→∃ d q,W.rangeAt b (o+i*3) [.bool (ts.getD i zT).l,d,q]∧It W (ts.getD i zT) d q
 | _,[],_,i,hi=>absurd hi (Nat.not_lt_zero _)
 | o,t :: ts,h,0,_=>by
  rw [Its] at h
  obtain ⟨d,q,h1,h2⟩:=h.1
  exact ⟨d,q,by simpa using h1,h2⟩
 | o,t :: ts,h,i+1,hi=>by
  rw [Its] at h
  obtain ⟨d,q,h1,h2⟩:=Its.at h.2 i (by simpa using hi)
  refine ⟨d,q,?_,by simpa using h2⟩
  rw [show o+(i+1)*3=o+3+i*3 by omega]
  simpa using h1
theorem Its.of {W:World} {b:Nat}:∀ {o:Nat} {ts:List Tr} (_:∀ i,i<ts.length→∃ d q,W.rangeAt b (o+i*3) [.bool (ts.getD i zT).l,d,q]∧It W (ts.getD i zT) d q),Its W b o ts
 | _,[],_=>by rw [Its];trivial
 | o,t :: ts,h=>by
  rw [Its]
  refine ⟨?_,Its.of fun i hi=>?_⟩
  ·obtain ⟨d,q,h1,h2⟩:=h 0 (by simp)
   exact ⟨d,q,by simpa using h1,by simpa using h2⟩
  ·obtain ⟨d,q,h1,h2⟩:=h (i+1) (by simpa using hi)
   refine ⟨d,q,?_,by simpa using h2⟩
   rw [show o+3+i*3=o+(i+1)*3 by omega]
   simpa using h1
theorem It.keep {W W':World} (hb:Below W.heap.size W W'):∀ (t:Tr) {d q:Value},It W t d q→It W' t d q :=
 Tr.ind fun l X ts ih d q h=>by
  rw [It] at h ⊢
  obtain ⟨⟨a,b,o,c,h1,h2,h3,h4⟩,a',b',o',c',k1,k2,k3,k4⟩:=h
  refine ⟨⟨a,b,o,c,h1,h2,h3,h4.keep hb⟩,a',b',o',c',k1,k2,k3,Its.of fun i hi=>?_⟩
  obtain ⟨d,q,e1,e2⟩:=k4.at i hi
  refine ⟨d,q,fC e1 hb,ih _ ?_ e2⟩
  rw [List.getD,List.getElem?_eq_getElem hi];exact List.getElem_mem hi
def pR (l:Bool) (X:List Int) (ts:List Tr):Bool:=if l then decide (0<X.length) else decide (0<ts.length)
mutual
def g9:Tr→Bool
 | .mk l X ts=>pR l X ts||dA ts
def dA:List Tr→Bool
 | []=>false
 | t :: ts=>g9 t||dA ts
end
mutual
def dpT:Tr→Nat
 | .mk l _ ts=>if l then dpS ts+1 else 0
def dpS:List Tr→Nat
 | []=>0
 | t :: ts=>max (dpT t) (dpS ts)
end
def cV (X:List Int):List Int:=if kr X then X else hdR 128 X.length++X
mutual
def bT:Tr→List Int
 | .mk l X ts=>if l then hdR 192 (aM ts).length++aM ts else cV X
def aM:List Tr→List Int
 | []=>[]
 | t :: ts=>bT t++aM ts
end
mutual
def wtT:Tr→Nat
 | .mk _ X ts=>1+X.length+wtS ts
def wtS:List Tr→Nat
 | []=>0
 | t :: ts=>wtT t+wtS ts
end
theorem lw:∀ (ts:List Tr) (t:Tr),dA (ts++[t])=(dA ts||g9 t)
 | [],t=>by simp [dA]
 | u :: ts,t=>by rw [List.cons_append,dA,dA,lw ts t,Bool.or_assoc]
theorem q9:∀ (ts:List Tr) (t:Tr),dpS (ts++[t])=max (dpS ts) (dpT t)
 | [],t=>by simp [dpS]
 | u :: ts,t=>by rw [List.cons_append,dpS,dpS,q9 ts t];omega
theorem nK:∀ (ts us:List Tr),aM (ts++us)=aM ts++aM us
 | [],_=>by simp [aM]
 | u :: ts,us=>by rw [List.cons_append,aM,aM,nK ts us,List.append_assoc]
theorem pS:∀ (ts us:List Tr),wtS (ts++us)=wtS ts+wtS us
 | [],_=>by simp [wtS]
 | u :: ts,us=>by rw [List.cons_append,wtS,wtS,pS ts us];omega
theorem da {ts:List Tr} {i:Nat} (h:i<ts.length):ts.take (i+1)=ts.take i++[ts.getD i zT]:=by
 rw [List.take_add_one,List.getD,List.getElem?_eq_getElem h];rfl
theorem iG {ts:List Tr} {i:Nat} (h:i<ts.length):ts.getD i zT∈ts:=by
 rw [List.getD,List.getElem?_eq_getElem h];exact List.getElem_mem h
theorem pT {ts:List Tr} {i:Nat} (h:i<ts.length):wtS (ts.take i)+wtT (ts.getD i zT)≤wtS ts:=by
 have e:ts.take (i+1)++ts.drop (i+1)=ts:=List.take_append_drop _ _
 have:=pS (ts.take (i+1)) (ts.drop (i+1))
 rw [e,da h,pS,wtS,wtS] at this
 omega
theorem yu (X:List Int):(cV X).length≤4+X.length:=by
 unfold cV
 split
 ·omega
 ·have:=mG 128 X.length
  rw [List.length_append];omega
mutual
theorem iH:∀ t:Tr,(bT t).length≤4*wtT t
 | .mk l X ts=>by
  rw [bT,wtT]
  have h:=gi ts
  have k:=yu X
  split
  ·have:=mG 192 (aM ts).length
   rw [List.length_append];omega
  ·omega
theorem gi:∀ ts:List Tr,(aM ts).length≤4*wtS ts
 | []=>by rw [aM,wtS];exact Nat.le_refl _
 | t :: ts=>by
  rw [aM,wtS,List.length_append]
  have:=iH t
  have:=gi ts
  omega
end
mutual
theorem Cv:∀ t:Tr,dpT t≤wtT t
 | .mk l X ts=>by
  rw [dpT,wtT]
  have h:=sO ts
  split<;>omega
theorem sO:∀ ts:List Tr,dpS ts≤wtS ts
 | []=>by rw [dpS,wtS];exact Nat.le_refl _
 | t :: ts=>by
  rw [dpS,wtS]
  have:=Cv t
  have:=sO ts
  omega
end
open Go.RowKit Go.Sort
theorem yv (f g:Int) (n:Nat):(hdR f n).length=(hdR g n).length:=by
 unfold hdR;split<;>rfl
def itV (t:Tr) (d q:Value):Value:=.agg #[.bool t.l,d,q]
theorem lB {l:Bool} {X:List Int} {ts:List Tr} {a1 a2:Option Addr} {c1 c2:Nat} (w:World) :
  Rt 116 #[.agg #[.bool l,.slice a1 X.length c1,.slice a2 ts.length c2]] w (.bool (pR l X ts)):=by
 unfold pR
 generalize X.length=n at *
 generalize ts.length=m at *
 cases l
 ·go_enter Tryz.func116,Tryz.ntmps116
  go_wp2
  go_ret
  exact ⟨by simp,(Below.refl _ _).alloc (Nat.le_refl _) _⟩
 ·go_enter Tryz.func116,Tryz.ntmps116
  go_wp2
  go_ret
  exact ⟨by simp,(Below.refl _ _).alloc (Nat.le_refl _) _⟩
theorem pU {X:List Int} {a:Option Addr} {b o c:Nat} (hX:X.length<16777216) (ha:Az a b o X) (w:World) (h:Bz w b o X) :
  Calls Tryz.prog 117 #[.slice a X.length c] w fun e w'=>e = .returned (.int .i64 ((cV X).length:Int))∧w'=w:=by
 have c1:=qW (c:=c) ha w h
 have c2:=kx hX w
 have e1:(cV X).length=if kr X then 1 else (hdR 192 X.length).length+X.length:=by
  unfold cV
  split
  ·next hb =>
   unfold kr at hb
   simp at hb
   exact hb.1
  ·rw [List.length_append,yv 128 192]
 have hl:=mG 192 X.length
 rw [e1]
 have HL:Hid (X.length<16777216∧(hdR 192 X.length).length≤4):=⟨hX,hl⟩
 clear ha h e1 hl hX
 generalize (hdR 192 X.length).length=r at *
 generalize kr X=B at *
 generalize X.length=n at *
 cases B
 ·go_enter Tryz.func117,Tryz.ntmps117
  go_wp2_with (first
   | ((with_reducible refine c1.mono ?_);rintro e1 w1 ⟨rfl,hw⟩;(rw [hw]);(clear hw w1))
   | ((with_reducible refine c2.mono ?_);rintro e1 w1 ⟨rfl,hw⟩;(rw [hw]);(clear hw w1)))
  simp [bodyPost,results,Tryz.results117,go_sem]
  have:=HL.out
  unfold wrap64;omega
 ·go_enter Tryz.func117,Tryz.ntmps117
  go_wp2_with (first
   | ((with_reducible refine c1.mono ?_);rintro e1 w1 ⟨rfl,hw⟩;(rw [hw]);(clear hw w1)))
  simp [bodyPost,results,Tryz.results117,go_sem]
def mV (t:Tr):Value:=if g9 t then .agg #[.bool true,.int .i64 0,.int .i64 0] else .agg #[.bool false,.int .i64 (dpT t),.int .i64 (bT t).length]
theorem pV:∀ ts:List Tr,ts.length≤wtS ts
 | []=>Nat.zero_le _
 | .mk l X us :: ts=>by
  have:=pV ts
  rw [wtS,wtT,List.length_cons];omega
def Bx (W:World) (b:Nat) (l:Bool) (d q:Value):Prop:=W.cell? ⟨b,0,none⟩=some (.bool l)∧W.cell? ⟨b,1,none⟩=some d∧W.cell? ⟨b,2,none⟩=some q
theorem Bx.keep {W w1:World} {b:Nat} {l:Bool} {d q:Value} (x:Bx W b l d q) (hb:Below W.heap.size W w1):Bx w1 b l d q:=⟨iE hb x.1,iE hb x.2.1,iE hb x.2.2⟩
theorem pW {l:Bool} {X:List Int} {ts:List Tr} {a1 a2:Option Addr} {c1 c2:Nat} (h:pR l X ts=true) (w:World) :
  Rt 88 #[.agg #[.bool l,.slice a1 X.length c1,.slice a2 ts.length c2]] w (.agg #[.bool true,.int .i64 0,.int .i64 0]):=by
 have C:=fun w=>lB (l:=l) (X:=X) (ts:=ts) (a1:=a1) (a2:=a2) (c1:=c1) (c2:=c2) w
 rw [h] at C
 clear h
 generalize X.length=n at *
 generalize ts.length=m at *
 go_enter Tryz.func88,Tryz.ntmps88
 refine wp_seq_k fun K h=>?_
 have H:Hid _:=h
 clear h
 go_wp2_with fail
 refine H.out _ _ ?_
 clear H K
 refine ah (fun W=>Below w.heap.size w W∧Bx W w.heap.size l (.slice a1 n c1) (.slice a2 m c2)∧Hb W (w.heap.size+1) false 0 0∧Fr3 W (w.heap.size+1)) ⟨((Below.refl _ _).alloc (Nat.le_refl _) _).alloc (by simp) _,⟨by simp [go_sem],by simp [go_sem],by simp [go_sem]⟩,⟨by simp [go_sem],by simp [go_sem],by simp [go_sem]⟩,⟨by simp [go_sem],by simp [go_sem],by simp [go_sem]⟩⟩ ?_
 rintro W ⟨B,hX,hR,hF⟩
 have hX':=hX
 obtain ⟨x0,x1,x2⟩:=hX'
 go_wp2_with ((with_reducible refine (C _).mono ?_);rintro e1 w1 ⟨rfl,hw⟩;(have B1:=B.trans (hw.mono B.size));(obtain ⟨r0,r1,r2⟩:=hR.keep hw);(obtain ⟨z0,z1,z2⟩:=hF.keep hR.lt hw);(clear x0 x1 x2 hX))
 simp [bodyPost,results,Tryz.results88,go_sem,r0,r1,r2]
 exact ((B1.setCell (by show w.heap.size≤w.heap.size+1;omega) _).setCell (by show w.heap.size≤w.heap.size+1;omega) _).setCell (by show w.heap.size≤w.heap.size+1;omega) _
theorem oE {X:List Int} {ts:List Tr} {a1 a2:Option Addr} {b o c1 c2:Nat} (h:pR false X ts=false) (hn:X.length<16777216) (ha:Az a1 b o X) (w:World) (hb:Bz w b o X) :
  Rt 88 #[.agg #[.bool false,.slice a1 X.length c1,.slice a2 ts.length c2]] w (.agg #[.bool false,.int .i64 0,.int .i64 (cV X).length]):=by
 have C:=fun w=>lB (l:=false) (X:=X) (ts:=ts) (a1:=a1) (a2:=a2) (c1:=c1) (c2:=c2) w
 rw [h] at C
 have D:Hid (∀ W,Below w.heap.size w W→Calls Tryz.prog 117 #[.slice a1 X.length c1] W fun e w'=>e = .returned (.int .i64 ((cV X).length:Int))∧w'=W):=fun W B=>pU (c:=c1) hn ha W (hb.keep B)
 clear h hn ha hb
 generalize (cV X).length=r at *
 generalize X.length=n at *
 generalize ts.length=m at *
 go_enter Tryz.func88,Tryz.ntmps88
 refine wp_seq_k fun K h=>?_
 have H:Hid _:=h
 clear h
 go_wp2_with fail
 refine H.out _ _ ?_
 clear H K
 refine ah (fun W=>Below w.heap.size w W∧Bx W w.heap.size false (.slice a1 n c1) (.slice a2 m c2)∧Hb W (w.heap.size+1) false 0 0∧Fr3 W (w.heap.size+1)) ⟨((Below.refl _ _).alloc (Nat.le_refl _) _).alloc (by simp) _,⟨by simp [go_sem],by simp [go_sem],by simp [go_sem]⟩,⟨by simp [go_sem],by simp [go_sem],by simp [go_sem]⟩,⟨by simp [go_sem],by simp [go_sem],by simp [go_sem]⟩⟩ ?_
 rintro W ⟨B,hX,hR,hF⟩
 have hX':=hX
 obtain ⟨x0,x1,x2⟩:=hX'
 go_wp2_with (first
  | ((with_reducible refine (C _).mono ?_);rintro e1 w1 ⟨rfl,hw⟩;(have B1:=B.trans (hw.mono B.size));(obtain ⟨r0,r1,r2⟩:=hR.keep hw);(obtain ⟨z0,z1,z2⟩:=hF.keep hR.lt hw);(replace x0:=iE hw x0);(replace x1:=iE hw x1);(clear x2 hX))
  | ((with_reducible refine (D.out _ B1).mono ?_);rintro e1 w2 ⟨rfl,rfl⟩))
 simp [bodyPost,results,Tryz.results88,go_sem,r0,r1,r2]
 exact ((B1.setCell (by show w.heap.size≤w.heap.size+1;omega) _).setCell (by show w.heap.size≤w.heap.size+1;omega) _).setCell (by show w.heap.size≤w.heap.size+1;omega) _
open Go.RowKit Go.Sort
theorem nM:∀ (ts us:List Tr),dA (ts++us)=(dA ts||dA us)
 | [],us=>by simp [dA]
 | t :: ts,us=>by rw [List.cons_append,dA,dA,nM ts us,Bool.or_assoc]
theorem vT {ts:List Tr} {k:Nat} (h:dA (ts.take k)=true):dA ts=true:=by
 have:=nM (ts.take k) (ts.drop k)
 rw [List.take_append_drop,h] at this
 simpa using this
theorem mH:(Tryz.prog.info? 69).map (·.size)=some 3:=by kernel_rfl
theorem oF {X:List Int} {ts:List Tr} {a1 a2:Option Addr} {b o c1 c2:Nat} (h:pR true X ts=false) (hn:wtS ts<4194304) (hc:ts.length≤c2) (ha:ts=[]∨a2=some ⟨b,o,none⟩) (w:World) (hI:Its w b o ts)
    (ih:∀ t∈ts,∀ {d q:Value} (_:wtT t<4194304) (w:World) (_:It w t d q),Rt 88 #[itV t d q] w (mV t)) :
    Rt 88 #[.agg #[.bool true,.slice a1 X.length c1,.slice a2 ts.length c2]] w (if dA ts then .agg #[.bool true,.int .i64 0,.int .i64 0] else .agg #[.bool false,.int .i64 (dpS ts+1:Nat),.int .i64 ((hdR 192 (aM ts).length).length+(aM ts).length:Nat)]):=by
  have C:=fun w=>lB (l:=true) (X:=X) (ts:=ts) (a1:=a1) (a2:=a2) (c1:=c1) (c2:=c2) w
  rw [h] at C
  have HI:Hid (∀ W,Below w.heap.size w W→Its W b o ts):=fun W B=>Its.of fun i hi=>by
    obtain ⟨d,q,e1,e2⟩:=hI.at i hi
    exact ⟨d,q,fC e1 B,It.keep B _ e2⟩
  have HN:Hid (wtS ts<4194304∧ts.length≤c2∧(ts=[]∨a2=some ⟨b,o,none⟩)):=⟨hn,hc,ha⟩
  have IH:Hid (∀ t∈ts,∀ {d q:Value} (_:wtT t<4194304) (w:World) (_:It w t d q),Rt 88 #[itV t d q] w (mV t)):=ih
  have hl:(ts.length:Int)≤4194304:=by have:=pV ts;omega
  clear h hn ha hI ih hc
  obtain ⟨Z,hZ⟩:∃ Z:Value,(if dA ts then .agg #[.bool true,.int .i64 0,.int .i64 0] else .agg #[.bool false,.int .i64 (dpS ts+1:Nat),.int .i64 ((hdR 192 (aM ts).length).length+(aM ts).length:Nat)])=Z:=⟨_,rfl⟩
  rw [hZ]
  have HZ:Hid _:=hZ
  clear hZ
  generalize X.length=n at *
  go_enter Tryz.func88,Tryz.ntmps88
  refine wp_seq_k fun K h=>?_
  have H:Hid _:=h
  clear h
  go_wp2_with fail
  refine H.out _ _ ?_
  clear H K
  refine ah (fun W=>Below w.heap.size w W∧Bx W w.heap.size true (.slice a1 n c1) (.slice a2 ts.length c2)∧Hb W (w.heap.size+1) false 0 0∧Fr3 W (w.heap.size+1)) ⟨((Below.refl _ _).alloc (Nat.le_refl _) _).alloc (by simp) _,⟨by simp [go_sem],by simp [go_sem],by simp [go_sem]⟩,⟨by simp [go_sem],by simp [go_sem],by simp [go_sem]⟩,⟨by simp [go_sem],by simp [go_sem],by simp [go_sem]⟩⟩ ?_
  rintro W ⟨B,hX,hR,hF⟩
  obtain ⟨x0,x1,x2⟩:=hX
  refine wp_seq_k fun K h=>?_
  have H:Hid _:=h
  clear h
  go_wp2_with ((with_reducible refine (C _).mono ?_);rintro e1 w1 ⟨rfl,hw⟩;(replace B:=B.trans (hw.mono B.size));(replace hF:=hF.keep hR.lt hw);(replace hR:=hR.keep hw);(replace x0:=iE hw x0);(replace x2:=iE hw x2);(clear x1))
  refine H.out _ _ ?_
  clear H K C hw
  refine wp_seq_k fun K h=>?_
  have H:Hid _:=h
  clear h
  go_wp2_with fail
  refine H.out _ _ ?_
  clear H K x0
  refine wp_seq_k fun K h=>?_
  have H:Hid _:=h
  clear h
  go_wp2_with fail
  refine H.out _ _ ?_
  clear H K
  refine ah (fun V=>Below w.heap.size w V∧Hb V (w.heap.size+1) false 0 0∧Fr3 V (w.heap.size+1)∧Hb V w1.heap.size false 0 0∧Fr3 V w1.heap.size∧w.heap.size+1<w1.heap.size∧V.cell? ⟨w.heap.size,2,none⟩=some (.slice a2 ts.length c2)) ⟨B.alloc B.size _,hR.keep ((Below.refl _ _).alloc (Nat.le_refl _) _),hF.keep hR.lt ((Below.refl _ _).alloc (Nat.le_refl _) _),Hb.new,Fr3.new,hR.lt,iE ((Below.refl _ _).alloc (Nat.le_refl _) _) x2⟩ ?_
  clear B hR hF x2
  generalize w1.heap.size=s
  clear w1 W
  rintro V ⟨B,hR,hF,hS,hG,hs,x2⟩
  have hs':s≠w.heap.size+1:=by omega
  go_wp2_with fail
  go_loopg [20] ts.length (fun k iv wr=>∃ i:Nat,k=ts.length-i∧i≤ts.length∧iv = .int .i64 (i:Int)∧dA (ts.take i)=false∧Below w.heap.size w wr∧Hb wr (w.heap.size+1) false 0 0∧Fr3 wr (w.heap.size+1)∧Hb wr s false (dpS (ts.take i)) (aM (ts.take i)).length∧Fr3 wr s)
  case atStart=>exact ⟨0,rfl,Nat.zero_le _,rfl,by simp [dA],B,hR,hF,by simpa [dpS,aM] using hS,hG⟩
  case round =>
    clear B hR hF hS hG x2 V
    obtain ⟨i,hk,hi,rfl,hO,B,hR,hF,hS,hG⟩:=hrel
    have HK:Hid (gk=ts.length-i∧i≤ts.length):=⟨hk,hi⟩
    clear hk
    by_cases h8:i=ts.length
    · subst h8
      rw [List.take_length] at hO hS
      have hE:=gi ts
      have hD:=sO ts
      have h4:=mG 192 (aM ts).length
      have HS:Hid (∀ w,Rt 118 #[.int .i64 ((aM ts).length:Int)] w (.int .i64 ((hdR 192 (aM ts).length).length:Int))):=fun w=>(kx (by have:=HN.out.1;omega) w).mono fun e w' h=>⟨h.1,by rw [h.2];exact Below.refl _ _⟩
      have HB:Hid ((hdR 192 (aM ts).length).length≤4∧(aM ts).length<16777216∧dpS ts<16777216):=⟨h4,by have:=HN.out.1;omega,by have:=HN.out.1;omega⟩
      have EZ:Hid (Z = .agg #[.bool false,.int .i64 (dpS ts+1:Nat),.int .i64 ((hdR 192 (aM ts).length).length+(aM ts).length:Nat)]):=by
        have:=HZ.out
        rw [hO] at this
        exact this.symm
      clear HZ HN IH HI HK hE hD h4 hi hl hO
      generalize (hdR 192 (aM ts).length).length=r at *
      generalize (aM ts).length=E at *
      generalize dpS ts=D at *
      generalize ts.length=m at *
      have gS1:=fun d os=>(hS.keep (below_regrown wr d os)).2.1
      have gS2:=fun d os=>(hS.keep (below_regrown wr d os)).2.2
      clear hG
      refine wp_seq_k fun K h=>?_
      have H:Hid _:=h
      clear h
      go_wp2_with fail
      refine H.out _ _ ?_
      clear H K
      go_wp2_with fail
      refine bj 10 (by kernel_rfl) (by kernel_rfl) ?_
      simp only [List.take_succ_cons,List.take_zero,List.drop_succ_cons,List.drop_zero]
      repeat
        first
          | go_big_quiet_skip
          | (go_big_quiet_want;go_big_quiet_op;go_big_quiet_on)
          | (go_big_quiet_want
             go_big_quiet_op
             apply Exists.intro
             refine ⟨fun p=>?_,?_⟩
             · (go_at_call 118;with_reducible exact Calls.regrown_of (HS.out _))
             go_big_quiet_on)
      refine wpQuiet_nil ?_
      rintro w2 ⟨p,rfl⟩
      have hb:=below_regrown wr p.d p.os
      generalize grow (redrawn wr p.d) p.os=w2 at *
      replace B:=B.trans (hb.mono B.size)
      replace hF:=hF.keep hR.lt hb
      replace hR:=hR.keep hb
      clear hb gS1 gS2 hS
      obtain ⟨r0,r1,r2⟩:=hR
      obtain ⟨z0,z1,z2⟩:=hF
      go_wp2
      simp [bodyPost,results,Tryz.results88,go_sem,r0,r1,r2]
      have:=HB.out
      refine ⟨?_,((B.setCell (by show w.heap.size≤w.heap.size+1;omega) _).setCell (by show w.heap.size≤w.heap.size+1;omega) _).setCell (by show w.heap.size≤w.heap.size+1;omega) _⟩
      rw [EZ.out]
      have e1:wrap64 ((D:Int)+1)=((D+1:Nat):Int):=by unfold wrap64;omega
      have e2:wrap64 ((r:Int)+E)=((r+E:Nat):Int):=by unfold wrap64;omega
      rw [e1,e2]
    · have hlt:i<ts.length:=by omega
      have hlt':(i:Int)<(ts.length:Int):=by omega
      have ha:a2=some ⟨b,o,none⟩:=by
        rcases HN.out.2.2 with e|e
        · rw [e] at hlt;exact absurd hlt (Nat.not_lt_zero _)
        · exact e
      subst ha
      obtain ⟨d,q,e1,e2⟩:=(HI.out wr B).at i hlt
      have hwt:=pT hlt
      have e3:=da hlt
      have eo:dA (ts.take (i+1))=g9 (ts.getD i zT):=by rw [e3,lw,hO];rfl
      have ed:dpS (ts.take (i+1))=max (dpS (ts.take i)) (dpT (ts.getD i zT)):=by rw [e3,q9]
      have ee:(aM (ts.take (i+1))).length=(aM (ts.take i)).length+(bT (ts.getD i zT)).length:=by rw [e3,nK,List.length_append,aM,aM,List.append_nil]
      have hE:=gi (ts.take i)
      have hE2:=iH (ts.getD i zT)
      have R1:Hid (wr.rangeAt b (o+i*3) [.bool (ts.getD i zT).l,d,q]):=e1
      have MC:Hid (∀ W,Below wr.heap.size wr W→Rt 88 #[.agg #[.bool (ts.getD i zT).l,d,q]] W (mV (ts.getD i zT))):=fun W B=>IH.out _ (iG hlt) (by have:=HN.out.1;omega) W (It.keep B _ e2)
      have dq:∃ k1 k2 k3 k4 k5 k6,d = .slice k1 k2 k3∧q = .slice k4 k5 k6:=by
        revert e2
        cases ts.getD i zT with
        | mk l' X' ts' =>
          intro e2
          rw [It] at e2
          obtain ⟨⟨k1,_,_,k3,h1,_⟩,k4,_,_,k6,h2,_⟩:=e2
          exact ⟨_,_,_,_,_,_,h1,h2⟩
      obtain ⟨k1,k2,k3,k4,k5,k6,rfl,rfl⟩:=dq
      unfold mV at MC
      have fw:=fun (V:World) (BV:Below wr.heap.size wr V)=>(⟨B.trans (BV.mono B.size),hR.keep BV,hF.keep hR.lt BV,hS.keep BV,hG.keep hS.lt BV⟩:Below w.heap.size w V∧Hb V (w.heap.size+1) false 0 0∧Fr3 V (w.heap.size+1)∧Hb V s false (dpS (ts.take i)) (aM (ts.take i)).length∧Fr3 V s)
      have FW:Hid _:=fw
      cases hod:g9 (ts.getD i zT) with
      | true =>
        rw [hod] at MC eo
        have MC':Hid (∀ W,Below wr.heap.size wr W→Rt 88 #[.agg #[.bool (ts.getD i zT).l,.slice k1 k2 k3,.slice k4 k5 k6]] W (.agg #[.bool true,.int .i64 0,.int .i64 0])):=MC
        clear MC
        have EZ:Hid (Z = .agg #[.bool true,.int .i64 0,.int .i64 0]):=by
          have:=HZ.out
          have e:dA ts=true:=vT eo
          rw [e] at this
          exact this.symm
        clear e1 e2 hwt e3 eo ed ee hE hE2 fw hod hS hR hF hG HZ IH HI hO
        generalize (ts.getD i zT).l=lt at *
        generalize (aM (ts.take i)).length=E at *
        generalize dpS (ts.take i)=D at *
        generalize ts.length=m at *
        refine wp_seq_k fun K h=>?_
        have H:Hid _:=h
        clear h
        go_wp2_with fail
        refine H.out _ _ ?_
        clear H K
        refine wp_seq_k fun K h=>?_
        have H:Hid _:=h
        clear h
        go_wp2_with fail
        refine H.out _ _ ?_
        clear H K
        refine wp_seq_k fun K h=>?_
        have H14:Hid _:=h
        clear h
        refine wp_block ?_
        refine wp_seq_k fun K h=>?_
        have H:Hid _:=h
        clear h
        go_wp2_with (refine wpList_load_mid rfl _ _ rfl b (o+i*3) rfl _ _ R1.out Tryz.underlying69 rfl mH ?_)
        refine H.out _ _ ?_
        clear H K R1
        refine ah (fun V=>Below wr.heap.size wr V∧Bx V wr.heap.size lt (.slice k1 k2 k3) (.slice k4 k5 k6)) ⟨(Below.refl _ _).alloc (Nat.le_refl _) _,⟨by simp [go_sem],by simp [go_sem],by simp [go_sem]⟩⟩ ?_
        rintro V ⟨BV,x0,x1,x2⟩
        refine wp_seq_k fun K h=>?_
        have H:Hid _:=h
        clear h
        go_wp2_with ((with_reducible refine (MC'.out _ BV).mono ?_);rintro e1 w2 ⟨rfl,hw⟩)
        refine H.out _ _ ?_
        clear H K
        replace BV:=BV.trans (hw.mono BV.size)
        clear hw x0 x1 x2
        refine ah (fun U=>Below wr.heap.size wr U∧Hb U w2.heap.size true 0 0) ⟨BV.alloc BV.size _,Hb.new⟩ ?_
        clear BV
        generalize w2.heap.size=v
        clear V w2
        rintro V ⟨BV,hV⟩
        obtain ⟨B2,hR,hF,hS,hG⟩:=FW.out V BV
        obtain ⟨v0,v1,v2⟩:=hV
        obtain ⟨r0,r1,r2⟩:=hR
        obtain ⟨z0,z1,z2⟩:=hF
        clear v1 v2 hS hG H14
        go_wp2
        simp [bodyPost,results,Tryz.results88,go_sem,r0,r1,r2]
        exact ⟨EZ.out.symm,((B2.setCell (by show w.heap.size≤w.heap.size+1;omega) _).setCell (by show w.heap.size≤w.heap.size+1;omega) _).setCell (by show w.heap.size≤w.heap.size+1;omega) _⟩
      | false =>
        rw [hod] at MC eo
        have MC':Hid (∀ W,Below wr.heap.size wr W→Rt 88 #[.agg #[.bool (ts.getD i zT).l,.slice k1 k2 k3,.slice k4 k5 k6]] W (.agg #[.bool false,.int .i64 (dpT (ts.getD i zT)),.int .i64 (bT (ts.getD i zT)).length])):=MC
        clear MC
        have NX:Hid (dA (ts.take (i+1))=false∧dpS (ts.take (i+1))=max (dpS (ts.take i)) (dpT (ts.getD i zT))∧(aM (ts.take (i+1))).length=(aM (ts.take i)).length+(bT (ts.getD i zT)).length∧(aM (ts.take i)).length+(bT (ts.getD i zT)).length<16777216):=⟨eo,ed,ee,by have:=HN.out.1;omega⟩
        have HP:Hid (Below w.heap.size w wr):=B
        clear e1 e2 hwt e3 eo ed ee hE hE2 fw hod hS hR hF hG IH HI hO B
        generalize (ts.getD i zT).l=lt at *
        generalize (aM (ts.take i)).length=E at *
        generalize dpS (ts.take i)=D at *
        generalize (bT (ts.getD i zT)).length=E1 at *
        generalize dpT (ts.getD i zT)=D1 at *
        refine wp_seq_k fun K h=>?_
        have H:Hid _:=h
        clear h
        go_wp2_with fail
        refine H.out _ _ ?_
        clear H K
        refine wp_seq_k fun K h=>?_
        have H:Hid _:=h
        clear h
        go_wp2_with fail
        refine H.out _ _ ?_
        clear H K
        refine wp_seq_k fun K h=>?_
        have H14:Hid _:=h
        clear h
        refine wp_block ?_
        refine wp_seq_k fun K h=>?_
        have H:Hid _:=h
        clear h
        go_wp2_with (refine wpList_load_mid rfl _ _ rfl b (o+i*3) rfl _ _ R1.out Tryz.underlying69 rfl mH ?_)
        refine H.out _ _ ?_
        clear H K R1
        refine ah (fun V=>Below wr.heap.size wr V∧Bx V wr.heap.size lt (.slice k1 k2 k3) (.slice k4 k5 k6)) ⟨(Below.refl _ _).alloc (Nat.le_refl _) _,⟨by simp [go_sem],by simp [go_sem],by simp [go_sem]⟩⟩ ?_
        rintro V ⟨BV,x0,x1,x2⟩
        refine wp_seq_k fun K h=>?_
        have H:Hid _:=h
        clear h
        go_wp2_with ((with_reducible refine (MC'.out _ BV).mono ?_);rintro e1 w2 ⟨rfl,hw⟩)
        refine H.out _ _ ?_
        clear H K
        replace BV:=BV.trans (hw.mono BV.size)
        clear hw x0 x1 x2
        refine ah (fun U=>Below wr.heap.size wr U∧Hb U w2.heap.size false D1 E1∧wr.heap.size≤w2.heap.size) ⟨BV.alloc BV.size _,Hb.new,BV.size⟩ ?_
        clear BV
        generalize w2.heap.size=v
        clear V w2
        rintro V ⟨BV,hV,hv⟩
        obtain ⟨B2,hR,hF,hS,hG⟩:=FW.out V BV
        obtain ⟨v0,v1,v2⟩:=hV
        have hsw:w.heap.size≤s:=by omega
        have hS':=hS
        have hG':=hG
        obtain ⟨s0,s1,s2⟩:=hS'
        obtain ⟨g0,g1,g2⟩:=hG'
        go_wp2_with fail
        refine H14.out _ _ ?_
        have eE:wrap64 ((E:Int)+E1)=((E+E1:Nat):Int):=by have:=NX.out.2.2.2;unfold wrap64;omega
        have eD:max (D:Int) (D1:Int)=((max D D1:Nat):Int):=by omega
        rw [eE,eD]
        refine ah (fun U=>Below w.heap.size w U∧Hb U (w.heap.size+1) false 0 0∧Fr3 U (w.heap.size+1)∧Hb U s false (max D D1:Nat) (E+E1:Nat)∧Fr3 U s) ⟨(B2.setCell hsw _).setCell hsw _,(hR.other hs' _).other hs' _,(hF.set _ _).set _ _,(hS.size _).held _,(hG.set _ _).set _ _⟩ ?_
        clear B2 hR hF hS hG s0 s1 s2 g0 g1 g2 eE eD H14 v0 v1 v2 hv BV
        rintro U ⟨B2,hR,hF,hS,hG⟩
        clear V
        go_wp2_with fail
        go_roundg (ts.length-(i+1))
        case measure=>have:=HK.out.1;omega
        case rel=>exact ⟨i+1,rfl,hlt,by go_num,NX.out.1,B2,hR,hF,by rw [NX.out.2.1,NX.out.2.2.1];exact hS,hG⟩
theorem pX:∀ (t:Tr) {d q:Value} (_:wtT t<4194304) (w:World) (_:It w t d q),
  Rt 88 #[itV t d q] w (mV t):=by
 refine Tr.ind fun l X ts ih d q hw w h=>?_
 rw [It] at h
 obtain ⟨⟨a,b,o,c,rfl,h2,h3,h4⟩,a',b',o',c',rfl,k2,k3,k4⟩:=h
 rw [wtT] at hw
 show Calls Tryz.prog 88 #[.agg #[.bool l,.slice a X.length c,.slice a' ts.length c']] w _
 unfold mV
 rw [g9]
 cases ho:pR l X ts with
 | true=>exact pW ho w
 | false =>
  rw [Bool.false_or,dpT,bT]
  cases l with
  | true =>
   have:=oF (a1:=a) (c1:=c) ho (by omega) k2.1 k3 w k4 ih
   refine this.mono fun e w' h=>⟨?_,h.2⟩
   rw [h.1,←List.length_append]
   rfl
  | false =>
   have e:ts=[]:=by
    unfold pR at ho
    simp at ho
    exact List.eq_nil_of_length_eq_zero (by simpa using ho)
   have:=oE (a2:=a') (c1:=c) (c2:=c') ho (by omega) h3 w h4
   refine this.mono fun e' w' h=>⟨?_,h.2⟩
   rw [h.1,e,dA]
   rfl
open Go.RowKit Go.Sort
def iI (t:Tr):Int:=if g9 t then 78 else if 1024<dpT t then 74 else 0
def nO (t:Tr):Int:=if iI t=0 then ((bT t).length:Int) else 0
theorem yw {t:Tr} {d q:Value} (hw:wtT t<4194304) (w:World) (h:It w t d q) :
  Calls Tryz.prog 56 #[itV t d q] w fun e w'=>e = .returned (.tuple #[.int .i64 (nO t),.int .i64 (iI t)])∧Below w.heap.size w w':=by
 have M:Hid (∀ W,Below w.heap.size w W→Calls Tryz.prog 88 #[.agg #[.bool t.l,d,q]] W fun e w'=>e = .returned (mV t)∧Below W.heap.size W w'):=fun W B=>pX t hw W (It.keep B t h)
 have hE:=iH t
 have b3:decide ((16777216:Int)<((bT t).length:Int))=false:=decide_eq_false (by omega)
 have dq:∃ k1 k2 k3 k4 k5 k6,d = .slice k1 k2 k3∧q = .slice k4 k5 k6:=by
  revert h
  cases t with
  | mk l' X' ts' =>
   intro e2
   rw [It] at e2
   obtain ⟨⟨k1,_,_,k3,h1,_⟩,k4,_,_,k6,h2,_⟩:=e2
   exact ⟨_,_,_,_,_,_,h1,h2⟩
 obtain ⟨k1,k2,k3,k4,k5,k6,rfl,rfl⟩:=dq
 have MZ:mV t=if g9 t then .agg #[.bool true,.int .i64 0,.int .i64 0] else .agg #[.bool false,.int .i64 (dpT t),.int .i64 (bT t).length]:=rfl
 unfold itV
 clear hE hw h
 by_cases ho:g9 t=true
 ·have es:nO t=0:=by unfold nO iI;rw [if_pos ho];rfl
  have ee:iI t=78:=by unfold iI;rw [if_pos ho]
  rw [if_pos ho] at MZ
  rw [MZ] at M
  rw [es,ee]
  generalize t.l=l at *
  clear b3 ho es ee MZ t
  go_enter Tryz.func56,Tryz.ntmps56
  go_wp2_with ((with_reducible refine (M.out _ ((Below.refl _ _).alloc (Nat.le_refl _) _)).mono ?_);rintro e1 w1 ⟨rfl,hw⟩;(have B1:Below w.heap.size w w1:=((Below.refl w.heap.size w).alloc (Nat.le_refl _) _).trans (hw.mono (by simp)));(clear hw))
  all_goals simp [bodyPost,results,Tryz.results56,go_sem]
  all_goals exact B1.alloc B1.size _
 ·rw [if_neg ho] at MZ
  rw [MZ] at M
  clear MZ
  by_cases hd:1024<dpT t
  ·have ee:iI t=74:=by unfold iI;rw [if_neg ho,if_pos hd]
   have es:nO t=0:=by unfold nO;rw [ee];rfl
   have hd':(1024:Int)<(dpT t:Int):=by omega
   rw [es,ee]
   generalize t.l=l at *
   generalize dpT t=D at *
   generalize (bT t).length=E at *
   clear b3 ho es ee t hd
   go_enter Tryz.func56,Tryz.ntmps56
   go_wp2_with ((with_reducible refine (M.out _ ((Below.refl _ _).alloc (Nat.le_refl _) _)).mono ?_);rintro e1 w1 ⟨rfl,hw⟩;(have B1:Below w.heap.size w w1:=((Below.refl w.heap.size w).alloc (Nat.le_refl _) _).trans (hw.mono (by simp)));(clear hw))
   all_goals simp [bodyPost,results,Tryz.results56,go_sem]
   all_goals exact B1.alloc B1.size _
  ·have ee:iI t=0:=by unfold iI;rw [if_neg ho,if_neg hd]
   have es:nO t=((bT t).length:Int):=by unfold nO;rw [ee];rfl
   have hd':decide ((1024:Int)<(dpT t:Int))=false:=decide_eq_false (by omega)
   rw [es,ee]
   generalize t.l=l at *
   generalize dpT t=D at *
   generalize (bT t).length=E at *
   clear ho es ee t hd
   go_enter Tryz.func56,Tryz.ntmps56
   go_wp2_with ((with_reducible refine (M.out _ ((Below.refl _ _).alloc (Nat.le_refl _) _)).mono ?_);rintro e1 w1 ⟨rfl,hw⟩;(have B1:Below w.heap.size w w1:=((Below.refl w.heap.size w).alloc (Nat.le_refl _) _).trans (hw.mono (by simp)));(clear hw))
   all_goals simp [bodyPost,results,Tryz.results56,go_sem]
   all_goals exact B1.alloc B1.size _
open Go.RowKit Go.Sort
theorem It.slices {W:World} {t:Tr} {d q:Value} (h:It W t d q):∃ k1 k2 k3 k4 k5 k6,d = .slice k1 k2 k3∧q = .slice k4 k5 k6:=by
 revert h
 cases t with
 | mk l' X' ts' =>
  intro e2
  rw [It] at e2
  obtain ⟨⟨k1,_,_,k3,h1,_⟩,k4,_,_,k6,h2,_⟩:=e2
  exact ⟨_,_,_,_,_,_,h1,h2⟩
open Go.RowKit Go.Sort
def sP (t:Tr):List Int:=if iI t=0 then bT t else []
open Go.RowKit Go.Sort
def itC:List Tr→List (Value×Value)→List Value
 | t :: ts,p :: ps=>.bool t.l :: p.1 :: p.2 :: itC ts ps
 | _,_=>[]
theorem uf:∀ (ts:List Tr) (ps:List (Value×Value)),ps.length=ts.length→(itC ts ps).length=ts.length*3
 | [],[],_=>rfl
 | [],_ :: _,h=>by simp at h
 | _ :: _,[],h=>by simp at h
 | t :: ts,p :: ps,h=>by
  have:=uf ts ps (by simpa using h)
  simp only [itC,List.length_cons,this];omega
theorem rd:∀ (ts:List Tr) (ps:List (Value×Value)) (t:Tr) (d q:Value),ps.length=ts.length→itC ts ps++[.bool t.l,d,q]=itC (ts++[t]) (ps++[(d,q)])
 | [],[],_,_,_,_=>rfl
 | [],_ :: _,_,_,_,h=>by simp at h
 | _ :: _,[],_,_,_,h=>by simp at h
 | u :: ts,p :: ps,t,d,q,h=>by
  have:=rd ts ps t d q (by simpa using h)
  simp only [itC,List.cons_append,this]
def zV:Value×Value:=(.bool true,.bool true)
theorem sQ:∀ (ts:List Tr) (ps:List (Value×Value)),ps.length=ts.length→∀ i,i<ts.length→(itC ts ps)[i*3]?=some (.bool (ts.getD i zT).l)∧(itC ts ps)[i*3+1]?=some (ps.getD i zV).1∧(itC ts ps)[i*3+2]?=some (ps.getD i zV).2
 | [],_,_,i,hi=>absurd hi (Nat.not_lt_zero _)
 | _ :: _,[],h,_,_=>by simp at h
 | _ :: _,_ :: _,_,0,_=>⟨rfl,rfl,rfl⟩
 | t :: ts,p :: ps,h,i+1,hi=>by
  have ih:=sQ ts ps (by simpa using h) i (by simpa using hi)
  have e:∀ d,(itC (t :: ts) (p :: ps))[(i+1)*3+d]?=(itC ts ps)[i*3+d]?:=fun d=>by
   rw [show (i+1)*3+d=i*3+d+1+1+1 by omega];rfl
  have e0:=e 0
  simp only [Nat.add_zero] at e0
  rw [e0,e 1,e 2]
  exact ih
theorem nP {W W':World} {B:Nat} {e:TypeId} {size:Nat} {v:Value} {n:Nat} {xs:List Value} (h:W.ownsRow B e size v n xs) (hk:∀ k,v.ownBlock=some k→k<W.heap.size→W'.heap[k]?=W.heap[k]?):W'.ownsRow B e size v n xs:=by
 refine ⟨h.1,?_⟩
 rcases h.2 with h|⟨g,cap,cur,rfl,hb,hg,r⟩
 ·exact .inl h
 ·exact .inr ⟨g,cap,cur,rfl,hb,(hk g rfl (Array.getElem?_eq_some_iff.1 hg).1).trans hg,r⟩
theorem kB {W:World} {B B':Nat} {e:TypeId} {size:Nat} {v:Value} {n:Nat} {xs:List Value} (h:W.ownsRow B e size v n xs) (hk:∀ k,v.ownBlock=some k→B'≤k):W.ownsRow B' e size v n xs:=by
 refine ⟨h.1,?_⟩
 rcases h.2 with h|⟨g,cap,cur,rfl,hb,r⟩
 ·exact .inl h
 ·exact .inr ⟨g,cap,cur,rfl,hk g rfl,r⟩
mutual
def Ot (W:World):Tr→(Nat→Prop)→Value→Value→Prop
 | .mk _ X ts,S,d,q=>(cc 0 W d X∧∀ k,d.ownBlock=some k→S k)∧∃ ps:List (Value×Value),ps.length=ts.length∧W.ownsRow 0 69 3 q ts.length (itC ts ps)∧(∀ k,q.ownBlock=some k→S k)∧Ots W ts (fun k=>S k∧q.ownBlock≠some k) ps
def Ots (W:World):List Tr→(Nat→Prop)→List (Value×Value)→Prop
 | [],_,_=>True
 | t :: ts,S,ps=>Ot W t S (ps.headD zV).1 (ps.headD zV).2∧Ots W ts S ps.tail
end
def kF (W:World) (ts:List Tr) (S:Nat→Prop) (q:Value):Prop:=∃ ps:List (Value×Value),ps.length=ts.length∧W.ownsRow 0 69 3 q ts.length (itC ts ps)∧(∀ k,q.ownBlock=some k→S k)∧Ots W ts (fun k=>S k∧q.ownBlock≠some k) ps
theorem Ot.mk {W:World} {l:Bool} {X:List Int} {ts:List Tr} {S:Nat→Prop} {d q:Value} (h1:cc 0 W d X) (h2:∀ k,d.ownBlock=some k→S k) (h3:kF W ts S q):Ot W (.mk l X ts) S d q:=by
 rw [Ot];exact ⟨⟨h1,h2⟩,h3⟩
theorem Ot.get {W:World} {t:Tr} {S:Nat→Prop} {d q:Value} (h:Ot W t S d q):cc 0 W d t.X∧(∀ k,d.ownBlock=some k→S k)∧kF W t.ts S q:=by
 cases t with
 | mk l X ts=>rw [Ot] at h;exact ⟨h.1.1,h.1.2,h.2⟩
theorem Ots.at {W:World} {S:Nat→Prop}:∀ {ts:List Tr} {ps:List (Value×Value)},Ots W ts S ps→∀ i,i<ts.length→Ot W (ts.getD i zT) S (ps.getD i zV).1 (ps.getD i zV).2
 | [],_,_,i,hi=>absurd hi (Nat.not_lt_zero _)
 | t :: ts,ps,h,0,_=>by
  rw [Ots] at h
  have e:ps.getD 0 zV=ps.headD zV:=by cases ps<;>rfl
  rw [e];exact h.1
 | t :: ts,ps,h,i+1,hi=>by
  rw [Ots] at h
  have e:ps.getD (i+1) zV=ps.tail.getD i zV:=by cases ps<;>rfl
  rw [e];exact Ots.at h.2 i (by simpa using hi)
theorem Ots.of {W:World} {S:Nat→Prop}:∀ {ts:List Tr} {ps:List (Value×Value)},(∀ i,i<ts.length→Ot W (ts.getD i zT) S (ps.getD i zV).1 (ps.getD i zV).2)→Ots W ts S ps
 | [],_,_=>by rw [Ots];trivial
 | t :: ts,ps,h=>by
  rw [Ots]
  refine ⟨?_,Ots.of fun i hi=>?_⟩
  ·have e:ps.getD 0 zV=ps.headD zV:=by cases ps<;>rfl
   have:=h 0 (by simp)
   rw [e] at this;exact this
  ·have e:ps.getD (i+1) zV=ps.tail.getD i zV:=by cases ps<;>rfl
   have:=h (i+1) (by simpa using hi)
   rw [e] at this;exact this
theorem Ot.conv {W W':World}:∀ (t:Tr) {S S':Nat→Prop} {d q:Value},(∀ k,k<W.heap.size→S k→S' k∧W'.heap[k]?=W.heap[k]?)→Ot W t S d q→Ot W' t S' d q :=
 Tr.ind fun l X ts ih S S' d q hs h=>by
  rw [Ot] at h ⊢
  obtain ⟨⟨h1,h2⟩,ps,h3,h4,h5,h6⟩:=h
  have l1:∀ k,d.ownBlock=some k→k<W.heap.size:=fun k e=>(World.ownsRow.lt h1 k e).2
  have l2:∀ k,q.ownBlock=some k→k<W.heap.size:=fun k e=>(World.ownsRow.lt h4 k e).2
  refine ⟨⟨nP h1 fun k e hk=>(hs k hk (h2 k e)).2,fun k e=>(hs k (l1 k e) (h2 k e)).1⟩,ps,h3,nP h4 fun k e hk=>(hs k hk (h5 k e)).2,fun k e=>(hs k (l2 k e) (h5 k e)).1,Ots.of fun i hi=>?_⟩
  refine ih _ (iG hi) (fun k hk hS=>?_) (h6.at i hi)
  exact ⟨⟨(hs k hk hS.1).1,hS.2⟩,(hs k hk hS.1).2⟩
theorem kF.conv {W W':World} {ts:List Tr} {S S':Nat→Prop} {q:Value} (hs:∀ k,k<W.heap.size→S k→S' k∧W'.heap[k]?=W.heap[k]?) (h:kF W ts S q):kF W' ts S' q:=by
 have:Ot W (.mk false [] ts) S (.slice none 0 0) q:=Ot.mk (cc.nil _ _) (fun k e=>by cases e) h
 exact (Ot.conv _ hs this).get.2.2
theorem kF.nil (W:World) (S:Nat→Prop):kF W [] S (.slice none 0 0):=⟨[],rfl,⟨rfl,.inl ⟨rfl,rfl⟩⟩,(fun k e=>by cases e),(by rw [Ots];trivial)⟩
theorem Ot.it {W:World}:∀ (t:Tr) {S:Nat→Prop} {d q:Value},Ot W t S d q→It W t d q :=
 Tr.ind fun l X ts ih S d q h=>by
  rw [Ot] at h
  obtain ⟨⟨h1,h2⟩,ps,h3,h4,h5,h6⟩:=h
  rw [It]
  obtain ⟨a,g,c,e1,e2,e3,e4,_,_,e7⟩:=h1.lies
  refine ⟨⟨a,g,0,c,e1,⟨e2,e7⟩,e3,e4⟩,?_⟩
  have hrow:=h4
  rcases h4.2 with ⟨rfl,h0⟩|⟨g',cap,cur,rfl,hb,hg,hle,_⟩
  ·have e:ts=[]:=List.eq_nil_of_length_eq_zero h0
   subst e
   exact ⟨none,0,0,0,rfl,⟨Nat.le_refl _,fun _=>rfl⟩,.inl rfl,by rw [Its];trivial⟩
  ·refine ⟨_,g',0,cap,rfl,⟨hle,fun e=>by cases e⟩,.inr rfl,Its.of fun i hi=>?_⟩
   obtain ⟨c0,c1,c2⟩:=sQ ts ps h3 i hi
   refine ⟨(ps.getD i zV).1,(ps.getD i zV).2,fun j v hv=>?_,ih _ (iG hi) (h6.at i hi)⟩
   have hc:∀ k,k<ts.length*3→W.cell? ⟨g',k,none⟩=(itC ts ps)[k]?:=fun k hk=>World.ownsRow.cellAt hrow k hk
   rw [Nat.zero_add]
   match j,hv with
   | 0,hv=>rw [Nat.add_zero,hc _ (by omega),c0];exact hv
   | 1,hv=>rw [hc _ (by omega),c1];exact hv
   | 2,hv=>rw [hc _ (by omega),c2];exact hv
   | j+3,hv=>simp at hv
theorem kF.its {W:World} {ts:List Tr} {S:Nat→Prop} {q:Value} (h:kF W ts S q):∃ a b c,q = .slice a ts.length c∧(ts.length≤c∧(a=none→c=0))∧(ts=[]∨a=some ⟨b,0,none⟩)∧Its W b 0 ts:=by
 have:Ot W (.mk false [] ts) S (.slice none 0 0) q:=Ot.mk (cc.nil _ _) (fun k e=>by cases e) h
 have hrow:=h
 obtain ⟨ps,h3,h4,h5,h6⟩:=h
 have hI:=Ot.it _ this
 rcases h4.2 with ⟨rfl,h0⟩|⟨g',cap,cur,rfl,hb,hg,hle,_⟩
 ·have e:ts=[]:=List.eq_nil_of_length_eq_zero h0
  subst e
  exact ⟨none,0,0,rfl,⟨Nat.le_refl _,fun _=>rfl⟩,.inl rfl,by rw [Its];trivial⟩
 ·rw [It] at hI
  obtain ⟨_,a,b,o,c,k1,k2,k3,k4⟩:=hI
  injection k1 with k1 _ k1'
  subst k1 k1'
  rcases k3 with e|e
  ·subst e
   exact ⟨_,0,_,rfl,k2,.inl rfl,by rw [Its];trivial⟩
  ·have:=Option.some.inj e
   injection this with e1 e2
   subst e1 e2
   exact ⟨_,_,_,rfl,k2,.inr rfl,k4⟩
def Oe (B:Nat) (W:World) (v:Value) (ts:List Tr) (ps:List (Value×Value)):Prop:=ps.length=ts.length∧W.ownsRow B 69 3 v ts.length (itC ts ps)∧(∀ k,v.ownBlock=some k→B≤k)∧Ots W ts (fun k=>B≤k∧v.ownBlock≠some k) ps
theorem Oe.nil (B:Nat) (W:World):Oe B W (.slice none 0 0) [] []:=⟨rfl,⟨rfl,.inl ⟨rfl,rfl⟩⟩,(fun k e=>by cases e),(by rw [Ots];trivial)⟩
theorem Oe.row {B:Nat} {W:World} {v:Value} {ts:List Tr} {ps:List (Value×Value)} (h:Oe B W v ts ps):kF W ts (fun k=>B≤k) v:=⟨ps,h.1,kB h.2.1 fun _ _=>Nat.zero_le _,h.2.2.1,h.2.2.2⟩
theorem kF.oe {B:Nat} {W:World} {v:Value} {ts:List Tr} {S:Nat→Prop} (h:kF W ts S v) (hS:∀ k,k<W.heap.size→S k→B≤k):∃ ps,Oe B W v ts ps:=by
 obtain ⟨ps,h1,h2,h3,h4⟩:=h
 have hb:∀ k,v.ownBlock=some k→B≤k:=fun k e=>hS k (World.ownsRow.lt h2 k e).2 (h3 k e)
 refine ⟨ps,h1,kB h2 hb,hb,Ots.of fun i hi=>Ot.conv _ (fun k hk hs=>⟨⟨hS k hk hs.1,hs.2⟩,rfl⟩) (h4.at i hi)⟩
open Go.RowKit Go.Sort
theorem AF:(Tryz.prog.info? 69).map (fun i=>(i.zero,i.size,i.bytes))=some (some (.agg #[.bool false,.slice none 0 0,.slice none 0 0]),3,56):=by kernel_rfl
theorem It.open {W:World} {t:Tr} {d q:Value} (h:It W t d q):∃ a b o c a' b' o' c',d = .slice a t.X.length c∧(t.X.length≤c∧(a=none→c=0))∧Az a b o t.X∧Bz W b o t.X∧q = .slice a' t.ts.length c'∧(t.ts.length≤c'∧(a'=none→c'=0))∧(t.ts=[]∨a'=some ⟨b',o',none⟩)∧Its W b' o' t.ts:=by
 cases t with
 | mk l X ts =>
  rw [It] at h
  obtain ⟨⟨a,b,o,c,h1,h2,h3,h4⟩,a',b',o',c',k1,k2,k3,k4⟩:=h
  exact ⟨a,b,o,c,a',b',o',c',h1,h2,h3,h4,k1,k2,k3,k4⟩
theorem Its.keep {W W':World} {b o:Nat} {ts:List Tr} (h:Its W b o ts) (hb:Below W.heap.size W W'):Its W' b o ts:=Its.of fun i hi=>by
 obtain ⟨d,q,e1,e2⟩:=h.at i hi
 exact ⟨d,q,fC e1 hb,It.keep hb _ e2⟩
theorem yx (t:Tr):wtT t=1+t.X.length+wtS t.ts:=by cases t with|mk l X ts=>rw [wtT];rfl
open Go.RowKit Go.Sort
theorem vU {ad:Addr} {c:Nat} {X:List Int} (hl:X.length<140737488355000) (w:World) (hz:∀ W,Below w.heap.size w W→∀ j u,(X.map (Value.int .u8))[j]?=some u→W.cell? (ad.add j)=some u) :
  Calls Tryz.prog 60 #[.slice (some ad) X.length c] w fun e w'=>∃ v,e = .returned v∧cc w.heap.size w' v X∧Below w.heap.size w w':=by
 obtain ⟨i0,hi,hz0,hz1,hz2⟩:=info_parts dE
 have sl:=ub
 have HA:Hid (X.length<140737488355000∧∀ W,Below w.heap.size w W→∀ j u,(X.map (Value.int .u8))[j]?=some u→W.cell? (ad.add j)=some u):=⟨hl,hz⟩
 obtain ⟨n,en⟩:∃ n,n=X.length:=⟨_,rfl⟩
 rw [←en]
 have EN:Hid (X.length=n):=en.symm
 clear en hl hz
 go_enter Tryz.func60,Tryz.ntmps60
 go_wp2_with (at_builtin;go_loud (refine wpList_append_own_at _ rfl _ _ 52 rfl w.heap.size 5 i0 (.int .u8 0) 1 1 Tryz.underlying52 hi hz0 hz1 hz2 rfl (by decide) _ 0 [] rfl (ym _ _ (Nat.le_refl _)).row ad n c (X.map (Value.int .u8)) rfl (by rw [List.length_map,EN.out,Nat.mul_one]) (HA.out.2 _ ((Below.refl _ _).alloc (Nat.le_refl _) _)) (fun u hu=>by obtain ⟨y,_,rfl⟩:=List.mem_map.1 hu;rfl) (by unfold maxLen;have:=HA.out.1;have:=EN.out;omega) (by have:=HA.out.1;have:=EN.out;omega) (by simp) ?_);intro v' w3 hown' hgrow3 hnil3 hblk)
 go_ret
 refine ⟨_,rfl,?_,((Below.refl _ _).alloc (Nat.le_refl _) _).grown hgrow3 (by simp) (fun k hk=>by have e:w.heap.size=k:=Option.some.inj hk;omega)⟩
 rw [cc,EN.out]
 simpa using hown'
theorem nQ {X:List Int} {a:Option Addr} {g p c n:Nat} (hn:n=X.length) (hl:X.length<140737488355000) (ha:Az a g p X) (w:World) (hz:Bz w g p X) :
  Calls Tryz.prog 60 #[.slice a n c] w fun e w'=>∃ v,e = .returned v∧cc w.heap.size w' v X∧Below w.heap.size w w':=by
 subst hn
 cases a with
 | none =>
  have e:X=[]:=by
   rcases ha with e|e
   ·exact e
   ·cases e
  subst e
  refine (sJ 0 c w).mono fun e w' h=>⟨_,h.1,cc.nil _ _,by rw [h.2];exact Below.refl _ _⟩
 | some ad =>
  refine vU hl w fun W hb j u hu=>?_
  have hj:j<X.length:=by
   have:=(List.getElem?_eq_some_iff.1 hu).1
   rwa [List.length_map] at this
  rcases ha with e|e
  ·rw [e] at hj;exact absurd hj (Nat.not_lt_zero _)
  ·obtain rfl:ad=⟨g,p,none⟩:=Option.some.inj e
   exact sH (hz.keep hb) j u hu
theorem ms (w:World) {ops:Array Oper} {rest:List Oper} {o:Oper} {a:Act} {Q:Exit→Act→World→Prop}
  (hg:o.guard=none) (l c:Operand) (hop:o.op=Op.makeSlice 67 l c)
  (kl kc:IntKind) (L C:Int) (m:Nat) (hl:a.eval l = .int kl L) (hc:a.eval c = .int kc C) (eL:L=(m:Int)) (eC:C=(m:Int)) (hm:m≤1000000000000)
  (hK:∀ cs:List Value,cs.length=m*3→∀ w':World,w'.ownsRow w.heap.size 69 3 (.slice (some ⟨w.heap.size,0,none⟩) m m) m cs→Below w.heap.size w w'→w.heap.size<w'.heap.size→wpList Tryz.prog ops Q rest (a.put o.dst (.slice (some ⟨w.heap.size,0,none⟩) m m)) w') :
  wpList Tryz.prog ops Q (o :: rest) a w:=by
 subst eL eC
 obtain ⟨i,hi,hi2⟩:=Option.map_eq_some_iff.1 AF
 simp only [Prod.mk.injEq] at hi2
 refine wpList_plain hg fun K hK'=>?_
 obtain ⟨w',hr,h1,h2⟩:=run_make_full (P:=Tryz.prog) w w.heap.size 67 69 i _ 3 Tryz.underlying67 hi hi2.1 hi2.2.1 kl kc m (by rw [hi2.2.2];omega) (by unfold maxLen;omega) (Nat.le_refl _)
 unfold Oper.wp
 simp [execOp,hop,hl,hc,hr,Result.andThen]
 refine hK' _ _ (hK _ h1.1 w' h1 ⟨h2.os,h2.tape,h2.output,h2.size,fun k hk=>h2.block k hk (by simp)⟩ (World.ownsRow.lt h1 _ rfl).2)
theorem DM:∀ (A R:List Value) (u0 u1 u2:Value),3≤R.length→(((A++R).set A.length u0).set (A.length+1) u1).set (A.length+1+1) u2=A++[u0,u1,u2]++R.drop 3
 | [],r0 :: r1 :: r2 :: R,_,_,_,_=>rfl
 | [],[],_,_,_,h=>absurd h (by simp)
 | [],[_],_,_,_,h=>absurd h (by simp)
 | [],[_,_],_,_,_,h=>absurd h (by simp)
 | a :: A,R,u0,u1,u2,h=>by
  have:=DM A R u0 u1 u2 h
  simp only [List.cons_append,List.length_cons,List.set_cons_succ,this]
def Of (B:Nat) (W:World) (g n:Nat) (ts:List Tr) (ps:List (Value×Value)):Prop:=∃ Rs:List Value,ts.length≤n∧Rs.length=(n-ts.length)*3∧ps.length=ts.length∧W.ownsRow B 69 3 (.slice (some ⟨g,0,none⟩) n n) n (itC ts ps++Rs)∧Ots W ts (fun k=>B≤k∧k≠g) ps
theorem Of.keep {B:Nat} {W W':World} {g n:Nat} {ts:List Tr} {ps:List (Value×Value)} (h:Of B W g n ts ps) (hb:Below W.heap.size W W'):Of B W' g n ts ps:=by
 obtain ⟨Rs,h0,h1,h2,h3,h4⟩:=h
 exact ⟨Rs,h0,h1,h2,nP h3 fun k _ hk=>hb.block k hk,Ots.of fun i hi=>Ot.conv _ (fun k hk hs=>⟨hs,hb.block k hk⟩) (h4.at i hi)⟩
theorem Of.there {B:Nat} {W:World} {g n:Nat} {ts:List Tr} {ps:List (Value×Value)} (h:Of B W g n ts ps) (hn:ts.length<n):W.there g (ts.length*3) 3:=by
 obtain ⟨Rs,h0,h1,h2,h3,h4⟩:=h
 intro j hj
 refine ⟨?_,World.ownsRow.frozenAt h3 _⟩
 rw [World.ownsRow.cellAt h3 _ (by omega),List.getElem?_eq_getElem (by rw [h3.1];omega)];rfl
theorem Of.step {B:Nat} {W:World} {g n:Nat} {ts:List Tr} {ps:List (Value×Value)} {t:Tr} {d q:Value} (h:Of B W g n ts ps) (hn:ts.length<n) (ht:Ot W t (fun k=>B≤k∧k≠g) d q) :
  Of B (W.setCells g (ts.length*3) [.bool t.l,d,q]) g n (ts++[t]) (ps++[(d,q)])∧W.grownBy (W.setCells g (ts.length*3) [.bool t.l,d,q]) (some g):=by
 obtain ⟨Rs,h0,h1,h2,h3,h4⟩:=h
 have li:=uf ts ps h2
 obtain ⟨s1,g1⟩:=World.ownsRow.stored h3 (ts.length*3) (.bool t.l)
 obtain ⟨s2,g2⟩:=World.ownsRow.stored s1 (ts.length*3+1) d
 obtain ⟨s3,g3⟩:=World.ownsRow.stored s2 (ts.length*3+1+1) q
 have es:=DM (itC ts ps) Rs (.bool t.l) d q (by omega)
 rw [li] at es
 rw [es] at s3
 have hg:W.grownBy (W.setCells g (ts.length*3) [.bool t.l,d,q]) (some g):=(g1.trans g2).trans g3
 have cv:∀ k,k<W.heap.size→(B≤k∧k≠g)→(B≤k∧k≠g)∧(W.setCells g (ts.length*3) [.bool t.l,d,q]).heap[k]?=W.heap[k]?:=fun k hk h=>⟨h,hg.block k hk fun e=>h.2 (Option.some.inj e)⟩
 refine ⟨⟨Rs.drop 3,by simp;omega,by rw [List.length_drop,List.length_append,h1];show _=(n-(ts.length+1))*3;omega,by simp [h2],?_,Ots.of fun i hi'=>?_⟩,hg⟩
 ·rw [←rd ts ps t d q h2];exact s3
 ·rw [List.length_append] at hi'
  have l1:([t]:List Tr).length=1:=rfl
  by_cases e:i=ts.length
  ·subst e
   have e1:(ts++[t]).getD ts.length zT=t:=by simp [List.getD]
   have e2:(ps++[(d,q)]).getD ts.length zV=(d,q):=by rw [←h2];simp [List.getD]
   rw [e1,e2]
   exact Ot.conv _ cv ht
  ·have hlt:i<ts.length:=by omega
   have e1:(ts++[t]).getD i zT=ts.getD i zT:=by simp [List.getD,List.getElem?_append_left hlt]
   have e2:(ps++[(d,q)]).getD i zV=ps.getD i zV:=by simp [List.getD,List.getElem?_append_left (show i<ps.length by omega)]
   rw [e1,e2]
   exact Ot.conv _ cv (h4.at i hlt)
theorem Of.all {B:Nat} {W:World} {g n:Nat} {ts:List Tr} {ps:List (Value×Value)} (h:Of B W g n ts ps) (hn:ts.length=n):Oe B W (.slice (some ⟨g,0,none⟩) n n) ts ps:=by
 obtain ⟨Rs,h0,h1,h2,h3,h4⟩:=h
 have e:Rs=[]:=List.eq_nil_of_length_eq_zero (by omega)
 subst e hn
 rw [List.append_nil] at h3
 refine ⟨h2,h3,fun k e=>(World.ownsRow.lt h3 k e).1,Ots.of fun i hi=>Ot.conv _ (fun k _ hs=>⟨⟨hs.1,fun e=>hs.2 (Option.some.inj e).symm⟩,rfl⟩) (h4.at i hi)⟩
theorem sR:∀ (t:Tr) {a:Option Addr} {b o c:Nat} (_:wtS t.ts<4194304) (_:t.ts=[]∨a=some ⟨b,o,none⟩) (w:World) (_:Its w b o t.ts),
  Calls Tryz.prog 58 #[.slice a t.ts.length c] w fun e w'=>∃ v ps,e = .returned v∧Oe w.heap.size w' v t.ts ps∧Below w.heap.size w w':=by
 refine Tr.ind fun l X ts ih a b o c hn ha w hI=>?_
 show Calls Tryz.prog 58 #[.slice a ts.length c] w fun e w'=>∃ v ps,e = .returned v∧Oe w.heap.size w' v ts ps∧Below w.heap.size w w'
 by_cases h0:ts=[]
 ·subst h0
  clear hn ha hI ih
  rw [List.length_nil]
  go_enter Tryz.func58,Tryz.ntmps58
  go_wp2
  simp [bodyPost,results,Tryz.results58,go_sem]
  exact ⟨⟨[],Oe.nil _ _⟩,Below.refl _ _⟩
 have HI:Hid (∀ W,Below w.heap.size w W→Its W b o ts):=fun W B=>hI.keep B
 have HN:Hid (wtS ts<4194304):=hn
 obtain rfl:a=some ⟨b,o,none⟩:=ha.resolve_left h0
 have IH:Hid (∀ t∈ts,∀ {a:Option Addr} {b o c:Nat} (_:wtS t.ts<4194304) (_:t.ts=[]∨a=some ⟨b,o,none⟩) (w:World) (_:Its w b o t.ts),Calls Tryz.prog 58 #[.slice a t.ts.length c] w fun e w'=>∃ v ps,e = .returned v∧Oe w.heap.size w' v t.ts ps∧Below w.heap.size w w'):=@ih
 have hl:(ts.length:Int)≤4194304:=by have:=pV ts;have:wtS ts<4194304:=hn;omega
 have hp:((ts.length:Int)==0)=false:=by
  have:ts.length≠0:=fun e=>h0 (List.eq_nil_of_length_eq_zero e)
  simp;omega
 clear hn ha hI ih h0
 go_enter Tryz.func58,Tryz.ntmps58
 go_wp2_with ((refine ms _ rfl _ _ rfl _ _ _ _ ts.length rfl rfl rfl rfl (by omega) ?_);intro cs hcs W hW BW hsW)
 have OF0:Of w.heap.size W w.heap.size ts.length [] []:=⟨cs,Nat.zero_le _,by simpa using hcs,rfl,by simpa [itC] using hW,by rw [Ots];trivial⟩
 clear hcs hW hp
 go_loopg [14] ts.length (fun k iv wr=>∃ (i:Nat) (ps:List (Value×Value)),k=ts.length-i∧i≤ts.length∧iv = .int .i64 (i:Int)∧Of w.heap.size wr w.heap.size ts.length (ts.take i) ps∧Below w.heap.size w wr∧w.heap.size<wr.heap.size)
 case atStart=>exact ⟨0,[],rfl,Nat.zero_le _,rfl,by simpa using OF0,BW,hsW⟩
 case round =>
  clear OF0 BW hsW W cs
  obtain ⟨i,ps,hk,hi,rfl,OE,B,hsz⟩:=hrel
  have HK:Hid (gk=ts.length-i∧i≤ts.length):=⟨hk,hi⟩
  clear hk
  by_cases h8:i=ts.length
  ·subst h8
   rw [List.take_length] at OE
   have OA:=OE.all rfl
   clear HN IH HI HK hi OE
   generalize ts.length=m at *
   go_wp2
   simp [bodyPost,results,Tryz.results58,go_sem]
   exact ⟨⟨ps,OA⟩,B⟩
  ·have hlt:i<ts.length:=by omega
   have hlt':(i:Int)<(ts.length:Int):=by omega
   obtain ⟨d,q,e1,e2⟩:=(HI.out wr B).at i hlt
   have hwt:=pT hlt
   have e3:=da hlt
   have hmem:=iG hlt
   have hpart:=yx (ts.getD i zT)
   have hlen:(ts.take i).length=i:=by rw [List.length_take];omega
   generalize ts.getD i zT=t at *
   have R1:Hid (wr.rangeAt b (o+i*3) [.bool t.l,d,q]):=e1
   obtain ⟨a1,b1,o1,c1,a2,b2,o2,c2,rfl,f1,f2,f3,rfl,g1,g2,g3⟩:=e2.open
   have C1:Hid (∀ W,Below wr.heap.size wr W→Calls Tryz.prog 60 #[.slice a1 t.X.length c1] W fun e w'=>∃ v,e = .returned v∧cc W.heap.size w' v t.X∧Below W.heap.size W w'):=fun W B=>nQ rfl (by have:=HN.out;omega) f2 W (f3.keep B)
   have C2:Hid (∀ W,Below wr.heap.size wr W→Calls Tryz.prog 58 #[.slice a2 t.ts.length c2] W fun e w'=>∃ v ps,e = .returned v∧Oe W.heap.size w' v t.ts ps∧Below W.heap.size W w'):=fun W B=>IH.out t hmem (by have:=HN.out;omega) g2 W (g3.keep B)
   have EN:Hid (∀ d1 q1 (xs:World) (ps1:List (Value×Value)),Below wr.heap.size wr xs→cc wr.heap.size xs d1 t.X→Oe wr.heap.size xs q1 t.ts ps1→xs.there w.heap.size (i*3) 3∧Of w.heap.size (xs.setCells w.heap.size (i*3) [.bool t.l,d1,q1]) w.heap.size ts.length (ts.take (i+1)) (ps++[(d1,q1)])∧xs.grownBy (xs.setCells w.heap.size (i*3) [.bool t.l,d1,q1]) (some w.heap.size)):=fun d1 q1 xs ps1 hb o1 oe1=>by
    have OK:=OE.keep hb
    have th:=OK.there (by omega)
    rw [hlen] at th
    have lo:∀ k,wr.heap.size≤k→w.heap.size≤k∧k≠w.heap.size:=fun k hk=>⟨by omega,by omega⟩
    have st:=OK.step (t:=t) (d:=d1) (q:=q1) (by omega) (by
     cases t with
     | mk lt Xt tt=>exact Ot.mk (kB o1 fun _ _=>Nat.zero_le _) (fun k e=>lo k (o1.lt k e).1) (kF.conv (fun k _ hS=>⟨lo k hS,rfl⟩) oe1.row))
    rw [hlen,←e3] at st
    exact ⟨th,st⟩
   clear e1 e2 hwt e3 hmem hpart f1 f2 f3 g1 g2 g3 IH HI h8 hi OE hlen
   obtain ⟨XL,hXL⟩:∃ n,n=t.X.length:=⟨_,rfl⟩
   obtain ⟨TL,hTL⟩:∃ n,n=t.ts.length:=⟨_,rfl⟩
   rw [←hXL] at C1 R1
   rw [←hTL] at C2 R1
   have HXL:Hid (t.X.length=XL∧t.ts.length=TL):=⟨hXL.symm,hTL.symm⟩
   clear hXL hTL
   obtain ⟨lt,hlt2⟩:∃ lb,lb=t.l:=⟨_,rfl⟩
   rw [←hlt2] at R1 EN
   clear hlt2
   refine wp_seq_k fun K h=>?_
   have H5:Hid _:=h
   clear h
   go_wp2_with fail
   refine H5.out _ _ ?_
   clear H5 K
   refine wp_seq_k fun K h=>?_
   have H5:Hid _:=h
   clear h
   go_wp2_with fail
   refine H5.out _ _ ?_
   clear H5 K
   refine wp_seq_k fun K h=>?_
   have H5:Hid _:=h
   clear h
   refine wp_block ?_
   refine wp_seq_k fun K h=>?_
   have H:Hid _:=h
   clear h
   go_wp2_with (refine wpList_load_mid rfl _ _ rfl b (o+i*3) rfl _ _ R1.out Tryz.underlying69 rfl mH ?_)
   refine H.out _ _ ?_
   clear H K R1
   refine ah (fun V=>Below wr.heap.size wr V∧wr.heap.size<V.heap.size∧Bx V wr.heap.size lt (.slice a1 XL c1) (.slice a2 TL c2)) ⟨(Below.refl _ _).alloc (Nat.le_refl _) _,by simp,⟨by simp [go_sem],by simp [go_sem],by simp [go_sem]⟩⟩ ?_
   rintro V ⟨BV,hVs,BXV⟩
   have HBX:Hid (Bx V wr.heap.size lt (.slice a1 XL c1) (.slice a2 TL c2)):=BXV
   clear BXV
   refine wp_region_held_drew (S:=fun w'=>Below w.heap.size w w'∧Bx w' wr.heap.size lt (.slice a1 XL c1) (.slice a2 TL c2)) (by kernel_rfl) ⟨(B.trans (BV.mono B.size)).drew,HBX.out.keep (Below.refl _ _).drew⟩ (fun hHeld=>?_)
   refine an (i:=0) (oi:=_) (v:=.slice (some ⟨w.heap.size,0,none⟩) ts.length ts.length) 19 rfl (by kernel_rfl) (by kernel_rfl) (by kernel_rfl) (by kernel_rfl) (fun _ _ _ h=>h) (Or.inl ⟨by kernel_rfl,?_⟩) (by assumption) ?_
   ·intro wq hSw
    obtain ⟨x0,x1,x2⟩:=hSw.2
    go_simp
   simp only [Act.put,List.setIfInBounds_toArray,List.set_cons_succ,List.set_cons_zero]
   refine an (i:=1) (oi:=_) (v:=.int .i64 (i:Int)) 20 rfl (by kernel_rfl) (by kernel_rfl) (by kernel_rfl) (by kernel_rfl) (fun _ _ _ h=>h) (Or.inl ⟨by kernel_rfl,?_⟩) (by assumption) ?_
   ·intro wq hSw
    obtain ⟨x0,x1,x2⟩:=hSw.2
    go_simp
   simp only [Act.put,List.setIfInBounds_toArray,List.set_cons_succ,List.set_cons_zero]
   refine an (i:=2) (oi:=_) (v:=.pointer (some ⟨wr.heap.size,0,none⟩)) 21 rfl (by kernel_rfl) (by kernel_rfl) (by kernel_rfl) (by kernel_rfl) (fun _ _ _ h=>h) (Or.inl ⟨by kernel_rfl,?_⟩) (by assumption) ?_
   ·intro wq hSw
    obtain ⟨x0,x1,x2⟩:=hSw.2
    go_simp
   simp only [Act.put,List.setIfInBounds_toArray,List.set_cons_succ,List.set_cons_zero]
   refine an (i:=3) (oi:=_) (v:=.bool lt) 22 rfl (by kernel_rfl) (by kernel_rfl) (by kernel_rfl) (by kernel_rfl) (fun _ _ _ h=>h) (Or.inl ⟨by kernel_rfl,?_⟩) (by assumption) ?_
   ·intro wq hSw
    obtain ⟨x0,x1,x2⟩:=hSw.2
    go_simp
   simp only [Act.put,List.setIfInBounds_toArray,List.set_cons_succ,List.set_cons_zero]
   refine an (i:=4) (oi:=_) (v:=.pointer (some ⟨wr.heap.size,1,none⟩)) 23 rfl (by kernel_rfl) (by kernel_rfl) (by kernel_rfl) (by kernel_rfl) (fun _ _ _ h=>h) (Or.inl ⟨by kernel_rfl,?_⟩) (by assumption) ?_
   ·intro wq hSw
    obtain ⟨x0,x1,x2⟩:=hSw.2
    go_simp
   simp only [Act.put,List.setIfInBounds_toArray,List.set_cons_succ,List.set_cons_zero]
   refine an (i:=5) (oi:=_) (v:=.slice a1 XL c1) 24 rfl (by kernel_rfl) (by kernel_rfl) (by kernel_rfl) (by kernel_rfl) (fun _ _ _ h=>h) (Or.inl ⟨by kernel_rfl,?_⟩) (by assumption) ?_
   ·intro wq hSw
    obtain ⟨x0,x1,x2⟩:=hSw.2
    go_simp
   simp only [Act.put,List.setIfInBounds_toArray,List.set_cons_succ,List.set_cons_zero]
   refine an (i:=7) (oi:=_) (v:=.pointer (some ⟨wr.heap.size,2,none⟩)) 26 rfl (by kernel_rfl) (by kernel_rfl) (by kernel_rfl) (by kernel_rfl) (fun _ _ _ h=>h) (Or.inl ⟨by kernel_rfl,?_⟩) (by assumption) ?_
   ·intro wq hSw
    obtain ⟨x0,x1,x2⟩:=hSw.2
    go_simp
   simp only [Act.put,List.setIfInBounds_toArray,List.set_cons_succ,List.set_cons_zero]
   refine an (i:=8) (oi:=_) (v:=.slice a2 TL c2) 27 rfl (by kernel_rfl) (by kernel_rfl) (by kernel_rfl) (by kernel_rfl) (fun _ _ _ h=>h) (Or.inl ⟨by kernel_rfl,?_⟩) (by assumption) ?_
   ·intro wq hSw
    obtain ⟨x0,x1,x2⟩:=hSw.2
    go_simp
   simp only [Act.put,List.setIfInBounds_toArray,List.set_cons_succ,List.set_cons_zero]
   refine wpAnyH_ready (rs:=[6]) (by kernel_rfl) (by simp) ?_
   refine AllReadyH.cons rfl (fun K hK=>?_) AllReadyH.nil
   go_simp
   go_wp2_with (go_at_call 60;refine (C1.out _ (BV.drew)).mono ?_;rintro e y1 ⟨d1,rfl,O1,hy1⟩)
   refine hK.out _ _ (⟨hHeld.1.trans (hy1.mono hHeld.1.size),hHeld.2.keep hy1⟩) (fun hHeld=>?_)
   clear hK K
   obtain ⟨ad,gd,cd,rfl,_⟩:=O1.lies
   have hs1:wr.heap.size<y1.heap.size:=Nat.lt_of_lt_of_le hVs hy1.size
   have BY1:Below wr.heap.size wr y1:=BV.drew.trans (hy1.mono BV.drew.size)
   refine wpAnyH_ready (rs:=[9]) (by kernel_rfl) (by simp) ?_
   refine AllReadyH.cons rfl (fun K hK=>?_) AllReadyH.nil
   go_simp
   go_wp2_with (go_at_call 58;refine (C2.out _ BY1).mono ?_;rintro e y2 ⟨q1,ps1,rfl,O2,hy2⟩)
   refine hK.out _ _ (⟨hHeld.1.trans (hy2.mono hHeld.1.size),hHeld.2.keep hy2⟩) (fun hHeld=>?_)
   clear hK K
   obtain ⟨aq,gq,cq,rfl,_⟩:=O2.row.its
   have BY2:Below wr.heap.size wr y2:=BY1.trans (hy2.mono BY1.size)
   have O1':=(O1.keep hy2).base BV.drew.size
   have O2':∃ ps1,Oe wr.heap.size y2 (.slice aq t.ts.length cq) t.ts ps1:=O2.row.oe fun k _ hk=>Nat.le_trans BY1.size hk
   clear O1 O2 ps1
   obtain ⟨ps1,O2⟩:=O2'
   have E3:=EN.out _ _ y2 ps1 BY2 O1' O2
   rw [HXL.out.1,HXL.out.2] at E3
   rw [HXL.out.1,HXL.out.2]
   refine an (i:=10) (oi:=_) (v:=.agg #[.bool lt,.slice ad XL cd,.slice aq TL cq]) 29 rfl (by kernel_rfl) (by kernel_rfl) (by kernel_rfl) (by kernel_rfl) (fun _ _ _ h=>h) (Or.inl ⟨by kernel_rfl,?_⟩) (by assumption) ?_
   ·intro wq hSw
    obtain ⟨x0,x1,x2⟩:=hSw.2
    go_simp
   simp only [Act.put,List.setIfInBounds_toArray,List.set_cons_succ,List.set_cons_zero]
   refine an (i:=11) (oi:=_) (v:=.pointer (some ⟨w.heap.size,i*3,none⟩)) 30 rfl (by kernel_rfl) (by kernel_rfl) (by kernel_rfl) (by kernel_rfl) (fun _ _ _ h=>h) (Or.inl ⟨by kernel_rfl,?_⟩) (by assumption) ?_
   ·intro wq hSw
    obtain ⟨x0,x1,x2⟩:=hSw.2
    go_simp
   simp only [Act.put,List.setIfInBounds_toArray,List.set_cons_succ,List.set_cons_zero]
   refine wpAnyH_ready (rs:=[12]) (by kernel_rfl) (by simp) ?_
   refine AllReadyH.cons rfl (fun K hK=>?_) AllReadyH.nil
   refine wp_store_mid 69 _ _ rfl w.heap.size (i*3) #[.bool lt,.slice ad XL cd,.slice aq TL cq] rfl rfl E3.1 mH (by kernel_rfl) ?_
   obtain ⟨_,OF,hg⟩:=E3
   have hB4:Below w.heap.size w (y2.setCells w.heap.size (i*3) [.bool lt,.slice ad XL cd,.slice aq TL cq]):=⟨hg.os.trans hHeld.1.os,hg.tape.trans hHeld.1.tape,hg.output.trans hHeld.1.output,Nat.le_trans hHeld.1.size hg.size,fun k hk=>(hg.block k (Nat.lt_of_lt_of_le hk hHeld.1.size) fun e=>by have:=Option.some.inj e;omega).trans (hHeld.1.block k hk)⟩
   have hX4:Bx (y2.setCells w.heap.size (i*3) [.bool lt,.slice ad XL cd,.slice aq TL cq]) wr.heap.size lt (.slice a1 XL c1) (.slice a2 TL c2):=by
    have e:=hg.block wr.heap.size (Nat.lt_of_lt_of_le hs1 hy2.size) fun e=>by have:=Option.some.inj e;omega
    obtain ⟨z0,z1,z2⟩:=hHeld.2
    exact ⟨by rw [World.cell?_of_block e];exact z0,by rw [World.cell?_of_block e];exact z1,by rw [World.cell?_of_block e];exact z2⟩
   have hs4:w.heap.size<(y2.setCells w.heap.size (i*3) [.bool lt,.slice ad XL cd,.slice aq TL cq]).heap.size:=Nat.lt_of_lt_of_le hsz (Nat.le_trans BY2.size hg.size)
   refine hK.out _ _ ⟨hB4,hX4⟩ (fun hHeld=>?_)
   clear hK K
   refine wpAnyH_done (by kernel_rfl) ?_ _
   simp only [Act.put]
   generalize y2.setCells w.heap.size (i*3) [.bool lt,.slice ad XL cd,.slice aq TL cq]=y4 at *
   refine H5.out _ _ ?_
   clear H5
   go_wp2_with fail
   go_roundg (ts.length-(i+1))
   case measure=>have:=HK.out.1;omega
   case rel=>exact ⟨i+1,_,rfl,hlt,by go_num,OF,hB4,hs4⟩
open Go.RowKit Go.Sort
theorem Its.cells {W:World} {b o:Nat} {ts:List Tr} (h:Its W b o ts):∃ ps:List (Value×Value),ps.length=ts.length∧W.rangeAt b o (itC ts ps)∧(∀ i,i<ts.length→It W (ts.getD i zT) (ps.getD i zV).1 (ps.getD i zV).2):=by
 induction ts generalizing o with
 | nil=>exact ⟨[],rfl,fun j v hv=>by simp [itC] at hv,fun i hi=>absurd hi (Nat.not_lt_zero _)⟩
 | cons t ts ih =>
  rw [Its] at h
  obtain ⟨⟨d,q,h1,h2⟩,h3⟩:=h
  obtain ⟨ps,k1,k2,k3⟩:=ih h3
  refine ⟨(d,q) :: ps,by simp [k1],fun j v hv=>?_,fun i hi=>?_⟩
  ·match j,hv with
   | 0,hv=>exact h1 0 v hv
   | 1,hv=>exact h1 1 v hv
   | 2,hv=>exact h1 2 v hv
   | j+3,hv =>
    have:=k2 j v hv
    rw [show o+(j+3)=o+3+j by omega];exact this
  ·match i,hi with
   | 0,_=>exact h2
   | i+1,hi=>exact k3 i (by simpa using hi)
open Go.RowKit Go.Sort
theorem Bx.new {W:World} {t:TypeId} {l:Bool} {d q:Value}:Bx (W.alloc (.cells #[.bool l,d,q] t)) W.heap.size l d q:=⟨by simp [go_sem],by simp [go_sem],by simp [go_sem]⟩
theorem Bx.lt {W:World} {b:Nat} {l:Bool} {d q:Value} (h:Bx W b l d q):b<W.heap.size:=World.block_lt_of_cell? W _ h.1
theorem o8 (w:World) (a:Addr) (v:Value):w.grownBy (w.setCell a v) (some a.block):=⟨rfl,rfl,rfl,by simp,fun k _ hk=>heap_setCell_other _ _ _ _ fun e=>hk (by rw [e])⟩
open Go.RowKit Go.Sort
theorem Ot.stored {w1:World} {t:Tr} {d q:Value} {rb B:Nat} (hO:Ot w1 t (fun k=>B≤k) d q) (hrb:rb<B) (u0 u1 u2:Value):Ot (((w1.setCell ⟨rb,0,none⟩ u0).setCell ⟨rb,1,none⟩ u1).setCell ⟨rb,2,none⟩ u2) t (fun k=>B≤k) d q:=by
 have hne:∀ k,B≤k→k≠rb:=fun k hk e=>by omega
 refine Ot.conv _ (fun k _ hk=>⟨hk,?_⟩) hO
 rw [heap_setCell_other _ _ _ _ (hne k hk),heap_setCell_other _ _ _ _ (hne k hk),heap_setCell_other _ _ _ _ (hne k hk)]
theorem Ot.base {W:World} {t:Tr} {d q:Value} {B B':Nat} (h:Ot W t (fun k=>B≤k) d q) (hB:B'≤B):Ot W t (fun k=>B'≤k) d q:=Ot.conv _ (fun _ _ hk=>⟨Nat.le_trans hB hk,rfl⟩) h
theorem ug {W:World} {B:Nat} {v:Value} {X:List Int} (h:cc B W v X):Ot W (.mk false X []) (fun k=>B≤k) v (.slice none 0 0):=Ot.mk (kB h fun _ _=>Nat.zero_le _) (fun k e=>(h.lt k e).1) (kF.nil _ _)
theorem AG {W:World} {B:Nat} {v:Value} {ts:List Tr} {ps:List (Value×Value)} (h:Oe B W v ts ps):Ot W (.mk true [] ts) (fun k=>B≤k) (.slice none 0 0) v:=Ot.mk (cc.nil _ _) (fun k e=>by cases e) h.row
theorem fD {w w1:World} {rb:Nat} (B:Below w.heap.size w w1) (h:w.heap.size≤rb) (u0 u1 u2:Value):Below w.heap.size w (((w1.setCell ⟨rb,0,none⟩ u0).setCell ⟨rb,1,none⟩ u1).setCell ⟨rb,2,none⟩ u2) :=
 ((B.setCell (by exact h) _).setCell (by exact h) _).setCell (by exact h) _
def Rb3 (W:World) (b:Nat):Prop:=Bx W b false (.slice none 0 0) (.slice none 0 0)∧Fr3 W b
theorem Rb3.keep {W w1:World} {b:Nat} (x:Rb3 W b) (hb:Below W.heap.size W w1):Rb3 w1 b:=⟨x.1.keep hb,x.2.keep x.1.lt hb⟩
theorem yz {X:List Int} {a:Option Addr} {b o c n:Nat} (hn:n=X.length) (hl:X.length<16777216) (ha:Az a b o X) (w:World) (hz:Bz w b o X) :
  Calls Tryz.prog 28 #[.slice a n c] w fun e w'=>∃ d q,e = .returned (itV (.mk false X []) d q)∧Ot w' (.mk false X []) (fun k=>w.heap.size≤k) d q∧Below w.heap.size w w':=by
 have C:Hid (∀ W,Below w.heap.size w W→Calls Tryz.prog 60 #[.slice a n c] W fun e w'=>∃ v,e = .returned v∧cc W.heap.size w' v X∧Below W.heap.size W w'):=fun W B=>nQ hn (by omega) ha W (hz.keep B)
 clear hl ha hz hn
 unfold itV
 go_enter Tryz.func28,Tryz.ntmps28
 go_wp2_with ((with_reducible refine (C.out _ ((Below.refl w.heap.size w).alloc (Nat.le_refl _) _)).mono ?_);rintro e1 w1 ⟨v,rfl,O1,hw⟩;(obtain ⟨⟨r0,r1,r2⟩,f0,f1,f2⟩:Rb3 w1 (w.heap.size):=Rb3.keep ⟨⟨by simp [go_sem],by simp [go_sem],by simp [go_sem]⟩,by simp [go_sem],by simp [go_sem],by simp [go_sem]⟩ hw);(have B1:Below w.heap.size w w1:=((Below.refl w.heap.size w).alloc (Nat.le_refl _) _).trans (hw.mono (by simp)));(obtain ⟨av,gv1,cv,rfl,_⟩:=O1.lies))
 simp [bodyPost,results,Tryz.results28,go_sem,r0,r1,r2]
 exact ⟨_,_,⟨rfl,rfl,rfl⟩,Ot.base (B:=w.heap.size+1) (Ot.stored (ug (O1.base (by simp))) (by omega) _ _ _) (by omega),fD B1 (by omega) _ _ _⟩
theorem o9 {n:Int} (hn:Num n) (w:World) :
  Calls Tryz.prog 27 #[U4 n] w fun e w'=>∃ d q,e = .returned (itV (.mk false (aI (aK n)) []) d q)∧Ot w' (.mk false (aI (aK n)) []) (fun k=>w.heap.size≤k) d q∧Below w.heap.size w w':=by
 have C:Hid (∀ W,Below w.heap.size w W→Calls Tryz.prog 59 #[U4 n] W fun e w'=>∃ v,e = .returned v∧cc W.heap.size w' v (aI (aK n))∧Below W.heap.size W w'):=fun W _=>vK hn W
 generalize aI (aK n)=X at *
 clear hn
 unfold itV
 go_enter Tryz.func27,Tryz.ntmps27
 go_wp2_with ((with_reducible refine (C.out _ (((Below.refl w.heap.size w).alloc (Nat.le_refl _) _).alloc (by simp) _)).mono ?_);rintro e1 w1 ⟨v,rfl,O1,hw⟩;(obtain ⟨⟨r0,r1,r2⟩,f0,f1,f2⟩:Rb3 w1 (w.heap.size+1):=Rb3.keep ⟨⟨by simp [go_sem],by simp [go_sem],by simp [go_sem]⟩,by simp [go_sem],by simp [go_sem],by simp [go_sem]⟩ hw);(have B1:Below w.heap.size w w1:=(((Below.refl w.heap.size w).alloc (Nat.le_refl _) _).alloc (by simp) _).trans (hw.mono (by simp;omega)));(obtain ⟨av,gv1,cv,rfl,_⟩:=O1.lies))
 simp [bodyPost,results,Tryz.results27,go_sem,r0,r1,r2]
 exact ⟨_,_,⟨rfl,rfl,rfl⟩,Ot.base (B:=w.heap.size+1+1) (Ot.stored (ug (O1.base (by simp))) (by omega) _ _ _) (by omega),fD B1 (by omega) _ _ _⟩
theorem vV {v:Int} (hv:aj v) (w:World) :
  Calls Tryz.prog 29 #[.int .u64 v] w fun e w'=>∃ d q,e = .returned (itV (.mk false (aI (aK v)) []) d q)∧Ot w' (.mk false (aI (aK v)) []) (fun k=>w.heap.size≤k) d q∧Below w.heap.size w w':=by
 have hm:Num v:=by obtain ⟨h1,h2⟩:=hv;exact ⟨h1,by omega⟩
 have D:Hid (∀ W:World,Rt 61 #[.int .u64 v] W (U4 v)):=fun W=>eX hv W
 have C:Hid (∀ W:World,Calls Tryz.prog 27 #[U4 v] W fun e w'=>∃ d q,e = .returned (.agg #[.bool false,d,q])∧Ot w' (.mk false (aI (aK v)) []) (fun k=>W.heap.size≤k) d q∧Below W.heap.size W w'):=fun W=>o9 hm W
 clear hv hm
 generalize aI (aK v)=X at *
 unfold itV
 go_enter Tryz.func29,Tryz.ntmps29
 go_wp2_with (first
  | ((with_reducible refine (D.out _).mono ?_);rintro e0 w0 ⟨rfl,hw0⟩;(have R0:Rb3 w0 w.heap.size:=Rb3.keep ⟨⟨by simp [go_sem],by simp [go_sem],by simp [go_sem]⟩,by simp [go_sem],by simp [go_sem],by simp [go_sem]⟩ hw0);(have B0:Below w.heap.size w w0:=((Below.refl w.heap.size w).alloc (Nat.le_refl _) _).trans (hw0.mono (by simp))))
  | ((with_reducible refine (C.out _).mono ?_);rintro e1 w1 ⟨dd,qq,rfl,O1,hw⟩;(have hsl:=(Ot.it _ O1).slices);(obtain ⟨s1,s2,s3,s4,s5,s6,rfl,rfl⟩:=hsl);(obtain ⟨⟨r0,r1,r2⟩,f0,f1,f2⟩:=R0.keep hw);(have B1:=B0.trans (hw.mono B0.size))))
 simp [bodyPost,results,Tryz.results29,go_sem,r0,r1,r2]
 have hlt:=R0.1.lt
 exact ⟨_,_,⟨rfl,rfl,rfl⟩,Ot.base (B:=w.heap.size+1) (Ot.stored (Ot.base O1 (by omega)) (by omega) _ _ _) (by omega),fD B1 (by omega) _ _ _⟩
theorem yA {ts:List Tr} {a:Option Addr} {b o c:Nat} (hl:wtS ts<4194304) (ha:ts=[]∨a=some ⟨b,o,none⟩) (w:World) (hz:Its w b o ts) :
  Calls Tryz.prog 26 #[.slice a ts.length c] w fun e w'=>∃ d q,e = .returned (itV (.mk true [] ts) d q)∧Ot w' (.mk true [] ts) (fun k=>w.heap.size≤k) d q∧Below w.heap.size w w':=by
 have C:Hid (∀ W,Below w.heap.size w W→Calls Tryz.prog 58 #[.slice a ts.length c] W fun e w'=>∃ v ps,e = .returned v∧Oe W.heap.size w' v ts ps∧Below W.heap.size W w'):=fun W B=>sR (.mk true [] ts) (by exact hl) ha W (hz.keep B)
 clear hl ha hz
 unfold itV
 go_enter Tryz.func26,Tryz.ntmps26
 go_wp2_with ((with_reducible refine (C.out _ ((Below.refl w.heap.size w).alloc (Nat.le_refl _) _)).mono ?_);rintro e1 w1 ⟨v,ps,rfl,O1,hw⟩;(obtain ⟨⟨r0,r1,r2⟩,f0,f1,f2⟩:Rb3 w1 (w.heap.size):=Rb3.keep ⟨⟨by simp [go_sem],by simp [go_sem],by simp [go_sem]⟩,by simp [go_sem],by simp [go_sem],by simp [go_sem]⟩ hw);(have B1:Below w.heap.size w w1:=((Below.refl w.heap.size w).alloc (Nat.le_refl _) _).trans (hw.mono (by simp)));(obtain ⟨av,gv1,cv,rfl,_⟩:=O1.row.its))
 simp [bodyPost,results,Tryz.results26,go_sem,r0,r1,r2]
 exact ⟨_,_,⟨rfl,rfl,rfl⟩,Ot.base (B:=w.heap.size+1) (Ot.stored (AG (O1.row.oe (fun k _ hk=>by simpa using hk)).choose_spec) (by omega) _ _ _) (by omega),fD B1 (by omega) _ _ _⟩
open Go.RowKit Go.Sort
def OwA (W:World) (g:Nat) (P:List Int):Prop:=P.length≤9∧W.rangeAt g 0 (P.map (Value.int .u8))∧W.there g 0 9
theorem OwA.lt {W:World} {g:Nat} {P:List Int} (h:OwA W g P):g<W.heap.size:=by
 obtain ⟨v,hv⟩:=Option.isSome_iff_exists.1 (h.2.2 0 (by omega)).1
 exact World.block_lt_of_cell? W _ hv
theorem OwA.same {W W':World} {g:Nat} {P:List Int} (h:OwA W g P) (e:W'.heap[g]?=W.heap[g]?):OwA W' g P :=
 ⟨h.1,fun j v hv=>by rw [World.cell?_of_block (w:=W) (a:=⟨g,0+j,none⟩) e];exact h.2.1 j v hv,fun j hj=>by
  obtain ⟨h1,h2⟩:=h.2.2 j hj
  exact ⟨by rw [World.cell?_of_block (w:=W) (a:=⟨g,0+j,none⟩) e];exact h1,by rw [World.frozen?_of_block (w:=W) (a:=⟨g,0+j,none⟩) e];exact h2⟩⟩
theorem OwA.keep {W W':World} {g:Nat} {P:List Int} (h:OwA W g P) (hb:Below W.heap.size W W'):OwA W' g P:=h.same (hb.block g h.lt)
theorem OwA.bz {W:World} {g:Nat} {P:List Int} (h:OwA W g P):Bz W g 0 P:=fun i hi=>h.2.1 i _ (by rw [List.getElem?_map,List.getElem?_eq_getElem hi,List.getD,List.getElem?_eq_getElem hi];rfl)
theorem pY (W:World) (g o:Nat) (v:Value):W.setCells g o [v]=W.setCell ⟨g,o,none⟩ v:=rfl
theorem OwA.snoc {W:World} {g:Nat} {P:List Int} (h:OwA W g P) (hl:P.length<9) (x:Int):OwA (W.setCells g P.length [.int .u8 x]) g (P++[x]):=by
 have lm:(P.map (Value.int .u8)).length=P.length:=List.length_map _
 refine ⟨by simp;omega,fun j v hv=>?_,World.there_setCells h.2.2 _ _ _⟩
 rw [List.map_append] at hv
 by_cases hj:j<P.length
 ·rw [List.getElem?_append_left (by omega)] at hv
  exact World.rangeAt_setCells_apart h.2.1 g P.length [.int .u8 x] (.inr (.inl (by rw [lm];omega))) j v hv
 ·rw [List.getElem?_append_right (by omega),lm] at hv
  have hj2:j=P.length:=by
   have:=(List.getElem?_eq_some_iff.1 hv).1
   simp at this
   omega
  subst hj2
  rw [Nat.sub_self] at hv
  have ht:W.there g P.length 1:=fun k hk=>by
   have:=h.2.2 (P.length+k) (by omega)
   rw [Nat.zero_add] at this
   exact this
  have:=World.rangeAt_setCells_same W g P.length [.int .u8 x] ht 0 v hv
  rw [Nat.zero_add];exact this
theorem aA {ops:Array Oper} {rest:List Oper} {op:Oper} {a:Act} {Q:Exit→Act→World→Prop} {W:World} {g gn n c:Nat} {P:List Int} {x:Int} (hgd:op.guard=none) (s t:Operand)
  (ho:op.op = .call { callee:=.builtin .append,args:=#[s,t],argTypes:=#[52,52] }) (hs:a.eval s = .slice (some ⟨g,0,none⟩) n 9) (hn:n=P.length) (hx:a.eval t = .slice (some ⟨gn,0,none⟩) 1 c)
  (h:OwA W g P) (hl:P.length<9) (hnew:W.cell? ⟨gn,0,none⟩=some (.int .u8 x))
  (hK:∀ w',OwA w' g (P++[x])→W.grownBy w' (some g)→wpList Tryz.prog ops Q rest (a.put op.dst (.slice (some ⟨g,0,none⟩) (n+1) 9)) w'):wpList Tryz.prog ops Q (op :: rest) a W:=by
 subst hn
 obtain ⟨i0,hi,hz0,hz1,hz2⟩:=info_parts dE
 refine wpList_plain hgd fun K hK'=>?_
 have hr:=run_append_room_cells (P:=Tryz.prog) W 52 op.type 5 i0 Tryz.underlying52 hi g 0 P.length 9 ⟨gn,0,none⟩ 1 c [.int .u8 x] (by rw [hz1];rfl) (fun j u hu=>by
  match j,hu with
  | 0,hu=>simp at hu;subst hu;rw [Addr.add_lit];exact hnew
  | j+1,hu=>simp at hu) (fun u hu=>by simp at hu;subst hu;rfl) (by omega) (fun j hj=>by
  have:=(h.2.2 (P.length+j) (by simp at hj;omega)).1
  rw [hz1,Nat.mul_one]
  rw [Nat.zero_add] at this ⊢
  exact this) (fun j hj=>by
  have:=(h.2.2 (P.length+j) (by simp at hj;omega)).2
  rw [hz1,Nat.mul_one]
  rw [Nat.zero_add] at this ⊢
  exact this)
 rw [hz1,Nat.mul_one,Nat.zero_add] at hr
 unfold Oper.wp execOp
 simp only [ho,resolve,invoke,builtin,Sem.run_bind,Sem.run_pure,Result.andThen_ok,List.map_toArray,List.map_cons,List.map_nil,hs,hx,hr]
 exact hK' _ _ (hK _ (h.snoc hl x) (by rw [pY];exact o8 _ _ _))
theorem bC (W:World) (x:Int) (t:TypeId):(W.alloc (.cells #[.int .u8 x] t)).cell? ⟨W.heap.size,0,none⟩=some (.int .u8 x):=by simp [go_sem]
theorem OwA.congr {w:World} {g:Nat} {Z:List Int} {x y:Int} (h:OwA w g (Z++[x])) (e:x=y):OwA w g (Z++[y]):=e ▸ h
theorem aH (W:World) (o:Obj) (row:Option Nat):W.grownBy (W.alloc o) row:=World.grownBy_alloc W o row
theorem nR {g n:Nat} (hn:n≤55) (w:World) (h:OwA w g []) :
  Calls Tryz.prog 122 #[.slice (some ⟨g,0,none⟩) 0 9,.bool true,.int .i64 (n:Int)] w fun e w'=>e = .returned (.slice (some ⟨g,0,none⟩) 1 9)∧OwA w' g [192+(n:Int)]∧w.grownBy w' (some g):=by
 have hn':(n:Int)≤55:=by omega
 have e1:(192+(n:Int))%256=192+n:=by omega
 have HO:Hid (OwA w g []):=h
 clear h
 go_enter Tryz.func122,Tryz.ntmps122
 go_wp2_with ((at_builtin;go_loud (refine aA (P:=[]) rfl _ _ rfl rfl rfl rfl (HO.out.keep ((Below.refl _ _).alloc (Nat.le_refl _) _)) (by decide) (bC _ _ _) ?_);intro w3 ho hg))
 simp [bodyPost,results,Tryz.results122,go_sem]
 exact ⟨by simpa using ho,(aH _ _ _).trans hg⟩
theorem mt {g n:Nat} (hn:55<n) (hn2:n<16777216) (w:World) (h:OwA w g []) :
  Calls Tryz.prog 122 #[.slice (some ⟨g,0,none⟩) 0 9,.bool true,.int .i64 (n:Int)] w fun e w'=>e = .returned (.slice (some ⟨g,0,none⟩) ((beN n).length+1) 9)∧OwA w' g ((192+55+((beN n).length:Int)) :: beN n)∧w.grownBy w' (some g):=by
 have hn':¬((n:Int)≤55):=by omega
 have hn3:(n:Int)<16777216:=by omega
 have c:=fg (n:=n) (by omega) hn2
 have hl:=kw n
 have hl':((beN n).length:Int)≤3:=by omega
 have BA:=BM n
 have HO:Hid (OwA w g []):=h
 have HT:Hid (∀ i,i<(beN n).length→(beN n).take (i+1)=(beN n).take i++[(beN n).getD i 0]):=fun i hi=>nz hi
 have HT2:Hid ((beN n).take (beN n).length=beN n):=List.take_length
 clear h
 obtain ⟨r,er⟩:∃ r,r=(beN n).length:=⟨_,rfl⟩
 rw [←er] at c hl hl' BA HT HT2 ⊢
 generalize beN n=bn at *
 have HR:Hid (r=bn.length):=er
 clear er
 go_enter Tryz.func122,Tryz.ntmps122
 go_wp2_with (first|((with_reducible refine (c _).mono ?_);rintro e1 w1 ⟨rfl,hw⟩;(rw [hw]);(clear hw w1))|((at_builtin;go_loud (refine aA (P:=[]) (x:=192+55+(r:Int)) rfl _ _ rfl rfl rfl rfl (HO.out.keep ((Below.refl _ _).alloc (Nat.le_refl _) _)) (by decide) (bC _ _ _) ?_);intro w3 ho hg)))
 have G3:Hid (OwA w3 g [192+55+(r:Int)]∧w.grownBy w3 (some g)):=⟨by simpa using ho,(aH _ _ _).trans hg⟩
 clear ho hg
 go_loopg [0,31] r (fun k bv iv wr=>∃ i:Nat,k=r-i∧i≤r∧bv = .slice (some ⟨g,0,none⟩) (i+1) 9∧iv = .int .i64 (i:Int)∧OwA wr g ((192+55+(r:Int)) :: bn.take i)∧w.grownBy wr (some g))
 case atStart=>exact ⟨0,rfl,Nat.zero_le _,rfl,rfl,G3.out⟩
 case round =>
  clear G3
  obtain ⟨i,hk,hi8,rfl,rfl,ho,Bw⟩:=hrel
  have HK:Hid (gk=r-i∧i≤r):=⟨hk,hi8⟩
  have HF:Hid (OwA wr g ((192+55+(r:Int)) :: bn.take i)∧w.grownBy wr (some g)):=⟨ho,Bw⟩
  clear hk ho Bw
  by_cases h8:i=r
  ·subst h8
   go_wp2
   have F:=HF.out
   rw [HT2.out] at F
   simp [bodyPost,results,Tryz.results122,go_sem]
   exact F
  ·have hlt:i<r:=by omega
   have hlt':(i:Int)<(r:Int):=by omega
   have LN:Hid (i+1=((192+55+(r:Int)) :: bn.take i).length∧((192+55+(r:Int)) :: bn.take i).length<9):=by
    have:=HR.out
    have e:((192+55+(r:Int)) :: bn.take i).length=i+1:=by rw [List.length_cons,List.length_take];omega
    exact ⟨e.symm,by rw [e];omega⟩
   have NX:Hid ((192+55+(r:Int)) :: bn.take (i+1)=((192+55+(r:Int)) :: bn.take i)++[bn.getD i 0]):=by
    show _=_
    rw [HT.out i hlt];simp
   rcases BA with ⟨r1,b0,bl⟩|⟨r1,b0,b1,bl⟩|⟨r1,b0,b1,b2⟩
   ·have i1:i=0:=by omega
    subst r1 i1
    ·go_wp2_with ((at_builtin;go_loud (refine aA rfl _ _ rfl rfl LN.out.1 rfl (HF.out.1.keep ((Below.refl _ _).alloc (Nat.le_refl _) _)) LN.out.2 (bC _ _ _) ?_);intro w3 ho hg))
     have G4:w.grownBy w3 (some g):=(HF.out.2.trans (aH _ _ _)).trans hg
     clear hg
     go_roundg (1-(0+1))
     case measure=>have:=HK.out.1;omega
     case rel=>exact ⟨0+1,rfl,by omega,rfl,by go_num,by rw [NX.out,b0];exact ho.congr (by first|rfl|omega|(simp;omega)),G4⟩
   ·have i1:i=0∨i=1:=by omega
    subst r1
    rcases i1 with i1|i1<;>subst i1
    ·go_wp2_with ((at_builtin;go_loud (refine aA rfl _ _ rfl rfl LN.out.1 rfl (HF.out.1.keep ((Below.refl _ _).alloc (Nat.le_refl _) _)) LN.out.2 (bC _ _ _) ?_);intro w3 ho hg))
     have G4:w.grownBy w3 (some g):=(HF.out.2.trans (aH _ _ _)).trans hg
     clear hg
     go_roundg (2-(0+1))
     case measure=>have:=HK.out.1;omega
     case rel=>exact ⟨0+1,rfl,by omega,rfl,by go_num,by rw [NX.out,b0];exact ho.congr (by first|rfl|omega|(simp;omega)),G4⟩
    ·go_wp2_with ((at_builtin;go_loud (refine aA rfl _ _ rfl rfl LN.out.1 rfl (HF.out.1.keep ((Below.refl _ _).alloc (Nat.le_refl _) _)) LN.out.2 (bC _ _ _) ?_);intro w3 ho hg))
     have G4:w.grownBy w3 (some g):=(HF.out.2.trans (aH _ _ _)).trans hg
     clear hg
     go_roundg (2-(1+1))
     case measure=>have:=HK.out.1;omega
     case rel=>exact ⟨1+1,rfl,by omega,rfl,by go_num,by rw [NX.out,b1];exact ho.congr (by first|rfl|omega|(simp;omega)),G4⟩
   ·have i1:i=0∨i=1∨i=2:=by omega
    subst r1
    rcases i1 with i1|i1|i1<;>subst i1
    ·go_wp2_with ((at_builtin;go_loud (refine aA rfl _ _ rfl rfl LN.out.1 rfl (HF.out.1.keep ((Below.refl _ _).alloc (Nat.le_refl _) _)) LN.out.2 (bC _ _ _) ?_);intro w3 ho hg))
     have G4:w.grownBy w3 (some g):=(HF.out.2.trans (aH _ _ _)).trans hg
     clear hg
     go_roundg (3-(0+1))
     case measure=>have:=HK.out.1;omega
     case rel=>exact ⟨0+1,rfl,by omega,rfl,by go_num,by rw [NX.out,b0];exact ho.congr (by first|rfl|omega|(simp;omega)),G4⟩
    ·go_wp2_with ((at_builtin;go_loud (refine aA rfl _ _ rfl rfl LN.out.1 rfl (HF.out.1.keep ((Below.refl _ _).alloc (Nat.le_refl _) _)) LN.out.2 (bC _ _ _) ?_);intro w3 ho hg))
     have G4:w.grownBy w3 (some g):=(HF.out.2.trans (aH _ _ _)).trans hg
     clear hg
     go_roundg (3-(1+1))
     case measure=>have:=HK.out.1;omega
     case rel=>exact ⟨1+1,rfl,by omega,rfl,by go_num,by rw [NX.out,b1];exact ho.congr (by first|rfl|omega|(simp;omega)),G4⟩
    ·go_wp2_with ((at_builtin;go_loud (refine aA rfl _ _ rfl rfl LN.out.1 rfl (HF.out.1.keep ((Below.refl _ _).alloc (Nat.le_refl _) _)) LN.out.2 (bC _ _ _) ?_);intro w3 ho hg))
     have G4:w.grownBy w3 (some g):=(HF.out.2.trans (aH _ _ _)).trans hg
     clear hg
     go_roundg (3-(2+1))
     case measure=>have:=HK.out.1;omega
     case rel=>exact ⟨2+1,rfl,by omega,rfl,by go_num,by rw [NX.out,b2];exact ho.congr (by first|rfl|omega|(simp;omega)),G4⟩
theorem sS {g n:Nat} (hn2:n<16777216) (w:World) (h:OwA w g []) :
  Calls Tryz.prog 122 #[.slice (some ⟨g,0,none⟩) 0 9,.bool true,.int .i64 (n:Int)] w fun e w'=>e = .returned (.slice (some ⟨g,0,none⟩) (hdR 192 n).length 9)∧OwA w' g (hdR 192 n)∧w.grownBy w' (some g):=by
 unfold hdR
 by_cases k:n≤55
 ·rw [if_pos k];exact nR k w h
 ·rw [if_neg k,List.length_cons];exact mt (by omega) hn2 w h
theorem mu {g n:Nat} (hn:n≤55) (w:World) (h:OwA w g []) :
  Calls Tryz.prog 122 #[.slice (some ⟨g,0,none⟩) 0 9,.bool false,.int .i64 (n:Int)] w fun e w'=>e = .returned (.slice (some ⟨g,0,none⟩) 1 9)∧OwA w' g [128+(n:Int)]∧w.grownBy w' (some g):=by
 have hn':(n:Int)≤55:=by omega
 have e1:(128+(n:Int))%256=128+n:=by omega
 have HO:Hid (OwA w g []):=h
 clear h
 go_enter Tryz.func122,Tryz.ntmps122
 go_wp2_with ((at_builtin;go_loud (refine aA (P:=[]) rfl _ _ rfl rfl rfl rfl (HO.out.keep ((Below.refl _ _).alloc (Nat.le_refl _) _)) (by decide) (bC _ _ _) ?_);intro w3 ho hg))
 simp [bodyPost,results,Tryz.results122,go_sem]
 exact ⟨by simpa using ho,(aH _ _ _).trans hg⟩
theorem lE {g n:Nat} (hn:55<n) (hn2:n<16777216) (w:World) (h:OwA w g []) :
  Calls Tryz.prog 122 #[.slice (some ⟨g,0,none⟩) 0 9,.bool false,.int .i64 (n:Int)] w fun e w'=>e = .returned (.slice (some ⟨g,0,none⟩) ((beN n).length+1) 9)∧OwA w' g ((128+55+((beN n).length:Int)) :: beN n)∧w.grownBy w' (some g):=by
 have hn':¬((n:Int)≤55):=by omega
 have hn3:(n:Int)<16777216:=by omega
 have c:=fg (n:=n) (by omega) hn2
 have hl:=kw n
 have hl':((beN n).length:Int)≤3:=by omega
 have BA:=BM n
 have HO:Hid (OwA w g []):=h
 have HT:Hid (∀ i,i<(beN n).length→(beN n).take (i+1)=(beN n).take i++[(beN n).getD i 0]):=fun i hi=>nz hi
 have HT2:Hid ((beN n).take (beN n).length=beN n):=List.take_length
 clear h
 obtain ⟨r,er⟩:∃ r,r=(beN n).length:=⟨_,rfl⟩
 rw [←er] at c hl hl' BA HT HT2 ⊢
 generalize beN n=bn at *
 have HR:Hid (r=bn.length):=er
 clear er
 go_enter Tryz.func122,Tryz.ntmps122
 go_wp2_with (first|((with_reducible refine (c _).mono ?_);rintro e1 w1 ⟨rfl,hw⟩;(rw [hw]);(clear hw w1))|((at_builtin;go_loud (refine aA (P:=[]) (x:=128+55+(r:Int)) rfl _ _ rfl rfl rfl rfl (HO.out.keep ((Below.refl _ _).alloc (Nat.le_refl _) _)) (by decide) (bC _ _ _) ?_);intro w3 ho hg)))
 have G3:Hid (OwA w3 g [128+55+(r:Int)]∧w.grownBy w3 (some g)):=⟨by simpa using ho,(aH _ _ _).trans hg⟩
 clear ho hg
 go_loopg [0,31] r (fun k bv iv wr=>∃ i:Nat,k=r-i∧i≤r∧bv = .slice (some ⟨g,0,none⟩) (i+1) 9∧iv = .int .i64 (i:Int)∧OwA wr g ((128+55+(r:Int)) :: bn.take i)∧w.grownBy wr (some g))
 case atStart=>exact ⟨0,rfl,Nat.zero_le _,rfl,rfl,G3.out⟩
 case round =>
  clear G3
  obtain ⟨i,hk,hi8,rfl,rfl,ho,Bw⟩:=hrel
  have HK:Hid (gk=r-i∧i≤r):=⟨hk,hi8⟩
  have HF:Hid (OwA wr g ((128+55+(r:Int)) :: bn.take i)∧w.grownBy wr (some g)):=⟨ho,Bw⟩
  clear hk ho Bw
  by_cases h8:i=r
  ·subst h8
   go_wp2
   have F:=HF.out
   rw [HT2.out] at F
   simp [bodyPost,results,Tryz.results122,go_sem]
   exact F
  ·have hlt:i<r:=by omega
   have hlt':(i:Int)<(r:Int):=by omega
   have LN:Hid (i+1=((128+55+(r:Int)) :: bn.take i).length∧((128+55+(r:Int)) :: bn.take i).length<9):=by
    have:=HR.out
    have e:((128+55+(r:Int)) :: bn.take i).length=i+1:=by rw [List.length_cons,List.length_take];omega
    exact ⟨e.symm,by rw [e];omega⟩
   have NX:Hid ((128+55+(r:Int)) :: bn.take (i+1)=((128+55+(r:Int)) :: bn.take i)++[bn.getD i 0]):=by
    show _=_
    rw [HT.out i hlt];simp
   rcases BA with ⟨r1,b0,bl⟩|⟨r1,b0,b1,bl⟩|⟨r1,b0,b1,b2⟩
   ·have i1:i=0:=by omega
    subst r1 i1
    ·go_wp2_with ((at_builtin;go_loud (refine aA rfl _ _ rfl rfl LN.out.1 rfl (HF.out.1.keep ((Below.refl _ _).alloc (Nat.le_refl _) _)) LN.out.2 (bC _ _ _) ?_);intro w3 ho hg))
     have G4:w.grownBy w3 (some g):=(HF.out.2.trans (aH _ _ _)).trans hg
     clear hg
     go_roundg (1-(0+1))
     case measure=>have:=HK.out.1;omega
     case rel=>exact ⟨0+1,rfl,by omega,rfl,by go_num,by rw [NX.out,b0];exact ho.congr (by first|rfl|omega|(simp;omega)),G4⟩
   ·have i1:i=0∨i=1:=by omega
    subst r1
    rcases i1 with i1|i1<;>subst i1
    ·go_wp2_with ((at_builtin;go_loud (refine aA rfl _ _ rfl rfl LN.out.1 rfl (HF.out.1.keep ((Below.refl _ _).alloc (Nat.le_refl _) _)) LN.out.2 (bC _ _ _) ?_);intro w3 ho hg))
     have G4:w.grownBy w3 (some g):=(HF.out.2.trans (aH _ _ _)).trans hg
     clear hg
     go_roundg (2-(0+1))
     case measure=>have:=HK.out.1;omega
     case rel=>exact ⟨0+1,rfl,by omega,rfl,by go_num,by rw [NX.out,b0];exact ho.congr (by first|rfl|omega|(simp;omega)),G4⟩
    ·go_wp2_with ((at_builtin;go_loud (refine aA rfl _ _ rfl rfl LN.out.1 rfl (HF.out.1.keep ((Below.refl _ _).alloc (Nat.le_refl _) _)) LN.out.2 (bC _ _ _) ?_);intro w3 ho hg))
     have G4:w.grownBy w3 (some g):=(HF.out.2.trans (aH _ _ _)).trans hg
     clear hg
     go_roundg (2-(1+1))
     case measure=>have:=HK.out.1;omega
     case rel=>exact ⟨1+1,rfl,by omega,rfl,by go_num,by rw [NX.out,b1];exact ho.congr (by first|rfl|omega|(simp;omega)),G4⟩
   ·have i1:i=0∨i=1∨i=2:=by omega
    subst r1
    rcases i1 with i1|i1|i1<;>subst i1
    ·go_wp2_with ((at_builtin;go_loud (refine aA rfl _ _ rfl rfl LN.out.1 rfl (HF.out.1.keep ((Below.refl _ _).alloc (Nat.le_refl _) _)) LN.out.2 (bC _ _ _) ?_);intro w3 ho hg))
     have G4:w.grownBy w3 (some g):=(HF.out.2.trans (aH _ _ _)).trans hg
     clear hg
     go_roundg (3-(0+1))
     case measure=>have:=HK.out.1;omega
     case rel=>exact ⟨0+1,rfl,by omega,rfl,by go_num,by rw [NX.out,b0];exact ho.congr (by first|rfl|omega|(simp;omega)),G4⟩
    ·go_wp2_with ((at_builtin;go_loud (refine aA rfl _ _ rfl rfl LN.out.1 rfl (HF.out.1.keep ((Below.refl _ _).alloc (Nat.le_refl _) _)) LN.out.2 (bC _ _ _) ?_);intro w3 ho hg))
     have G4:w.grownBy w3 (some g):=(HF.out.2.trans (aH _ _ _)).trans hg
     clear hg
     go_roundg (3-(1+1))
     case measure=>have:=HK.out.1;omega
     case rel=>exact ⟨1+1,rfl,by omega,rfl,by go_num,by rw [NX.out,b1];exact ho.congr (by first|rfl|omega|(simp;omega)),G4⟩
    ·go_wp2_with ((at_builtin;go_loud (refine aA rfl _ _ rfl rfl LN.out.1 rfl (HF.out.1.keep ((Below.refl _ _).alloc (Nat.le_refl _) _)) LN.out.2 (bC _ _ _) ?_);intro w3 ho hg))
     have G4:w.grownBy w3 (some g):=(HF.out.2.trans (aH _ _ _)).trans hg
     clear hg
     go_roundg (3-(2+1))
     case measure=>have:=HK.out.1;omega
     case rel=>exact ⟨2+1,rfl,by omega,rfl,by go_num,by rw [NX.out,b2];exact ho.congr (by first|rfl|omega|(simp;omega)),G4⟩
theorem rf {g n:Nat} (hn2:n<16777216) (w:World) (h:OwA w g []) :
  Calls Tryz.prog 122 #[.slice (some ⟨g,0,none⟩) 0 9,.bool false,.int .i64 (n:Int)] w fun e w'=>e = .returned (.slice (some ⟨g,0,none⟩) (hdR 128 n).length 9)∧OwA w' g (hdR 128 n)∧w.grownBy w' (some g):=by
 unfold hdR
 by_cases k:n≤55
 ·rw [if_pos k];exact mu k w h
 ·rw [if_neg k,List.length_cons];exact lE (by omega) hn2 w h
open Go.RowKit Go.Sort
def Rq (W:World) (gr:Nat) (L:List Int):Prop:=W.heap[gr]?=some (.cells (L.map (Value.int .u8)).toArray 5 (0,0))
theorem Rq.lt {W:World} {gr:Nat} {L:List Int} (h:Rq W gr L):gr<W.heap.size:=(Array.getElem?_eq_some_iff.1 h).1
theorem Rq.keep {W W':World} {gr:Nat} {L:List Int} (h:Rq W gr L) (hb:Below W.heap.size W W'):Rq W' gr L:=(hb.block gr h.lt).trans h
theorem Rq.grown {W W':World} {gr:Nat} {L:List Int} {row:Option Nat} (h:Rq W gr L) (hg:W.grownBy W' row) (hn:row≠some gr):Rq W' gr L:=(hg.block gr h.lt fun e=>hn e.symm).trans h
def ovr (L:List Int) (m:Nat) (X:List Int):List Int:=L.take (m-X.length)++(X++L.drop m)
theorem uh (L:List Int) (m:Nat):ovr L m []=L:=by unfold ovr;simp
theorem pZ {L:List Int} {m:Nat} {X:List Int} (h1:m≤L.length) (h2:X.length≤m):(ovr L m X).length=L.length:=by
 unfold ovr
 rw [List.length_append,List.length_append,List.length_take,List.length_drop];omega
theorem p8 {L:List Int} {m:Nat} {X Y:List Int} (h1:m≤L.length) (h2:X.length+Y.length≤m):ovr (ovr L m X) (m-X.length) Y=ovr L m (Y++X):=by
 unfold ovr
 have e1:(L.take (m-X.length)).length=m-X.length:=by rw [List.length_take];omega
 have e2:(L.take (m-X.length)++(X++L.drop m)).take (m-X.length-Y.length)=L.take (m-X.length-Y.length):=by
  rw [List.take_append_of_le_length (by omega),List.take_take]
  congr 1;omega
 have e3:(L.take (m-X.length)++(X++L.drop m)).drop (m-X.length)=X++L.drop m:=by
  rw [List.drop_append_of_le_length (by omega),List.drop_of_length_le (by omega),List.nil_append]
 rw [e2,e3,List.length_append]
 rw [show m-(Y.length+X.length)=m-X.length-Y.length by omega,List.append_assoc]
theorem p9 {w:World} {g:Nat} {cs:Array Value}:w.grownBy (w.setRow g cs) (some g):=⟨rfl,rfl,rfl,by simp,fun k _ hk=>setRow_other w g k _ (fun e=>hk (by rw [e]))⟩
theorem qa {X L:List Int} {a:Option Addr} {b o c gr m n:Nat} (hL:L.length=n) (hm:m≤n) (hx:X.length≤m) (hn:n<1000000000) (ha:Az a b o X) (w:World) (hz:Bz w b o X) (hr:Rq w gr L) :
  Calls Tryz.prog 119 #[.slice (some ⟨gr,0,none⟩) m n,.slice a X.length c] w fun e w'=>e = .returned (.slice (some ⟨gr,0,none⟩) (m-X.length) n)∧Rq w' gr (ovr L m X)∧w.grownBy w' (some gr):=by
 have hu:=Tryz.underlying52
 have hsz:(Tryz.prog.info? 5).map (·.size)=some 1:=by kernel_rfl
 obtain ⟨k,hk⟩:∃ k,k=m-X.length:=⟨_,rfl⟩
 have hs:(m:Int)-(X.length:Int)=(k:Int):=by omega
 have hkm:(k:Int)≤(m:Int):=by omega
 have hkn:(k:Int)≤(n:Int):=by omega
 have hmn:(m:Int)≤(n:Int):=by omega
 have hnn:(n:Int)<1000000000:=by omega
 rw [←hk]
 by_cases h0:X=[]
 ·subst h0
  have e:k=m:=by simpa using hk
  rw [uh]
  clear hs hx ha hz hk hn hL
  subst e
  by_cases hq:n=k
  ·subst hq
   go_enter Tryz.func119,Tryz.ntmps119
   go_wp2_with (refine wpList_copy_nothing rfl _ _ _ _ rfl _ hu hsz _ _ _ _ _ _ rfl rfl (by simp) ?_)
   simp [bodyPost,results,Tryz.results119,go_sem]
   exact ⟨hr,World.grownBy.refl _ _⟩
  ·go_enter Tryz.func119,Tryz.ntmps119
   go_wp2_with (refine wpList_copy_nothing rfl _ _ _ _ rfl _ hu hsz _ _ _ _ _ _ rfl rfl (by simp) ?_)
   simp [bodyPost,results,Tryz.results119,go_sem]
   exact ⟨hr,World.grownBy.refl _ _⟩
 ·have hp:0<X.length:=List.length_pos_iff.2 h0
  obtain rfl:=ha.cons hp
  have hlt:¬(n=k):=by omega
  have hlt2:(if n=k then (⟨gr,0,none⟩:Addr) else ⟨gr,k,none⟩)=⟨gr,k,none⟩:=if_neg hlt
  have HX:Hid (X.length=m-k∧k+X.length=m∧m≤n∧L.length=n∧k=m-X.length):=⟨by omega,by omega,hm,hL,hk⟩
  have HR:Hid (w.heap[gr]?=some (.cells (L.map (Value.int .u8)).toArray 5 (0,0))):=hr
  have HS:Hid (Bz w b o X):=hz
  clear hr hz hk hx ha hm hL hp h0 hn
  obtain ⟨XL,hXL⟩:∃ q,q=X.length:=⟨_,rfl⟩
  rw [←hXL] at hs ⊢
  have HXL:Hid (XL=X.length):=hXL
  clear hXL
  have hmin:Hid ((X.map (Value.int .u8)).length=Nat.min XL (m-k)):=by
   show _=_
   rw [List.length_map,HXL.out,HX.out.1]
   exact (Nat.min_self _).symm
  have hfit:Hid (k+(X.map (Value.int .u8)).length≤(L.map (Value.int .u8)).toArray.size):=by
   show _≤_
   rw [List.length_map,List.size_toArray,List.length_map];have:=HX.out;omega
  go_enter Tryz.func119,Tryz.ntmps119
  go_wp2_with (refine wpList_copy_own rfl _ _ _ _ rfl _ hu hsz gr k (m-k) (n-k) ⟨b,o,none⟩ XL c rfl rfl _ _ HR.out (X.map (Value.int .u8)) hmin.out (fun j v hv=>sH HS.out j v hv) hfit.out (fun v hv=>by obtain ⟨x,_,rfl⟩:=List.mem_map.1 hv;rfl) ?_)
  simp [bodyPost,results,Tryz.results119,go_sem]
  have e:List.take k (L.map (Value.int .u8))++(X.map (Value.int .u8)++List.drop (k+X.length) (L.map (Value.int .u8)))=(ovr L m X).map (Value.int .u8):=by
   unfold ovr
   rw [←HX.out.2.2.2.2,List.map_append,List.map_append,List.map_take,List.map_drop,HX.out.2.1]
  rw [e]
  exact ⟨setRow_heap w gr _ _ _ _ HR.out,p9⟩
theorem nS {b:Nat} (w:World):(Instr.sliceAt 155 (.pointer (some ⟨b,0,none⟩)) none (some (.int .i64 0)) none).run Tryz.prog w = .ok (.slice (some ⟨b,0,none⟩) 0 9) w:=by
 kernel_rfl
theorem rh (w:World) {cs:Array Value} {t:TypeId} (h:cs.size=9):OwA (w.alloc (.cells cs t)) w.heap.size []:=by
 have hn:(w.alloc (.cells cs t)).heap[w.heap.size]?=some (.cells cs t):=by
  show (w.heap.push _)[w.heap.size]?=_
  simp
 exact ⟨by simp,fun j v hv=>by simp at hv,fun j hj=>⟨by rw [Nat.zero_add,cell_of_row _ _ j _ _ _ hn];simp [h,hj],by rw [Nat.zero_add];exact frozen_of_row _ _ j _ _ hn⟩⟩
theorem jc {w w1 w2:World} {gr bh:Nat} (h1:w.grownBy w1 (some gr)) (h2:w1.grownBy w2 (some bh)) (hb:w.heap.size≤bh):w.grownBy w2 (some gr) :=
 ⟨h2.os.trans h1.os,h2.tape.trans h1.tape,h2.output.trans h1.output,Nat.le_trans h1.size h2.size,fun k hk hn=>(h2.block k (Nat.lt_of_lt_of_le hk h1.size) fun e=>by have:=Option.some.inj e;omega).trans (h1.block k hk hn)⟩
theorem ri {w w1:World} (row:Option Nat) (h:Below w.heap.size w w1):w.grownBy w1 row:=⟨h.os,h.tape,h.output,h.size,fun k hk _=>h.block k hk⟩
theorem sU {L:List Int} {gr m n h:Nat} (hL:L.length=n) (hm:m≤n) (hx:(hdR 192 h).length≤m) (hn:n<1000000000) (hh:h<16777216) (w:World) (hr:Rq w gr L) :
  Calls Tryz.prog 91 #[.slice (some ⟨gr,0,none⟩) m n,.bool true,.int .i64 (h:Int)] w fun e w'=>e = .returned (.slice (some ⟨gr,0,none⟩) (m-(hdR 192 h).length) n)∧Rq w' gr (ovr L m (hdR 192 h))∧w.grownBy w' (some gr):=by
 have sn:=@nS w.heap.size
 have WH:Hid (∀ W g,OwA W g []→Calls Tryz.prog 122 #[.slice (some ⟨g,0,none⟩) 0 9,.bool true,.int .i64 (h:Int)] W fun e w'=>e = .returned (.slice (some ⟨g,0,none⟩) (hdR 192 h).length 9)∧OwA w' g (hdR 192 h)∧W.grownBy w' (some g)):=fun W g o=>sS hh W o
 have PU:Hid (∀ W g,OwA W g (hdR 192 h)→Rq W gr L→Calls Tryz.prog 119 #[.slice (some ⟨gr,0,none⟩) m n,.slice (some ⟨g,0,none⟩) (hdR 192 h).length 9] W fun e w'=>e = .returned (.slice (some ⟨gr,0,none⟩) (m-(hdR 192 h).length) n)∧Rq w' gr (ovr L m (hdR 192 h))∧W.grownBy w' (some gr)):=fun W g o r=>qa hL hm hx hn (.inr rfl) W o.bz r
 clear hL hm hx hn hh
 generalize hdR 192 h=X at *
 have hgr:=hr.lt
 have HO:Hid (∀ cs:Array Value,∀ t,cs.size=9→OwA (w.alloc (.cells cs t)) w.heap.size []∧Rq (w.alloc (.cells cs t)) gr L∧w.grownBy (w.alloc (.cells cs t)) (some gr)):=fun cs t hc=>⟨rh w hc,hr.keep ((Below.refl _ _).alloc (Nat.le_refl _) _),aH _ _ _⟩
 go_enter Tryz.func91,Tryz.ntmps91
 go_wp2_with (first
  | (go_at_call 122;(with_reducible refine (WH.out _ w.heap.size (HO.out _ _ rfl).1).mono ?_);rintro e1 w1 ⟨rfl,o1,g1⟩;(have r1:Rq w1 gr L:=(HO.out _ _ rfl).2.1.grown g1 (fun e=>by have:=Option.some.inj e;omega));(have g2:w.grownBy w1 (some gr):=jc (HO.out _ _ rfl).2.2 g1 (Nat.le_refl _)))
  | (go_at_call 119;(with_reducible refine (PU.out _ w.heap.size o1 r1).mono ?_);rintro e2 w2 ⟨rfl,r2,g3⟩))
 simp [bodyPost,results,Tryz.results91,go_sem]
 exact ⟨r2,g2.trans g3⟩
theorem rj {L:List Int} {gr m n h:Nat} (hL:L.length=n) (hm:m≤n) (hx:(hdR 128 h).length≤m) (hn:n<1000000000) (hh:h<16777216) (w:World) (hr:Rq w gr L) :
  Calls Tryz.prog 91 #[.slice (some ⟨gr,0,none⟩) m n,.bool false,.int .i64 (h:Int)] w fun e w'=>e = .returned (.slice (some ⟨gr,0,none⟩) (m-(hdR 128 h).length) n)∧Rq w' gr (ovr L m (hdR 128 h))∧w.grownBy w' (some gr):=by
 have sn:=@nS w.heap.size
 have WH:Hid (∀ W g,OwA W g []→Calls Tryz.prog 122 #[.slice (some ⟨g,0,none⟩) 0 9,.bool false,.int .i64 (h:Int)] W fun e w'=>e = .returned (.slice (some ⟨g,0,none⟩) (hdR 128 h).length 9)∧OwA w' g (hdR 128 h)∧W.grownBy w' (some g)):=fun W g o=>rf hh W o
 have PU:Hid (∀ W g,OwA W g (hdR 128 h)→Rq W gr L→Calls Tryz.prog 119 #[.slice (some ⟨gr,0,none⟩) m n,.slice (some ⟨g,0,none⟩) (hdR 128 h).length 9] W fun e w'=>e = .returned (.slice (some ⟨gr,0,none⟩) (m-(hdR 128 h).length) n)∧Rq w' gr (ovr L m (hdR 128 h))∧W.grownBy w' (some gr)):=fun W g o r=>qa hL hm hx hn (.inr rfl) W o.bz r
 clear hL hm hx hn hh
 generalize hdR 128 h=X at *
 have hgr:=hr.lt
 have HO:Hid (∀ cs:Array Value,∀ t,cs.size=9→OwA (w.alloc (.cells cs t)) w.heap.size []∧Rq (w.alloc (.cells cs t)) gr L∧w.grownBy (w.alloc (.cells cs t)) (some gr)):=fun cs t hc=>⟨rh w hc,hr.keep ((Below.refl _ _).alloc (Nat.le_refl _) _),aH _ _ _⟩
 go_enter Tryz.func91,Tryz.ntmps91
 go_wp2_with (first
  | (go_at_call 122;(with_reducible refine (WH.out _ w.heap.size (HO.out _ _ rfl).1).mono ?_);rintro e1 w1 ⟨rfl,o1,g1⟩;(have r1:Rq w1 gr L:=(HO.out _ _ rfl).2.1.grown g1 (fun e=>by have:=Option.some.inj e;omega));(have g2:w.grownBy w1 (some gr):=jc (HO.out _ _ rfl).2.2 g1 (Nat.le_refl _)))
  | (go_at_call 119;(with_reducible refine (PU.out _ w.heap.size o1 r1).mono ?_);rintro e2 w2 ⟨rfl,r2,g3⟩))
 simp [bodyPost,results,Tryz.results91,go_sem]
 exact ⟨r2,g2.trans g3⟩
theorem vW {X L:List Int} {a:Option Addr} {b o c gr m n:Nat} (hL:L.length=n) (hm:m≤n) (hx:(cV X).length≤m) (hn:n<1000000000) (hX:X.length<16777216) (ha:Az a b o X) (w0 w:World) (hB:Below w0.heap.size w0 w) (hz:Bz w0 b o X) (hgr:w0.heap.size≤gr) (hr:Rq w gr L) :
  Calls Tryz.prog 89 #[.slice (some ⟨gr,0,none⟩) m n,.slice a X.length c] w fun e w'=>e = .returned (.slice (some ⟨gr,0,none⟩) (m-(cV X).length) n)∧Rq w' gr (ovr L m (cV X))∧w.grownBy w' (some gr):=by
 have hxl:X.length≤(cV X).length:=by unfold cV;split<;>simp
 have PU:Hid (Calls Tryz.prog 119 #[.slice (some ⟨gr,0,none⟩) m n,.slice a X.length c] w fun e w'=>e = .returned (.slice (some ⟨gr,0,none⟩) (m-X.length) n)∧Rq w' gr (ovr L m X)∧w.grownBy w' (some gr)):=qa hL hm (by omega) hn ha w (hz.keep hB) hr
 have BA:Hid (∀ W,w.grownBy W (some gr)→Calls Tryz.prog 120 #[.slice a X.length c] W fun e w'=>e = .returned (.bool (kr X))∧w'=W):=fun W g=>qW ha W ((hz.keep hB).grown g fun hne e=>by
  have:b<w0.heap.size:=World.block_lt_of_cell? w0 _ (hz 0 (List.length_pos_iff.2 hne))
  have:=Option.some.inj e
  omega)
 have PH:Hid (kr X=false→∀ W,Rq W gr (ovr L m X)→Calls Tryz.prog 91 #[.slice (some ⟨gr,0,none⟩) (m-X.length) n,.bool false,.int .i64 (X.length:Int)] W fun e w'=>e = .returned (.slice (some ⟨gr,0,none⟩) (m-(cV X).length) n)∧Rq w' gr (ovr L m (cV X))∧W.grownBy w' (some gr)):=fun hb W r=>by
  have e:cV X=hdR 128 X.length++X:=by unfold cV;rw [hb];rfl
  rw [e] at hx ⊢
  rw [List.length_append] at hx ⊢
  have k:=rj (L:=ovr L m X) (gr:=gr) (m:=m-X.length) (n:=n) (h:=X.length) (by rw [pZ (by omega) (by omega)];exact hL) (by omega) (by omega) hn hX W r
  rw [p8 (by omega) (by omega)] at k
  rw [show m-((hdR 128 X.length).length+X.length)=m-X.length-(hdR 128 X.length).length by omega]
  exact k
 clear hz hr
 cases hb:kr X with
 | true =>
  have e:cV X=X:=by unfold cV;rw [hb];rfl
  rw [e]
  rw [hb] at BA
  clear PH hxl hx e
  generalize X.length=XL at *
  go_enter Tryz.func89,Tryz.ntmps89
  go_wp2_with (first
   | (go_at_call 119;(with_reducible refine PU.out.mono ?_);rintro e1 w1 ⟨rfl,r1,g1⟩)
   | (go_at_call 120;(with_reducible refine (BA.out _ g1).mono ?_);rintro e2 w2 ⟨rfl,hw⟩;(rw [hw]);(clear hw w2)))
  simp [bodyPost,results,Tryz.results89,go_sem]
  exact ⟨r1,g1⟩
 | false =>
  have PH':Hid (∀ W,Rq W gr (ovr L m X)→Calls Tryz.prog 91 #[.slice (some ⟨gr,0,none⟩) (m-X.length) n,.bool false,.int .i64 (X.length:Int)] W fun e w'=>e = .returned (.slice (some ⟨gr,0,none⟩) (m-(cV X).length) n)∧Rq w' gr (ovr L m (cV X))∧W.grownBy w' (some gr)):=PH.out hb
  rw [hb] at BA
  clear PH hxl hx
  generalize (cV X).length=EL at *
  generalize cV X=EX at *
  generalize hXL:X.length=XL at *
  go_enter Tryz.func89,Tryz.ntmps89
  go_wp2_with (first
   | (go_at_call 119;(with_reducible refine PU.out.mono ?_);rintro e1 w1 ⟨rfl,r1,g1⟩)
   | (go_at_call 120;(with_reducible refine (BA.out _ g1).mono ?_);rintro e2 w2 ⟨rfl,hw⟩;(rw [hw]);(clear hw w2))
   | (go_at_call 91;(with_reducible refine (PH'.out _ r1).mono ?_);rintro e3 w3 ⟨rfl,r3,g3⟩))
  simp [bodyPost,results,Tryz.results89,go_sem]
  exact ⟨r3,g1.trans g3⟩
end Go.Proofs.YtjoandmehahfgaaGreatDoor
