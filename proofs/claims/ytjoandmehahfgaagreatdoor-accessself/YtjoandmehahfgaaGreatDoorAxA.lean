import Derived.Test.YtjoandmehahfgaaGreatDoorAdLast
import Derived.Test.YtjoandmehahfgaaGreatDoorKLent
import Derived.Test.YtjoandmehahfgaaGreatDoorRyC
import Derived.Test.YtjoandmehahfgaaGreatDoorMgB
import Derived.Test.YtjoandmehahfgaaGreatDoorRjA
import Derived.Test.YtjoandmehahfgaaGreatDoorAb
import Derived.Deep.RegionHeld
import Derived.OrdersHeld
set_option maxRecDepth 100000
set_option maxHeartbeats 8000000
namespace Go.Proofs.YtjoandmehahfgaaGreatDoor
open Go.RowKit Go.Sort
def kG (C A N:List Int):Tr:=.mk true [] [.mk false C [],.mk false A [],.mk false N []]
theorem rm {C A N:List Int}:iI (kG C A N)=0:=by
 unfold iI kG
 rw [g9,dA,dA,dA,dA,g9,g9,g9,dA,dpT,dpS,dpS,dpS,dpS,dpT,dpT,dpT]
 simp [pR]
theorem AN {C A N:List Int}:wtT (kG C A N)=4+C.length+A.length+N.length:=by
 unfold kG
 rw [wtT,wtS,wtS,wtS,wtS,wtT,wtT,wtT,wtS]
 simp;omega
theorem AO {C A N:List Int} (hC:Bys C) (hA:Bys A) (hN:Bys N):ByT (kG C A N):=by
 unfold kG
 rw [ByT,ByS,ByS,ByS,ByS,ByT,ByT,ByT,ByS]
 exact ⟨fun x hx=>(by simp at hx),⟨hC,trivial⟩,⟨hA,trivial⟩,⟨hN,trivial⟩,trivial⟩
theorem rn (n:Int):Bys (aK n):=fun z hz=>by
 obtain ⟨t,_,rfl⟩:=List.mem_map.1 hz
 exact ⟨Int.emod_nonneg _ (by decide),Int.emod_lt_of_pos _ (by decide)⟩
theorem Bys.stripX:∀ {l:List Int},Bys l→Bys (aI l)
 | [],h=>h
 | x :: xs,h=>by
  rw [aI]
  split
  ·exact Bys.stripX fun y hy=>h y (List.mem_cons_of_mem _ hy)
  ·exact h
def qd (c:Int) (A:List Int) (n:Int):List Int:=bT (kG (aI (aK c)) A (aI (aK n)))
theorem kH {c:Int} {A:List Int} {n:Int} (hA:A.length=20):wtT (kG (aI (aK c)) A (aI (aK n)))≤88:=by
 have h:=lg (aK n) (k:=32) (by rw [aX];exact Nat.le_refl _)
 have h2:=lg (aK c) (k:=32) (by rw [aX];exact Nat.le_refl _)
 rw [AN];omega
theorem yB {C A N:List Int}:sP (kG C A N)=bT (kG C A N):=by rw [sP,if_pos rm]
theorem AP {c:Int} {A:List Int} {n:Int} (hA:A.length=20):(qd c A n).length≤1000:=by
 have h:=kH (c:=c) (n:=n) hA
 have h2:=iH (kG (aI (aK c)) A (aI (aK n)))
 rw [qd];omega
theorem AQ {c:Int} {A:List Int} {n:Int} (hA:A.length=20) (hB:Bys A):Bys (qd c A n):=rk _ (AO (rn c).stripX hB ((rn n).stripX)) (by have:=kH (c:=c) (n:=n) hA;omega)
theorem El {W:World} {t0 t1 t2:Tr} {d0 q0 d1 q1 d2 q2:Value} {ty:TypeId} (h0:It W t0 d0 q0) (h1:It W t1 d1 q1) (h2:It W t2 d2 q2):Its (W.alloc (.cells #[.bool t0.l,d0,q0,.bool t1.l,d1,q1,.bool t2.l,d2,q2] ty)) W.heap.size 0 [t0,t1,t2]:=by
 have B:Below W.heap.size W (W.alloc (.cells #[.bool t0.l,d0,q0,.bool t1.l,d1,q1,.bool t2.l,d2,q2] ty)):=(Below.refl _ _).alloc (Nat.le_refl _) _
 have r:=dR (W:=W) (M:=[.bool t0.l,d0,q0,.bool t1.l,d1,q1,.bool t2.l,d2,q2]) (t:=ty)
 rw [Its,Its,Its,Its]
 refine ⟨⟨d0,q0,fun j v hv=>?_,It.keep B _ h0⟩,⟨d1,q1,fun j v hv=>?_,It.keep B _ h1⟩,⟨d2,q2,fun j v hv=>?_,It.keep B _ h2⟩,trivial⟩
 ·match j,hv with
  | 0,hv=>exact r 0 v hv
  | 1,hv=>exact r 1 v hv
  | 2,hv=>exact r 2 v hv
  | j+3,hv=>simp at hv
 ·match j,hv with
  | 0,hv=>exact r 3 v hv
  | 1,hv=>exact r 4 v hv
  | 2,hv=>exact r 5 v hv
  | j+3,hv=>simp at hv
 ·match j,hv with
  | 0,hv=>exact r 6 v hv
  | 1,hv=>exact r 7 v hv
  | 2,hv=>exact r 8 v hv
  | j+3,hv=>simp at hv
def auM (c:Int) (A:List Int) (n p r s:Int):List Value :=
 [.int .u64 (l0 c),.int .u64 (l1 c),.int .u64 (l2 c),.int .u64 (l3 c)]++(A.map (Value.int .u8)++[.int .u64 n,.int .u64 p,.int .u64 (l0 r),.int .u64 (l1 r),.int .u64 (l2 r),.int .u64 (l3 r),.int .u64 (l0 s),.int .u64 (l1 s),.int .u64 (l2 s),.int .u64 (l3 s)])
theorem ia {c:Int} {A:List Int} {n p r s:Int} (hA:A.length=20):(auM c A n p r s).length=34:=by simp [auM,hA]
structure Au (W:World) (b:Nat) (c:Int) (A:List Int) (n:Int):Prop where
 num:W.cell? ⟨b,0,none⟩=some (.int .u64 (l0 c))∧W.cell? ⟨b,1,none⟩=some (.int .u64 (l1 c))∧W.cell? ⟨b,2,none⟩=some (.int .u64 (l2 c))∧W.cell? ⟨b,3,none⟩=some (.int .u64 (l3 c))
 adr:Bz W b 4 A
 non:W.cell? ⟨b,24,none⟩=some (.int .u64 n)
theorem Au.of {W:World} {b:Nat} {c:Int} {A:List Int} {n p r s:Int} (hA:A.length=20) (h:W.rangeAt b 0 (auM c A n p r s)):Au W b c A n:=by
 refine ⟨⟨?_,?_,?_,?_⟩,fun i hi=>?_,?_⟩
 ·simpa using h 0 _ (by simp [auM])
 ·simpa using h 1 _ (by simp [auM])
 ·simpa using h 2 _ (by simp [auM])
 ·simpa using h 3 _ (by simp [auM])
 ·have:=h (4+i) (.int .u8 (A.getD i 0)) (by
   unfold auM
   rw [List.getElem?_append_right (by simp)]
   simp only [List.length_cons,List.length_nil]
   rw [show 4+i-(0+1+1+1+1)=i by omega,List.getElem?_append_left (by simp;exact hi),List.getElem?_map,List.getElem?_eq_getElem hi]
   simp [List.getD,hi])
  simpa using this
 ·have:=h 24 (.int .u64 n) (by
   unfold auM
   rw [List.getElem?_append_right (by simp)]
   simp only [List.length_cons,List.length_nil]
   rw [List.getElem?_append_right (by simp [hA])]
   simp [hA])
  simpa using this
theorem Au.keep {W W':World} {b:Nat} {c:Int} {A:List Int} {n:Int} (h:Au W b c A n) (B:Below W.heap.size W W'):Au W' b c A n :=
 ⟨⟨cell_keep B h.num.1,cell_keep B h.num.2.1,cell_keep B h.num.2.2.1,cell_keep B h.num.2.2.2⟩,h.adr.keep B,cell_keep B h.non⟩
open Go.RowKit Go.Sort
theorem uj {K:Act→World→Prop} {a:Act} {w:World} (I:World→Prop) (h:I w) (k:∀ V,I V→K a V):K a w:=k w h
theorem Bts.ptX {W:World} {g:Nat} {L:List Int} (h:Bts W g L) (hy:Bys L):PtC.ok W ⟨some ⟨g,0,none⟩,g,0,L.length,L⟩:=⟨.inr rfl,Nat.le_refl _,hy,fun i hi=>by show W.cell? ⟨g,0+i,none⟩=_;rw [Nat.zero_add];exact h.1 i hi⟩
theorem Em:Bys [5]:=fun x hx=>by simp at hx;omega
theorem ro (p q:PtC):vL [p,q]=p.X++q.X:=by simp [vL]
theorem yC {W:World} {p q:PtC} {v1 v2:Value} {g:Nat} {ty:TypeId} (e:g=W.heap.size) (e1:v1=p.val) (e2:v2=q.val) (h1:p.ok W) (h2:q.ok W):nE (W.alloc (.cells #[v1,v2] ty)) g 0 [p,q]:=by
 subst e;subst e1;subst e2
 have B:Below W.heap.size W (W.alloc (.cells #[p.val,q.val] ty)):=(Below.refl _ _).alloc (Nat.le_refl _) _
 rw [nE,nE,nE]
 exact ⟨⟨by simp,h1.keep B⟩,⟨by simp,h2.keep B⟩,trivial⟩
theorem AR {c:Int} {A:List Int} {n p r s:Int} {D:List Value} (hc:Num c) (hA:A.length=20) (hB:Bys A) (hn:aj n) (eD:Hid (D=(pP (5 :: qd c A n)).map (Value.int .u8))) (w:World) (hk:KtC w) :
  Rt 12 #[.agg (auM c A n p r s).toArray] w (.agg D.toArray):=by
 have AL:Hid (A.length=20∧Bys A):=⟨hA,hB⟩
 have C0:Hid (∀ W,Calls Tryz.prog 27 #[U4 c] W fun e w'=>∃ d q,e = .returned (.agg #[.bool false,d,q])∧It w' (.mk false (aI (aK c)) []) d q∧Below W.heap.size W w'):=fun W=>(o9 hc W).mono fun e w' ⟨d,q,h1,h2,h3⟩=>⟨d,q,h1,Ot.it _ h2,h3⟩
 have C1:Hid (∀ W g,Bz W g 4 A→Calls Tryz.prog 28 #[.slice (some ⟨g,4,none⟩) 20 20] W fun e w'=>∃ d q,e = .returned (.agg #[.bool false,d,q])∧It w' (.mk false A []) d q∧Below W.heap.size W w'):=fun W g h=>(yz hA.symm (by omega) (.inr rfl) W h).mono fun e w' ⟨d,q,h1,h2,h3⟩=>⟨d,q,h1,Ot.it _ h2,h3⟩
 have C2:Hid (∀ W,Calls Tryz.prog 29 #[.int .u64 n] W fun e w'=>∃ d q,e = .returned (.agg #[.bool false,d,q])∧It w' (.mk false (aI (aK n)) []) d q∧Below W.heap.size W w'):=fun W=>(vV hn W).mono fun e w' ⟨d,q,h1,h2,h3⟩=>⟨d,q,h1,Ot.it _ h2,h3⟩
 have C3:Hid (∀ W g,Its W g 0 [.mk false (aI (aK c)) [],.mk false A [],.mk false (aI (aK n)) []]→Calls Tryz.prog 26 #[.slice (some ⟨g,0,none⟩) 3 3] W fun e w'=>∃ d q,e = .returned (.agg #[.bool true,d,q])∧It w' (kG (aI (aK c)) A (aI (aK n))) d q∧Below W.heap.size W w'):=fun W g h=>(yA (ts:=[.mk false (aI (aK c)) [],.mk false A [],.mk false (aI (aK n)) []]) (by have h:=kH (c:=c) (n:=n) hA;rw [kG,wtT] at h;omega) (.inr rfl) W h).mono fun e w' ⟨d,q,h1,h2,h3⟩=>⟨d,q,h1,Ot.it _ h2,h3⟩
 have C4:Hid (∀ W d q,It W (kG (aI (aK c)) A (aI (aK n))) d q→Calls Tryz.prog 25 #[.agg #[.bool true,d,q]] W fun e w'=>∃ a g k,e = .returned (.tuple #[.slice a (qd c A n).length k,.int .i64 0])∧(PtC.ok w' ⟨a,g,0,k,qd c A n⟩∧(a=none→k=0))∧Below W.heap.size W w'):=fun W d q h=>by
  refine (sX (by have:=kH (c:=c) (n:=n) hA;omega) W h).mono ?_
  rintro e w' ⟨v,rfl,h2,h3⟩
  rw [yB,rm] at *
  obtain ⟨a,g,k,rfl,h5,h6,h7,_,_,h8⟩:=h2.lies
  exact ⟨a,g,k,rfl,⟨⟨h6,h5,AQ hA hB,h7⟩,h8⟩,h3⟩
 have XL:Hid ((qd c A n).length≤1000):=AP hA
 generalize qd c A n=X at *
 have AM:∀ W,W.rangeAt w.heap.size 0 (auM c A n p r s)→Au W w.heap.size c A n:=fun W h=>Au.of hA h
 have AMH:Hid (∀ W,W.rangeAt w.heap.size 0 (auM c A n p r s)→Au W w.heap.size c A n):=AM
 clear AM
 have ML:Hid ((auM c A n p r s).length=34):=ia hA
 generalize auM c A n p r s=M at *
 go_enter Tryz.func12,Tryz.ntmps12
 go_wp2_with fail
 refine ah (fun W=>Below w.heap.size w W∧KtC W∧Bts W (w.heap.size+1) (List.replicate 32 0)∧Au W w.heap.size c A n) ⟨by repeat (first|with_reducible exact Below.refl _ _|with_reducible refine Below.alloc ?_ (by first|omega|(simp;done)|(simp;omega)) _),(hk.alloc _).alloc _,Bts.new (List.replicate 32 0) _ (by simp),(AMH.out _ dR).keep ((Below.refl _ _).alloc (Nat.le_refl _) _)⟩ ?_
 rintro W ⟨B,hT,hR,hU⟩
 have o1:w.heap.size≤w.heap.size+1:=by omega
 generalize w.heap.size+1=br at *
 have HH:Hid (Below w.heap.size w W∧KtC W∧Bts W br (List.replicate 32 0)∧Au W w.heap.size c A n):=⟨B,hT,hR,hU⟩
 clear B hT hR hU hk AMH ML
 refine wp_region_held_drew (S:=fun w'=>Below W.heap.size W w') (by kernel_rfl) ((Below.refl _ _).drew) (fun hHeld=>?_)
 refine an (i:=0) (oi:=_) (v:=.pointer (some ⟨w.heap.size,0,none⟩)) 6 rfl (by kernel_rfl) (by kernel_rfl) (by kernel_rfl) (by kernel_rfl) (fun _ _ _ h=>h) (Or.inl ⟨by kernel_rfl,?_⟩) (by assumption) ?_
 ·intro wq hSw
  have _:=hSw
  go_simp
 simp only [Act.put,List.setIfInBounds_toArray,List.set_cons_succ,List.set_cons_zero]
 refine an (i:=1) (oi:=_) (v:=U4 c) 7 rfl (by kernel_rfl) (by kernel_rfl) (by kernel_rfl) (by kernel_rfl) (fun _ _ _ h=>h) (Or.inl ⟨by kernel_rfl,?_⟩) (by assumption) ?_
 ·intro wq hSw
  have gg:=(HH.out.2.2.2.keep hSw).num
  go_simp
 simp only [Act.put,List.setIfInBounds_toArray,List.set_cons_succ,List.set_cons_zero]
 refine an (i:=3) (oi:=_) (v:=.pointer (some ⟨w.heap.size,4,none⟩)) 9 rfl (by kernel_rfl) (by kernel_rfl) (by kernel_rfl) (by kernel_rfl) (fun _ _ _ h=>h) (Or.inl ⟨by kernel_rfl,?_⟩) (by assumption) ?_
 ·intro wq hSw
  have _:=hSw
  go_simp
 simp only [Act.put,List.setIfInBounds_toArray,List.set_cons_succ,List.set_cons_zero]
 refine an (i:=4) (oi:=_) (v:=.slice (some ⟨w.heap.size,4,none⟩) 20 20) 10 rfl (by kernel_rfl) (by kernel_rfl) (by kernel_rfl) (by kernel_rfl) (fun _ _ _ h=>h) (Or.inl ⟨by kernel_rfl,?_⟩) (by assumption) ?_
 ·intro wq hSw
  have _:=hSw
  go_simp
 simp only [Act.put,List.setIfInBounds_toArray,List.set_cons_succ,List.set_cons_zero]
 refine an (i:=6) (oi:=_) (v:=.pointer (some ⟨w.heap.size,24,none⟩)) 12 rfl (by kernel_rfl) (by kernel_rfl) (by kernel_rfl) (by kernel_rfl) (fun _ _ _ h=>h) (Or.inl ⟨by kernel_rfl,?_⟩) (by assumption) ?_
 ·intro wq hSw
  have _:=hSw
  go_simp
 simp only [Act.put,List.setIfInBounds_toArray,List.set_cons_succ,List.set_cons_zero]
 refine an (i:=7) (oi:=_) (v:=.int .u64 n) 13 rfl (by kernel_rfl) (by kernel_rfl) (by kernel_rfl) (by kernel_rfl) (fun _ _ _ h=>h) (Or.inl ⟨by kernel_rfl,?_⟩) (by assumption) ?_
 ·intro wq hSw
  have gg:=(HH.out.2.2.2.keep hSw).non
  go_simp
 simp only [Act.put,List.setIfInBounds_toArray,List.set_cons_succ,List.set_cons_zero]
 clear hHeld
 refine wpAnyH_ready (rs:=[2]) (by kernel_rfl) (by simp) ?_
 refine AllReadyH.cons rfl (fun K hK=>?_) AllReadyH.nil
 go_simp
 go_wp2_with (go_at_call 27;refine (C0.out _).mono ?_;rintro e y0 ⟨d0,q0,rfl,hO0,hb⟩)
 have B0:Below W.heap.size W y0:=((Below.refl _ _).drew).trans (hb.mono (Nat.le_refl _))
 refine hK.out _ _ B0 (fun hHeld=>?_)
 clear hK K hb C0
 clear hHeld
 refine wpAnyH_ready (rs:=[5]) (by kernel_rfl) (by simp) ?_
 refine AllReadyH.cons rfl (fun K hK=>?_) AllReadyH.nil
 go_simp
 go_wp2_with (go_at_call 28;refine (C1.out _ _ (HH.out.2.2.2.keep B0).adr).mono ?_;rintro e y1 ⟨d1,q1,rfl,hO1,hb⟩)
 have B1:=B0.trans (hb.mono B0.size)
 replace hO0:=It.keep hb _ hO0
 refine hK.out _ _ B1 (fun hHeld=>?_)
 clear hK K hb C1 B0 y0
 clear hHeld
 refine wpAnyH_ready (rs:=[8]) (by kernel_rfl) (by simp) ?_
 refine AllReadyH.cons rfl (fun K hK=>?_) AllReadyH.nil
 go_simp
 go_wp2_with (go_at_call 29;refine (C2.out _).mono ?_;rintro e y2 ⟨d2,q2,rfl,hO2,hb⟩)
 have B2:=B1.trans (hb.mono B1.size)
 replace hO0:=It.keep hb _ hO0
 replace hO1:=It.keep hb _ hO1
 refine hK.out _ _ B2 (fun hHeld=>?_)
 clear hK K hb C2 B1 y1
 clear hHeld
 refine wpAnyH_ready (rs:=[9]) (by kernel_rfl) (by simp) ?_
 refine AllReadyH.cons rfl (fun K hK=>?_) AllReadyH.nil
 go_simp
 go_wp2_with fail
 refine uj (fun U=>Below W.heap.size W U∧Its U y2.heap.size 0 [.mk false (aI (aK c)) [],.mk false A [],.mk false (aI (aK n)) []]) ⟨B2.alloc B2.size _,El hO0 hO1 hO2⟩ ?_
 rintro U ⟨BU,hI⟩
 refine hK.out _ _ BU (fun hHeld=>?_)
 clear hK K B2 hO0 hO1 hO2
 generalize y2.heap.size=bi at *
 clear y2
 clear hHeld
 refine wpAnyH_ready (rs:=[10]) (by kernel_rfl) (by simp) ?_
 refine AllReadyH.cons rfl (fun K hK=>?_) AllReadyH.nil
 go_simp
 go_wp2_with (go_at_call 26;refine (C3.out _ _ hI).mono ?_;rintro e y3 ⟨d3,q3,rfl,hO3,hb⟩)
 have B3:=BU.trans (hb.mono BU.size)
 refine hK.out _ _ B3 (fun hHeld=>?_)
 clear hK K hb C3 BU U hI
 clear hHeld
 refine wpAnyH_ready (rs:=[11]) (by kernel_rfl) (by simp) ?_
 refine AllReadyH.cons rfl (fun K hK=>?_) AllReadyH.nil
 go_simp
 go_wp2_with (go_at_call 25;refine (C4.out _ _ _ hO3).mono ?_;rintro e y4 ⟨a,g,k,rfl,hP,hb⟩)
 have B4:=B3.trans (hb.mono B3.size)
 refine hK.out _ _ B4 (fun hHeld=>?_)
 clear hK K hb C4 B3 y3 hO3
 refine an (i:=12) (oi:=_) (v:=.tuple #[.slice a X.length k,.int .i64 0]) 5 rfl (by kernel_rfl) (by kernel_rfl) (by kernel_rfl) (by kernel_rfl) (fun _ _ _ h=>h) (Or.inl ⟨by kernel_rfl,?_⟩) (by assumption) ?_
 ·intro wq hSw
  have _:=hSw
  go_simp
 simp only [Act.put,List.setIfInBounds_toArray,List.set_cons_succ,List.set_cons_zero]
 refine an (i:=13) (oi:=_) (v:=.slice a X.length k) 18 rfl (by kernel_rfl) (by kernel_rfl) (by kernel_rfl) (by kernel_rfl) (fun _ _ _ h=>h) (Or.inl ⟨by kernel_rfl,?_⟩) (by assumption) ?_
 ·intro wq hSw
  have _:=hSw
  go_simp
 simp only [Act.put,List.setIfInBounds_toArray,List.set_cons_succ,List.set_cons_zero]
 refine an (i:=14) (oi:=_) (v:=.int .i64 0) 19 rfl (by kernel_rfl) (by kernel_rfl) (by kernel_rfl) (by kernel_rfl) (fun _ _ _ h=>h) (Or.inl ⟨by kernel_rfl,?_⟩) (by assumption) ?_
 ·intro wq hSw
  have _:=hSw
  go_simp
 simp only [Act.put,List.setIfInBounds_toArray,List.set_cons_succ,List.set_cons_zero]
 refine an (i:=15) (oi:=_) (v:=.slice a X.length k) 3 rfl (by kernel_rfl) (by kernel_rfl) (by kernel_rfl) (by kernel_rfl) (fun _ _ _ h=>h) (Or.inl ⟨by kernel_rfl,?_⟩) (by assumption) ?_
 ·intro wq hSw
  have _:=hSw
  go_simp
 simp only [Act.put,List.setIfInBounds_toArray,List.set_cons_succ,List.set_cons_zero]
 refine an (i:=16) (oi:=_) (v:=.int .i64 0) 4 rfl (by kernel_rfl) (by kernel_rfl) (by kernel_rfl) (by kernel_rfl) (fun _ _ _ h=>h) (Or.inl ⟨by kernel_rfl,?_⟩) (by assumption) ?_
 ·intro wq hSw
  have _:=hSw
  go_simp
 simp only [Act.put,List.setIfInBounds_toArray,List.set_cons_succ,List.set_cons_zero]
 refine wpAnyH_done (by kernel_rfl) ?_ _
 have B:=HH.out.1.trans (B4.mono HH.out.1.size)
 have hT:=HH.out.2.1.keep B4
 have hR:=HH.out.2.2.1.keep (by simp) B4
 clear HH hHeld B4
 go_wp2_with fail
 refine aa (fun U=>Below w.heap.size w U∧KtC U∧Bts U br (List.replicate 32 0)∧nE U (y4.heap.size+1) 0 [⟨some ⟨y4.heap.size,0,none⟩,y4.heap.size,0,1,[5]⟩,⟨a,g,0,k,X⟩]) ⟨(B.alloc B.size _).alloc (by have:=B.size;simp;omega) _,(hT.alloc _).alloc _,(hR.alloc (by simp) _).alloc (by simp) _,yC (by simp) rfl rfl ((Bts.new (W:=y4) [5] _ rfl).ptX Em) (hP.1.keep ((Below.refl _ _).alloc (Nat.le_refl _) _))⟩ ?_
 clear B hT hR hP
 rintro U ⟨B,hT,hR,hP⟩
 generalize y4.heap.size+1=bs at *
 refine (DK (ps:=[⟨some ⟨y4.heap.size,0,none⟩,y4.heap.size,0,1,[5]⟩,⟨a,g,0,k,X⟩]) (n:=2) (c:=2) rfl (by rw [ro];simp only [List.length_append,List.length_cons,List.length_nil];have:=XL.out;omega) (by show 2≤1000;decide) (Nat.le_refl 2) U hP hT).mono ?_
 rw [ro]
 simp only [List.cons_append,List.nil_append]
 rw [←eD.out]
 rintro e y5 ⟨rfl,hb⟩
 replace B:=B.trans (hb.mono B.size)
 replace hR:=hR.keep (by simp) hb
 clear hb U hT hP XL
 have kD:D.length=32:=by rw [eD.out,List.length_map,nD]
 have oc:D.toArray.all (·.oneCell')=true:=by rw [eD.out];exact aU _
 have KD:Hid (D.length=32):=kD
 have sz:D.toArray.size=32:=by simp [kD]
 have tr:=hR.there (k:=D.toArray.size) (by rw [sz];rfl)
 clear kD eD
 go_wp2_with ((refine wpList_store_mid rfl 47 _ _ rfl br 0 D.toArray rfl rfl tr (by rw [sz];kernel_rfl) oc ?_);(refine aN (fun W=>Below w.heap.size w W∧W.rangeAt br 0 D) (b9 B o1 (by simpa using tr)) ?_);(rintro W ⟨B',hD⟩))
 have ld:=run_loadVar_mid (P:=Tryz.prog) W br 0 47 D _ hD Tryz.underlying47 rfl (by rw [KD.out];kernel_rfl)
 refine bodyPost_ret (v:=.agg D.toArray) ?_ rfl ⟨rfl,B'⟩
 simp [results,Tryz.results12,Act.put,asAddr,ld]
end Go.Proofs.YtjoandmehahfgaaGreatDoor
