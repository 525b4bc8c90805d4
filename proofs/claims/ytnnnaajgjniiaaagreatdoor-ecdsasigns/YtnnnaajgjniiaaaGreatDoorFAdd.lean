import Derived.Test.YtnnnaajgjniiaaaGreatDoorAb
import Derived.Test.YtnnnaajgjniiaaaGreatDoorFReduce
import Derived.Deep.RegionHeld3
set_option maxHeartbeats 4000000
namespace Go.Proofs.YtnnnaajgjniiaaaGreatDoor
open Go.RowKit Go.Sort
theorem vz {m c x y:Int} (hf:Fit m c) :
  (bO (ag m x) (ag m y)=0∧ag m (x+y)=ag m (cE (ag m x) (ag m y)))∨(bO (ag m x) (ag m y)=1∧ag m (x+y)=ca (cE (ag m x) (ag m y)) m):=by
 obtain ⟨a0,a1⟩:=fu hf x
 obtain ⟨b0,b1⟩:=fu hf y
 obtain ⟨h1,h2,h3⟩:=hf
 have e:ag m (x+y)=(ag m x+ag m y)%m:=by unfold ag;rw [←Int.add_emod]
 rw [e]
 generalize ag m x=a at *
 generalize ag m y=b at *
 by_cases h:a+b<115792089237316195423570985008687907853269984665640564039457584007913129639936
 ·left
  have es:cE a b=a+b:=by unfold cE;omega
  refine ⟨by unfold bO;omega,?_⟩
  rw [es];rfl
 ·right
  refine ⟨by unfold bO;omega,?_⟩
  have e2:(a+b)%m=a+b-m:=by
   rw [show a+b=a+b-m+m*1 by omega,Int.add_mul_emod_self_left]
   rw [Int.emod_eq_of_lt (by omega) (by omega)];omega
  rw [e2];unfold ca cE;omega
theorem vA {m c x y:Int} (hf:Fit m c) :
  (cL (ag m x) (ag m y)=0∧ag m (x-y)=ca (ag m x) (ag m y))∨(cL (ag m x) (ag m y)=1∧ag m (x-y)=cE (ca (ag m x) (ag m y)) m):=by
 obtain ⟨a0,a1⟩:=fu hf x
 obtain ⟨b0,b1⟩:=fu hf y
 obtain ⟨h1,h2,h3⟩:=hf
 have e:ag m (x-y)=(ag m x-ag m y)%m:=by unfold ag;rw [←Int.sub_emod]
 rw [e]
 generalize ag m x=a at *
 generalize ag m y=b at *
 by_cases h:b≤a
 ·left
  refine ⟨by unfold cL;rw [if_neg (by omega)],?_⟩
  rw [Int.emod_eq_of_lt (by omega) (by omega)];unfold ca;omega
 ·right
  refine ⟨by unfold cL;rw [if_pos (by omega)],?_⟩
  have e2:(a-b)%m=a-b+m:=by
   rw [show a-b=a-b+m+m*(-1) by omega,Int.add_mul_emod_self_left]
   rw [Int.emod_eq_of_lt (by omega) (by omega)];omega
  rw [e2];unfold ca cE;omega
theorem td {m c x y a b s r k z:Int} (K1:Hid (∀ w,Rt 128 #[.agg #[.int .u64 (l0 m),.int .u64 (l1 m),.int .u64 (l2 m),.int .u64 (l3 m),.int .u64 (l0 c),.int .u64 (l1 c),.int .u64 (l2 c),.int .u64 (l3 c)],U4 x] w (U4 a))) (K2:Hid (∀ w,Rt 128 #[.agg #[.int .u64 (l0 m),.int .u64 (l1 m),.int .u64 (l2 m),.int .u64 (l3 m),.int .u64 (l0 c),.int .u64 (l1 c),.int .u64 (l2 c),.int .u64 (l3 c)],U4 y] w (U4 b))) (K3:Hid (∀ w,Rt 131 #[U4 a,U4 b] w (.tuple #[U4 s,.int .u64 k]))) (K4:Hid ((k=0∧Hid (∀ w,Rt 128 #[.agg #[.int .u64 (l0 m),.int .u64 (l1 m),.int .u64 (l2 m),.int .u64 (l3 m),.int .u64 (l0 c),.int .u64 (l1 c),.int .u64 (l2 c),.int .u64 (l3 c)],U4 s] w (U4 r)))∨(k=1∧Hid (∀ w,Rt 96 #[U4 s,U4 m] w (.tuple #[U4 r,.int .u64 z]))))) (w:World) :
  Rt 139 #[.agg #[.int .u64 (l0 m),.int .u64 (l1 m),.int .u64 (l2 m),.int .u64 (l3 m),.int .u64 (l0 c),.int .u64 (l1 c),.int .u64 (l2 c),.int .u64 (l3 c)],U4 x,U4 y] w (U4 r):=by
 go_enter Tryz.func139,Tryz.ntmps139
 go_wp2_with fail
 refine af (fun W=>Below w.heap.size w W∧aG W w.heap.size m c∧ab W (w.heap.size+1) x∧ab W (w.heap.size+1+1) y∧ac W (w.heap.size+1+1+1)) ⟨by repeat (first|with_reducible exact Below.refl _ _|with_reducible refine Below.alloc ?_ (by first|omega|(simp;done)|(simp;omega)) _),(((aG.new w m c _).alloc _).alloc _).alloc _,((ab.fresh (by simp)).alloc _).alloc _,(ab.fresh (by simp)).alloc _,ac.new (by simp)⟩ ?_
 rintro W ⟨B,hF,hX,hY,hR⟩
 have o3:w.heap.size≤w.heap.size+1+1+1:=by omega
 generalize w.heap.size+1+1+1=br at *
 generalize w.heap.size+1+1=bw at *
 generalize w.heap.size+1=bx at *
 generalize hbf:w.heap.size=bf at *
 have gF:=hF.cells;have gX:=hX.cells;have gY:=hY.cells
 have lf:bf<W.heap.size:=hF.lt
 have lx:bx<W.heap.size:=World.block_lt_of_cell? W _ hX.1
 have ly:bw<W.heap.size:=World.block_lt_of_cell? W _ hY.1
 have lr:br<W.heap.size:=hR.1.lt (by simp)
 have BB:Hid (Below bf w W):=B
 have HF:Hid (aG W bf m c):=hF
 have HR:Hid (ac W br):=hR
 have geB:bf≤W.heap.size:=by omega
 clear B hF hX hY hR
 refine lg (fun a' W'=>∃ bs,Below bf w W'∧aG W' bf m c∧ac W' br∧ab W' bs s∧a'={ tmps:=#[.agg #[.int .u64 (l0 m),.int .u64 (l1 m),.int .u64 (l2 m),.int .u64 (l3 m),.int .u64 (l0 c),.int .u64 (l1 c),.int .u64 (l2 c),.int .u64 (l3 c)],U4 x,U4 y,.pointer (some { block:=bf,off:=0 }),.pointer (some { block:=bx,off:=0 }),.pointer (some { block:=bw,off:=0 }),.pointer (some { block:=br,off:=0 }),.pointer (some { block:=bs,off:=0 }),.int .u64 k,Go.undef,Go.undef,.tuple #[U4 s,.int .u64 k],.agg #[.int .u64 (l0 m),.int .u64 (l1 m),.int .u64 (l2 m),.int .u64 (l3 m),.int .u64 (l0 c),.int .u64 (l1 c),.int .u64 (l2 c),.int .u64 (l3 c)],U4 x,U4 a,.agg #[.int .u64 (l0 m),.int .u64 (l1 m),.int .u64 (l2 m),.int .u64 (l3 m),.int .u64 (l0 c),.int .u64 (l1 c),.int .u64 (l2 c),.int .u64 (l3 c)],U4 y,U4 b,.tuple #[U4 s,.int .u64 k],U4 s,.int .u64 k,Go.undef,Go.undef,Go.undef,Go.undef,Go.undef,Go.undef,Go.undef,Go.undef,Go.undef,Go.undef,Go.undef,Go.undef,Go.undef],defers:=[] }) ?_ ?_
 ·have dz:W.drew.heap.size=W.heap.size:=rfl
  clear K4
  have _:bf<W.heap.size:=by omega
  have _:bf≤W.heap.size:=by omega
  have _:bf<W.heap.size+1:=by omega
  have _:bf<W.heap.size+1+1:=by omega
  have _:bf≠W.heap.size:=by omega
  have _:W.heap.size≠bf:=by omega
  have _:bf≠W.heap.size+1:=by omega
  have _:W.heap.size+1≠bf:=by omega
  have _:bx<W.heap.size:=by omega
  have _:bx≤W.heap.size:=by omega
  have _:bx<W.heap.size+1:=by omega
  have _:bx<W.heap.size+1+1:=by omega
  have _:bx≠W.heap.size:=by omega
  have _:W.heap.size≠bx:=by omega
  have _:bx≠W.heap.size+1:=by omega
  have _:W.heap.size+1≠bx:=by omega
  have _:bw<W.heap.size:=by omega
  have _:bw≤W.heap.size:=by omega
  have _:bw<W.heap.size+1:=by omega
  have _:bw<W.heap.size+1+1:=by omega
  have _:bw≠W.heap.size:=by omega
  have _:W.heap.size≠bw:=by omega
  have _:bw≠W.heap.size+1:=by omega
  have _:W.heap.size+1≠bw:=by omega
  have _:br<W.heap.size:=by omega
  have _:br≤W.heap.size:=by omega
  have _:br<W.heap.size+1:=by omega
  have _:br<W.heap.size+1+1:=by omega
  have _:br≠W.heap.size:=by omega
  have _:W.heap.size≠br:=by omega
  have _:br≠W.heap.size+1:=by omega
  have _:W.heap.size+1≠br:=by omega
  go_region_held3 (fun w'=>w'.cell? ⟨bf,0,none⟩=some (.int .u64 (l0 m))∧w'.cell? ⟨bf,1,none⟩=some (.int .u64 (l1 m))∧w'.cell? ⟨bf,2,none⟩=some (.int .u64 (l2 m))∧w'.cell? ⟨bf,3,none⟩=some (.int .u64 (l3 m))∧w'.cell? ⟨bf,4,none⟩=some (.int .u64 (l0 c))∧w'.cell? ⟨bf,5,none⟩=some (.int .u64 (l1 c))∧w'.cell? ⟨bf,6,none⟩=some (.int .u64 (l2 c))∧w'.cell? ⟨bf,7,none⟩=some (.int .u64 (l3 c))∧w'.cell? ⟨bx,0,none⟩=some (.int .u64 (l0 x))∧w'.cell? ⟨bx,1,none⟩=some (.int .u64 (l1 x))∧w'.cell? ⟨bx,2,none⟩=some (.int .u64 (l2 x))∧w'.cell? ⟨bx,3,none⟩=some (.int .u64 (l3 x))∧w'.cell? ⟨bw,0,none⟩=some (.int .u64 (l0 y))∧w'.cell? ⟨bw,1,none⟩=some (.int .u64 (l1 y))∧w'.cell? ⟨bw,2,none⟩=some (.int .u64 (l2 y))∧w'.cell? ⟨bw,3,none⟩=some (.int .u64 (l3 y))) (((try dsimp only);(repeat' (apply And.intro));(all_goals repeat (first|with_reducible assumption|with_reducible apply cell_keep hb3|with_reducible apply cell_keep hb2|with_reducible apply cell_keep hb1|with_reducible apply cell_alloc|(with_reducible refine cell_set ?_ (by with_reducible assumption))|(simp [go_sem, *];done)))))
   (first
    | (go_at_call 128;with_reducible refine (K1.out _).mono ?_;rintro e w1 ⟨rfl,hb1⟩;have hc1:=aj hb1;have hz1:=hb1.size;(try simp at hz1);(try (have:=fun j=>aj hb1 (W.heap.size) j (by first|omega|(simp;done)|(simp;omega))));(try (have:=fun j=>aj hb1 (W.heap.size+1) j (by first|omega|(simp;done)|(simp;omega))));have _:bf<w1.heap.size:=(by omega);have _:bf≤w1.heap.size:=(by omega);have _:bf<w1.heap.size+1:=(by omega);have _:bf<w1.heap.size+1+1:=(by omega);have _:bf≠w1.heap.size:=(by omega);have _:w1.heap.size≠bf:=(by omega);have _:bf≠w1.heap.size+1:=(by omega);have _:w1.heap.size+1≠bf:=(by omega);have _:bx<w1.heap.size:=(by omega);have _:bx≤w1.heap.size:=(by omega);have _:bx<w1.heap.size+1:=(by omega);have _:bx<w1.heap.size+1+1:=(by omega);have _:bx≠w1.heap.size:=(by omega);have _:w1.heap.size≠bx:=(by omega);have _:bx≠w1.heap.size+1:=(by omega);have _:w1.heap.size+1≠bx:=(by omega);have _:bw<w1.heap.size:=(by omega);have _:bw≤w1.heap.size:=(by omega);have _:bw<w1.heap.size+1:=(by omega);have _:bw<w1.heap.size+1+1:=(by omega);have _:bw≠w1.heap.size:=(by omega);have _:w1.heap.size≠bw:=(by omega);have _:bw≠w1.heap.size+1:=(by omega);have _:w1.heap.size+1≠bw:=(by omega);have _:br<w1.heap.size:=(by omega);have _:br≤w1.heap.size:=(by omega);have _:br<w1.heap.size+1:=(by omega);have _:br<w1.heap.size+1+1:=(by omega);have _:br≠w1.heap.size:=(by omega);have _:w1.heap.size≠br:=(by omega);have _:br≠w1.heap.size+1:=(by omega);have _:w1.heap.size+1≠br:=(by omega);(try (have _:W.heap.size<w1.heap.size:=(by omega)));(try (have _:W.heap.size≤w1.heap.size:=(by omega)));(try (have _:W.heap.size≠w1.heap.size:=(by omega)));(try (have _:w1.heap.size≠W.heap.size:=(by omega)));(try (have _:W.heap.size<w1.heap.size+1:=(by omega)));(try (have _:W.heap.size+1<w1.heap.size:=(by omega)));(try (have _:W.heap.size+1≤w1.heap.size:=(by omega)));(try (have _:W.heap.size+1≠w1.heap.size:=(by omega)));(try (have _:w1.heap.size≠W.heap.size+1:=(by omega)));(try (have _:W.heap.size+1<w1.heap.size+1:=(by omega))))
    | (go_at_call 128;with_reducible refine (K2.out _).mono ?_;rintro e w2 ⟨rfl,hb2⟩;have hc2:=aj hb2;have hz2:=hb2.size;(try simp at hz2);(try (have:=fun j=>aj hb2 (W.heap.size) j (by first|omega|(simp;done)|(simp;omega))));(try (have:=fun j=>aj hb2 (W.heap.size+1) j (by first|omega|(simp;done)|(simp;omega))));(try (have:=fun j=>aj hb2 (w1.heap.size) j (by first|omega|(simp;done)|(simp;omega))));(try (have:=fun j=>aj hb2 (w1.heap.size+1) j (by first|omega|(simp;done)|(simp;omega))));have _:bf<w2.heap.size:=(by omega);have _:bf≤w2.heap.size:=(by omega);have _:bf<w2.heap.size+1:=(by omega);have _:bf<w2.heap.size+1+1:=(by omega);have _:bf≠w2.heap.size:=(by omega);have _:w2.heap.size≠bf:=(by omega);have _:bf≠w2.heap.size+1:=(by omega);have _:w2.heap.size+1≠bf:=(by omega);have _:bx<w2.heap.size:=(by omega);have _:bx≤w2.heap.size:=(by omega);have _:bx<w2.heap.size+1:=(by omega);have _:bx<w2.heap.size+1+1:=(by omega);have _:bx≠w2.heap.size:=(by omega);have _:w2.heap.size≠bx:=(by omega);have _:bx≠w2.heap.size+1:=(by omega);have _:w2.heap.size+1≠bx:=(by omega);have _:bw<w2.heap.size:=(by omega);have _:bw≤w2.heap.size:=(by omega);have _:bw<w2.heap.size+1:=(by omega);have _:bw<w2.heap.size+1+1:=(by omega);have _:bw≠w2.heap.size:=(by omega);have _:w2.heap.size≠bw:=(by omega);have _:bw≠w2.heap.size+1:=(by omega);have _:w2.heap.size+1≠bw:=(by omega);have _:br<w2.heap.size:=(by omega);have _:br≤w2.heap.size:=(by omega);have _:br<w2.heap.size+1:=(by omega);have _:br<w2.heap.size+1+1:=(by omega);have _:br≠w2.heap.size:=(by omega);have _:w2.heap.size≠br:=(by omega);have _:br≠w2.heap.size+1:=(by omega);have _:w2.heap.size+1≠br:=(by omega);(try (have _:W.heap.size<w2.heap.size:=(by omega)));(try (have _:W.heap.size≤w2.heap.size:=(by omega)));(try (have _:W.heap.size≠w2.heap.size:=(by omega)));(try (have _:w2.heap.size≠W.heap.size:=(by omega)));(try (have _:W.heap.size<w2.heap.size+1:=(by omega)));(try (have _:W.heap.size+1<w2.heap.size:=(by omega)));(try (have _:W.heap.size+1≤w2.heap.size:=(by omega)));(try (have _:W.heap.size+1≠w2.heap.size:=(by omega)));(try (have _:w2.heap.size≠W.heap.size+1:=(by omega)));(try (have _:W.heap.size+1<w2.heap.size+1:=(by omega)));(try (have _:w1.heap.size<w2.heap.size:=(by omega)));(try (have _:w1.heap.size≤w2.heap.size:=(by omega)));(try (have _:w1.heap.size≠w2.heap.size:=(by omega)));(try (have _:w2.heap.size≠w1.heap.size:=(by omega)));(try (have _:w1.heap.size<w2.heap.size+1:=(by omega)));(try (have _:w1.heap.size+1<w2.heap.size:=(by omega)));(try (have _:w1.heap.size+1≤w2.heap.size:=(by omega)));(try (have _:w1.heap.size+1≠w2.heap.size:=(by omega)));(try (have _:w2.heap.size≠w1.heap.size+1:=(by omega)));(try (have _:w1.heap.size+1<w2.heap.size+1:=(by omega))))
    | (go_at_call 131;with_reducible refine (K3.out _).mono ?_;rintro e w3 ⟨rfl,hb3⟩;have hc3:=aj hb3;have hz3:=hb3.size;(try simp at hz3);(try (have:=fun j=>aj hb3 (W.heap.size) j (by first|omega|(simp;done)|(simp;omega))));(try (have:=fun j=>aj hb3 (W.heap.size+1) j (by first|omega|(simp;done)|(simp;omega))));(try (have:=fun j=>aj hb3 (w1.heap.size) j (by first|omega|(simp;done)|(simp;omega))));(try (have:=fun j=>aj hb3 (w1.heap.size+1) j (by first|omega|(simp;done)|(simp;omega))));(try (have:=fun j=>aj hb3 (w2.heap.size) j (by first|omega|(simp;done)|(simp;omega))));(try (have:=fun j=>aj hb3 (w2.heap.size+1) j (by first|omega|(simp;done)|(simp;omega))));have _:bf<w3.heap.size:=(by omega);have _:bf≤w3.heap.size:=(by omega);have _:bf<w3.heap.size+1:=(by omega);have _:bf<w3.heap.size+1+1:=(by omega);have _:bf≠w3.heap.size:=(by omega);have _:w3.heap.size≠bf:=(by omega);have _:bf≠w3.heap.size+1:=(by omega);have _:w3.heap.size+1≠bf:=(by omega);have _:bx<w3.heap.size:=(by omega);have _:bx≤w3.heap.size:=(by omega);have _:bx<w3.heap.size+1:=(by omega);have _:bx<w3.heap.size+1+1:=(by omega);have _:bx≠w3.heap.size:=(by omega);have _:w3.heap.size≠bx:=(by omega);have _:bx≠w3.heap.size+1:=(by omega);have _:w3.heap.size+1≠bx:=(by omega);have _:bw<w3.heap.size:=(by omega);have _:bw≤w3.heap.size:=(by omega);have _:bw<w3.heap.size+1:=(by omega);have _:bw<w3.heap.size+1+1:=(by omega);have _:bw≠w3.heap.size:=(by omega);have _:w3.heap.size≠bw:=(by omega);have _:bw≠w3.heap.size+1:=(by omega);have _:w3.heap.size+1≠bw:=(by omega);have _:br<w3.heap.size:=(by omega);have _:br≤w3.heap.size:=(by omega);have _:br<w3.heap.size+1:=(by omega);have _:br<w3.heap.size+1+1:=(by omega);have _:br≠w3.heap.size:=(by omega);have _:w3.heap.size≠br:=(by omega);have _:br≠w3.heap.size+1:=(by omega);have _:w3.heap.size+1≠br:=(by omega);(try (have _:W.heap.size<w3.heap.size:=(by omega)));(try (have _:W.heap.size≤w3.heap.size:=(by omega)));(try (have _:W.heap.size≠w3.heap.size:=(by omega)));(try (have _:w3.heap.size≠W.heap.size:=(by omega)));(try (have _:W.heap.size<w3.heap.size+1:=(by omega)));(try (have _:W.heap.size+1<w3.heap.size:=(by omega)));(try (have _:W.heap.size+1≤w3.heap.size:=(by omega)));(try (have _:W.heap.size+1≠w3.heap.size:=(by omega)));(try (have _:w3.heap.size≠W.heap.size+1:=(by omega)));(try (have _:W.heap.size+1<w3.heap.size+1:=(by omega)));(try (have _:w1.heap.size<w3.heap.size:=(by omega)));(try (have _:w1.heap.size≤w3.heap.size:=(by omega)));(try (have _:w1.heap.size≠w3.heap.size:=(by omega)));(try (have _:w3.heap.size≠w1.heap.size:=(by omega)));(try (have _:w1.heap.size<w3.heap.size+1:=(by omega)));(try (have _:w1.heap.size+1<w3.heap.size:=(by omega)));(try (have _:w1.heap.size+1≤w3.heap.size:=(by omega)));(try (have _:w1.heap.size+1≠w3.heap.size:=(by omega)));(try (have _:w3.heap.size≠w1.heap.size+1:=(by omega)));(try (have _:w1.heap.size+1<w3.heap.size+1:=(by omega)));(try (have _:w2.heap.size<w3.heap.size:=(by omega)));(try (have _:w2.heap.size≤w3.heap.size:=(by omega)));(try (have _:w2.heap.size≠w3.heap.size:=(by omega)));(try (have _:w3.heap.size≠w2.heap.size:=(by omega)));(try (have _:w2.heap.size<w3.heap.size+1:=(by omega)));(try (have _:w2.heap.size+1<w3.heap.size:=(by omega)));(try (have _:w2.heap.size+1≤w3.heap.size:=(by omega)));(try (have _:w2.heap.size+1≠w3.heap.size:=(by omega)));(try (have _:w3.heap.size≠w2.heap.size+1:=(by omega)));(try (have _:w2.heap.size+1<w3.heap.size+1:=(by omega)))))
  all_goals (refine o7.intro ⟨_,?_,?_,?_,?_,rfl⟩)
  all_goals repeat (first|with_reducible exact BB.out|with_reducible exact HF.out|with_reducible exact HR.out|with_reducible refine ab.fresh (by first|rfl|(simp;done)|fail)|with_reducible refine ab.sets4 ?_|with_reducible refine ab.alloc ?_ _|with_reducible refine ab.drew ?_|with_reducible refine aG.alloc ?_ _|with_reducible refine aG.drew ?_|with_reducible refine aG.set4 ?_ (by with_reducible assumption) _ _ _ _|with_reducible refine ac.alloc ?_ _|with_reducible refine ac.drew ?_|with_reducible refine ac.set4 ?_ (by with_reducible assumption) _ _ _ _|with_reducible refine eU hbf ?_ _|with_reducible refine Below.drew ?_|with_reducible refine Below.setCell ?_ (by with_reducible assumption) _|with_reducible refine Has.fresh (by first|rfl|(simp;done)|fail) (by first|(simp;done)|fail)|with_reducible refine Has.alloc ?_ _|with_reducible refine Has.drew ?_|with_reducible refine Has.keep ?_ hb3|with_reducible refine ab.keep ?_ hb3|with_reducible refine aG.keep ?_ hb3|with_reducible refine ac.keep ?_ hb3|with_reducible refine bT hbf ?_ hb3|with_reducible refine Has.keep ?_ hb2|with_reducible refine ab.keep ?_ hb2|with_reducible refine aG.keep ?_ hb2|with_reducible refine ac.keep ?_ hb2|with_reducible refine bT hbf ?_ hb2|with_reducible refine Has.keep ?_ hb1|with_reducible refine ab.keep ?_ hb1|with_reducible refine aG.keep ?_ hb1|with_reducible refine ac.keep ?_ hb1|with_reducible refine bT hbf ?_ hb1)
 rintro _ W1 ⟨bs,B,hF,hR,hS,rfl⟩
 subst hbf
 clear BB HF HR gF gX gY lf lx ly lr geB K1 K2 K3 W
 have gF:=hF.cells;have gS:=hS.cells
 rcases K4.out with ⟨rfl,K5⟩|⟨rfl,K5⟩
 ·go_wp2_with fail
  with_reducible refine (K5.out _).mono ?_
  rintro e w1 ⟨rfl,hb⟩
  replace B:=B.trans (hb.mono B.size)
  replace hR:=hR.keep hb
  clear hb gF gS hF hS
  have gR:=hR.1.all4;have fR:=hR.2.all4
  go_wp2
  simp [bodyPost,results,Tryz.results139,go_sem,gR]
  exact ah B o3 _ _ _ _
 ·go_wp2_with fail
  with_reducible refine (K5.out _).mono ?_
  rintro e w1 ⟨rfl,hb⟩
  replace B:=B.trans (hb.mono B.size)
  replace hR:=hR.keep hb
  clear hb gF gS hF hS
  have gR:=fun o=>(hR.alloc o).1.all4
  have fR:=fun o=>(hR.alloc o).2.all4
  have BB:Hid (∀ o,Below w.heap.size w (w1.alloc o)):=fun o=>B.alloc B.size o
  clear B hR
  go_wp2
  simp [bodyPost,results,Tryz.results139,go_sem, *]
  repeat (first|with_reducible exact BB.out _|with_reducible refine Below.drew ?_|with_reducible refine Below.setCell ?_ (by with_reducible assumption) _)
theorem vB {m c x y:Int} (hf:Fit m c) (hx:Num x) (hy:Num y) (w:World) :
  Rt 139 #[.agg #[.int .u64 (l0 m),.int .u64 (l1 m),.int .u64 (l2 m),.int .u64 (l3 m),.int .u64 (l0 c),.int .u64 (l1 c),.int .u64 (l2 c),.int .u64 (l3 c)],U4 x,U4 y] w (U4 (ag m (x+y))):=by
 have na:=ae hf x
 have nb:=ae hf y
 have T:∀ w,Rt 131 #[U4 (ag m x),U4 (ag m y)] w (.tuple #[U4 (cE (ag m x) (ag m y)),.int .u64 (bO (ag m x) (ag m y))]):=fun w=>kJ na nb w
 refine td (z:=cL (cE (ag m x) (ag m y)) m) (d8 hf hx) (d8 hf hy) T ?_ w
 rcases vz (x:=x) (y:=y) hf with ⟨k1,k2⟩|⟨k1,k2⟩
 ·exact .inl ⟨k1,by rw [k2];exact d8 hf (la _ _)⟩
 ·exact .inr ⟨k1,by rw [k2];exact fun w=>iq (la _ _) hf.num w⟩
theorem te {m c x y a b s r k z:Int} (K1:Hid (∀ w,Rt 128 #[.agg #[.int .u64 (l0 m),.int .u64 (l1 m),.int .u64 (l2 m),.int .u64 (l3 m),.int .u64 (l0 c),.int .u64 (l1 c),.int .u64 (l2 c),.int .u64 (l3 c)],U4 x] w (U4 a))) (K2:Hid (∀ w,Rt 128 #[.agg #[.int .u64 (l0 m),.int .u64 (l1 m),.int .u64 (l2 m),.int .u64 (l3 m),.int .u64 (l0 c),.int .u64 (l1 c),.int .u64 (l2 c),.int .u64 (l3 c)],U4 y] w (U4 b))) (K3:Hid (∀ w,Rt 96 #[U4 a,U4 b] w (.tuple #[U4 s,.int .u64 k]))) (K4:Hid ((k=0∧s=r)∨(k=1∧Hid (∀ w,Rt 131 #[U4 s,U4 m] w (.tuple #[U4 r,.int .u64 z]))))) (w:World) :
  Rt 134 #[.agg #[.int .u64 (l0 m),.int .u64 (l1 m),.int .u64 (l2 m),.int .u64 (l3 m),.int .u64 (l0 c),.int .u64 (l1 c),.int .u64 (l2 c),.int .u64 (l3 c)],U4 x,U4 y] w (U4 r):=by
 go_enter Tryz.func134,Tryz.ntmps134
 go_wp2_with fail
 refine af (fun W=>Below w.heap.size w W∧aG W w.heap.size m c∧ab W (w.heap.size+1) x∧ab W (w.heap.size+1+1) y∧ac W (w.heap.size+1+1+1)) ⟨by repeat (first|with_reducible exact Below.refl _ _|with_reducible refine Below.alloc ?_ (by first|omega|(simp;done)|(simp;omega)) _),(((aG.new w m c _).alloc _).alloc _).alloc _,((ab.fresh (by simp)).alloc _).alloc _,(ab.fresh (by simp)).alloc _,ac.new (by simp)⟩ ?_
 rintro W ⟨B,hF,hX,hY,hR⟩
 have o3:w.heap.size≤w.heap.size+1+1+1:=by omega
 generalize w.heap.size+1+1+1=br at *
 generalize w.heap.size+1+1=bw at *
 generalize w.heap.size+1=bx at *
 generalize hbf:w.heap.size=bf at *
 have gF:=hF.cells;have gX:=hX.cells;have gY:=hY.cells
 have lf:bf<W.heap.size:=hF.lt
 have lx:bx<W.heap.size:=World.block_lt_of_cell? W _ hX.1
 have ly:bw<W.heap.size:=World.block_lt_of_cell? W _ hY.1
 have lr:br<W.heap.size:=hR.1.lt (by simp)
 have BB:Hid (Below bf w W):=B
 have HF:Hid (aG W bf m c):=hF
 have HR:Hid (ac W br):=hR
 have geB:bf≤W.heap.size:=by omega
 clear B hF hX hY hR
 refine lg (fun a' W'=>∃ bs,Below bf w W'∧aG W' bf m c∧ac W' br∧ab W' bs s∧a'={ tmps:=#[.agg #[.int .u64 (l0 m),.int .u64 (l1 m),.int .u64 (l2 m),.int .u64 (l3 m),.int .u64 (l0 c),.int .u64 (l1 c),.int .u64 (l2 c),.int .u64 (l3 c)],U4 x,U4 y,.pointer (some { block:=bf,off:=0 }),.pointer (some { block:=bx,off:=0 }),.pointer (some { block:=bw,off:=0 }),.pointer (some { block:=br,off:=0 }),.pointer (some { block:=bs,off:=0 }),.int .u64 k,Go.undef,Go.undef,.tuple #[U4 s,.int .u64 k],.agg #[.int .u64 (l0 m),.int .u64 (l1 m),.int .u64 (l2 m),.int .u64 (l3 m),.int .u64 (l0 c),.int .u64 (l1 c),.int .u64 (l2 c),.int .u64 (l3 c)],U4 x,U4 a,.agg #[.int .u64 (l0 m),.int .u64 (l1 m),.int .u64 (l2 m),.int .u64 (l3 m),.int .u64 (l0 c),.int .u64 (l1 c),.int .u64 (l2 c),.int .u64 (l3 c)],U4 y,U4 b,.tuple #[U4 s,.int .u64 k],U4 s,.int .u64 k,Go.undef,Go.undef,Go.undef,Go.undef,Go.undef,Go.undef,Go.undef,Go.undef,Go.undef,Go.undef,Go.undef],defers:=[] }) ?_ ?_
 ·have dz:W.drew.heap.size=W.heap.size:=rfl
  clear K4
  have _:bf<W.heap.size:=by omega
  have _:bf≤W.heap.size:=by omega
  have _:bf<W.heap.size+1:=by omega
  have _:bf<W.heap.size+1+1:=by omega
  have _:bf≠W.heap.size:=by omega
  have _:W.heap.size≠bf:=by omega
  have _:bf≠W.heap.size+1:=by omega
  have _:W.heap.size+1≠bf:=by omega
  have _:bx<W.heap.size:=by omega
  have _:bx≤W.heap.size:=by omega
  have _:bx<W.heap.size+1:=by omega
  have _:bx<W.heap.size+1+1:=by omega
  have _:bx≠W.heap.size:=by omega
  have _:W.heap.size≠bx:=by omega
  have _:bx≠W.heap.size+1:=by omega
  have _:W.heap.size+1≠bx:=by omega
  have _:bw<W.heap.size:=by omega
  have _:bw≤W.heap.size:=by omega
  have _:bw<W.heap.size+1:=by omega
  have _:bw<W.heap.size+1+1:=by omega
  have _:bw≠W.heap.size:=by omega
  have _:W.heap.size≠bw:=by omega
  have _:bw≠W.heap.size+1:=by omega
  have _:W.heap.size+1≠bw:=by omega
  have _:br<W.heap.size:=by omega
  have _:br≤W.heap.size:=by omega
  have _:br<W.heap.size+1:=by omega
  have _:br<W.heap.size+1+1:=by omega
  have _:br≠W.heap.size:=by omega
  have _:W.heap.size≠br:=by omega
  have _:br≠W.heap.size+1:=by omega
  have _:W.heap.size+1≠br:=by omega
  go_region_held3 (fun w'=>w'.cell? ⟨bf,0,none⟩=some (.int .u64 (l0 m))∧w'.cell? ⟨bf,1,none⟩=some (.int .u64 (l1 m))∧w'.cell? ⟨bf,2,none⟩=some (.int .u64 (l2 m))∧w'.cell? ⟨bf,3,none⟩=some (.int .u64 (l3 m))∧w'.cell? ⟨bf,4,none⟩=some (.int .u64 (l0 c))∧w'.cell? ⟨bf,5,none⟩=some (.int .u64 (l1 c))∧w'.cell? ⟨bf,6,none⟩=some (.int .u64 (l2 c))∧w'.cell? ⟨bf,7,none⟩=some (.int .u64 (l3 c))∧w'.cell? ⟨bx,0,none⟩=some (.int .u64 (l0 x))∧w'.cell? ⟨bx,1,none⟩=some (.int .u64 (l1 x))∧w'.cell? ⟨bx,2,none⟩=some (.int .u64 (l2 x))∧w'.cell? ⟨bx,3,none⟩=some (.int .u64 (l3 x))∧w'.cell? ⟨bw,0,none⟩=some (.int .u64 (l0 y))∧w'.cell? ⟨bw,1,none⟩=some (.int .u64 (l1 y))∧w'.cell? ⟨bw,2,none⟩=some (.int .u64 (l2 y))∧w'.cell? ⟨bw,3,none⟩=some (.int .u64 (l3 y))) (((try dsimp only);(repeat' (apply And.intro));(all_goals repeat (first|with_reducible assumption|with_reducible apply cell_keep hb3|with_reducible apply cell_keep hb2|with_reducible apply cell_keep hb1|with_reducible apply cell_alloc|(with_reducible refine cell_set ?_ (by with_reducible assumption))|(simp [go_sem, *];done)))))
   (first
    | (go_at_call 128;with_reducible refine (K1.out _).mono ?_;rintro e w1 ⟨rfl,hb1⟩;have hc1:=aj hb1;have hz1:=hb1.size;(try simp at hz1);(try (have:=fun j=>aj hb1 (W.heap.size) j (by first|omega|(simp;done)|(simp;omega))));(try (have:=fun j=>aj hb1 (W.heap.size+1) j (by first|omega|(simp;done)|(simp;omega))));have _:bf<w1.heap.size:=(by omega);have _:bf≤w1.heap.size:=(by omega);have _:bf<w1.heap.size+1:=(by omega);have _:bf<w1.heap.size+1+1:=(by omega);have _:bf≠w1.heap.size:=(by omega);have _:w1.heap.size≠bf:=(by omega);have _:bf≠w1.heap.size+1:=(by omega);have _:w1.heap.size+1≠bf:=(by omega);have _:bx<w1.heap.size:=(by omega);have _:bx≤w1.heap.size:=(by omega);have _:bx<w1.heap.size+1:=(by omega);have _:bx<w1.heap.size+1+1:=(by omega);have _:bx≠w1.heap.size:=(by omega);have _:w1.heap.size≠bx:=(by omega);have _:bx≠w1.heap.size+1:=(by omega);have _:w1.heap.size+1≠bx:=(by omega);have _:bw<w1.heap.size:=(by omega);have _:bw≤w1.heap.size:=(by omega);have _:bw<w1.heap.size+1:=(by omega);have _:bw<w1.heap.size+1+1:=(by omega);have _:bw≠w1.heap.size:=(by omega);have _:w1.heap.size≠bw:=(by omega);have _:bw≠w1.heap.size+1:=(by omega);have _:w1.heap.size+1≠bw:=(by omega);have _:br<w1.heap.size:=(by omega);have _:br≤w1.heap.size:=(by omega);have _:br<w1.heap.size+1:=(by omega);have _:br<w1.heap.size+1+1:=(by omega);have _:br≠w1.heap.size:=(by omega);have _:w1.heap.size≠br:=(by omega);have _:br≠w1.heap.size+1:=(by omega);have _:w1.heap.size+1≠br:=(by omega);(try (have _:W.heap.size<w1.heap.size:=(by omega)));(try (have _:W.heap.size≤w1.heap.size:=(by omega)));(try (have _:W.heap.size≠w1.heap.size:=(by omega)));(try (have _:w1.heap.size≠W.heap.size:=(by omega)));(try (have _:W.heap.size<w1.heap.size+1:=(by omega)));(try (have _:W.heap.size+1<w1.heap.size:=(by omega)));(try (have _:W.heap.size+1≤w1.heap.size:=(by omega)));(try (have _:W.heap.size+1≠w1.heap.size:=(by omega)));(try (have _:w1.heap.size≠W.heap.size+1:=(by omega)));(try (have _:W.heap.size+1<w1.heap.size+1:=(by omega))))
    | (go_at_call 128;with_reducible refine (K2.out _).mono ?_;rintro e w2 ⟨rfl,hb2⟩;have hc2:=aj hb2;have hz2:=hb2.size;(try simp at hz2);(try (have:=fun j=>aj hb2 (W.heap.size) j (by first|omega|(simp;done)|(simp;omega))));(try (have:=fun j=>aj hb2 (W.heap.size+1) j (by first|omega|(simp;done)|(simp;omega))));(try (have:=fun j=>aj hb2 (w1.heap.size) j (by first|omega|(simp;done)|(simp;omega))));(try (have:=fun j=>aj hb2 (w1.heap.size+1) j (by first|omega|(simp;done)|(simp;omega))));have _:bf<w2.heap.size:=(by omega);have _:bf≤w2.heap.size:=(by omega);have _:bf<w2.heap.size+1:=(by omega);have _:bf<w2.heap.size+1+1:=(by omega);have _:bf≠w2.heap.size:=(by omega);have _:w2.heap.size≠bf:=(by omega);have _:bf≠w2.heap.size+1:=(by omega);have _:w2.heap.size+1≠bf:=(by omega);have _:bx<w2.heap.size:=(by omega);have _:bx≤w2.heap.size:=(by omega);have _:bx<w2.heap.size+1:=(by omega);have _:bx<w2.heap.size+1+1:=(by omega);have _:bx≠w2.heap.size:=(by omega);have _:w2.heap.size≠bx:=(by omega);have _:bx≠w2.heap.size+1:=(by omega);have _:w2.heap.size+1≠bx:=(by omega);have _:bw<w2.heap.size:=(by omega);have _:bw≤w2.heap.size:=(by omega);have _:bw<w2.heap.size+1:=(by omega);have _:bw<w2.heap.size+1+1:=(by omega);have _:bw≠w2.heap.size:=(by omega);have _:w2.heap.size≠bw:=(by omega);have _:bw≠w2.heap.size+1:=(by omega);have _:w2.heap.size+1≠bw:=(by omega);have _:br<w2.heap.size:=(by omega);have _:br≤w2.heap.size:=(by omega);have _:br<w2.heap.size+1:=(by omega);have _:br<w2.heap.size+1+1:=(by omega);have _:br≠w2.heap.size:=(by omega);have _:w2.heap.size≠br:=(by omega);have _:br≠w2.heap.size+1:=(by omega);have _:w2.heap.size+1≠br:=(by omega);(try (have _:W.heap.size<w2.heap.size:=(by omega)));(try (have _:W.heap.size≤w2.heap.size:=(by omega)));(try (have _:W.heap.size≠w2.heap.size:=(by omega)));(try (have _:w2.heap.size≠W.heap.size:=(by omega)));(try (have _:W.heap.size<w2.heap.size+1:=(by omega)));(try (have _:W.heap.size+1<w2.heap.size:=(by omega)));(try (have _:W.heap.size+1≤w2.heap.size:=(by omega)));(try (have _:W.heap.size+1≠w2.heap.size:=(by omega)));(try (have _:w2.heap.size≠W.heap.size+1:=(by omega)));(try (have _:W.heap.size+1<w2.heap.size+1:=(by omega)));(try (have _:w1.heap.size<w2.heap.size:=(by omega)));(try (have _:w1.heap.size≤w2.heap.size:=(by omega)));(try (have _:w1.heap.size≠w2.heap.size:=(by omega)));(try (have _:w2.heap.size≠w1.heap.size:=(by omega)));(try (have _:w1.heap.size<w2.heap.size+1:=(by omega)));(try (have _:w1.heap.size+1<w2.heap.size:=(by omega)));(try (have _:w1.heap.size+1≤w2.heap.size:=(by omega)));(try (have _:w1.heap.size+1≠w2.heap.size:=(by omega)));(try (have _:w2.heap.size≠w1.heap.size+1:=(by omega)));(try (have _:w1.heap.size+1<w2.heap.size+1:=(by omega))))
    | (go_at_call 96;with_reducible refine (K3.out _).mono ?_;rintro e w3 ⟨rfl,hb3⟩;have hc3:=aj hb3;have hz3:=hb3.size;(try simp at hz3);(try (have:=fun j=>aj hb3 (W.heap.size) j (by first|omega|(simp;done)|(simp;omega))));(try (have:=fun j=>aj hb3 (W.heap.size+1) j (by first|omega|(simp;done)|(simp;omega))));(try (have:=fun j=>aj hb3 (w1.heap.size) j (by first|omega|(simp;done)|(simp;omega))));(try (have:=fun j=>aj hb3 (w1.heap.size+1) j (by first|omega|(simp;done)|(simp;omega))));(try (have:=fun j=>aj hb3 (w2.heap.size) j (by first|omega|(simp;done)|(simp;omega))));(try (have:=fun j=>aj hb3 (w2.heap.size+1) j (by first|omega|(simp;done)|(simp;omega))));have _:bf<w3.heap.size:=(by omega);have _:bf≤w3.heap.size:=(by omega);have _:bf<w3.heap.size+1:=(by omega);have _:bf<w3.heap.size+1+1:=(by omega);have _:bf≠w3.heap.size:=(by omega);have _:w3.heap.size≠bf:=(by omega);have _:bf≠w3.heap.size+1:=(by omega);have _:w3.heap.size+1≠bf:=(by omega);have _:bx<w3.heap.size:=(by omega);have _:bx≤w3.heap.size:=(by omega);have _:bx<w3.heap.size+1:=(by omega);have _:bx<w3.heap.size+1+1:=(by omega);have _:bx≠w3.heap.size:=(by omega);have _:w3.heap.size≠bx:=(by omega);have _:bx≠w3.heap.size+1:=(by omega);have _:w3.heap.size+1≠bx:=(by omega);have _:bw<w3.heap.size:=(by omega);have _:bw≤w3.heap.size:=(by omega);have _:bw<w3.heap.size+1:=(by omega);have _:bw<w3.heap.size+1+1:=(by omega);have _:bw≠w3.heap.size:=(by omega);have _:w3.heap.size≠bw:=(by omega);have _:bw≠w3.heap.size+1:=(by omega);have _:w3.heap.size+1≠bw:=(by omega);have _:br<w3.heap.size:=(by omega);have _:br≤w3.heap.size:=(by omega);have _:br<w3.heap.size+1:=(by omega);have _:br<w3.heap.size+1+1:=(by omega);have _:br≠w3.heap.size:=(by omega);have _:w3.heap.size≠br:=(by omega);have _:br≠w3.heap.size+1:=(by omega);have _:w3.heap.size+1≠br:=(by omega);(try (have _:W.heap.size<w3.heap.size:=(by omega)));(try (have _:W.heap.size≤w3.heap.size:=(by omega)));(try (have _:W.heap.size≠w3.heap.size:=(by omega)));(try (have _:w3.heap.size≠W.heap.size:=(by omega)));(try (have _:W.heap.size<w3.heap.size+1:=(by omega)));(try (have _:W.heap.size+1<w3.heap.size:=(by omega)));(try (have _:W.heap.size+1≤w3.heap.size:=(by omega)));(try (have _:W.heap.size+1≠w3.heap.size:=(by omega)));(try (have _:w3.heap.size≠W.heap.size+1:=(by omega)));(try (have _:W.heap.size+1<w3.heap.size+1:=(by omega)));(try (have _:w1.heap.size<w3.heap.size:=(by omega)));(try (have _:w1.heap.size≤w3.heap.size:=(by omega)));(try (have _:w1.heap.size≠w3.heap.size:=(by omega)));(try (have _:w3.heap.size≠w1.heap.size:=(by omega)));(try (have _:w1.heap.size<w3.heap.size+1:=(by omega)));(try (have _:w1.heap.size+1<w3.heap.size:=(by omega)));(try (have _:w1.heap.size+1≤w3.heap.size:=(by omega)));(try (have _:w1.heap.size+1≠w3.heap.size:=(by omega)));(try (have _:w3.heap.size≠w1.heap.size+1:=(by omega)));(try (have _:w1.heap.size+1<w3.heap.size+1:=(by omega)));(try (have _:w2.heap.size<w3.heap.size:=(by omega)));(try (have _:w2.heap.size≤w3.heap.size:=(by omega)));(try (have _:w2.heap.size≠w3.heap.size:=(by omega)));(try (have _:w3.heap.size≠w2.heap.size:=(by omega)));(try (have _:w2.heap.size<w3.heap.size+1:=(by omega)));(try (have _:w2.heap.size+1<w3.heap.size:=(by omega)));(try (have _:w2.heap.size+1≤w3.heap.size:=(by omega)));(try (have _:w2.heap.size+1≠w3.heap.size:=(by omega)));(try (have _:w3.heap.size≠w2.heap.size+1:=(by omega)));(try (have _:w2.heap.size+1<w3.heap.size+1:=(by omega)))))
  all_goals (refine o7.intro ⟨_,?_,?_,?_,?_,rfl⟩)
  all_goals repeat (first|with_reducible exact BB.out|with_reducible exact HF.out|with_reducible exact HR.out|with_reducible refine ab.fresh (by first|rfl|(simp;done)|fail)|with_reducible refine ab.sets4 ?_|with_reducible refine ab.alloc ?_ _|with_reducible refine ab.drew ?_|with_reducible refine aG.alloc ?_ _|with_reducible refine aG.drew ?_|with_reducible refine aG.set4 ?_ (by with_reducible assumption) _ _ _ _|with_reducible refine ac.alloc ?_ _|with_reducible refine ac.drew ?_|with_reducible refine ac.set4 ?_ (by with_reducible assumption) _ _ _ _|with_reducible refine eU hbf ?_ _|with_reducible refine Below.drew ?_|with_reducible refine Below.setCell ?_ (by with_reducible assumption) _|with_reducible refine Has.fresh (by first|rfl|(simp;done)|fail) (by first|(simp;done)|fail)|with_reducible refine Has.alloc ?_ _|with_reducible refine Has.drew ?_|with_reducible refine Has.keep ?_ hb3|with_reducible refine ab.keep ?_ hb3|with_reducible refine aG.keep ?_ hb3|with_reducible refine ac.keep ?_ hb3|with_reducible refine bT hbf ?_ hb3|with_reducible refine Has.keep ?_ hb2|with_reducible refine ab.keep ?_ hb2|with_reducible refine aG.keep ?_ hb2|with_reducible refine ac.keep ?_ hb2|with_reducible refine bT hbf ?_ hb2|with_reducible refine Has.keep ?_ hb1|with_reducible refine ab.keep ?_ hb1|with_reducible refine aG.keep ?_ hb1|with_reducible refine ac.keep ?_ hb1|with_reducible refine bT hbf ?_ hb1)
 rintro _ W1 ⟨bs,B,hF,hR,hS,rfl⟩
 subst hbf
 clear BB HF HR gF gX gY lf lx ly lr geB K1 K2 K3 W
 have gF:=hF.cells;have gS:=hS.cells
 rcases K4.out with ⟨rfl,K5⟩|⟨rfl,K5⟩
 ·subst K5
  have gR:=hR.1.all4;have fR:=hR.2.all4
  clear gF hF
  go_wp2
  simp [bodyPost,results,Tryz.results134,go_sem,gR]
  exact ah B o3 _ _ _ _
 ·go_wp2_with fail
  with_reducible refine (K5.out _).mono ?_
  rintro e w1 ⟨rfl,hb⟩
  replace B:=B.trans (hb.mono B.size)
  replace hR:=hR.keep hb
  clear hb gF gS hF hS
  have gR:=fun o=>(hR.alloc o).1.all4
  have fR:=fun o=>(hR.alloc o).2.all4
  have BB:Hid (∀ o,Below w.heap.size w (w1.alloc o)):=fun o=>B.alloc B.size o
  clear B hR
  go_wp2
  simp [bodyPost,results,Tryz.results134,go_sem, *]
  repeat (first|with_reducible exact BB.out _|with_reducible refine Below.drew ?_|with_reducible refine Below.setCell ?_ (by with_reducible assumption) _)
theorem pe {m c x y:Int} (hf:Fit m c) (hx:Num x) (hy:Num y) (w:World) :
  Rt 134 #[.agg #[.int .u64 (l0 m),.int .u64 (l1 m),.int .u64 (l2 m),.int .u64 (l3 m),.int .u64 (l0 c),.int .u64 (l1 c),.int .u64 (l2 c),.int .u64 (l3 c)],U4 x,U4 y] w (U4 (ag m (x-y))):=by
 have na:=ae hf x
 have nb:=ae hf y
 have T:∀ w,Rt 96 #[U4 (ag m x),U4 (ag m y)] w (.tuple #[U4 (ca (ag m x) (ag m y)),.int .u64 (cL (ag m x) (ag m y))]):=fun w=>iq na nb w
 refine te (z:=bO (ca (ag m x) (ag m y)) m) (d8 hf hx) (d8 hf hy) T ?_ w
 rcases vA (x:=x) (y:=y) hf with ⟨k1,k2⟩|⟨k1,k2⟩
 ·exact .inl ⟨k1,k2.symm⟩
 ·exact .inr ⟨k1,by rw [k2];exact fun w=>kJ (uL _ _) hf.num w⟩
end Go.Proofs.YtnnnaajgjniiaaaGreatDoor
