import Derived.Test.YtnnnaajgjniiaaaGreatDoorAb
import Derived.Test.YtnnnaajgjniiaaaGreatDoorRefMul
import Derived.Test.YtnnnaajgjniiaaaGreatDoorFExp
import Derived.Test.YtnnnaajgjniiaaaGreatDoorRefBit
import Derived.Test.YtnnnaajgjniiaaaGreatDoorAdd
import Derived.Test.YtnnnaajgjniiaaaGreatDoorHold
set_option maxRecDepth 100000
set_option maxHeartbeats 4000000
namespace Go.Proofs.YtnnnaajgjniiaaaGreatDoor
open Go.RowKit Go.Sort
theorem iU {k x:Int} (hx:Num x) (w:World) :
  Rt 154 #[.int .i64 k,U4 x] w (U4 (ag (rM k) x)):=by
 have R1:Hid (∀ w,Rt 142 #[.int .i64 k,.agg #[.int .u64 0,.int .u64 0,.int .u64 0,.int .u64 0],U4 x] w (U4 (ag (rM k) x))):=fun w=>by
  have:=iy (k:=k) (h:=0) ⟨by decide,by decide⟩ hx w
  obtain ⟨z0,z1,z2,z3⟩:=aq
  ((try unfold Rt at this);(try unfold U4 at this);rw [jG,z0,z1,z2,z3] at this)
  exact this
 have bz:=bC
 generalize ag (rM k) x=R at *
 go_enter Tryz.func154,Tryz.ntmps154
 go_wp2_with fail
 refine aa (fun W=>Below w.heap.size w W∧ac W (w.heap.size+1)) ⟨by repeat (first|with_reducible exact Below.refl _ _|with_reducible refine Below.alloc ?_ (by first|omega|(simp;done)|(simp;omega)) _),ac.new (by simp)⟩ ?_
 rintro W ⟨B,hR⟩
 have o3:w.heap.size≤w.heap.size+1:=by omega
 generalize w.heap.size+1=br at *
 with_reducible refine (R1.out _).mono ?_
 rintro e w1 ⟨rfl,hb⟩
 replace B:=B.trans (hb.mono B.size)
 replace hR:=hR.keep hb
 clear hb W
 have gR:=hR.1.all4;have fR:=hR.2.all4
 go_wp2
 simp [bodyPost,results,Tryz.results154,go_sem,gR]
 exact ah B o3 _ _ _ _
theorem qH {n m:Int} (hn:Num n) (hm:Num m):al (bO n m):=by
 obtain ⟨_,_⟩:=hn;obtain ⟨_,_⟩:=hm
 unfold bO al
 omega
theorem vQ (x y:Int):aI (bO x y) (cE x y)=x+y:=by unfold aI bO cE;omega
theorem mV {k x y:Int} (hx:Num x) (hy:Num y) (w:World) :
    Rt 153 #[.int .i64 k,U4 x,U4 y] w (U4 (ag (rM k) (x+y))):=by
  have wc:=qH hx hy
  have nc:Num (bO x y):=by obtain ⟨a,b⟩:=wc;exact ⟨a,by omega⟩
  have A1:Hid (∀ w,Rt 174 #[U4 x,U4 y] w (.tuple #[U4 (cE x y),.int .u64 (bO x y)])):=lP hx hy
  have F1:Hid (∀ w,Rt 155 #[.int .u64 (bO x y)] w (U4 (bO x y))):=dV wc
  have R1:Hid (∀ w,Rt 142 #[.int .i64 k,U4 (bO x y),U4 (cE x y)] w (U4 (ag (rM k) (x+y)))):=fun w=>by
    have:=iy (k:=k) nc (la x y) w;rw [vQ] at this;exact this
  clear wc nc
  generalize ag (rM k) (x+y)=R at *
  generalize bO x y=C at *
  generalize cE x y=S at *
  go_enter Tryz.func153,Tryz.ntmps153
  go_wp2_with fail
  refine aa (fun W=>Below w.heap.size w W∧ac W (w.heap.size+1+1)) ⟨by repeat (first|with_reducible exact Below.refl _ _|with_reducible refine Below.alloc ?_ (by first|omega|(simp;done)|(simp;omega)) _),ac.new (by simp)⟩ ?_
  rintro W ⟨B,hR⟩
  have o3:w.heap.size≤w.heap.size+1+1:=by omega
  generalize w.heap.size+1+1=br at *
  with_reducible refine (A1.out _).mono ?_
  rintro e w1 ⟨rfl,hb⟩
  replace B:=B.trans (hb.mono B.size)
  replace hR:=hR.keep hb
  clear hb W
  go_wp2_with fail
  refine af (fun W=>Below w.heap.size w W∧ac W br∧ab W w1.heap.size S) ⟨B.alloc B.size _,hR.alloc _,ab.new _ _ _⟩ ?_
  clear B hR
  rintro W ⟨B,hR,hS⟩
  generalize w1.heap.size=bs at *
  have gS:=hS.grown
  refine aL 5 (by kernel_rfl) (by kernel_rfl) ?_
  simp only [List.take_succ_cons,List.take_zero,List.drop_succ_cons,List.drop_zero]
  repeat
    first
      | go_big_quiet_skip
      | (go_big_quiet_want;go_big_quiet_op;go_big_quiet_on)
      | (go_big_quiet_want
         go_big_quiet_op
         apply Exists.intro
         refine ⟨fun p=>?_,?_⟩
         · (first|(go_at_call 155;with_reducible exact Calls.regrown_of (F1.out _))|(go_at_call 142;with_reducible exact Calls.regrown_of (R1.out _)))
         go_big_quiet_on)
  refine wpQuiet_nil ?_
  rintro w2 ⟨p,rfl⟩
  have hb:=below_regrown W p.d p.os
  generalize grow (redrawn W p.d) p.os=w2 at *
  replace B:=B.trans (hb.mono B.size)
  replace hR:=hR.keep hb
  clear hb hS gS W
  have gR:=hR.1.all4;have fR:=hR.2.all4
  go_wp2
  simp [bodyPost,results,Tryz.results153,go_sem,gR]
  exact ah B o3 _ _ _ _
theorem vR {m c x:Int} (hf:Fit m c):ca m (ag m x)=m-ag m x∧Num (m-ag m x)∧ag m (m-ag m x)=ag m (0-x):=by
 obtain ⟨a0,a1⟩:=fu hf x
 obtain ⟨h1,h2,h3⟩:=hf
 refine ⟨by unfold ca;omega,⟨by omega,by omega⟩,?_⟩
 unfold ag at *
 rw [Int.sub_emod,Int.emod_self,Int.emod_emod_of_dvd _ (Int.dvd_refl m),Int.sub_emod 0 x,Int.zero_emod]
theorem tj {k x:Int} (hx:Num x) (w:World) :
  Rt 208 #[.int .i64 k,U4 x] w (U4 (ag (rM k) (0-x))):=by
 have hf:=qG k
 obtain ⟨q1,q2,q3⟩:=vR (x:=x) hf
 have M1:Hid (∀ w,Rt 109 #[.int .i64 k] w (U4 (rM k))):=dQ k
 have B1:Hid (∀ w,Rt 154 #[.int .i64 k,U4 x] w (U4 (ag (rM k) x))):=iU hx
 have S1:Hid (∀ w,Rt 39 #[U4 (rM k),U4 (ag (rM k) x)] w (.tuple #[U4 (rM k-ag (rM k) x),.int .u64 (cL (rM k) (ag (rM k) x))])):=fun w=>by
  have:=gE hf.num (ae hf x) w;rw [q1] at this;exact this
 have B2:Hid (∀ w,Rt 154 #[.int .i64 k,U4 (rM k-ag (rM k) x)] w (U4 (ag (rM k) (0-x)))):=fun w=>by
  have:=iU (k:=k) q2 w;rw [q3] at this;exact this
 clear q1 q2 q3 hf hx
 generalize cL (rM k) (ag (rM k) x)=z at *
 generalize ag (rM k) (0-x)=R at *
 generalize rM k-ag (rM k) x=D at *
 generalize ag (rM k) x=b at *
 generalize rM k=m at *
 go_enter Tryz.func208,Tryz.ntmps208
 go_wp2_with fail
 refine af (fun W=>Below w.heap.size w W∧ab W w.heap.size x∧ac W (w.heap.size+1)) ⟨by repeat (first|with_reducible exact Below.refl _ _|with_reducible refine Below.alloc ?_ (by first|omega|(simp;done)|(simp;omega)) _),(ab.fresh (by simp)).alloc _,ac.new (by simp)⟩ ?_
 rintro W ⟨B,hX,hR⟩
 have o3:w.heap.size≤w.heap.size+1:=by omega
 generalize w.heap.size+1=br at *
 generalize hbf:w.heap.size=bx at *
 have gX:=hX.cells
 have lx:bx<W.heap.size:=World.block_lt_of_cell? W _ hX.1
 have lr:br<W.heap.size:=hR.1.lt (by simp)
 have BB:Hid (Below bx w W):=B
 have HR:Hid (ac W br):=hR
 have geB:bx≤W.heap.size:=by omega
 clear B hX hR
 refine lg (fun a' W'=>∃ bs,Below bx w W'∧ac W' br∧ab W' bs D∧a'={ tmps:=#[.int .i64 k,U4 x,Go.undef,.pointer (some { block:=bx,off:=0 }),.pointer (some { block:=br,off:=0 }),.pointer (some { block:=bs,off:=0 }),.int .u64 z,.tuple #[U4 D,.int .u64 z],.int .i64 k,U4 m,.int .i64 k,U4 x,U4 b,.tuple #[U4 D,.int .u64 z],U4 D,.int .u64 z,Go.undef,Go.undef,Go.undef],defers:=[] }) ?_ ?_
 ·have dz:W.drew.heap.size=W.heap.size:=rfl
  clear B2
  have _:bx<W.heap.size:=by omega
  have _:bx≤W.heap.size:=by omega
  have _:bx<W.heap.size+1:=by omega
  have _:bx<W.heap.size+1+1:=by omega
  have _:bx≠W.heap.size:=by omega
  have _:W.heap.size≠bx:=by omega
  have _:bx≠W.heap.size+1:=by omega
  have _:W.heap.size+1≠bx:=by omega
  have _:br<W.heap.size:=by omega
  have _:br≤W.heap.size:=by omega
  have _:br<W.heap.size+1:=by omega
  have _:br<W.heap.size+1+1:=by omega
  have _:br≠W.heap.size:=by omega
  have _:W.heap.size≠br:=by omega
  have _:br≠W.heap.size+1:=by omega
  have _:W.heap.size+1≠br:=by omega
  go_region_held3 (fun w'=>w'.cell? ⟨bx,0,none⟩=some (.int .u64 (l0 x))∧w'.cell? ⟨bx,1,none⟩=some (.int .u64 (l1 x))∧w'.cell? ⟨bx,2,none⟩=some (.int .u64 (l2 x))∧w'.cell? ⟨bx,3,none⟩=some (.int .u64 (l3 x))) (((try dsimp only);(repeat' (apply And.intro));(all_goals repeat (first|with_reducible assumption|with_reducible apply cell_keep hb3|with_reducible apply cell_keep hb2|with_reducible apply cell_keep hb1|with_reducible apply cell_alloc|(with_reducible refine cell_set ?_ (by with_reducible assumption))|(simp [go_sem, *];done)))))
   (first
    | (go_at_call 109;with_reducible refine (M1.out _).mono ?_;rintro e w1 ⟨rfl,hb1⟩;have hc1:=aj hb1;have hz1:=hb1.size;(try simp at hz1);(try (have:=fun j=>aj hb1 (W.heap.size) j (by first|omega|(simp;done)|(simp;omega))));(try (have:=fun j=>aj hb1 (W.heap.size+1) j (by first|omega|(simp;done)|(simp;omega))));have _:bx<w1.heap.size:=(by omega);have _:bx≤w1.heap.size:=(by omega);have _:bx<w1.heap.size+1:=(by omega);have _:bx<w1.heap.size+1+1:=(by omega);have _:bx≠w1.heap.size:=(by omega);have _:w1.heap.size≠bx:=(by omega);have _:bx≠w1.heap.size+1:=(by omega);have _:w1.heap.size+1≠bx:=(by omega);have _:br<w1.heap.size:=(by omega);have _:br≤w1.heap.size:=(by omega);have _:br<w1.heap.size+1:=(by omega);have _:br<w1.heap.size+1+1:=(by omega);have _:br≠w1.heap.size:=(by omega);have _:w1.heap.size≠br:=(by omega);have _:br≠w1.heap.size+1:=(by omega);have _:w1.heap.size+1≠br:=(by omega);(try (have _:W.heap.size<w1.heap.size:=(by omega)));(try (have _:W.heap.size≤w1.heap.size:=(by omega)));(try (have _:W.heap.size≠w1.heap.size:=(by omega)));(try (have _:w1.heap.size≠W.heap.size:=(by omega)));(try (have _:W.heap.size<w1.heap.size+1:=(by omega)));(try (have _:W.heap.size+1<w1.heap.size:=(by omega)));(try (have _:W.heap.size+1≤w1.heap.size:=(by omega)));(try (have _:W.heap.size+1≠w1.heap.size:=(by omega)));(try (have _:w1.heap.size≠W.heap.size+1:=(by omega)));(try (have _:W.heap.size+1<w1.heap.size+1:=(by omega))))
    | (go_at_call 154;with_reducible refine (B1.out _).mono ?_;rintro e w2 ⟨rfl,hb2⟩;have hc2:=aj hb2;have hz2:=hb2.size;(try simp at hz2);(try (have:=fun j=>aj hb2 (W.heap.size) j (by first|omega|(simp;done)|(simp;omega))));(try (have:=fun j=>aj hb2 (W.heap.size+1) j (by first|omega|(simp;done)|(simp;omega))));(try (have:=fun j=>aj hb2 (w1.heap.size) j (by first|omega|(simp;done)|(simp;omega))));(try (have:=fun j=>aj hb2 (w1.heap.size+1) j (by first|omega|(simp;done)|(simp;omega))));have _:bx<w2.heap.size:=(by omega);have _:bx≤w2.heap.size:=(by omega);have _:bx<w2.heap.size+1:=(by omega);have _:bx<w2.heap.size+1+1:=(by omega);have _:bx≠w2.heap.size:=(by omega);have _:w2.heap.size≠bx:=(by omega);have _:bx≠w2.heap.size+1:=(by omega);have _:w2.heap.size+1≠bx:=(by omega);have _:br<w2.heap.size:=(by omega);have _:br≤w2.heap.size:=(by omega);have _:br<w2.heap.size+1:=(by omega);have _:br<w2.heap.size+1+1:=(by omega);have _:br≠w2.heap.size:=(by omega);have _:w2.heap.size≠br:=(by omega);have _:br≠w2.heap.size+1:=(by omega);have _:w2.heap.size+1≠br:=(by omega);(try (have _:W.heap.size<w2.heap.size:=(by omega)));(try (have _:W.heap.size≤w2.heap.size:=(by omega)));(try (have _:W.heap.size≠w2.heap.size:=(by omega)));(try (have _:w2.heap.size≠W.heap.size:=(by omega)));(try (have _:W.heap.size<w2.heap.size+1:=(by omega)));(try (have _:W.heap.size+1<w2.heap.size:=(by omega)));(try (have _:W.heap.size+1≤w2.heap.size:=(by omega)));(try (have _:W.heap.size+1≠w2.heap.size:=(by omega)));(try (have _:w2.heap.size≠W.heap.size+1:=(by omega)));(try (have _:W.heap.size+1<w2.heap.size+1:=(by omega)));(try (have _:w1.heap.size<w2.heap.size:=(by omega)));(try (have _:w1.heap.size≤w2.heap.size:=(by omega)));(try (have _:w1.heap.size≠w2.heap.size:=(by omega)));(try (have _:w2.heap.size≠w1.heap.size:=(by omega)));(try (have _:w1.heap.size<w2.heap.size+1:=(by omega)));(try (have _:w1.heap.size+1<w2.heap.size:=(by omega)));(try (have _:w1.heap.size+1≤w2.heap.size:=(by omega)));(try (have _:w1.heap.size+1≠w2.heap.size:=(by omega)));(try (have _:w2.heap.size≠w1.heap.size+1:=(by omega)));(try (have _:w1.heap.size+1<w2.heap.size+1:=(by omega))))
    | (go_at_call 39;with_reducible refine (S1.out _).mono ?_;rintro e w3 ⟨rfl,hb3⟩;have hc3:=aj hb3;have hz3:=hb3.size;(try simp at hz3);(try (have:=fun j=>aj hb3 (W.heap.size) j (by first|omega|(simp;done)|(simp;omega))));(try (have:=fun j=>aj hb3 (W.heap.size+1) j (by first|omega|(simp;done)|(simp;omega))));(try (have:=fun j=>aj hb3 (w1.heap.size) j (by first|omega|(simp;done)|(simp;omega))));(try (have:=fun j=>aj hb3 (w1.heap.size+1) j (by first|omega|(simp;done)|(simp;omega))));(try (have:=fun j=>aj hb3 (w2.heap.size) j (by first|omega|(simp;done)|(simp;omega))));(try (have:=fun j=>aj hb3 (w2.heap.size+1) j (by first|omega|(simp;done)|(simp;omega))));have _:bx<w3.heap.size:=(by omega);have _:bx≤w3.heap.size:=(by omega);have _:bx<w3.heap.size+1:=(by omega);have _:bx<w3.heap.size+1+1:=(by omega);have _:bx≠w3.heap.size:=(by omega);have _:w3.heap.size≠bx:=(by omega);have _:bx≠w3.heap.size+1:=(by omega);have _:w3.heap.size+1≠bx:=(by omega);have _:br<w3.heap.size:=(by omega);have _:br≤w3.heap.size:=(by omega);have _:br<w3.heap.size+1:=(by omega);have _:br<w3.heap.size+1+1:=(by omega);have _:br≠w3.heap.size:=(by omega);have _:w3.heap.size≠br:=(by omega);have _:br≠w3.heap.size+1:=(by omega);have _:w3.heap.size+1≠br:=(by omega);(try (have _:W.heap.size<w3.heap.size:=(by omega)));(try (have _:W.heap.size≤w3.heap.size:=(by omega)));(try (have _:W.heap.size≠w3.heap.size:=(by omega)));(try (have _:w3.heap.size≠W.heap.size:=(by omega)));(try (have _:W.heap.size<w3.heap.size+1:=(by omega)));(try (have _:W.heap.size+1<w3.heap.size:=(by omega)));(try (have _:W.heap.size+1≤w3.heap.size:=(by omega)));(try (have _:W.heap.size+1≠w3.heap.size:=(by omega)));(try (have _:w3.heap.size≠W.heap.size+1:=(by omega)));(try (have _:W.heap.size+1<w3.heap.size+1:=(by omega)));(try (have _:w1.heap.size<w3.heap.size:=(by omega)));(try (have _:w1.heap.size≤w3.heap.size:=(by omega)));(try (have _:w1.heap.size≠w3.heap.size:=(by omega)));(try (have _:w3.heap.size≠w1.heap.size:=(by omega)));(try (have _:w1.heap.size<w3.heap.size+1:=(by omega)));(try (have _:w1.heap.size+1<w3.heap.size:=(by omega)));(try (have _:w1.heap.size+1≤w3.heap.size:=(by omega)));(try (have _:w1.heap.size+1≠w3.heap.size:=(by omega)));(try (have _:w3.heap.size≠w1.heap.size+1:=(by omega)));(try (have _:w1.heap.size+1<w3.heap.size+1:=(by omega)));(try (have _:w2.heap.size<w3.heap.size:=(by omega)));(try (have _:w2.heap.size≤w3.heap.size:=(by omega)));(try (have _:w2.heap.size≠w3.heap.size:=(by omega)));(try (have _:w3.heap.size≠w2.heap.size:=(by omega)));(try (have _:w2.heap.size<w3.heap.size+1:=(by omega)));(try (have _:w2.heap.size+1<w3.heap.size:=(by omega)));(try (have _:w2.heap.size+1≤w3.heap.size:=(by omega)));(try (have _:w2.heap.size+1≠w3.heap.size:=(by omega)));(try (have _:w3.heap.size≠w2.heap.size+1:=(by omega)));(try (have _:w2.heap.size+1<w3.heap.size+1:=(by omega)))))
  all_goals (refine o7.intro ⟨_,?_,?_,?_,rfl⟩)
  all_goals repeat (first|with_reducible exact BB.out|with_reducible exact HR.out|with_reducible refine ab.fresh (by first|rfl|(simp;done)|fail)|with_reducible refine ab.sets4 ?_|with_reducible refine ab.alloc ?_ _|with_reducible refine ab.drew ?_|with_reducible refine ac.alloc ?_ _|with_reducible refine ac.drew ?_|with_reducible refine ac.set4 ?_ (by with_reducible assumption) _ _ _ _|with_reducible refine eU hbf ?_ _|with_reducible refine Below.drew ?_|with_reducible refine Below.setCell ?_ (by with_reducible assumption) _|with_reducible refine Has.fresh (by first|rfl|(simp;done)|fail) (by first|(simp;done)|fail)|with_reducible refine Has.alloc ?_ _|with_reducible refine Has.drew ?_|with_reducible refine Has.keep ?_ hb3|with_reducible refine ab.keep ?_ hb3|with_reducible refine ac.keep ?_ hb3|with_reducible refine bT hbf ?_ hb3|with_reducible refine Has.keep ?_ hb2|with_reducible refine ab.keep ?_ hb2|with_reducible refine ac.keep ?_ hb2|with_reducible refine bT hbf ?_ hb2|with_reducible refine Has.keep ?_ hb1|with_reducible refine ab.keep ?_ hb1|with_reducible refine ac.keep ?_ hb1|with_reducible refine bT hbf ?_ hb1)
 rintro _ W1 ⟨bs,B,hR,hS,rfl⟩
 subst hbf
 clear BB HR gX lx lr geB M1 B1 S1 W
 have gS:=hS.cells
 go_wp2_with fail
 with_reducible refine (B2.out _).mono ?_
 rintro e w1 ⟨rfl,hb⟩
 replace B:=B.trans (hb.mono B.size)
 replace hR:=hR.keep hb
 clear hb gS hS
 have gR:=hR.1.all4;have fR:=hR.2.all4
 go_wp2
 simp [bodyPost,results,Tryz.results208,go_sem,gR]
 exact ah B o3 _ _ _ _
theorem qI {k n m:Int} (hn:Num n) (hm:Num m) (w:World) :
  Rt 156 #[.int .i64 k,U4 n,U4 m] w (U4 (aY (rM k) n m)):=by
 have hf:=qG k
 have hT:Hid (∀ {x y:Int},Num x→Num y→∀ w,Rt 152 #[.int .i64 k,U4 x,U4 y] w (U4 (ag (rM k) (x*y)))):=fun hx hy w=>lQ hx hy w
 generalize rM k=q at *
 generalize rC k=c at *
 have one:al 1:=⟨by decide,by decide⟩
 go_enter Tryz.func156,Tryz.ntmps156
 go_wp2_with fail
 refine aa (fun W=>Below w.heap.size w W∧ab W w.heap.size n∧ab W (w.heap.size+1) m∧ac W (w.heap.size+1+1)) ⟨?_,?_,?_,?_⟩ ?_
 ·repeat (first|with_reducible exact Below.refl _ _|with_reducible refine Below.alloc ?_ (by first|omega|(simp;done)|(simp;omega)) _)
 ·exact ((ab.fresh (by simp)).alloc _).alloc _
 ·exact (ab.fresh (by simp)).alloc _
 ·exact ac.new (by simp)
 rintro W ⟨B,hX,hY,hR⟩
 have o1:w.heap.size≤w.heap.size+1+1:=by omega
 generalize w.heap.size+1+1=br at *
 generalize w.heap.size+1=bw at *
 refine (dV one W).mono ?_
 rintro e w1 ⟨rfl,hb⟩
 replace B:=B.trans (hb.mono B.size)
 replace hX:=hX.keep hb;replace hY:=hY.keep hb;replace hR:=hR.keep hb
 clear hb W
 have gY:=hY.allocs
 go_wp2_with fail
 have c1:w1.heap.size≠w.heap.size:=by have:=hX.row.lt (by simp);omega
 have c2:w1.heap.size≠bw:=by have:=hY.row.lt (by simp);omega
 have c3:w1.heap.size≠br:=by have:=hR.1.lt (by simp);omega
 have o2:w.heap.size≤w1.heap.size:=B.size
 refine aa (fun W=>Below w.heap.size w W∧ab W w.heap.size n∧ab W bw m∧ac W br∧Var W w1.heap.size 1) ⟨B.alloc B.size _,hX.alloc _,hY.alloc _,hR.alloc _,Var.new rfl⟩ ?_
 clear B hX hY hR gY
 rintro W ⟨B,hX,hY,hR,hP⟩
 generalize w1.heap.size=bp at *
 refine (vJ hm W).mono ?_
 rintro e w2 ⟨rfl,hb⟩
 replace B:=B.trans (hb.mono B.size)
 replace hX:=hX.keep hb;replace hY:=hY.keep hb;replace hR:=hR.keep hb;replace hP:=hP.keep hb
 clear hb W
 obtain ⟨j0,ej,hj0,_,ez⟩:=lG hm
 rw [ej]
 have hP0:Var w2 bp (aY q n (m/2 ^ j0)):=by rw [ez,mT hf];exact hP
 clear hP ez ej
 go_wp2_with fail
 go_loopw [8] (fun a wr=>∃ j:Nat,j≤256∧a = .int .i64 ((j:Int)-1)∧Below w.heap.size w wr∧ab wr w.heap.size n∧ab wr bw m∧ac wr br∧Var wr bp (aY q n (m/2 ^ j))) (fun a _=>(intOf a+1).toNat)
 case atStart=>exact ⟨j0,hj0,by go_num,B,hX,hY,hR,hP0⟩
 case round =>
  clear B hX hY hR hP0
  obtain ⟨j,hj,rfl,B,hX,hY,hR,hP⟩:=hrel
  by_cases hz:j=0
  ·subst hz
   rw [show m/2 ^ 0=m by simp] at hP
   have gP:=hP.1.cells;have gR:=hR.1.all4;have fR:=hR.2.all4
   go_wp2
   simp [bodyPost,results,Tryz.results156,go_sem,gR]
   exact ah B o1 _ _ _ _
  ·obtain ⟨i,rfl⟩:∃ i,j=i+1:=⟨j-1,by omega⟩
   have e1:((i+1:Nat):Int)-1=i:=by omega
   have hd:=pd m i
   have eb:=sa m (show i<256 by omega)
   have q0:0≤m/2 ^ (i+1):=Int.ediv_nonneg hm.1 (Int.le_of_lt (Int.pow_pos (by decide)))
   have bt:cG m i=0∨cG m i=1:=by rw [eb];omega
   rw [←eb] at hd
   have HD:Hid (m/2 ^ i=2*(m/2 ^ (i+1))+cG m i):=hd
   have M1:Hid (∀ W,Rt 152 #[.int .i64 k,.agg #[.int .u64 (l0 (aY q n (m/2 ^ (i+1)))),.int .u64 (l1 (aY q n (m/2 ^ (i+1)))),.int .u64 (l2 (aY q n (m/2 ^ (i+1)))),.int .u64 (l3 (aY q n (m/2 ^ (i+1))))],.agg #[.int .u64 (l0 (aY q n (m/2 ^ (i+1)))),.int .u64 (l1 (aY q n (m/2 ^ (i+1)))),.int .u64 (l2 (aY q n (m/2 ^ (i+1)))),.int .u64 (l3 (aY q n (m/2 ^ (i+1))))]] W (.agg #[.int .u64 (l0 (aY q n (2*(m/2 ^ (i+1))))),.int .u64 (l1 (aY q n (2*(m/2 ^ (i+1))))),.int .u64 (l2 (aY q n (2*(m/2 ^ (i+1))))),.int .u64 (l3 (aY q n (2*(m/2 ^ (i+1)))))])):=fun W=>by
    have:=hT.out (bY hf n (m/2 ^ (i+1))) (bY hf n (m/2 ^ (i+1))) W
    rw [lJ q n q0] at this
    exact this
   have M2:Hid (∀ W,Rt 152 #[.int .i64 k,.agg #[.int .u64 (l0 (aY q n (2*(m/2 ^ (i+1))))),.int .u64 (l1 (aY q n (2*(m/2 ^ (i+1))))),.int .u64 (l2 (aY q n (2*(m/2 ^ (i+1))))),.int .u64 (l3 (aY q n (2*(m/2 ^ (i+1)))))],U4 n] W (.agg #[.int .u64 (l0 (aY q n (2*(m/2 ^ (i+1))+1))),.int .u64 (l1 (aY q n (2*(m/2 ^ (i+1))+1))),.int .u64 (l2 (aY q n (2*(m/2 ^ (i+1))+1))),.int .u64 (l3 (aY q n (2*(m/2 ^ (i+1))+1)))])):=fun W=>by
    have:=hT.out (bY hf n (2*(m/2 ^ (i+1)))) hn W
    rw [jJ q n (by omega)] at this
    exact this
   have ea:Hid (((i+1:Nat):Int)-1=i):=e1
   rw [e1]
   clear e1 eb hd
   generalize m/2 ^ (i+1)=E at *
   have gP:=hP.1.cells
   go_wp2_with fail
   with_reducible refine (M1.out _).mono ?_
   rintro e w3 ⟨rfl,hb⟩
   replace B:=B.trans (hb.mono B.size)
   replace hX:=hX.keep hb;replace hY:=hY.keep hb;replace hR:=hR.keep hb;replace hP:=hP.keep hb
   clear hb gP
   have gP:=hP.1.cells;have fP:=hP.2.all4;have gY:=hY.cells
   go_wp2_with fail
   refine aa (fun W=>Below w.heap.size w W∧ab W w.heap.size n∧ab W bw m∧ac W br∧Var W bp (aY q n (2*E))) ⟨ah B o2 _ _ _ _,hX.set4 c1 _ _ _ _,hY.set4 c2 _ _ _ _,hR.set4 c3 _ _ _ _,hP.sets _⟩ ?_
   clear B hX hY hR hP gP fP gY
   rintro W ⟨B,hX,hY,hR,hP⟩
   refine (gG hm W).mono ?_
   rintro e w4 ⟨rfl,hb⟩
   replace B:=B.trans (hb.mono B.size)
   replace hX:=hX.keep hb;replace hY:=hY.keep hb;replace hR:=hR.keep hb;replace hP:=hP.keep hb
   clear hb W
   rcases bt with bt|bt
   ·have hP':Var w4 bp (aY q n (m/2 ^ i)):=by rw [HD.out,bt,Int.add_zero];exact hP
    clear hP HD
    go_wp2
    go_roundw
    case rel=>exact ⟨i,by omega,by go_num,B,hX,hY,hR,hP'⟩
    case measure=>first|(simp [intOf];done)|(simp [intOf];omega)
   ·have gP:=hP.1.cells;have gX:=hX.cells
    have ee:Hid (m/2 ^ i=2*E+1):=by have:=HD.out;rw [bt] at this;exact this
    clear HD
    go_wp2_with fail
    with_reducible refine (M2.out _).mono ?_
    rintro e w5 ⟨rfl,hb⟩
    replace B:=B.trans (hb.mono B.size)
    replace hX:=hX.keep hb;replace hY:=hY.keep hb;replace hR:=hR.keep hb;replace hP:=hP.keep hb
    clear hb gP gX
    have gP:=hP.1.cells;have fP:=hP.2.all4
    go_wp2
    go_roundw
    case rel=>exact ⟨i,by omega,by go_num,ah B o2 _ _ _ _,hX.set4 c1 _ _ _ _,hY.set4 c2 _ _ _ _,hR.set4 c3 _ _ _ _,by rw [ee.out];exact hP.sets _⟩
    case measure=>first|(simp [intOf];done)|(simp [intOf];omega)
theorem tm {k x y:Int} (hk:k=0∨k=1) (hx:Num x) (hy:Num y) (w:World) :
  Rt 117 #[.int .i64 k,U4 x,U4 y] w (.tuple #[U4 (ag (rM k) (x+y)),.int .i64 0]):=by
 have G:Hid (∀ w,Rt 108 #[.int .i64 k] w (.bool true)):=dW hk
 have C:Hid (∀ w,Rt 153 #[.int .i64 k,U4 x,U4 y] w (U4 (ag (rM k) (x+y)))):=mV hx hy
 generalize (ag (rM k) (x+y))=r at *
 clear hk
 go_enter Tryz.func117,Tryz.ntmps117
 go_wp2_with fail
 refine aa (fun W=>Below w.heap.size w W∧ab W (w.heap.size) x∧ab W (w.heap.size+1) y∧ac W (w.heap.size+1+1)) ⟨by repeat (first|with_reducible exact Below.refl _ _|with_reducible refine Below.alloc ?_ (by first|omega|(simp;done)|(simp;omega)) _),((ab.fresh (by simp)).alloc _).alloc _,(ab.fresh (by simp)).alloc _,ac.new (by simp)⟩ ?_
 rintro W ⟨B,hX,hY,hR⟩
 have o3:w.heap.size≤w.heap.size+1+1:=by omega
 generalize w.heap.size+1+1=br at *
 generalize w.heap.size+1=bw at *
 with_reducible refine (G.out _).mono ?_
 rintro e w1 ⟨rfl,hb⟩
 replace B:=B.trans (hb.mono B.size)
 replace hX:=hX.keep hb;replace hY:=hY.keep hb;replace hR:=hR.keep hb
 clear hb W
 have gX:=hX.cells
 have gY:=hY.cells
 go_wp2_with fail
 with_reducible refine (C.out _).mono ?_
 rintro e w2 ⟨rfl,hb⟩
 replace B:=B.trans (hb.mono B.size)
 replace hR:=hR.keep hb
 clear hb hX hY gX gY w1
 have gR:=hR.1.all4;have fR:=hR.2.all4
 go_wp2
 simp [bodyPost,results,Tryz.results117,go_sem,gR]
 exact ah B o3 _ _ _ _
theorem mL {k:Int} (hk:k=0∨k=1) (w:World) :
  Rt 63 #[.int .i64 k] w (.tuple #[U4 (rM k),.int .i64 0]):=by
 have G:Hid (∀ w,Rt 108 #[.int .i64 k] w (.bool true)):=dW hk
 have C:Hid (∀ w,Rt 109 #[.int .i64 k] w (U4 (rM k))):=dQ k
 generalize rM k=r at *
 clear hk
 go_enter Tryz.func63,Tryz.ntmps63
 go_wp2_with fail
 refine aa (fun W=>Below w.heap.size w W∧ac W w.heap.size) ⟨by repeat (first|with_reducible exact Below.refl _ _|with_reducible refine Below.alloc ?_ (by first|omega|(simp;done)|(simp;omega)) _),ac.new (by simp)⟩ ?_
 rintro W ⟨B,hR⟩
 have o3:w.heap.size≤w.heap.size:=by omega
 with_reducible refine (G.out _).mono ?_
 rintro e w1 ⟨rfl,hb⟩
 replace B:=B.trans (hb.mono B.size)
 replace hR:=hR.keep hb
 clear hb W
 go_wp2_with fail
 with_reducible refine (C.out _).mono ?_
 rintro e w2 ⟨rfl,hb⟩
 replace B:=B.trans (hb.mono B.size)
 replace hR:=hR.keep hb
 clear hb w1
 have gR:=hR.1.all4;have fR:=hR.2.all4
 go_wp2
 simp [bodyPost,results,Tryz.results63,go_sem,gR]
 exact ah B o3 _ _ _ _
theorem vS {m c:Int} (_hf:Fit m c) (x y:Int):ag m (x+ag m (0-y))=ag m (x-y):=by
 unfold ag
 rw [Int.add_emod,Int.emod_emod_of_dvd _ (Int.dvd_refl m),←Int.add_emod]
 congr 1;omega
theorem tn {k x y:Int} (hk:k=0∨k=1) (hx:Num x) (hy:Num y) (w:World) :
    Rt 196 #[.int .i64 k,U4 x,U4 y] w (.tuple #[U4 (ag (rM k) (x-y)),.int .i64 0]):=by
  have G:Hid (∀ w,Rt 108 #[.int .i64 k] w (.bool true)):=dW hk
  have L1:Hid (∀ w,Rt 208 #[.int .i64 k,U4 y] w (U4 (ag (rM k) (0-y)))):=tj hy
  have P1:Hid (∀ w,Rt 153 #[.int .i64 k,U4 x,U4 (ag (rM k) (0-y))] w (U4 (ag (rM k) (x-y)))):=fun w=>by
    have:=mV (k:=k) hx (ae (qG k) (0-y)) w;rw [vS (qG k)] at this;exact this
  generalize ag (rM k) (x-y)=R at *
  generalize ag (rM k) (0-y)=D at *
  clear hk hx hy
  go_enter Tryz.func196,Tryz.ntmps196
  go_wp2_with fail
  refine aa (fun W=>Below w.heap.size w W∧ab W w.heap.size x∧ab W (w.heap.size+1) y∧ac W (w.heap.size+1+1)) ⟨by repeat (first|with_reducible exact Below.refl _ _|with_reducible refine Below.alloc ?_ (by first|omega|(simp;done)|(simp;omega)) _),((ab.fresh (by simp)).alloc _).alloc _,(ab.fresh (by simp)).alloc _,ac.new (by simp)⟩ ?_
  rintro W ⟨B,hX,hY,hR⟩
  have o3:w.heap.size≤w.heap.size+1+1:=by omega
  generalize w.heap.size+1+1=br at *
  generalize w.heap.size+1=bw at *
  with_reducible refine (G.out _).mono ?_
  rintro e w1 ⟨rfl,hb⟩
  replace B:=B.trans (hb.mono B.size)
  replace hX:=hX.keep hb;replace hY:=hY.keep hb;replace hR:=hR.keep hb
  clear hb W
  go_wp2_with fail
  have gX:=hX.grown;have gY:=hY.grown
  refine aL 6 (by kernel_rfl) (by kernel_rfl) ?_
  simp only [List.take_succ_cons,List.take_zero,List.drop_succ_cons,List.drop_zero]
  repeat
    first
      | go_big_quiet_skip
      | (go_big_quiet_want;go_big_quiet_op;go_big_quiet_on)
      | (go_big_quiet_want
         go_big_quiet_op
         apply Exists.intro
         refine ⟨fun p=>?_,?_⟩
         · (first|(go_at_call 208;with_reducible exact Calls.regrown_of (L1.out _))|(go_at_call 153;with_reducible exact Calls.regrown_of (P1.out _)))
         go_big_quiet_on)
  refine wpQuiet_nil ?_
  rintro w2 ⟨p,rfl⟩
  have hb:=below_regrown w1 p.d p.os
  generalize grow (redrawn w1 p.d) p.os=w2 at *
  replace B:=B.trans (hb.mono B.size)
  replace hR:=hR.keep hb
  clear hb hX hY gX gY w1
  have gR:=hR.1.all4;have fR:=hR.2.all4
  go_wp2
  simp [bodyPost,results,Tryz.results196,go_sem,gR]
  exact ah B o3 _ _ _ _
open Go.RowKit Go.Sort
theorem oB {k m c e0:Int} (O:Hid (∀ w,Mds w→Rt 127 #[.int .i64 k] w (.tuple #[.agg #[.int .u64 (l0 m),.int .u64 (l1 m),.int .u64 (l2 m),.int .u64 (l3 m),.int .u64 (l0 c),.int .u64 (l1 c),.int .u64 (l2 c),.int .u64 (l3 c)],.int .i64 e0]))) (w:World) (hm:Mds w) :
  Rt 97 #[.int .i64 k] w (.tuple #[U4 m,.int .i64 e0]):=by
 go_enter Tryz.func97,Tryz.ntmps97
 go_wp2_with fail
 refine aa (fun W=>Below w.heap.size w W∧Mds W∧ac W w.heap.size) ⟨by repeat (first|with_reducible exact Below.refl _ _|with_reducible refine Below.alloc ?_ (by first|omega|(simp;done)|(simp;omega)) _),hm.alloc _,ac.new (by simp)⟩ ?_
 rintro W ⟨B,hD,hR⟩
 have o3:w.heap.size≤w.heap.size:=by omega
 with_reducible refine (O.out _ hD).mono ?_
 rintro e w1 ⟨rfl,hb⟩
 replace B:=B.trans (hb.mono B.size)
 replace hR:=hR.keep hb
 have lr:=hR.1.lt (by simp)
 have nr:w1.heap.size≠w.heap.size:=by omega
 have nr':=nr.symm
 clear hb hD W lr
 have gR:=fun o=>(hR.alloc o).1.all4
 have fR:=fun o=>(hR.alloc o).2.all4
 have BB:Hid (∀ o,Below w.heap.size w (w1.alloc o)):=fun o=>B.alloc B.size o
 clear B hR
 go_wp2
 simp [bodyPost,results,Tryz.results97,go_sem, *]
 repeat (first|with_reducible exact BB.out _|with_reducible refine Below.drew ?_|with_reducible refine Below.setCell ?_ (by with_reducible assumption) _)
theorem oC {k m c:Int} (hk:Kind k m c) (w:World) (hm:Mds w) :
  Rt 97 #[.int .i64 k] w (.tuple #[U4 m,.int .i64 0]):=oB (fun w h=>fA hk w h) w hm
theorem vT {k m c x:Int} (hk:Kind k m c) (hx:Num x) (w:World) (hm:Mds w) :
  Rt 95 #[.int .i64 k,U4 x] w (.tuple #[U4 (ag m (0-x)),.int .i64 0]):=by
 have C:Hid (∀ w,Rt 134 #[.agg #[.int .u64 (l0 m),.int .u64 (l1 m),.int .u64 (l2 m),.int .u64 (l3 m),.int .u64 (l0 c),.int .u64 (l1 c),.int .u64 (l2 c),.int .u64 (l3 c)],.agg #[.int .u64 0,.int .u64 0,.int .u64 0,.int .u64 0],U4 x] w (U4 (ag m (0-x)))):=fun w=>by
  have:=pe (x:=0) hk.fit ⟨by decide,by decide⟩ hx w
  obtain ⟨z0,z1,z2,z3⟩:=aq
  ((try unfold Rt at this);(try unfold U4 at this);rw [z0,z1,z2,z3] at this)
  exact this
 have bz:=bC
 generalize ag m (0-x)=r at *
 go_enter Tryz.func95,Tryz.ntmps95
 go_wp2_with fail
 refine aa (fun W=>Below w.heap.size w W∧Mds W∧ab W w.heap.size x∧ac W (w.heap.size+1)) ⟨by repeat (first|with_reducible exact Below.refl _ _|with_reducible refine Below.alloc ?_ (by first|omega|(simp;done)|(simp;omega)) _),(hm.alloc _).alloc _,(ab.fresh (by simp)).alloc _,ac.new (by simp)⟩ ?_
 rintro W ⟨B,hD,hX,hR⟩
 have o3:w.heap.size≤w.heap.size+1:=by omega
 generalize w.heap.size+1=br at *
 with_reducible refine (fA hk _ hD).mono ?_
 rintro e w1 ⟨rfl,hb⟩
 replace B:=B.trans (hb.mono B.size)
 replace hX:=hX.keep hb;replace hR:=hR.keep hb
 clear hb hD W
 have gX:=hX.allocs
 go_wp2_with fail
 refine aa (fun W=>Below w.heap.size w W∧ac W br) ⟨B.alloc B.size _,hR.alloc _⟩ ?_
 clear B hX hR gX
 rintro W ⟨B,hR⟩
 with_reducible refine (C.out _).mono ?_
 rintro e w2 ⟨rfl,hb⟩
 replace B:=B.trans (hb.mono B.size)
 replace hR:=hR.keep hb
 clear hb W
 have gR:=hR.1.all4;have fR:=hR.2.all4
 go_wp2
 simp [bodyPost,results,Tryz.results95,go_sem,gR]
 exact ah B o3 _ _ _ _
open Go.RowKit Go.Sort
theorem iN {k x:Int} (hk:k=0∨k=1) (hx:Num x) (hz:ag (rM k) x≠0) (w:World) :
  Rt 118 #[.int .i64 k,U4 x] w (.tuple #[U4 (fi (rM k) x),.int .i64 0]):=by
 have hf:=qG k
 obtain ⟨q1,q2⟩:=sb hf
 have G:Hid (∀ w,Rt 108 #[.int .i64 k] w (.bool true)):=dW hk
 have B1:Hid (∀ w,Rt 154 #[.int .i64 k,U4 x] w (U4 (ag (rM k) x))):=iU hx
 have M1:Hid (∀ w,Rt 109 #[.int .i64 k] w (U4 (rM k))):=dQ k
 have F1:Hid (∀ w,Rt 155 #[.int .u64 2] w (.agg #[.int .u64 (l0 2),.int .u64 (l1 2),.int .u64 (l2 2),.int .u64 (l3 2)])):=dV ⟨by decide,by decide⟩
 have S1:Hid (∀ w,Rt 39 #[U4 (rM k),.agg #[.int .u64 (l0 2),.int .u64 (l1 2),.int .u64 (l2 2),.int .u64 (l3 2)]] w (.tuple #[U4 (rM k-2),.int .u64 (cL (rM k) 2)])):=fun w=>by
  have:=gE (m:=2) hf.num ⟨by decide,by decide⟩ w;rw [q1] at this;exact this
 have E1:Hid (∀ w,Rt 156 #[.int .i64 k,U4 x,U4 (rM k-2)] w (U4 (fi (rM k) x))):=qI hx q2
 have hq:=gD (ae hf x)
 rw [show decide (ag (rM k) x=0)=false by simp [hz]] at hq
 clear q1 q2 hf hx hz hk
 generalize fi (rM k) x=R at *
 generalize ag (rM k) x=r at *
 generalize rM k-2=D at *
 generalize cL (rM k) 2=z at *
 generalize rM k=m at *
 generalize ht:(2:Int)=T at F1 S1
 have bz:=bC
 go_enter Tryz.func118,Tryz.ntmps118
 go_wp2_with fail
 refine aa (fun W=>Below w.heap.size w W∧ab W w.heap.size x∧ac W (w.heap.size+1)) ⟨by repeat (first|with_reducible exact Below.refl _ _|with_reducible refine Below.alloc ?_ (by first|omega|(simp;done)|(simp;omega)) _),(ab.fresh (by simp)).alloc _,ac.new (by simp)⟩ ?_
 rintro W ⟨B,hX,hR⟩
 have o3:w.heap.size≤w.heap.size+1:=by omega
 generalize w.heap.size+1=br at *
 with_reducible refine (G.out _).mono ?_
 rintro e w1 ⟨rfl,hb⟩
 replace B:=B.trans (hb.mono B.size)
 replace hX:=hX.keep hb;replace hR:=hR.keep hb
 clear hb W
 have gX:=hX.cells
 go_wp2_with fail
 with_reducible refine (B1.out _).mono ?_
 rintro e w2 ⟨rfl,hb⟩
 replace B:=B.trans (hb.mono B.size)
 replace hX:=hX.keep hb;replace hR:=hR.keep hb
 clear hb gX w1
 go_wp2_with fail
 clear hq
 with_reducible refine (M1.out _).mono ?_
 rintro e w3 ⟨rfl,hb⟩
 replace B:=B.trans (hb.mono B.size)
 replace hX:=hX.keep hb;replace hR:=hR.keep hb
 clear hb w2
 go_wp2_with fail
 subst ht
 with_reducible refine (F1.out _).mono ?_
 rintro e w4 ⟨rfl,hb⟩
 replace B:=B.trans (hb.mono B.size)
 replace hX:=hX.keep hb;replace hR:=hR.keep hb
 clear hb w3
 go_wp2_with fail
 with_reducible refine (S1.out _).mono ?_
 rintro e w5 ⟨rfl,hb⟩
 replace B:=B.trans (hb.mono B.size)
 replace hX:=hX.keep hb;replace hR:=hR.keep hb
 clear hb w4
 have gX:=hX.allocs
 go_wp2_with fail
 refine aa (fun W=>Below w.heap.size w W∧ac W br) ⟨B.alloc B.size _,hR.alloc _⟩ ?_
 clear B hX hR gX
 rintro W ⟨B,hR⟩
 with_reducible refine (E1.out _).mono ?_
 rintro e w6 ⟨rfl,hb⟩
 replace B:=B.trans (hb.mono B.size)
 replace hR:=hR.keep hb
 clear hb W
 have gR:=hR.1.all4;have fR:=hR.2.all4
 go_wp2
 simp [bodyPost,results,Tryz.results118,go_sem,gR]
 exact ah B o3 _ _ _ _
open Go.RowKit Go.Sort
theorem mW {x y:Int} (hx:Num x) (hy:Num y) (w:World) (hm:Mds w) :
  Rt 122 #[U4 x,U4 y] w (U4 (ag pN (x+y))):=by
 have C:Hid (∀ w,Mds w→Rt 105 #[.int .i64 0,U4 x,U4 y] w (.tuple #[U4 (ag pN (x+y)),.int .i64 0])):=fun w hm=>ph ox hx hy w hm
 generalize ag pN (x+y)=r at *
 clear hx hy
 go_enter Tryz.func122,Tryz.ntmps122
 go_wp2_with fail
 refine aa (fun W=>Below w.heap.size w W∧Mds W∧ac W (w.heap.size+1+1)) ⟨by repeat (first|with_reducible exact Below.refl _ _|with_reducible refine Below.alloc ?_ (by first|omega|(simp;done)|(simp;omega)) _),((hm.alloc _).alloc _).alloc _,ac.new (by simp)⟩ ?_
 rintro W ⟨B,hD,hR⟩
 have o3:w.heap.size≤w.heap.size+1+1:=by omega
 generalize w.heap.size+1+1=br at *
 with_reducible refine (C.out _ hD).mono ?_
 rintro e w1 ⟨rfl,hb⟩
 replace B:=B.trans (hb.mono B.size)
 replace hR:=hR.keep hb
 have lr:=hR.1.lt (by simp)
 have nr:w1.heap.size≠br:=by omega
 have nr':=nr.symm
 clear hb hD W lr
 have gR:=fun o=>(hR.alloc o).1.all4
 have fR:=fun o=>(hR.alloc o).2.all4
 have BB:Hid (∀ o,Below w.heap.size w (w1.alloc o)):=fun o=>B.alloc B.size o
 clear B hR
 go_wp2
 simp [bodyPost,results,Tryz.results122,go_sem, *]
 repeat (first|with_reducible exact BB.out _|with_reducible refine Below.drew ?_|with_reducible refine Below.setCell ?_ (by with_reducible assumption) _)
theorem bU {x y:Int} (hx:Num x) (hy:Num y) (w:World) (hm:Mds w) :
  Rt 124 #[U4 x,U4 y] w (U4 (ag pN (x-y))):=by
 have C:Hid (∀ w,Mds w→Rt 162 #[.int .i64 0,U4 x,U4 y] w (.tuple #[U4 (ag pN (x-y)),.int .i64 0])):=fun w hm=>vC ox hx hy w hm
 generalize ag pN (x-y)=r at *
 clear hx hy
 go_enter Tryz.func124,Tryz.ntmps124
 go_wp2_with fail
 refine aa (fun W=>Below w.heap.size w W∧Mds W∧ac W (w.heap.size+1+1)) ⟨by repeat (first|with_reducible exact Below.refl _ _|with_reducible refine Below.alloc ?_ (by first|omega|(simp;done)|(simp;omega)) _),((hm.alloc _).alloc _).alloc _,ac.new (by simp)⟩ ?_
 rintro W ⟨B,hD,hR⟩
 have o3:w.heap.size≤w.heap.size+1+1:=by omega
 generalize w.heap.size+1+1=br at *
 with_reducible refine (C.out _ hD).mono ?_
 rintro e w1 ⟨rfl,hb⟩
 replace B:=B.trans (hb.mono B.size)
 replace hR:=hR.keep hb
 have lr:=hR.1.lt (by simp)
 have nr:w1.heap.size≠br:=by omega
 have nr':=nr.symm
 clear hb hD W lr
 have gR:=fun o=>(hR.alloc o).1.all4
 have fR:=fun o=>(hR.alloc o).2.all4
 have BB:Hid (∀ o,Below w.heap.size w (w1.alloc o)):=fun o=>B.alloc B.size o
 clear B hR
 go_wp2
 simp [bodyPost,results,Tryz.results124,go_sem, *]
 repeat (first|with_reducible exact BB.out _|with_reducible refine Below.drew ?_|with_reducible refine Below.setCell ?_ (by with_reducible assumption) _)
theorem aF {x y:Int} (hx:Num x) (hy:Num y) (w:World) (hm:Mds w) :
  Rt 87 #[U4 x,U4 y] w (U4 (ag pN (x*y))):=by
 have C:Hid (∀ w,Mds w→Rt 94 #[.int .i64 0,U4 x,U4 y] w (.tuple #[U4 (ag pN (x*y)),.int .i64 0])):=fun w hm=>pj ox hx hy w hm
 generalize ag pN (x*y)=r at *
 clear hx hy
 go_enter Tryz.func87,Tryz.ntmps87
 go_wp2_with fail
 refine aa (fun W=>Below w.heap.size w W∧Mds W∧ac W (w.heap.size+1+1)) ⟨by repeat (first|with_reducible exact Below.refl _ _|with_reducible refine Below.alloc ?_ (by first|omega|(simp;done)|(simp;omega)) _),((hm.alloc _).alloc _).alloc _,ac.new (by simp)⟩ ?_
 rintro W ⟨B,hD,hR⟩
 have o3:w.heap.size≤w.heap.size+1+1:=by omega
 generalize w.heap.size+1+1=br at *
 with_reducible refine (C.out _ hD).mono ?_
 rintro e w1 ⟨rfl,hb⟩
 replace B:=B.trans (hb.mono B.size)
 replace hR:=hR.keep hb
 have lr:=hR.1.lt (by simp)
 have nr:w1.heap.size≠br:=by omega
 have nr':=nr.symm
 clear hb hD W lr
 have gR:=fun o=>(hR.alloc o).1.all4
 have fR:=fun o=>(hR.alloc o).2.all4
 have BB:Hid (∀ o,Below w.heap.size w (w1.alloc o)):=fun o=>B.alloc B.size o
 clear B hR
 go_wp2
 simp [bodyPost,results,Tryz.results87,go_sem, *]
 repeat (first|with_reducible exact BB.out _|with_reducible refine Below.drew ?_|with_reducible refine Below.setCell ?_ (by with_reducible assumption) _)
theorem bE {x:Int} (hx:Num x) (w:World) (hm:Mds w) :
  Rt 86 #[U4 x] w (U4 (ag pN (x*x))):=by
 have C:Hid (∀ w,Mds w→Rt 87 #[U4 x,U4 x] w (U4 (ag pN (x*x)))):=fun w hm=>aF hx hx w hm
 generalize ag pN (x*x)=r at *
 clear hx
 go_enter Tryz.func86,Tryz.ntmps86
 go_wp2_with fail
 refine aa (fun W=>Below w.heap.size w W∧Mds W∧ac W (w.heap.size+1)) ⟨by repeat (first|with_reducible exact Below.refl _ _|with_reducible refine Below.alloc ?_ (by first|omega|(simp;done)|(simp;omega)) _),(hm.alloc _).alloc _,ac.new (by simp)⟩ ?_
 rintro W ⟨B,hD,hR⟩
 have o3:w.heap.size≤w.heap.size+1:=by omega
 generalize w.heap.size+1=br at *
 with_reducible refine (C.out _ hD).mono ?_
 rintro e w1 ⟨rfl,hb⟩
 replace B:=B.trans (hb.mono B.size)
 replace hR:=hR.keep hb
 clear hb hD W
 have gR:=hR.1.all4;have fR:=hR.2.all4
 go_wp2
 simp [bodyPost,results,Tryz.results86,go_sem,gR]
 exact ah B o3 _ _ _ _
theorem cm {x:Int} (hx:Num x) (w:World) (hm:Mds w) :
  Rt 123 #[U4 x] w (U4 (ag pN (x+x))):=by
 have C:Hid (∀ w,Mds w→Rt 122 #[U4 x,U4 x] w (U4 (ag pN (x+x)))):=fun w hm=>mW hx hx w hm
 generalize ag pN (x+x)=r at *
 clear hx
 go_enter Tryz.func123,Tryz.ntmps123
 go_wp2_with fail
 refine aa (fun W=>Below w.heap.size w W∧Mds W∧ac W (w.heap.size+1)) ⟨by repeat (first|with_reducible exact Below.refl _ _|with_reducible refine Below.alloc ?_ (by first|omega|(simp;done)|(simp;omega)) _),(hm.alloc _).alloc _,ac.new (by simp)⟩ ?_
 rintro W ⟨B,hD,hR⟩
 have o3:w.heap.size≤w.heap.size+1:=by omega
 generalize w.heap.size+1=br at *
 with_reducible refine (C.out _ hD).mono ?_
 rintro e w1 ⟨rfl,hb⟩
 replace B:=B.trans (hb.mono B.size)
 replace hR:=hR.keep hb
 clear hb hD W
 have gR:=hR.1.all4;have fR:=hR.2.all4
 go_wp2
 simp [bodyPost,results,Tryz.results123,go_sem,gR]
 exact ah B o3 _ _ _ _
open Go.RowKit Go.Sort
def Cl (W:World) (b:Nat) (vs:List Value):Prop:=∀ i,i<vs.length→W.cell? ⟨b,i,none⟩=some (vs.getD i (.bool false))
theorem Cl.lt {W:World} {b:Nat} {l:List Value} (h:Cl W b l) (hl:0<l.length):b<W.heap.size:=World.block_lt_of_cell? W ⟨b,0,none⟩ (h 0 hl)
theorem Cl.keep {W w1:World} {b:Nat} {l:List Value} (h:Cl W b l) (hb:Below W.heap.size W w1):Cl w1 b l:=fun i hi=>cell_keep hb (h i hi)
theorem Cl.alloc {W:World} {b:Nat} {l:List Value} (h:Cl W b l) (o:Obj):Cl (W.alloc o) b l:=h.keep ((Below.refl _ _).alloc (Nat.le_refl _) o)
theorem Cl.set {W:World} {b b' i:Nat} {l:List Value} (h:Cl W b l) (ne:b'≠b) (v:Value):Cl (W.setCell ⟨b',i,none⟩ v) b l:=fun j hj=>by
 rw [World.cell?_setCell_far _ _ _ _ (by exact ne)];exact h j hj
theorem Cl.new {W:World} {b:Nat} {a:Array Value} {t:TypeId} (l:List Value) (e:b=W.heap.size) (ha:a=l.toArray):Cl (W.alloc (.cells a t)) b l:=by
 subst e;subst ha
 intro i hi
 rw [World.cell?_alloc_mark]
 simp [List.getD,List.getElem?_eq_getElem hi]
theorem cell_far {w:World} {b i b' i':Nat} {u v:Value} (h:w.cell? ⟨b,i,none⟩=some v) (ne:b'≠b):(w.setCell ⟨b',i',none⟩ u).cell? ⟨b,i,none⟩=some v:=by
 rw [World.cell?_setCell_far _ _ _ _ ne];exact h
def Pnt (W:World) (b:Nat) (x y:Int) (i:Bool):Prop:=Cl W b [.int .u64 (l0 x),.int .u64 (l1 x),.int .u64 (l2 x),.int .u64 (l3 x),.int .u64 (l0 y),.int .u64 (l1 y),.int .u64 (l2 y),.int .u64 (l3 y),.bool i]
theorem Pnt.lt {W:World} {b:Nat} {x y:Int} {i:Bool} (h:Pnt W b x y i):b<W.heap.size:=Cl.lt h (by simp)
theorem Pnt.keep {W w1:World} {b:Nat} {x y:Int} {i:Bool} (h:Pnt W b x y i) (hb:Below W.heap.size W w1):Pnt w1 b x y i:=Cl.keep h hb
theorem Pnt.alloc {W:World} {b:Nat} {x y:Int} {i:Bool} (h:Pnt W b x y i) (o:Obj):Pnt (W.alloc o) b x y i:=Cl.alloc h o
theorem Pnt.cells {W:World} {b:Nat} {x y:Int} {i:Bool} (h:Pnt W b x y i) :
  W.cell? ⟨b,0,none⟩=some (.int .u64 (l0 x))∧W.cell? ⟨b,1,none⟩=some (.int .u64 (l1 x))∧W.cell? ⟨b,2,none⟩=some (.int .u64 (l2 x))∧W.cell? ⟨b,3,none⟩=some (.int .u64 (l3 x))∧W.cell? ⟨b,4,none⟩=some (.int .u64 (l0 y))∧W.cell? ⟨b,5,none⟩=some (.int .u64 (l1 y))∧W.cell? ⟨b,6,none⟩=some (.int .u64 (l2 y))∧W.cell? ⟨b,7,none⟩=some (.int .u64 (l3 y))∧W.cell? ⟨b,8,none⟩=some (.bool i):=⟨h 0 (by simp),h 1 (by simp),h 2 (by simp),h 3 (by simp),h 4 (by simp),h 5 (by simp),h 6 (by simp),h 7 (by simp),h 8 (by simp)⟩
theorem Pnt.new {W:World} {b:Nat} {t:TypeId} {x y:Int} {i:Bool} (e:b=W.heap.size):Pnt (W.alloc (.cells #[.int .u64 (l0 x),.int .u64 (l1 x),.int .u64 (l2 x),.int .u64 (l3 x),.int .u64 (l0 y),.int .u64 (l1 y),.int .u64 (l2 y),.int .u64 (l3 y),.bool i] t)) b x y i:=Cl.new _ e rfl
theorem Pnt.grown {W:World} {b:Nat} {x y:Int} {i:Bool} (h:Pnt W b x y i):∀ d os,
  (grow (redrawn W d) os).cell? ⟨b,0,none⟩=some (.int .u64 (l0 x))∧(grow (redrawn W d) os).cell? ⟨b,1,none⟩=some (.int .u64 (l1 x))∧(grow (redrawn W d) os).cell? ⟨b,2,none⟩=some (.int .u64 (l2 x))∧(grow (redrawn W d) os).cell? ⟨b,3,none⟩=some (.int .u64 (l3 x))∧(grow (redrawn W d) os).cell? ⟨b,4,none⟩=some (.int .u64 (l0 y))∧(grow (redrawn W d) os).cell? ⟨b,5,none⟩=some (.int .u64 (l1 y))∧(grow (redrawn W d) os).cell? ⟨b,6,none⟩=some (.int .u64 (l2 y))∧(grow (redrawn W d) os).cell? ⟨b,7,none⟩=some (.int .u64 (l3 y))∧(grow (redrawn W d) os).cell? ⟨b,8,none⟩=some (.bool i):=fun d os=>(h.keep (below_regrown W d os)).cells
def Thr (W:World) (b:Nat) (x y z:Int):Prop:=Cl W b [.int .u64 (l0 x),.int .u64 (l1 x),.int .u64 (l2 x),.int .u64 (l3 x),.int .u64 (l0 y),.int .u64 (l1 y),.int .u64 (l2 y),.int .u64 (l3 y),.int .u64 (l0 z),.int .u64 (l1 z),.int .u64 (l2 z),.int .u64 (l3 z)]
theorem Thr.lt {W:World} {b:Nat} {x y z:Int} (h:Thr W b x y z):b<W.heap.size:=Cl.lt h (by simp)
theorem Thr.keep {W w1:World} {b:Nat} {x y z:Int} (h:Thr W b x y z) (hb:Below W.heap.size W w1):Thr w1 b x y z:=Cl.keep h hb
theorem Thr.alloc {W:World} {b:Nat} {x y z:Int} (h:Thr W b x y z) (o:Obj):Thr (W.alloc o) b x y z:=Cl.alloc h o
theorem Thr.cells {W:World} {b:Nat} {x y z:Int} (h:Thr W b x y z) :
  W.cell? ⟨b,0,none⟩=some (.int .u64 (l0 x))∧W.cell? ⟨b,1,none⟩=some (.int .u64 (l1 x))∧W.cell? ⟨b,2,none⟩=some (.int .u64 (l2 x))∧W.cell? ⟨b,3,none⟩=some (.int .u64 (l3 x))∧W.cell? ⟨b,4,none⟩=some (.int .u64 (l0 y))∧W.cell? ⟨b,5,none⟩=some (.int .u64 (l1 y))∧W.cell? ⟨b,6,none⟩=some (.int .u64 (l2 y))∧W.cell? ⟨b,7,none⟩=some (.int .u64 (l3 y))∧W.cell? ⟨b,8,none⟩=some (.int .u64 (l0 z))∧W.cell? ⟨b,9,none⟩=some (.int .u64 (l1 z))∧W.cell? ⟨b,10,none⟩=some (.int .u64 (l2 z))∧W.cell? ⟨b,11,none⟩=some (.int .u64 (l3 z)):=⟨h 0 (by simp),h 1 (by simp),h 2 (by simp),h 3 (by simp),h 4 (by simp),h 5 (by simp),h 6 (by simp),h 7 (by simp),h 8 (by simp),h 9 (by simp),h 10 (by simp),h 11 (by simp)⟩
theorem Thr.new {W:World} {b:Nat} {t:TypeId} {x y z:Int} (e:b=W.heap.size):Thr (W.alloc (.cells #[.int .u64 (l0 x),.int .u64 (l1 x),.int .u64 (l2 x),.int .u64 (l3 x),.int .u64 (l0 y),.int .u64 (l1 y),.int .u64 (l2 y),.int .u64 (l3 y),.int .u64 (l0 z),.int .u64 (l1 z),.int .u64 (l2 z),.int .u64 (l3 z)] t)) b x y z:=Cl.new _ e rfl
theorem Thr.grown {W:World} {b:Nat} {x y z:Int} (h:Thr W b x y z):∀ d os,
  (grow (redrawn W d) os).cell? ⟨b,0,none⟩=some (.int .u64 (l0 x))∧(grow (redrawn W d) os).cell? ⟨b,1,none⟩=some (.int .u64 (l1 x))∧(grow (redrawn W d) os).cell? ⟨b,2,none⟩=some (.int .u64 (l2 x))∧(grow (redrawn W d) os).cell? ⟨b,3,none⟩=some (.int .u64 (l3 x))∧(grow (redrawn W d) os).cell? ⟨b,4,none⟩=some (.int .u64 (l0 y))∧(grow (redrawn W d) os).cell? ⟨b,5,none⟩=some (.int .u64 (l1 y))∧(grow (redrawn W d) os).cell? ⟨b,6,none⟩=some (.int .u64 (l2 y))∧(grow (redrawn W d) os).cell? ⟨b,7,none⟩=some (.int .u64 (l3 y))∧(grow (redrawn W d) os).cell? ⟨b,8,none⟩=some (.int .u64 (l0 z))∧(grow (redrawn W d) os).cell? ⟨b,9,none⟩=some (.int .u64 (l1 z))∧(grow (redrawn W d) os).cell? ⟨b,10,none⟩=some (.int .u64 (l2 z))∧(grow (redrawn W d) os).cell? ⟨b,11,none⟩=some (.int .u64 (l3 z)):=fun d os=>(h.keep (below_regrown W d os)).cells
theorem Pnt.set4 {W:World} {b b':Nat} {x y:Int} {i:Bool} (h:Pnt W b x y i) (ne:b'≠b) (v0 v1 v2 v3:Value):Pnt ((((W.setCell ⟨b',0,none⟩ v0).setCell ⟨b',1,none⟩ v1).setCell ⟨b',2,none⟩ v2).setCell ⟨b',3,none⟩ v3) b x y i :=
 Cl.set (Cl.set (Cl.set (Cl.set h ne v0) ne v1) ne v2) ne v3
theorem Thr.set4 {W:World} {b b':Nat} {x y z:Int} (h:Thr W b x y z) (ne:b'≠b) (v0 v1 v2 v3:Value):Thr ((((W.setCell ⟨b',0,none⟩ v0).setCell ⟨b',1,none⟩ v1).setCell ⟨b',2,none⟩ v2).setCell ⟨b',3,none⟩ v3) b x y z :=
 Cl.set (Cl.set (Cl.set (Cl.set h ne v0) ne v1) ne v2) ne v3
def Bk9 (W:World) (b:Nat):Prop:=Cl W b [.int .u64 0,.int .u64 0,.int .u64 0,.int .u64 0,.int .u64 0,.int .u64 0,.int .u64 0,.int .u64 0,.bool false]∧au W b 9
theorem Bk9.lt {W:World} {b:Nat} (h:Bk9 W b):b<W.heap.size:=Cl.lt h.1 (by simp)
theorem Bk9.keep {W w1:World} {b:Nat} (h:Bk9 W b) (hb:Below W.heap.size W w1):Bk9 w1 b:=⟨h.1.keep hb,h.2.keep hb h.lt⟩
theorem Bk9.alloc {W:World} {b:Nat} (h:Bk9 W b) (o:Obj):Bk9 (W.alloc o) b:=h.keep ((Below.refl _ _).alloc (Nat.le_refl _) o)
theorem Bk9.set4 {W:World} {b b':Nat} (h:Bk9 W b) (ne:b'≠b) (v0 v1 v2 v3:Value):Bk9 ((((W.setCell ⟨b',0,none⟩ v0).setCell ⟨b',1,none⟩ v1).setCell ⟨b',2,none⟩ v2).setCell ⟨b',3,none⟩ v3) b :=
 ⟨Cl.set (Cl.set (Cl.set (Cl.set h.1 ne v0) ne v1) ne v2) ne v3,(((h.2.set _ _).set _ _).set _ _).set _ _⟩
theorem Bk9.cells {W:World} {b:Nat} (h:Bk9 W b):W.cell? ⟨b,0,none⟩=some (.int .u64 0)∧W.cell? ⟨b,1,none⟩=some (.int .u64 0)∧W.cell? ⟨b,2,none⟩=some (.int .u64 0)∧W.cell? ⟨b,3,none⟩=some (.int .u64 0)∧W.cell? ⟨b,4,none⟩=some (.int .u64 0)∧W.cell? ⟨b,5,none⟩=some (.int .u64 0)∧W.cell? ⟨b,6,none⟩=some (.int .u64 0)∧W.cell? ⟨b,7,none⟩=some (.int .u64 0)∧W.cell? ⟨b,8,none⟩=some (.bool false):=⟨h.1 0 (by simp),h.1 1 (by simp),h.1 2 (by simp),h.1 3 (by simp),h.1 4 (by simp),h.1 5 (by simp),h.1 6 (by simp),h.1 7 (by simp),h.1 8 (by simp)⟩
theorem Bk9.free {W:World} {b:Nat} (h:Bk9 W b):W.frozen? ⟨b,0,none⟩=false∧W.frozen? ⟨b,1,none⟩=false∧W.frozen? ⟨b,2,none⟩=false∧W.frozen? ⟨b,3,none⟩=false∧W.frozen? ⟨b,4,none⟩=false∧W.frozen? ⟨b,5,none⟩=false∧W.frozen? ⟨b,6,none⟩=false∧W.frozen? ⟨b,7,none⟩=false∧W.frozen? ⟨b,8,none⟩=false:=⟨h.2 0 (by decide),h.2 1 (by decide),h.2 2 (by decide),h.2 3 (by decide),h.2 4 (by decide),h.2 5 (by decide),h.2 6 (by decide),h.2 7 (by decide),h.2 8 (by decide)⟩
theorem Bk9.new {W:World} {b:Nat} {t:TypeId} (e:b=W.heap.size):Bk9 (W.alloc (.cells #[.int .u64 0,.int .u64 0,.int .u64 0,.int .u64 0,.int .u64 0,.int .u64 0,.int .u64 0,.int .u64 0,.bool false] t)) b:=⟨Cl.new _ e rfl,by subst e;exact au.new _ _ _ _⟩
def aw (W:World) (b:Nat):Prop:=Cl W b [.int .u64 0,.int .u64 0,.int .u64 0,.int .u64 0,.int .u64 0,.int .u64 0,.int .u64 0,.int .u64 0,.int .u64 0,.int .u64 0,.int .u64 0,.int .u64 0]∧au W b 12
theorem aw.lt {W:World} {b:Nat} (h:aw W b):b<W.heap.size:=Cl.lt h.1 (by simp)
theorem aw.keep {W w1:World} {b:Nat} (h:aw W b) (hb:Below W.heap.size W w1):aw w1 b:=⟨h.1.keep hb,h.2.keep hb h.lt⟩
theorem aw.alloc {W:World} {b:Nat} (h:aw W b) (o:Obj):aw (W.alloc o) b:=h.keep ((Below.refl _ _).alloc (Nat.le_refl _) o)
theorem aw.set4 {W:World} {b b':Nat} (h:aw W b) (ne:b'≠b) (v0 v1 v2 v3:Value):aw ((((W.setCell ⟨b',0,none⟩ v0).setCell ⟨b',1,none⟩ v1).setCell ⟨b',2,none⟩ v2).setCell ⟨b',3,none⟩ v3) b :=
 ⟨Cl.set (Cl.set (Cl.set (Cl.set h.1 ne v0) ne v1) ne v2) ne v3,(((h.2.set _ _).set _ _).set _ _).set _ _⟩
theorem aw.cells {W:World} {b:Nat} (h:aw W b):W.cell? ⟨b,0,none⟩=some (.int .u64 0)∧W.cell? ⟨b,1,none⟩=some (.int .u64 0)∧W.cell? ⟨b,2,none⟩=some (.int .u64 0)∧W.cell? ⟨b,3,none⟩=some (.int .u64 0)∧W.cell? ⟨b,4,none⟩=some (.int .u64 0)∧W.cell? ⟨b,5,none⟩=some (.int .u64 0)∧W.cell? ⟨b,6,none⟩=some (.int .u64 0)∧W.cell? ⟨b,7,none⟩=some (.int .u64 0)∧W.cell? ⟨b,8,none⟩=some (.int .u64 0)∧W.cell? ⟨b,9,none⟩=some (.int .u64 0)∧W.cell? ⟨b,10,none⟩=some (.int .u64 0)∧W.cell? ⟨b,11,none⟩=some (.int .u64 0):=⟨h.1 0 (by simp),h.1 1 (by simp),h.1 2 (by simp),h.1 3 (by simp),h.1 4 (by simp),h.1 5 (by simp),h.1 6 (by simp),h.1 7 (by simp),h.1 8 (by simp),h.1 9 (by simp),h.1 10 (by simp),h.1 11 (by simp)⟩
theorem aw.free {W:World} {b:Nat} (h:aw W b):W.frozen? ⟨b,0,none⟩=false∧W.frozen? ⟨b,1,none⟩=false∧W.frozen? ⟨b,2,none⟩=false∧W.frozen? ⟨b,3,none⟩=false∧W.frozen? ⟨b,4,none⟩=false∧W.frozen? ⟨b,5,none⟩=false∧W.frozen? ⟨b,6,none⟩=false∧W.frozen? ⟨b,7,none⟩=false∧W.frozen? ⟨b,8,none⟩=false∧W.frozen? ⟨b,9,none⟩=false∧W.frozen? ⟨b,10,none⟩=false∧W.frozen? ⟨b,11,none⟩=false:=⟨h.2 0 (by decide),h.2 1 (by decide),h.2 2 (by decide),h.2 3 (by decide),h.2 4 (by decide),h.2 5 (by decide),h.2 6 (by decide),h.2 7 (by decide),h.2 8 (by decide),h.2 9 (by decide),h.2 10 (by decide),h.2 11 (by decide)⟩
theorem aw.new {W:World} {b:Nat} {t:TypeId} (e:b=W.heap.size):aw (W.alloc (.cells #[.int .u64 0,.int .u64 0,.int .u64 0,.int .u64 0,.int .u64 0,.int .u64 0,.int .u64 0,.int .u64 0,.int .u64 0,.int .u64 0,.int .u64 0,.int .u64 0] t)) b:=⟨Cl.new _ e rfl,by subst e;exact au.new _ _ _ _⟩
end Go.Proofs.YtnnnaajgjniiaaaGreatDoor
