import Derived.Test.YtnnnaajgjniiaaaGreatDoorAb
import Derived.Test.YtnnnaajgjniiaaaGreatDoorHold
import Derived.Deep.RegionWith
import Derived.Test.YtnnnaajgjniiaaaGreatDoorRefNum
import Derived.Test.YtnnnaajgjniiaaaGreatDoorAdd
set_option maxHeartbeats 2000000
namespace Go.Proofs.YtnnnaajgjniiaaaGreatDoor
open Go.RowKit Go.Sort
theorem qE {Q:Exit→Act→World→Prop} {e:Exit} {a:Act} {w:World} (S:World→Prop) (h:S w) (k:∀ W,S W→Q e a W):Q e a w:=k w h
theorem sY {m c h l:Int} (hf:Fit m c) (hh:Num h) (hl:Num l) (w:World) :
  Rt 172 #[U4 h,U4 l,U4 c] w (.tuple #[U4 (cu h l c),U4 (bX h l c)]):=by
 have hc:=hf.numc
 obtain ⟨q1,q2,q3,q4⟩:=fd hf hh hl
 have M1:Hid (∀ w,Rt 169 #[U4 h,U4 c] w (.tuple #[U4 (hiN h c),U4 (loN h c)])):=rZ hh hc
 have A1:Hid (∀ w,Rt 131 #[U4 (loN h c),U4 l] w (.tuple #[U4 (bX h l c),.int .u64 (bO (loN h c) l)])):=fun w=>by
  have:=kJ (ky h c) hl w;rw [q2] at this;exact this
 have F1:=je q4
 have nc:Num (bO (loN h c) l):=by obtain ⟨a,b⟩:=q4;exact ⟨a,by omega⟩
 have A2:Hid (∀ w,Rt 131 #[U4 (hiN h c),U4 (bO (loN h c) l)] w (.tuple #[U4 (cu h l c),.int .u64 (bO (hiN h c) (bO (loN h c) l))])):=fun w=>by
  have:=kJ (kB hh hc) nc w;rw [q3] at this;exact this
 have F2:Hid (∀ w,Rt 126 #[.int .u64 (bO (loN h c) l)] w (U4 (bO (loN h c) l))):=F1
 clear q1 q2 q3 q4 nc F1
 generalize hiN h c=H at *
 generalize loN h c=L at *
 generalize bO L l=C at *
 generalize bO H C=D at *
 generalize cu h l c=R at *
 generalize bX h l c=S at *
 go_enter Tryz.func172,Tryz.ntmps172
 go_wp2_with fail
 refine aa (fun W=>Below w.heap.size w W∧ab W (w.heap.size+1) l∧ac W (w.heap.size+1+1+1)∧ac W (w.heap.size+1+1+1+1)) ⟨by repeat (first|with_reducible exact Below.refl _ _|with_reducible refine Below.alloc ?_ (by first|omega|(simp;done)|(simp;omega)) _),(((ab.fresh (by simp)).alloc _).alloc _).alloc _,(ac.new (by simp)).alloc _,ac.new (by simp)⟩ ?_
 rintro W ⟨B,hX,hR,hT⟩
 have o1:w.heap.size≤w.heap.size+1+1+1:=by omega
 have o2:w.heap.size≤w.heap.size+1+1+1+1:=by omega
 have rt:w.heap.size+1+1+1+1≠w.heap.size+1+1+1:=by omega
 generalize w.heap.size+1+1+1+1=bt at *
 generalize w.heap.size+1+1+1=br at *
 generalize w.heap.size+1=bx at *
 with_reducible refine (M1.out _).mono ?_
 rintro e w1 ⟨rfl,hb⟩
 replace B:=B.trans (hb.mono B.size)
 replace hR:=hR.keep hb;replace hT:=hT.keep hb;replace hX:=hX.keep hb
 clear hb W
 have gX:=hX.allocs2
 go_wp2_with fail
 have nr:w1.heap.size≠br:=by have:=hR.1.lt (by simp);omega
 have nt:w1.heap.size≠bt:=by have:=hT.1.lt (by simp);omega
 have os:w.heap.size≤w1.heap.size:=B.size
 refine aa (fun W=>Below w.heap.size w W∧ac W br∧ac W bt∧Var W w1.heap.size H) ⟨(B.alloc B.size _).alloc (by have:=B.size;simp;omega) _,(hR.alloc _).alloc _,(hT.alloc _).alloc _,(Var.new rfl).alloc _⟩ ?_
 clear B hX hR hT gX
 rintro W ⟨B,hR,hT,hO⟩
 generalize w1.heap.size+1=bu at *
 generalize w1.heap.size=bo at *
 with_reducible refine (A1.out _).mono ?_
 rintro e w2 ⟨rfl,hb⟩
 replace B:=B.trans (hb.mono B.size)
 replace hR:=hR.keep hb;replace hT:=hT.keep hb;replace hO:=hO.keep hb
 clear hb W
 go_wp2_with fail
 have nrs:br≠w2.heap.size:=by have:=hR.1.lt (by simp);omega
 have nts:bt≠w2.heap.size:=by have:=hT.1.lt (by simp);omega
 have ns:bo≠w2.heap.size:=by have:=hO.1.row.lt (by simp);omega
 refine af (fun W=>Below w.heap.size w W∧ac W br∧ac W bt∧Var W bo H∧ab W w2.heap.size S) ⟨B.alloc B.size _,hR.alloc _,hT.alloc _,hO.alloc _,ab.new _ _ _⟩ ?_
 clear B hR hT hO
 rintro W ⟨B,hR,hT,hO,hS⟩
 generalize w2.heap.size=bs at *
 have gO:=hO.1.cells;have fO:=hO.2.all4;have gS:=hS.cells;have gR:=hR.1.all4;have fR:=hR.2.all4;have gT:=hT.1.all4;have fT:=hT.2.all4
 have lo:=World.block_lt_of_cell? W _ hO.1.1;have ls:=World.block_lt_of_cell? W _ hS.1;have lr:=hR.1.lt (by simp);have lt:=hT.1.lt (by simp)
 have BB:Hid (Below w.heap.size w W):=B
 have geB:=B.size
 have HO:Hid (Var W bo H):=hO
 have HS:Hid (ab W bs S):=hS
 have HR:Hid (ac W br):=hR
 have HT:Hid (ac W bt):=hT
 clear B hO hS hR hT
 have nr':=nr.symm;have nt':=nt.symm;have ns':=ns.symm;have nrs':=nrs.symm;have nts':=nts.symm;have rt':=rt.symm
 have _:bo<W.heap.size:=by omega
 have _:bo≤W.heap.size:=by omega
 have _:bo<W.heap.size+1:=by omega
 have _:bo<W.heap.size+1+1:=by omega
 have _:bo≠W.heap.size:=by omega
 have _:W.heap.size≠bo:=by omega
 have _:bo≠W.heap.size+1:=by omega
 have _:W.heap.size+1≠bo:=by omega
 have _:br<W.heap.size:=by omega
 have _:br≤W.heap.size:=by omega
 have _:br<W.heap.size+1:=by omega
 have _:br<W.heap.size+1+1:=by omega
 have _:br≠W.heap.size:=by omega
 have _:W.heap.size≠br:=by omega
 have _:br≠W.heap.size+1:=by omega
 have _:W.heap.size+1≠br:=by omega
 have _:bt<W.heap.size:=by omega
 have _:bt≤W.heap.size:=by omega
 have _:bt<W.heap.size+1:=by omega
 have _:bt<W.heap.size+1+1:=by omega
 have _:bt≠W.heap.size:=by omega
 have _:W.heap.size≠bt:=by omega
 have _:bt≠W.heap.size+1:=by omega
 have _:W.heap.size+1≠bt:=by omega
 have _:bs<W.heap.size:=by omega
 have _:bs≤W.heap.size:=by omega
 have _:bs<W.heap.size+1:=by omega
 have _:bs<W.heap.size+1+1:=by omega
 have _:bs≠W.heap.size:=by omega
 have _:W.heap.size≠bs:=by omega
 have _:bs≠W.heap.size+1:=by omega
 have _:W.heap.size+1≠bs:=by omega
 have dz:W.drew.heap.size=W.heap.size:=rfl
 clear gR fR gT fT gS
 go_region_with (first
   | (go_at_call 126;with_reducible refine (F2.out _).mono ?_;rintro e w1 ⟨rfl,hb1⟩;have hc1:=aj hb1;have hz1:=hb1.size;(try simp at hz1);(try (have:=fun j=>aj hb1 (W.heap.size) j (by first|omega|(simp;done)|(simp;omega))));(try (have:=fun j=>aj hb1 (W.heap.size+1) j (by first|omega|(simp;done)|(simp;omega))));have _:bo<w1.heap.size:=(by omega);have _:bo≤w1.heap.size:=(by omega);have _:bo<w1.heap.size+1:=(by omega);have _:bo<w1.heap.size+1+1:=(by omega);have _:bo≠w1.heap.size:=(by omega);have _:w1.heap.size≠bo:=(by omega);have _:bo≠w1.heap.size+1:=(by omega);have _:w1.heap.size+1≠bo:=(by omega);have _:br<w1.heap.size:=(by omega);have _:br≤w1.heap.size:=(by omega);have _:br<w1.heap.size+1:=(by omega);have _:br<w1.heap.size+1+1:=(by omega);have _:br≠w1.heap.size:=(by omega);have _:w1.heap.size≠br:=(by omega);have _:br≠w1.heap.size+1:=(by omega);have _:w1.heap.size+1≠br:=(by omega);have _:bt<w1.heap.size:=(by omega);have _:bt≤w1.heap.size:=(by omega);have _:bt<w1.heap.size+1:=(by omega);have _:bt<w1.heap.size+1+1:=(by omega);have _:bt≠w1.heap.size:=(by omega);have _:w1.heap.size≠bt:=(by omega);have _:bt≠w1.heap.size+1:=(by omega);have _:w1.heap.size+1≠bt:=(by omega);have _:bs<w1.heap.size:=(by omega);have _:bs≤w1.heap.size:=(by omega);have _:bs<w1.heap.size+1:=(by omega);have _:bs<w1.heap.size+1+1:=(by omega);have _:bs≠w1.heap.size:=(by omega);have _:w1.heap.size≠bs:=(by omega);have _:bs≠w1.heap.size+1:=(by omega);have _:w1.heap.size+1≠bs:=(by omega);(try (have _:W.heap.size<w1.heap.size:=(by omega)));(try (have _:W.heap.size≤w1.heap.size:=(by omega)));(try (have _:W.heap.size≠w1.heap.size:=(by omega)));(try (have _:w1.heap.size≠W.heap.size:=(by omega)));(try (have _:W.heap.size<w1.heap.size+1:=(by omega)));(try (have _:W.heap.size+1<w1.heap.size:=(by omega)));(try (have _:W.heap.size+1≤w1.heap.size:=(by omega)));(try (have _:W.heap.size+1≠w1.heap.size:=(by omega)));(try (have _:w1.heap.size≠W.heap.size+1:=(by omega)));(try (have _:W.heap.size+1<w1.heap.size+1:=(by omega))))
   | (go_at_call 131;with_reducible refine (A2.out _).mono ?_;rintro e w2 ⟨rfl,hb2⟩;have hc2:=aj hb2;have hz2:=hb2.size;(try simp at hz2);(try (have:=fun j=>aj hb2 (W.heap.size) j (by first|omega|(simp;done)|(simp;omega))));(try (have:=fun j=>aj hb2 (W.heap.size+1) j (by first|omega|(simp;done)|(simp;omega))));(try (have:=fun j=>aj hb2 (w1.heap.size) j (by first|omega|(simp;done)|(simp;omega))));(try (have:=fun j=>aj hb2 (w1.heap.size+1) j (by first|omega|(simp;done)|(simp;omega))));have _:bo<w2.heap.size:=(by omega);have _:bo≤w2.heap.size:=(by omega);have _:bo<w2.heap.size+1:=(by omega);have _:bo<w2.heap.size+1+1:=(by omega);have _:bo≠w2.heap.size:=(by omega);have _:w2.heap.size≠bo:=(by omega);have _:bo≠w2.heap.size+1:=(by omega);have _:w2.heap.size+1≠bo:=(by omega);have _:br<w2.heap.size:=(by omega);have _:br≤w2.heap.size:=(by omega);have _:br<w2.heap.size+1:=(by omega);have _:br<w2.heap.size+1+1:=(by omega);have _:br≠w2.heap.size:=(by omega);have _:w2.heap.size≠br:=(by omega);have _:br≠w2.heap.size+1:=(by omega);have _:w2.heap.size+1≠br:=(by omega);have _:bt<w2.heap.size:=(by omega);have _:bt≤w2.heap.size:=(by omega);have _:bt<w2.heap.size+1:=(by omega);have _:bt<w2.heap.size+1+1:=(by omega);have _:bt≠w2.heap.size:=(by omega);have _:w2.heap.size≠bt:=(by omega);have _:bt≠w2.heap.size+1:=(by omega);have _:w2.heap.size+1≠bt:=(by omega);have _:bs<w2.heap.size:=(by omega);have _:bs≤w2.heap.size:=(by omega);have _:bs<w2.heap.size+1:=(by omega);have _:bs<w2.heap.size+1+1:=(by omega);have _:bs≠w2.heap.size:=(by omega);have _:w2.heap.size≠bs:=(by omega);have _:bs≠w2.heap.size+1:=(by omega);have _:w2.heap.size+1≠bs:=(by omega);(try (have _:W.heap.size<w2.heap.size:=(by omega)));(try (have _:W.heap.size≤w2.heap.size:=(by omega)));(try (have _:W.heap.size≠w2.heap.size:=(by omega)));(try (have _:w2.heap.size≠W.heap.size:=(by omega)));(try (have _:W.heap.size<w2.heap.size+1:=(by omega)));(try (have _:W.heap.size+1<w2.heap.size:=(by omega)));(try (have _:W.heap.size+1≤w2.heap.size:=(by omega)));(try (have _:W.heap.size+1≠w2.heap.size:=(by omega)));(try (have _:w2.heap.size≠W.heap.size+1:=(by omega)));(try (have _:W.heap.size+1<w2.heap.size+1:=(by omega)));(try (have _:w1.heap.size<w2.heap.size:=(by omega)));(try (have _:w1.heap.size≤w2.heap.size:=(by omega)));(try (have _:w1.heap.size≠w2.heap.size:=(by omega)));(try (have _:w2.heap.size≠w1.heap.size:=(by omega)));(try (have _:w1.heap.size<w2.heap.size+1:=(by omega)));(try (have _:w1.heap.size+1<w2.heap.size:=(by omega)));(try (have _:w1.heap.size+1≤w2.heap.size:=(by omega)));(try (have _:w1.heap.size+1≠w2.heap.size:=(by omega)));(try (have _:w2.heap.size≠w1.heap.size+1:=(by omega)));(try (have _:w1.heap.size+1<w2.heap.size+1:=(by omega)))))
 all_goals refine qE (fun W=>RowKit.Below w.heap.size w W∧ab W bo R∧ab W bs S∧ac W br∧ac W bt) ⟨?_,?_,?_,?_,?_⟩ ?_
 all_goals first|(rintro W ⟨B,hO,hS,hR,hT⟩)|skip
 all_goals try ((repeat (first|with_reducible exact BB.out|with_reducible exact HS.out|with_reducible exact HR.out|with_reducible exact HT.out|with_reducible refine ab.sets4 ?_|exact Has.keep (Has.keep (Has.drew HO.out.1.has) hb1) hb2|with_reducible refine Has.keep ?_ hb2|with_reducible refine Has.keep ?_ hb1|with_reducible exact HO.out.1.has|with_reducible refine Has.drew ?_|with_reducible refine ab.set ?_ (by with_reducible assumption) _|with_reducible refine ac.set ?_ (by with_reducible assumption) _|with_reducible refine ab.drew ?_|with_reducible refine ac.drew ?_|with_reducible refine ab.keep ?_ hb2|with_reducible refine ab.keep ?_ hb1|with_reducible refine ac.keep ?_ hb2|with_reducible refine ac.keep ?_ hb1|with_reducible refine Below.drew ?_|with_reducible refine Below.setCell ?_ (by with_reducible assumption) _|with_reducible refine Below.trans ?_ (Below.mono hb2 (by omega))|with_reducible refine Below.trans ?_ (Below.mono hb1 (by omega))));done)
 all_goals clear BB HO HS HR HT gO fO
 all_goals have gO:=hO.cells
 all_goals have gS:=hS.cells
 all_goals have gR:=hR.1.all4
 all_goals have fR:=hR.2.all4
 all_goals have gT:=hT.1.all4
 all_goals have fT:=hT.2.all4
 all_goals have BB:Hid (Below w.heap.size w W):=B
 all_goals clear B hO hS hR hT
 all_goals go_wp2
 all_goals (repeat (go_region;go_wp2))
 all_goals simp [bodyPost,results,Tryz.results172,go_sem, *]
 all_goals repeat (first|with_reducible exact BB.out|with_reducible refine Below.drew ?_|with_reducible refine Below.setCell ?_ (by with_reducible assumption) _)
open Go.RowKit
theorem ou {x0 x1 x2 x3:Int} (h0:al x0) (h1:al x1) (h2:al x2) (h3:al x3) (w:World) :
  Calls Tryz.prog 74 #[.agg #[.int .u64 x0,.int .u64 x1,.int .u64 x2,.int .u64 x3]] w fun e w' =>
   e = .returned (.agg #[.int .u64 (x0%4294967296),.int .u64 (x0/4294967296),.int .u64 (x1%4294967296),.int .u64 (x1/4294967296),.int .u64 (x2%4294967296),.int .u64 (x2/4294967296),.int .u64 (x3%4294967296),.int .u64 (x3/4294967296)])∧Below w.heap.size w w':=by
 obtain ⟨_,_⟩:=h0;obtain ⟨_,_⟩:=h1;obtain ⟨_,_⟩:=h2;obtain ⟨_,_⟩:=h3
 go_enter Tryz.func74,Tryz.ntmps74
 go_wp2
 refine wp_loop_rounds 5 ?_
 rw [rounds_succ];go_wp2
 rw [rounds_succ];go_wp2
 rw [rounds_succ];go_wp2
 rw [rounds_succ];go_wp2
 rw [rounds_succ];go_wp2
 simp [bodyPost,results,Tryz.results74,go_sem]
 repeat (first|with_reducible exact Below.refl _ _|with_reducible refine Below.drew ?_|with_reducible refine Below.alloc ?_ (by first|omega|(simp;done)|(simp;omega)) _)
theorem mK {d0 d1 d2 d3 d4 d5 d6 d7:Int} (h0:Dig d0) (h1:Dig d1) (h2:Dig d2) (h3:Dig d3) (h4:Dig d4) (h5:Dig d5) (h6:Dig d6) (h7:Dig d7) (w:World) :
  Calls Tryz.prog 75 #[.agg #[.int .u64 d0,.int .u64 d1,.int .u64 d2,.int .u64 d3,.int .u64 d4,.int .u64 d5,.int .u64 d6,.int .u64 d7]] w fun e w' =>
   e = .returned (.agg #[.int .u64 (d0+4294967296*d1),.int .u64 (d2+4294967296*d3),.int .u64 (d4+4294967296*d5),.int .u64 (d6+4294967296*d7)])∧Below w.heap.size w w':=by
 obtain ⟨_,_⟩:=h0;obtain ⟨_,_⟩:=h1;obtain ⟨_,_⟩:=h2;obtain ⟨_,_⟩:=h3;obtain ⟨_,_⟩:=h4;obtain ⟨_,_⟩:=h5;obtain ⟨_,_⟩:=h6;obtain ⟨_,_⟩:=h7
 go_enter Tryz.func75,Tryz.ntmps75
 go_wp2
 refine wp_loop_rounds 5 ?_
 rw [rounds_succ];go_wp2;go_region;go_wp2
 rw [rounds_succ];go_wp2;go_region;go_wp2
 rw [rounds_succ];go_wp2;go_region;go_wp2
 rw [rounds_succ];go_wp2;go_region;go_wp2
 rw [rounds_succ];go_wp2
 simp [bodyPost,results,Tryz.results75,go_sem]
 repeat (first|with_reducible exact Below.refl _ _|with_reducible refine Below.drew ?_|with_reducible refine Below.alloc ?_ (by first|omega|(simp;done)|(simp;omega)) _)
theorem fy {l:List Int} {n:Int} (hl:l.length=8) (hd:cJ l) (e:vd l=n) (w:World) :
  Rt 75 #[.agg (l.map (Value.int .u64)).toArray] w (U4 n):=by
 obtain ⟨a,b,c,d,e',f,g,i,rfl⟩:=vj hl
 obtain ⟨_,q0,q1,q2,q3⟩:=vm hd e
 have:=mK (hd a (by simp)) (hd b (by simp)) (hd c (by simp)) (hd d (by simp)) (hd e' (by simp)) (hd f (by simp)) (hd g (by simp)) (hd i (by simp)) w
 rw [q0,q1,q2,q3] at this
 exact this
theorem cH {n:Int} (hn:Num n):∃ a0 a1 a2 a3 a4 a5 a6 a7,cJ [a0,a1,a2,a3,a4,a5,a6,a7]∧vd [a0,a1,a2,a3,a4,a5,a6,a7]=n ∧
  ∀ w,Rt 74 #[U4 n] w (.agg #[.int .u64 a0,.int .u64 a1,.int .u64 a2,.int .u64 a3,.int .u64 a4,.int .u64 a5,.int .u64 a6,.int .u64 a7]) :=
 ⟨_,_,_,_,_,_,_,_,xS n,AE hn,fun w=>ou (aU n) (aV n) (aW n) (bj n) w⟩
def Dgs (W:World) (b:Nat) (l:List Int):Prop:=Row W b l∧au W b l.length
theorem Dgs.keep {W w1:World} {b:Nat} {l:List Int} (h:Dgs W b l) (hl:0<l.length) (hb:Below W.heap.size W w1):Dgs w1 b l:=⟨h.1.keep hb,h.2.keep hb (h.1.lt hl)⟩
theorem Dgs.alloc {W:World} {b:Nat} {l:List Int} (h:Dgs W b l) (hl:0<l.length) (o:Obj):Dgs (W.alloc o) b l:=h.keep hl ((Below.refl _ _).alloc (Nat.le_refl _) o)
theorem Dgs.new (W:World) (l:List Int) (t:TypeId):Dgs (W.alloc (.cells (l.map (Value.int .u64)).toArray t)) W.heap.size l:=⟨Row.new W l t,au.new _ _ _ _⟩
theorem Dgs.set {W:World} {b:Nat} {l:List Int} (h:Dgs W b l) (i:Nat) (hi:i<l.length) (v:Int):Dgs (W.setCell ⟨b,i,none⟩ (.int .u64 v)) b (l.set i v):=⟨h.1.set i hi v,by rw [List.length_set];exact h.2.set _ _⟩
theorem Dgs.drew {W:World} {b:Nat} {l:List Int} (h:Dgs W b l):Dgs W.drew b l:=h
theorem Dgs.other {W:World} {b b' i:Nat} {l:List Int} (h:Dgs W b l) (ne:b'≠b) (v:Value):Dgs (W.setCell ⟨b',i,none⟩ v) b l:=⟨h.1.setOther ne v,h.2.set _ _⟩
open Go.RowKit
def e9 (x0 x1 x2 x3 y0 y1 y2 y3:Int):Int:=if x3<y3 then -1 else if y3<x3 then 1 else if x2<y2 then -1 else if y2<x2 then 1 else if x1<y1 then -1 else if y1<x1 then 1 else if x0<y0 then -1 else if y0<x0 then 1 else 0
theorem xU {n m:Int} (hn:Num n) (hm:Num m):e9 (l0 n) (l1 n) (l2 n) (l3 n) (l0 m) (l1 m) (l2 m) (l3 m)=dI n m:=by
 have e1:=du hn;have e2:=du hm
 unfold num at e1 e2
 obtain ⟨_,_⟩:=aU n;obtain ⟨_,_⟩:=aV n;obtain ⟨_,_⟩:=aW n;obtain ⟨_,_⟩:=bj n
 obtain ⟨_,_⟩:=aU m;obtain ⟨_,_⟩:=aV m;obtain ⟨_,_⟩:=aW m;obtain ⟨_,_⟩:=bj m
 generalize l0 n=x0 at *; generalize l1 n=x1 at *; generalize l2 n=x2 at *; generalize l3 n=x3 at *
 generalize l0 m=y0 at *; generalize l1 m=y1 at *; generalize l2 m=y2 at *; generalize l3 m=y3 at *
 unfold e9 dI
 by_cases h:n=m
 ·rw [if_pos h]
  have:x3=y3:=by omega
  have:x2=y2:=by omega
  have:x1=y1:=by omega
  have:x0=y0:=by omega
  repeat rw [if_neg (by omega)]
 ·rw [if_neg h]
  by_cases h2:n<m
  ·rw [if_pos h2]
   by_cases a3:x3<y3
   ·rw [if_pos a3]
   rw [if_neg a3,if_neg (show ¬y3<x3 by omega)]
   by_cases a2:x2<y2
   ·rw [if_pos a2]
   rw [if_neg a2,if_neg (show ¬y2<x2 by omega)]
   by_cases a1:x1<y1
   ·rw [if_pos a1]
   rw [if_neg a1,if_neg (show ¬y1<x1 by omega),if_pos (show x0<y0 by omega)]
  ·rw [if_neg h2]
   by_cases a3:y3<x3
   ·rw [if_neg (show ¬x3<y3 by omega),if_pos a3]
   rw [if_neg (show ¬x3<y3 by omega),if_neg a3]
   by_cases a2:y2<x2
   ·rw [if_neg (show ¬x2<y2 by omega),if_pos a2]
   rw [if_neg (show ¬x2<y2 by omega),if_neg a2]
   by_cases a1:y1<x1
   ·rw [if_neg (show ¬x1<y1 by omega),if_pos a1]
   rw [if_neg (show ¬x1<y1 by omega),if_neg a1,if_neg (show ¬x0<y0 by omega),if_pos (show y0<x0 by omega)]
theorem qF (x0 x1 x2 x3 y0 y1 y2 y3:Int) (w:World) :
  Calls Tryz.prog 33 #[.agg #[.int .u64 x0,.int .u64 x1,.int .u64 x2,.int .u64 x3],.agg #[.int .u64 y0,.int .u64 y1,.int .u64 y2,.int .u64 y3]] w fun e w'=>e = .returned (.int .i64 (e9 x0 x1 x2 x3 y0 y1 y2 y3))∧Below w.heap.size w w':=by
 go_enter Tryz.func33,Tryz.ntmps33
 go_wp2
 refine wp_loop_rounds 5 ?_
 rw [rounds_succ]
 by_cases a3:x3<y3
 ·have ec:e9 x0 x1 x2 x3 y0 y1 y2 y3 = -1:=by unfold e9;rw [if_pos a3]
  go_wp2
  repeat (go_region;go_wp2)
  simp [bodyPost,results,Tryz.results33,go_sem,ec]
  repeat (first|with_reducible exact Below.refl _ _|with_reducible refine Below.drew ?_|with_reducible refine Below.alloc ?_ (by first|omega|(simp;done)|(simp;omega)) _)
 by_cases b3:y3<x3
 ·have ec:e9 x0 x1 x2 x3 y0 y1 y2 y3=1:=by unfold e9;rw [if_neg (show ¬x3<y3 by omega),if_pos b3]
  go_wp2
  repeat (go_region;go_wp2)
  simp [bodyPost,results,Tryz.results33,go_sem,ec]
  repeat (first|with_reducible exact Below.refl _ _|with_reducible refine Below.drew ?_|with_reducible refine Below.alloc ?_ (by first|omega|(simp;done)|(simp;omega)) _)
 go_wp2
 repeat (go_region;go_wp2)
 rw [rounds_succ]
 by_cases a2:x2<y2
 ·have ec:e9 x0 x1 x2 x3 y0 y1 y2 y3 = -1:=by unfold e9;rw [if_neg (show ¬x3<y3 by omega),if_neg (show ¬y3<x3 by omega),if_pos a2]
  go_wp2
  repeat (go_region;go_wp2)
  simp [bodyPost,results,Tryz.results33,go_sem,ec]
  repeat (first|with_reducible exact Below.refl _ _|with_reducible refine Below.drew ?_|with_reducible refine Below.alloc ?_ (by first|omega|(simp;done)|(simp;omega)) _)
 by_cases b2:y2<x2
 ·have ec:e9 x0 x1 x2 x3 y0 y1 y2 y3=1:=by unfold e9;rw [if_neg (show ¬x3<y3 by omega),if_neg (show ¬y3<x3 by omega),if_neg (show ¬x2<y2 by omega),if_pos b2]
  go_wp2
  repeat (go_region;go_wp2)
  simp [bodyPost,results,Tryz.results33,go_sem,ec]
  repeat (first|with_reducible exact Below.refl _ _|with_reducible refine Below.drew ?_|with_reducible refine Below.alloc ?_ (by first|omega|(simp;done)|(simp;omega)) _)
 go_wp2
 repeat (go_region;go_wp2)
 rw [rounds_succ]
 by_cases a1:x1<y1
 ·have ec:e9 x0 x1 x2 x3 y0 y1 y2 y3 = -1:=by unfold e9;rw [if_neg (show ¬x3<y3 by omega),if_neg (show ¬y3<x3 by omega),if_neg (show ¬x2<y2 by omega),if_neg (show ¬y2<x2 by omega),if_pos a1]
  go_wp2
  repeat (go_region;go_wp2)
  simp [bodyPost,results,Tryz.results33,go_sem,ec]
  repeat (first|with_reducible exact Below.refl _ _|with_reducible refine Below.drew ?_|with_reducible refine Below.alloc ?_ (by first|omega|(simp;done)|(simp;omega)) _)
 by_cases b1:y1<x1
 ·have ec:e9 x0 x1 x2 x3 y0 y1 y2 y3=1:=by unfold e9;rw [if_neg (show ¬x3<y3 by omega),if_neg (show ¬y3<x3 by omega),if_neg (show ¬x2<y2 by omega),if_neg (show ¬y2<x2 by omega),if_neg (show ¬x1<y1 by omega),if_pos b1]
  go_wp2
  repeat (go_region;go_wp2)
  simp [bodyPost,results,Tryz.results33,go_sem,ec]
  repeat (first|with_reducible exact Below.refl _ _|with_reducible refine Below.drew ?_|with_reducible refine Below.alloc ?_ (by first|omega|(simp;done)|(simp;omega)) _)
 go_wp2
 repeat (go_region;go_wp2)
 rw [rounds_succ]
 by_cases a0:x0<y0
 ·have ec:e9 x0 x1 x2 x3 y0 y1 y2 y3 = -1:=by unfold e9;rw [if_neg (show ¬x3<y3 by omega),if_neg (show ¬y3<x3 by omega),if_neg (show ¬x2<y2 by omega),if_neg (show ¬y2<x2 by omega),if_neg (show ¬x1<y1 by omega),if_neg (show ¬y1<x1 by omega),if_pos a0]
  go_wp2
  repeat (go_region;go_wp2)
  simp [bodyPost,results,Tryz.results33,go_sem,ec]
  repeat (first|with_reducible exact Below.refl _ _|with_reducible refine Below.drew ?_|with_reducible refine Below.alloc ?_ (by first|omega|(simp;done)|(simp;omega)) _)
 by_cases b0:y0<x0
 ·have ec:e9 x0 x1 x2 x3 y0 y1 y2 y3=1:=by unfold e9;rw [if_neg (show ¬x3<y3 by omega),if_neg (show ¬y3<x3 by omega),if_neg (show ¬x2<y2 by omega),if_neg (show ¬y2<x2 by omega),if_neg (show ¬x1<y1 by omega),if_neg (show ¬y1<x1 by omega),if_neg (show ¬x0<y0 by omega),if_pos b0]
  go_wp2
  repeat (go_region;go_wp2)
  simp [bodyPost,results,Tryz.results33,go_sem,ec]
  repeat (first|with_reducible exact Below.refl _ _|with_reducible refine Below.drew ?_|with_reducible refine Below.alloc ?_ (by first|omega|(simp;done)|(simp;omega)) _)
 go_wp2
 repeat (go_region;go_wp2)
 rw [rounds_succ]
 have ec:e9 x0 x1 x2 x3 y0 y1 y2 y3=0:=by unfold e9;rw [if_neg (show ¬x3<y3 by omega),if_neg (show ¬y3<x3 by omega),if_neg (show ¬x2<y2 by omega),if_neg (show ¬y2<x2 by omega),if_neg (show ¬x1<y1 by omega),if_neg (show ¬y1<x1 by omega),if_neg (show ¬x0<y0 by omega),if_neg (show ¬y0<x0 by omega)]
 go_wp2
 simp [bodyPost,results,Tryz.results33,go_sem,ec]
 repeat (first|with_reducible exact Below.refl _ _|with_reducible refine Below.drew ?_|with_reducible refine Below.alloc ?_ (by first|omega|(simp;done)|(simp;omega)) _)
theorem jk {n m:Int} (hn:Num n) (hm:Num m) (w:World) :
  Calls Tryz.prog 33 #[.agg #[.int .u64 (l0 n),.int .u64 (l1 n),.int .u64 (l2 n),.int .u64 (l3 n)],.agg #[.int .u64 (l0 m),.int .u64 (l1 m),.int .u64 (l2 m),.int .u64 (l3 m)]] w fun e w'=>e = .returned (.int .i64 (dI n m))∧Below w.heap.size w w':=by
 rw [←xU hn hm];exact qF _ _ _ _ _ _ _ _ w
theorem dV {v:Int} (h:al v) (w:World) :
  Calls Tryz.prog 155 #[.int .u64 v] w fun e w'=>e = .returned (.agg #[.int .u64 (l0 v),.int .u64 (l1 v),.int .u64 (l2 v),.int .u64 (l3 v)])∧Below w.heap.size w w':=by
 obtain ⟨r0,r1,r2,r3⟩:=o6 h
 rw [r0,r1,r2,r3]
 clear r0 r1 r2 r3
 go_enter Tryz.func155,Tryz.ntmps155
 go_wp2
 simp [bodyPost,results,Tryz.results155,go_sem]
 repeat (first|with_reducible exact Below.refl _ _|with_reducible refine Below.drew ?_|with_reducible refine Below.alloc ?_ (by first|omega|(simp;done)|(simp;omega)) _)
end Go.Proofs.YtnnnaajgjniiaaaGreatDoor
