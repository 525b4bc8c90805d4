import Derived.Test.YtnnnaajgjniiaaaGreatDoorAb
import Derived.Test.YtnnnaajgjniiaaaGreatDoorFRefY
import Derived.Test.YtnnnaajgjniiaaaGreatDoorRefBit
import Derived.Test.YtnnnaajgjniiaaaGreatDoorFFold
import Derived.Test.YtnnnaajgjniiaaaGreatDoorRefMul
import Derived.Test.YtnnnaajgjniiaaaGreatDoorHold
set_option maxRecDepth 100000
set_option maxHeartbeats 32000000
namespace Go.Proofs.YtnnnaajgjniiaaaGreatDoor
open Go.RowKit Go.Sort
theorem pp {n:Int} (O:Hid (∀ w,Mds w→Rt 97 #[.int .i64 1] w (.tuple #[U4 n,.int .i64 0]))) (w:World) (hm:Mds w) :
  Rt 53 #[] w (U4 n):=by
 go_enter Tryz.func53,Tryz.ntmps53
 go_wp2_with fail
 refine aa (fun W=>Below w.heap.size w W∧Mds W∧ac W w.heap.size) ⟨by repeat (first|with_reducible exact Below.refl _ _|with_reducible refine Below.alloc ?_ (by first|omega|(simp;done)|(simp;omega)) _),hm.alloc _,ac.new rfl⟩ ?_
 rintro W ⟨B,hD,hR⟩
 with_reducible refine (O.out _ hD).mono ?_
 rintro e w1 ⟨rfl,hb⟩
 replace B:=B.trans (hb.mono B.size)
 replace hR:=hR.keep hb
 have lr:=hR.1.lt (by simp)
 have nr:w1.heap.size≠w.heap.size:=by omega
 have nr':=nr.symm
 have o3:w.heap.size≤w.heap.size:=Nat.le_refl _
 clear hb W hD
 have gR:=fun o=>(hR.alloc o).1.all4
 have fR:=fun o=>(hR.alloc o).2.all4
 have gR0:=hR.1.all4
 have fR0:=hR.2.all4
 have BB:Hid (Below w.heap.size w w1):=B
 clear B hR
 go_wp2
 simp [bodyPost,results,Tryz.results53,go_sem, *]
 repeat (first|with_reducible exact BB.out|with_reducible refine Below.setCell ?_ o3 _|with_reducible refine Below.alloc ?_ (by first|omega|(simp;omega)) _)
theorem oD {n:Int} (O:Hid (∀ w,Rt 63 #[.int .i64 1] w (.tuple #[U4 n,.int .i64 0]))) (w:World) :
  Rt 34 #[] w (U4 n):=by
 go_enter Tryz.func34,Tryz.ntmps34
 go_wp2_with fail
 refine aa (fun W=>Below w.heap.size w W∧ac W w.heap.size) ⟨by repeat (first|with_reducible exact Below.refl _ _|with_reducible refine Below.alloc ?_ (by first|omega|(simp;done)|(simp;omega)) _),ac.new rfl⟩ ?_
 rintro W ⟨B,hR⟩
 with_reducible refine (O.out _).mono ?_
 rintro e w1 ⟨rfl,hb⟩
 replace B:=B.trans (hb.mono B.size)
 replace hR:=hR.keep hb
 have lr:=hR.1.lt (by simp)
 have nr:w1.heap.size≠w.heap.size:=by omega
 have nr':=nr.symm
 have o3:w.heap.size≤w.heap.size:=Nat.le_refl _
 clear hb W
 have gR:=fun o=>(hR.alloc o).1.all4
 have fR:=fun o=>(hR.alloc o).2.all4
 have gR0:=hR.1.all4
 have fR0:=hR.2.all4
 have BB:Hid (Below w.heap.size w w1):=B
 clear B hR
 go_wp2
 simp [bodyPost,results,Tryz.results34,go_sem, *]
 repeat (first|with_reducible exact BB.out|with_reducible refine Below.setCell ?_ o3 _|with_reducible refine Below.alloc ?_ (by first|omega|(simp;omega)) _)
theorem cR {x:Int} {v:Bool} (E:∀ w,(Op.equalIn 10000 24 (U4 x) (.agg #[.int .u64 0,.int .u64 0,.int .u64 0,.int .u64 0])).run Tryz.prog w = .ok v w) (w:World):Rt 26 #[U4 x] w (.bool v):=by
 go_enter Tryz.func26,Tryz.ntmps26
 go_wp2
 simp [bodyPost,results,Tryz.results26,go_sem]
 repeat (first|with_reducible exact Below.refl _ _|with_reducible refine Below.alloc ?_ (by first|omega|(simp;done)|(simp;omega)) _|with_reducible refine Below.setCell ?_ (by first|omega|(simp;done)|(simp;omega)) _)
theorem j5 {x n q:Int} {v:Bool} (O:Hid (∀ w,Mds w→Rt 53 #[] w (U4 n))) (C:Hid (∀ w,Rt 52 #[U4 x,U4 n] w (.int .i64 q))) (hv:decide (q<0)=v) (w:World) (hm:Mds w) :
    Rt 27 #[U4 x] w (.bool v):=by
  go_enter Tryz.func27,Tryz.ntmps27
  go_wp2_with fail
  refine af (fun W=>Below w.heap.size w W∧Mds W∧ab W w.heap.size x) ⟨by repeat (first|with_reducible exact Below.refl _ _|with_reducible refine Below.alloc ?_ (by first|omega|(simp;done)|(simp;omega)) _),hm.alloc _,ab.fresh (by simp)⟩ ?_
  rintro W ⟨B,hD,hX⟩
  have ghX:=hX.grown
  have hDg:∀ d os,Mds (grow (redrawn W d) os):=fun d os=>hD.keep (below_regrown W d os)
  refine wp_region_quiet_below (by kernel_rfl) (by kernel_rfl) ?_
  repeat
    first
      | go_big_quiet_skip
      | (go_big_quiet_want;go_big_quiet_op;go_big_quiet_on)
      | (go_big_quiet_want
         go_big_quiet_op
         apply Exists.intro
         refine ⟨fun p=>?_,?_⟩
         · (first|(go_at_call 53;with_reducible exact Calls.regrown_of (O.out _ (hDg p.d p.os)))|(go_at_call 52;with_reducible exact Calls.regrown_of (C.out _)))
         go_big_quiet_on)
  refine wpQuiet_nil ?_
  rintro w1 ⟨p,rfl⟩
  have hb:=below_regrown W p.d p.os
  generalize grow (redrawn W p.d) p.os=w1 at *
  replace B:=B.trans (hb.mono B.size)
  replace hD:=hD.keep hb;replace hX:=hX.keep hb
  clear hb W ghX hDg
  clear hD hX
  go_wp2
  simp [bodyPost,results,Tryz.results27,go_sem]
  exact B
theorem ts {x n h q:Int} {v:Bool} (O:Hid (∀ w,Mds w→Rt 53 #[] w (U4 n))) (C0:Hid (∀ w,Rt 107 #[U4 n,.int .i64 1] w (U4 h))) (C:Hid (∀ w,Rt 52 #[U4 x,U4 h] w (.int .i64 q))) (hv:decide (q≤0)=v) (w:World) (hm:Mds w) :
    Rt 62 #[U4 x] w (.bool v):=by
  go_enter Tryz.func62,Tryz.ntmps62
  go_wp2_with fail
  refine af (fun W=>Below w.heap.size w W∧Mds W∧ab W w.heap.size x) ⟨by repeat (first|with_reducible exact Below.refl _ _|with_reducible refine Below.alloc ?_ (by first|omega|(simp;done)|(simp;omega)) _),hm.alloc _,ab.fresh (by simp)⟩ ?_
  rintro W ⟨B,hD,hX⟩
  have ghX:=hX.grown
  have hDg:∀ d os,Mds (grow (redrawn W d) os):=fun d os=>hD.keep (below_regrown W d os)
  refine wp_region_quiet_below (by kernel_rfl) (by kernel_rfl) ?_
  repeat
    first
      | go_big_quiet_skip
      | (go_big_quiet_want;go_big_quiet_op;go_big_quiet_on)
      | (go_big_quiet_want
         go_big_quiet_op
         apply Exists.intro
         refine ⟨fun p=>?_,?_⟩
         · (first|(go_at_call 53;with_reducible exact Calls.regrown_of (O.out _ (hDg p.d p.os)))|(go_at_call 107;with_reducible exact Calls.regrown_of (C0.out _))|(go_at_call 52;with_reducible exact Calls.regrown_of (C.out _)))
         go_big_quiet_on)
  refine wpQuiet_nil ?_
  rintro w1 ⟨p,rfl⟩
  have hb:=below_regrown W p.d p.os
  generalize grow (redrawn W p.d) p.os=w1 at *
  replace B:=B.trans (hb.mono B.size)
  replace hD:=hD.keep hb;replace hX:=hX.keep hb
  clear hb W ghX hDg
  clear hD hX
  go_wp2
  simp [bodyPost,results,Tryz.results62,go_sem]
  exact B
theorem tw {x n q:Int} {v:Bool} (E:∀ w,(Op.equalIn 10000 24 (U4 x) (.agg #[.int .u64 0,.int .u64 0,.int .u64 0,.int .u64 0])).run Tryz.prog w = .ok false w) (O:Hid (∀ w,Rt 34 #[] w (U4 n))) (C:Hid (∀ w,Rt 33 #[U4 x,U4 n] w (.int .i64 q))) (hv:decide (q<0)=v) (w:World) :
    Rt 18 #[U4 x] w (.bool v):=by
  go_enter Tryz.func18,Tryz.ntmps18
  go_wp2_with fail
  refine af (fun W=>Below w.heap.size w W∧ab W w.heap.size x) ⟨by repeat (first|with_reducible exact Below.refl _ _|with_reducible refine Below.alloc ?_ (by first|omega|(simp;done)|(simp;omega)) _),ab.fresh (by simp)⟩ ?_
  rintro W ⟨B,hX⟩
  have ghX:=hX.grown
  refine wp_region_quiet_below (by kernel_rfl) (by kernel_rfl) ?_
  repeat
    first
      | go_big_quiet_skip
      | (go_big_quiet_want;go_big_quiet_op;go_big_quiet_on)
      | (go_big_quiet_want
         go_big_quiet_op
         apply Exists.intro
         refine ⟨fun p=>?_,?_⟩
         · (first|(go_at_call 34;with_reducible exact Calls.regrown_of (O.out _))|(go_at_call 33;with_reducible exact Calls.regrown_of (C.out _)))
         go_big_quiet_on)
  refine wpQuiet_nil ?_
  rintro w1 ⟨p,rfl⟩
  have hb:=below_regrown W p.d p.os
  generalize grow (redrawn W p.d) p.os=w1 at *
  replace B:=B.trans (hb.mono B.size)
  replace hX:=hX.keep hb
  clear hb W ghX
  clear hX
  go_wp2
  simp [bodyPost,results,Tryz.results18,go_sem]
  exact B
theorem qJ {x:Int} (E:∀ w,(Op.equalIn 10000 24 (U4 x) (.agg #[.int .u64 0,.int .u64 0,.int .u64 0,.int .u64 0])).run Tryz.prog w = .ok true w) (w:World) :
  Rt 18 #[U4 x] w (.bool false):=by
 go_enter Tryz.func18,Tryz.ntmps18
 go_wp2_with fail
 refine af (fun W=>Below w.heap.size w W∧ab W w.heap.size x) ⟨by repeat (first|with_reducible exact Below.refl _ _|with_reducible refine Below.alloc ?_ (by first|omega|(simp;done)|(simp;omega)) _),ab.fresh (by simp)⟩ ?_
 rintro W ⟨B,hX⟩
 have ghX:=hX.grown
 refine wp_region_quiet_below (by kernel_rfl) (by kernel_rfl) ?_
 repeat
  first
   | go_big_quiet_skip
   | (go_big_quiet_want;go_big_quiet_op;go_big_quiet_on)
 refine wpQuiet_nil ?_
 rintro w1 ⟨p,rfl⟩
 have hb:=below_regrown W p.d p.os
 generalize grow (redrawn W p.d) p.os=w1 at *
 replace B:=B.trans (hb.mono B.size)
 replace hX:=hX.keep hb
 clear hb W ghX
 clear hX
 go_wp2
 simp [bodyPost,results,Tryz.results18,go_sem]
 exact B
theorem qK {x n h q:Int} {v:Bool} (O:Hid (∀ w,Rt 34 #[] w (U4 n))) (C0:Hid (∀ w,Rt 73 #[U4 n,.int .i64 1] w (U4 h))) (C:Hid (∀ w,Rt 33 #[U4 x,U4 h] w (.int .i64 q))) (hv:decide (q≤0)=v) (w:World) :
  Rt 38 #[U4 x] w (.bool v):=by
 go_enter Tryz.func38,Tryz.ntmps38
 go_wp2_with fail
 refine aa (fun W=>Below w.heap.size w W∧ab W w.heap.size x) ⟨by repeat (first|with_reducible exact Below.refl _ _|with_reducible refine Below.alloc ?_ (by first|omega|(simp;done)|(simp;omega)) _),ab.fresh (by simp)⟩ ?_
 rintro W ⟨B,hX⟩
 with_reducible refine (O.out _).mono ?_
 rintro e w1 ⟨rfl,hb⟩
 replace B:=B.trans (hb.mono B.size)
 replace hX:=hX.keep hb
 clear hb W
 go_wp2_with fail
 refine aa (fun W=>Below w.heap.size w W∧ab W w.heap.size x) ⟨B,hX⟩ ?_
 clear B hX
 rintro W ⟨B,hX⟩
 with_reducible refine (C0.out _).mono ?_
 rintro e w2 ⟨rfl,hb⟩
 replace B:=B.trans (hb.mono B.size)
 replace hX:=hX.keep hb
 clear hb W
 have ghX:=hX.allocs
 go_wp2_with fail
 refine aa (fun W=>Below w.heap.size w W∧ab W w.heap.size x∧ab W w2.heap.size h) ⟨B.alloc B.size _,hX.alloc _,ab.new _ _ _⟩ ?_
 clear B hX ghX
 rintro W ⟨B,hX,hH⟩
 generalize w2.heap.size=bh at *
 with_reducible refine (C.out _).mono ?_
 rintro e w9 ⟨rfl,hb⟩
 replace B:=B.trans (hb.mono B.size)
 clear hb hX hH W
 go_wp2
 simp [bodyPost,results,Tryz.results38,go_sem]
 exact B
theorem oE {x:Int} (C0:Hid (∀ w,Rt 26 #[U4 x] w (.bool true))) (w:World) (hm:Mds w) :
  Rt 13 #[U4 x] w (.bool false):=by
 go_enter Tryz.func13,Tryz.ntmps13
 go_wp2_with fail
 refine aa (fun W=>Below w.heap.size w W∧Mds W∧ab W w.heap.size x) ⟨by repeat (first|with_reducible exact Below.refl _ _|with_reducible refine Below.alloc ?_ (by first|omega|(simp;done)|(simp;omega)) _),hm.alloc _,ab.fresh (by simp)⟩ ?_
 rintro W ⟨B,hD,hX⟩
 with_reducible refine (C0.out _).mono ?_
 rintro e w9 ⟨rfl,hb⟩
 replace B:=B.trans (hb.mono B.size)
 clear hb hX hD W
 go_wp2
 simp [bodyPost,results,Tryz.results13,go_sem]
 exact B
theorem pq {x:Int} {v:Bool} (C0:Hid (∀ w,Rt 26 #[U4 x] w (.bool false))) (C1:Hid (∀ w,Mds w→Rt 27 #[U4 x] w (.bool v))) (w:World) (hm:Mds w) :
  Rt 13 #[U4 x] w (.bool v):=by
 go_enter Tryz.func13,Tryz.ntmps13
 go_wp2_with fail
 refine aa (fun W=>Below w.heap.size w W∧Mds W∧ab W w.heap.size x) ⟨by repeat (first|with_reducible exact Below.refl _ _|with_reducible refine Below.alloc ?_ (by first|omega|(simp;done)|(simp;omega)) _),hm.alloc _,ab.fresh (by simp)⟩ ?_
 rintro W ⟨B,hD,hX⟩
 with_reducible refine (C0.out _).mono ?_
 rintro e w1 ⟨rfl,hb⟩
 replace B:=B.trans (hb.mono B.size)
 replace hD:=hD.keep hb;replace hX:=hX.keep hb
 clear hb W
 have ghX:=hX.cells
 go_wp2_with fail
 refine aa (fun W=>Below w.heap.size w W∧Mds W∧ab W w.heap.size x) ⟨B,hD,hX⟩ ?_
 clear B hD hX ghX
 rintro W ⟨B,hD,hX⟩
 with_reducible refine (C1.out _ hD).mono ?_
 rintro e w9 ⟨rfl,hb⟩
 replace B:=B.trans (hb.mono B.size)
 clear hb hX hD W
 go_wp2
 simp [bodyPost,results,Tryz.results13,go_sem]
 exact B
theorem tA (v:Int) (w:World):Rt 7 #[.int .i64 v] w (.int .i64 v):=by
 go_enter Tryz.func7,Tryz.ntmps7
 go_wp2
 simp [bodyPost,results,Tryz.results7,go_sem]
 exact Below.refl _ _
theorem jp:Num nN:=⟨by decide,by decide⟩
theorem iV (w:World) (hm:Mds w):Rt 53 #[] w (U4 nN):=pp (fun w hm=>oC jK w hm) w hm
theorem gI (w:World):Rt 34 #[] w (U4 nN):=oD (fun w=>mL (.inr rfl) w) w
theorem oF (x n:Int):decide (dI x n<0)=decide (x<n):=by
 unfold dI
 by_cases h':x=n
 ·rw [h'];simp
 ·by_cases h:x<n<;>simp [h,h']
theorem vU (x n:Int):decide (dI x n≤0)=decide (x≤n):=by
 unfold dI
 by_cases h':x=n
 ·rw [h'];simp
 ·by_cases h:x<n
  ·simp [h,h',Int.le_of_lt h]
  ·have:¬x≤n:=by omega
   simp [h,h',this]
theorem jq {n:Int} (hn:Num n) {v:Bool} (e:decide (n=0)=v):∀ w,(Op.equalIn 10000 24 (U4 n) (.agg #[.int .u64 0,.int .u64 0,.int .u64 0,.int .u64 0])).run Tryz.prog w = .ok v w:=fun w=>by
 have:=iR hn (m:=0) ⟨by decide,by decide⟩ w
 obtain ⟨z0,z1,z2,z3⟩:=aq
 ((try unfold Rt at this);(try unfold U4 at this);(try unfold P9 at this);rw [z0,z1,z2,z3,e] at this)
 exact this
def cM (x:Int):Bool := !decide (x=0)&&decide (x<nN)
def qL (x:Int):Bool:=decide (x≤mJ nN 1)
theorem dE {x:Int} (hx:Num x):Hid (∀ w,Mds w→Rt 13 #[U4 x] w (.bool (cM x))):=fun w hm=>by
 unfold cM
 by_cases h:x=0
 ·rw [decide_eq_true h]
  exact oE (fun w=>cR (jq hx (decide_eq_true h)) w) w hm
 ·rw [decide_eq_false h]
  exact pq (fun w=>cR (jq hx (decide_eq_false h)) w) (fun w hm=>j5 (fun w hm=>iV w hm) (fun w=>oo hx jp w) (oF x nN) w hm) w hm
theorem fj {x:Int} (hx:Num x):Hid (∀ w,Rt 18 #[U4 x] w (.bool (cM x))):=fun w=>by
 unfold cM
 by_cases h:x=0
 ·rw [decide_eq_true h]
  exact qJ (jq hx (decide_eq_true h)) w
 ·rw [decide_eq_false h]
  exact tw (jq hx (decide_eq_false h)) (fun w=>gI w) (fun w=>jk hx jp w) (oF x nN) w
theorem pu:Num (mJ nN 1):=⟨by decide +kernel,by decide +kernel⟩
theorem vV {x:Int} (hx:Num x):Hid (∀ w,Mds w→Rt 62 #[U4 x] w (.bool (qL x))):=fun w hm =>
 ts (fun w hm=>iV w hm) (fun w=>xR jp w) (fun w=>oo hx pu w) (vU x _) w hm
theorem tB {x:Int} (hx:Num x):Hid (∀ w,Rt 38 #[U4 x] w (.bool (qL x))):=fun w =>
 qK (fun w=>gI w) (fun w=>vI jp w) (fun w=>jk hx pu w) (vU x _) w
open Go.RowKit Go.Sort
theorem tC {x r:Int} (C:Hid (∀ w,Mds w→Rt 104 #[.int .i64 1,.agg #[.int .u64 0,.int .u64 0,.int .u64 0,.int .u64 0],U4 x] w (.tuple #[U4 r,.int .i64 0]))) (w:World) (hm:Mds w) :
  Rt 59 #[U4 x] w (U4 r):=by
 go_enter Tryz.func59,Tryz.ntmps59
 go_wp2_with fail
 refine aa (fun W=>Below w.heap.size w W∧Mds W∧ac W (w.heap.size+1)) ⟨by repeat (first|with_reducible exact Below.refl _ _|with_reducible refine Below.alloc ?_ (by first|omega|(simp;done)|(simp;omega)) _),(hm.alloc _).alloc _,ac.new (by simp)⟩ ?_
 rintro W ⟨B,hD,hR⟩
 have o3:w.heap.size≤w.heap.size+1:=by omega
 generalize w.heap.size+1=br at *
 with_reducible refine (C.out _ hD).mono ?_
 rintro e w1 ⟨rfl,hb⟩
 replace B:=B.trans (hb.mono B.size)
 replace hR:=hR.keep hb
 have lr:=hR.1.lt (by simp)
 have nr:w1.heap.size≠br:=by omega
 have nr':=nr.symm
 clear hb hD W
 have gR:=fun o=>(hR.alloc o).1.all4
 have fR:=fun o=>(hR.alloc o).2.all4
 have gR0:=hR.1.all4
 have fR0:=hR.2.all4
 have sz:=B.size
 have BB:Hid (Below w.heap.size w w1):=B
 clear B hR
 go_wp2
 simp [bodyPost,results,Tryz.results59,go_sem, *]
 repeat (first|with_reducible exact BB.out|with_reducible refine Below.setCell ?_ o3 _|with_reducible refine Below.alloc ?_ (by first|omega|(simp;omega)) _)
theorem tD {x y r:Int} (C:Hid (∀ w,Mds w→Rt 105 #[.int .i64 1,U4 x,U4 y] w (.tuple #[U4 r,.int .i64 0]))) (w:World) (hm:Mds w) :
  Rt 60 #[U4 x,U4 y] w (U4 r):=by
 go_enter Tryz.func60,Tryz.ntmps60
 go_wp2_with fail
 refine aa (fun W=>Below w.heap.size w W∧Mds W∧ac W (w.heap.size+1+1)) ⟨by repeat (first|with_reducible exact Below.refl _ _|with_reducible refine Below.alloc ?_ (by first|omega|(simp;done)|(simp;omega)) _),((hm.alloc _).alloc _).alloc _,ac.new (by simp)⟩ ?_
 rintro W ⟨B,hD,hR⟩
 have o3:w.heap.size≤w.heap.size+1+1:=by omega
 generalize w.heap.size+1+1=br at *
 with_reducible refine (C.out _ hD).mono ?_
 rintro e w1 ⟨rfl,hb⟩
 replace B:=B.trans (hb.mono B.size)
 replace hR:=hR.keep hb
 have lr:=hR.1.lt (by simp)
 have nr:w1.heap.size≠br:=by omega
 have nr':=nr.symm
 clear hb hD W
 have gR:=fun o=>(hR.alloc o).1.all4
 have fR:=fun o=>(hR.alloc o).2.all4
 have gR0:=hR.1.all4
 have fR0:=hR.2.all4
 have sz:=B.size
 have BB:Hid (Below w.heap.size w w1):=B
 clear B hR
 go_wp2
 simp [bodyPost,results,Tryz.results60,go_sem, *]
 repeat (first|with_reducible exact BB.out|with_reducible refine Below.setCell ?_ o3 _|with_reducible refine Below.alloc ?_ (by first|omega|(simp;omega)) _)
theorem qO {x y r:Int} (C:Hid (∀ w,Mds w→Rt 94 #[.int .i64 1,U4 x,U4 y] w (.tuple #[U4 r,.int .i64 0]))) (w:World) (hm:Mds w) :
  Rt 50 #[U4 x,U4 y] w (U4 r):=by
 go_enter Tryz.func50,Tryz.ntmps50
 go_wp2_with fail
 refine aa (fun W=>Below w.heap.size w W∧Mds W∧ac W (w.heap.size+1+1)) ⟨by repeat (first|with_reducible exact Below.refl _ _|with_reducible refine Below.alloc ?_ (by first|omega|(simp;done)|(simp;omega)) _),((hm.alloc _).alloc _).alloc _,ac.new (by simp)⟩ ?_
 rintro W ⟨B,hD,hR⟩
 have o3:w.heap.size≤w.heap.size+1+1:=by omega
 generalize w.heap.size+1+1=br at *
 with_reducible refine (C.out _ hD).mono ?_
 rintro e w1 ⟨rfl,hb⟩
 replace B:=B.trans (hb.mono B.size)
 replace hR:=hR.keep hb
 have lr:=hR.1.lt (by simp)
 have nr:w1.heap.size≠br:=by omega
 have nr':=nr.symm
 clear hb hD W
 have gR:=fun o=>(hR.alloc o).1.all4
 have fR:=fun o=>(hR.alloc o).2.all4
 have gR0:=hR.1.all4
 have fR0:=hR.2.all4
 have sz:=B.size
 have BB:Hid (Below w.heap.size w w1):=B
 clear B hR
 go_wp2
 simp [bodyPost,results,Tryz.results50,go_sem, *]
 repeat (first|with_reducible exact BB.out|with_reducible refine Below.setCell ?_ o3 _|with_reducible refine Below.alloc ?_ (by first|omega|(simp;omega)) _)
theorem tE {x r:Int} (C:Hid (∀ w,Mds w→Rt 85 #[.int .i64 1,U4 x] w (.tuple #[U4 r,.int .i64 0]))) (w:World) (hm:Mds w) :
  Rt 48 #[U4 x] w (U4 r):=by
 go_enter Tryz.func48,Tryz.ntmps48
 go_wp2_with fail
 refine aa (fun W=>Below w.heap.size w W∧Mds W∧ac W (w.heap.size+1)) ⟨by repeat (first|with_reducible exact Below.refl _ _|with_reducible refine Below.alloc ?_ (by first|omega|(simp;done)|(simp;omega)) _),(hm.alloc _).alloc _,ac.new (by simp)⟩ ?_
 rintro W ⟨B,hD,hR⟩
 have o3:w.heap.size≤w.heap.size+1:=by omega
 generalize w.heap.size+1=br at *
 with_reducible refine (C.out _ hD).mono ?_
 rintro e w1 ⟨rfl,hb⟩
 replace B:=B.trans (hb.mono B.size)
 replace hR:=hR.keep hb
 have lr:=hR.1.lt (by simp)
 have nr:w1.heap.size≠br:=by omega
 have nr':=nr.symm
 clear hb hD W
 have gR:=fun o=>(hR.alloc o).1.all4
 have fR:=fun o=>(hR.alloc o).2.all4
 have gR0:=hR.1.all4
 have fR0:=hR.2.all4
 have sz:=B.size
 have BB:Hid (Below w.heap.size w w1):=B
 clear B hR
 go_wp2
 simp [bodyPost,results,Tryz.results48,go_sem, *]
 repeat (first|with_reducible exact BB.out|with_reducible refine Below.setCell ?_ o3 _|with_reducible refine Below.alloc ?_ (by first|omega|(simp;omega)) _)
theorem tF {x r:Int} (C:Hid (∀ w,Mds w→Rt 95 #[.int .i64 1,U4 x] w (.tuple #[U4 r,.int .i64 0]))) (w:World) (hm:Mds w) :
  Rt 51 #[U4 x] w (U4 r):=by
 go_enter Tryz.func51,Tryz.ntmps51
 go_wp2_with fail
 refine aa (fun W=>Below w.heap.size w W∧Mds W∧ac W (w.heap.size+1)) ⟨by repeat (first|with_reducible exact Below.refl _ _|with_reducible refine Below.alloc ?_ (by first|omega|(simp;done)|(simp;omega)) _),(hm.alloc _).alloc _,ac.new (by simp)⟩ ?_
 rintro W ⟨B,hD,hR⟩
 have o3:w.heap.size≤w.heap.size+1:=by omega
 generalize w.heap.size+1=br at *
 with_reducible refine (C.out _ hD).mono ?_
 rintro e w1 ⟨rfl,hb⟩
 replace B:=B.trans (hb.mono B.size)
 replace hR:=hR.keep hb
 have lr:=hR.1.lt (by simp)
 have nr:w1.heap.size≠br:=by omega
 have nr':=nr.symm
 clear hb hD W
 have gR:=fun o=>(hR.alloc o).1.all4
 have fR:=fun o=>(hR.alloc o).2.all4
 have gR0:=hR.1.all4
 have fR0:=hR.2.all4
 have sz:=B.size
 have BB:Hid (Below w.heap.size w w1):=B
 clear B hR
 go_wp2
 simp [bodyPost,results,Tryz.results51,go_sem, *]
 repeat (first|with_reducible exact BB.out|with_reducible refine Below.setCell ?_ o3 _|with_reducible refine Below.alloc ?_ (by first|omega|(simp;omega)) _)
theorem vW {x y:Int} (hx:Num x) (hy:Num y):Hid (∀ w,Mds w→Rt 60 #[U4 x,U4 y] w (U4 (ag nN (x+y)))):=fun w hm=>tD (fun w hm=>ph jK hx hy w hm) w hm
theorem mX {x y:Int} (hx:Num x) (hy:Num y):Hid (∀ w,Mds w→Rt 50 #[U4 x,U4 y] w (U4 (ag nN (x*y)))):=fun w hm=>qO (fun w hm=>pj jK hx hy w hm) w hm
theorem vX {x:Int} (hx:Num x):Hid (∀ w,Mds w→Rt 51 #[U4 x] w (U4 (ag nN (0-x)))):=fun w hm=>tF (fun w hm=>vT jK hx w hm) w hm
theorem vY {x:Int} (hx:Num x) (hz:ag nN x≠0):Hid (∀ w,Mds w→Rt 48 #[U4 x] w (U4 (fi nN x))):=fun w hm=>tE (fun w hm=>jo jK hx hz w hm) w hm
theorem vZ {x:Int} (hx:Num x):Hid (∀ w,Mds w→Rt 59 #[U4 x] w (U4 (ag nN x))):=fun w hm=>by
 refine tC (fun w hm=>?_) w hm
 have:=pg (x:=0) jK ⟨by decide,by decide⟩ hx w hm
 obtain ⟨z0,z1,z2,z3⟩:=aq
 ((try unfold Rt at this);(try unfold U4 at this);(try unfold P9 at this);rw [z0,z1,z2,z3,show aI 0 x=x by unfold aI;omega] at this)
 exact this
theorem wg {x:Int} (hx:Num x) (w:World):Rt 61 #[U4 x] w (.bool (decide (cG x 0=1))):=by
 have C:Hid (∀ w,Rt 106 #[U4 x,.int .i64 0] w (.int .i64 (cG x 0))):=fun w=>r9 hx w
 generalize cG x 0=q at *
 clear hx
 go_enter Tryz.func61,Tryz.ntmps61
 go_wp2_with fail
 refine aa (fun W=>Below w.heap.size w W) (by repeat (first|with_reducible exact Below.refl _ _|with_reducible refine Below.alloc ?_ (by first|omega|(simp;done)|(simp;omega)) _)) ?_
 rintro W B
 with_reducible refine (C.out _).mono ?_
 rintro e w1 ⟨rfl,hb⟩
 replace B:=B.trans (hb.mono B.size)
 clear hb W
 go_wp2
 simp [bodyPost,results,Tryz.results61,go_sem]
 exact ⟨by by_cases h:q=1<;>simp [h],B⟩
open Go.RowKit Go.Sort
theorem cW {x y z:Int} (hz:Num z) (w:World) :
  Rt 84 #[.agg #[.int .u64 (l0 x),.int .u64 (l1 x),.int .u64 (l2 x),.int .u64 (l3 x),.int .u64 (l0 y),.int .u64 (l1 y),.int .u64 (l2 y),.int .u64 (l3 y),.int .u64 (l0 z),.int .u64 (l1 z),.int .u64 (l2 z),.int .u64 (l3 z)]] w (.bool (decide (z=0))):=by
 have he:∀ w,(Op.equalIn 10000 24 (U4 z) (.agg #[.int .u64 0,.int .u64 0,.int .u64 0,.int .u64 0])).run Tryz.prog w = .ok (decide (z=0)) w:=fun w=>by
  have:=iR hz (m:=0) ⟨by decide,by decide⟩ w
  obtain ⟨z0,z1,z2,z3⟩:=aq
  ((try unfold Rt at this);(try unfold U4 at this);(try unfold P9 at this);rw [z0,z1,z2,z3] at this)
  exact this
 have bz:=bC
 go_enter Tryz.func84,Tryz.ntmps84
 go_wp2
 simp [bodyPost,results,Tryz.results84,go_sem]
 repeat (first|with_reducible exact Below.refl _ _|with_reducible refine Below.alloc ?_ (by first|omega|(simp;done)|(simp;omega)) _)
theorem tG {x y:Int} (w:World) :
  Rt 82 #[P9 x y true] w (.agg #[.int .u64 (l0 0),.int .u64 (l1 0),.int .u64 (l2 0),.int .u64 (l3 0),.int .u64 (l0 0),.int .u64 (l1 0),.int .u64 (l2 0),.int .u64 (l3 0),.int .u64 (l0 0),.int .u64 (l1 0),.int .u64 (l2 0),.int .u64 (l3 0)]):=by
 obtain ⟨z0,z1,z2,z3⟩:=aq
 ((try unfold Rt);(try unfold U4);(try unfold P9);rw [z0,z1,z2,z3])
 go_enter Tryz.func82,Tryz.ntmps82
 go_wp2
 simp [bodyPost,results,Tryz.results82,go_sem]
 repeat (first|with_reducible refine Below.setCell ?_ (by omega) _|(first|with_reducible exact Below.refl _ _|with_reducible refine Below.alloc ?_ (by first|omega|(simp;done)|(simp;omega)) _))
theorem tH {x y:Int} (w:World) :
    Rt 82 #[P9 x y false] w (.agg #[.int .u64 (l0 x),.int .u64 (l1 x),.int .u64 (l2 x),.int .u64 (l3 x),.int .u64 (l0 y),.int .u64 (l1 y),.int .u64 (l2 y),.int .u64 (l3 y),.int .u64 (l0 1),.int .u64 (l1 1),.int .u64 (l2 1),.int .u64 (l3 1)]):=by
  have C:Hid (∀ w,Rt 126 #[.int .u64 1] w (.agg #[.int .u64 (l0 1),.int .u64 (l1 1),.int .u64 (l2 1),.int .u64 (l3 1)])):=fun w=>je ⟨by decide,by decide⟩ w
  go_enter Tryz.func82,Tryz.ntmps82
  go_wp2_with fail
  refine af (fun W=>Below w.heap.size w W∧Pnt W w.heap.size x y false∧aw W (w.heap.size+1)) ⟨by repeat (first|with_reducible exact Below.refl _ _|with_reducible refine Below.alloc ?_ (by first|omega|(simp;done)|(simp;omega)) _),(Pnt.new rfl).alloc _,aw.new (by simp)⟩ ?_
  rintro W ⟨B,hP,hR⟩
  have o3:w.heap.size≤w.heap.size+1:=by omega
  generalize w.heap.size+1=br at *
  have ghP:=hP.grown
  refine aL 6 (by kernel_rfl) (by kernel_rfl) ?_
  simp only [List.take_succ_cons,List.take_zero,List.drop_succ_cons,List.drop_zero]
  repeat
    first
      | go_big_quiet_skip
      | (go_big_quiet_want;go_big_quiet_op;go_big_quiet_on)
      | (go_big_quiet_want
         go_big_quiet_op
         apply Exists.intro
         refine ⟨fun p=>?_,?_⟩
         · (first|(go_at_call 126;with_reducible exact Calls.regrown_of (C.out _)))
         go_big_quiet_on)
  refine wpQuiet_nil ?_
  rintro w1 ⟨p,rfl⟩
  have hb:=below_regrown W p.d p.os
  generalize grow (redrawn W p.d) p.os=w1 at *
  replace B:=B.trans (hb.mono B.size)
  replace hP:=hP.keep hb;replace hR:=hR.keep hb
  clear hb W ghP
  have gR:=hR.cells;have fR:=hR.free
  go_wp2
  simp [bodyPost,results,Tryz.results82,go_sem,gR]
  repeat (first|with_reducible exact B|with_reducible refine Below.setCell ?_ o3 _)
theorem wi {x y:Int} (w:World) :
  Rt 45 #[.agg #[.int .u64 (l0 x),.int .u64 (l1 x),.int .u64 (l2 x),.int .u64 (l3 x),.int .u64 (l0 y),.int .u64 (l1 y),.int .u64 (l2 y),.int .u64 (l3 y),.int .u64 (l0 0),.int .u64 (l1 0),.int .u64 (l2 0),.int .u64 (l3 0)]] w (.agg #[.int .u64 (l0 0),.int .u64 (l1 0),.int .u64 (l2 0),.int .u64 (l3 0),.int .u64 (l0 0),.int .u64 (l1 0),.int .u64 (l2 0),.int .u64 (l3 0),.bool true]):=by
 obtain ⟨z0,z1,z2,z3⟩:=aq
 have C:Hid (∀ w,Rt 84 #[.agg #[.int .u64 (l0 x),.int .u64 (l1 x),.int .u64 (l2 x),.int .u64 (l3 x),.int .u64 (l0 y),.int .u64 (l1 y),.int .u64 (l2 y),.int .u64 (l3 y),.int .u64 0,.int .u64 0,.int .u64 0,.int .u64 0]] w (.bool true)):=fun w=>by
  have:=cW (x:=x) (y:=y) (z:=0) ⟨by decide,by decide⟩ w
  ((try unfold Rt at this);(try unfold U4 at this);(try unfold P9 at this);rw [z0,z1,z2,z3] at this)
  exact this
 ((try unfold Rt);(try unfold U4);(try unfold P9);rw [z0,z1,z2,z3])
 go_enter Tryz.func45,Tryz.ntmps45
 go_wp2_with fail
 refine aa (fun W=>Below w.heap.size w W∧Bk9 W (w.heap.size+1)) ⟨by repeat (first|with_reducible exact Below.refl _ _|with_reducible refine Below.alloc ?_ (by first|omega|(simp;done)|(simp;omega)) _),Bk9.new (by simp)⟩ ?_
 rintro W ⟨B,hR⟩
 have o3:w.heap.size≤w.heap.size+1:=by omega
 generalize w.heap.size+1=br at *
 with_reducible refine (C.out _).mono ?_
 rintro e w1 ⟨rfl,hb⟩
 replace B:=B.trans (hb.mono B.size)
 replace hR:=hR.keep hb
 clear hb W
 have gR:=hR.cells;have fR:=hR.free
 go_wp2
 simp [bodyPost,results,Tryz.results45,go_sem,gR]
 repeat (first|with_reducible exact B|with_reducible refine Below.setCell ?_ o3 _)
theorem pA {x y z v s a b r:Int} (C0:Hid (∀ w,Rt 84 #[.agg #[.int .u64 (l0 x),.int .u64 (l1 x),.int .u64 (l2 x),.int .u64 (l3 x),.int .u64 (l0 y),.int .u64 (l1 y),.int .u64 (l2 y),.int .u64 (l3 y),.int .u64 (l0 z),.int .u64 (l1 z),.int .u64 (l2 z),.int .u64 (l3 z)]] w (.bool false)))
    (C1:Hid (∀ w,Mds w→Rt 85 #[.int .i64 0,U4 z] w (.tuple #[U4 v,.int .i64 0]))) (C2:Hid (∀ w,Mds w→Rt 86 #[U4 v] w (U4 s)))
    (C3:Hid (∀ w,Mds w→Rt 87 #[U4 x,U4 s] w (U4 a))) (C4:Hid (∀ w,Mds w→Rt 87 #[U4 s,U4 v] w (U4 b))) (C5:Hid (∀ w,Mds w→Rt 87 #[U4 y,U4 b] w (U4 r))) (w:World) (hm:Mds w) :
    Rt 45 #[.agg #[.int .u64 (l0 x),.int .u64 (l1 x),.int .u64 (l2 x),.int .u64 (l3 x),.int .u64 (l0 y),.int .u64 (l1 y),.int .u64 (l2 y),.int .u64 (l3 y),.int .u64 (l0 z),.int .u64 (l1 z),.int .u64 (l2 z),.int .u64 (l3 z)]] w (P9 a r false):=by
  go_enter Tryz.func45,Tryz.ntmps45
  go_wp2_with fail
  refine aa (fun W=>Below w.heap.size w W∧Mds W∧Thr W w.heap.size x y z∧Bk9 W (w.heap.size+1)) ⟨by repeat (first|with_reducible exact Below.refl _ _|with_reducible refine Below.alloc ?_ (by first|omega|(simp;done)|(simp;omega)) _),(hm.alloc _).alloc _,(Thr.new rfl).alloc _,Bk9.new (by simp)⟩ ?_
  rintro W ⟨B,hD,hT,hR⟩
  have o3:w.heap.size≤w.heap.size+1:=by omega
  generalize w.heap.size+1=br at *
  with_reducible refine (C0.out _).mono ?_
  rintro e w1 ⟨rfl,hb⟩
  replace B:=B.trans (hb.mono B.size)
  replace hD:=hD.keep hb;replace hT:=hT.keep hb;replace hR:=hR.keep hb
  clear hb W
  have ghT:=hT.cells
  go_wp2_with fail
  refine aa (fun W=>Below w.heap.size w W∧Mds W∧Thr W w.heap.size x y z∧Bk9 W br) ⟨B,hD,hT,hR⟩ ?_
  clear B hD hT hR ghT
  rintro W ⟨B,hD,hT,hR⟩
  with_reducible refine (C1.out _ hD).mono ?_
  rintro e w2 ⟨rfl,hb⟩
  replace B:=B.trans (hb.mono B.size)
  replace hD:=hD.keep hb;replace hT:=hT.keep hb;replace hR:=hR.keep hb
  clear hb W
  go_wp2_with fail
  refine aa (fun W=>Below w.heap.size w W∧Mds W∧Thr W w.heap.size x y z∧Bk9 W br∧ab W w2.heap.size v) ⟨B.alloc B.size _,hD.alloc _,hT.alloc _,hR.alloc _,ab.new _ _ _⟩ ?_
  clear B hD hT hR
  rintro W ⟨B,hD,hT,hR,hV⟩
  generalize w2.heap.size=bv at *
  with_reducible refine (C2.out _ hD).mono ?_
  rintro e w3 ⟨rfl,hb⟩
  replace B:=B.trans (hb.mono B.size)
  replace hD:=hD.keep hb;replace hT:=hT.keep hb;replace hR:=hR.keep hb;replace hV:=hV.keep hb
  clear hb W
  go_wp2_with fail
  refine af (fun W=>Below w.heap.size w W∧Mds W∧Thr W w.heap.size x y z∧Bk9 W br∧ab W bv v∧ab W w3.heap.size s) ⟨B.alloc B.size _,hD.alloc _,hT.alloc _,hR.alloc _,hV.alloc _,ab.new _ _ _⟩ ?_
  clear B hD hT hR hV
  rintro W ⟨B,hD,hT,hR,hV,hS⟩
  generalize w3.heap.size=bs at *
  have ghT:=hT.grown
  have ghV:=hV.grown
  have ghS:=hS.grown
  have hDg:∀ d os,Mds (grow (redrawn W d) os):=fun d os=>hD.keep (below_regrown W d os)
  refine aL 11 (by kernel_rfl) (by kernel_rfl) ?_
  simp only [List.take_succ_cons,List.take_zero,List.drop_succ_cons,List.drop_zero]
  repeat
    first
      | go_big_quiet_skip
      | (go_big_quiet_want;go_big_quiet_op;go_big_quiet_on)
      | (go_big_quiet_want
         go_big_quiet_op
         apply Exists.intro
         refine ⟨fun p=>?_,?_⟩
         · (first|(go_at_call 87;with_reducible exact Calls.regrown_of (C3.out _ (hDg p.d p.os)))|(go_at_call 87;with_reducible exact Calls.regrown_of (C4.out _ (hDg p.d p.os)))|(go_at_call 87;with_reducible exact Calls.regrown_of (C5.out _ (hDg p.d p.os))))
         go_big_quiet_on)
  refine wpQuiet_nil ?_
  rintro w4 ⟨p,rfl⟩
  have hb:=below_regrown W p.d p.os
  generalize grow (redrawn W p.d) p.os=w4 at *
  replace B:=B.trans (hb.mono B.size)
  replace hD:=hD.keep hb;replace hT:=hT.keep hb;replace hR:=hR.keep hb;replace hV:=hV.keep hb;replace hS:=hS.keep hb
  clear hb W ghT ghV ghS hDg
  have gR:=hR.cells;have fR:=hR.free
  go_wp2
  simp [bodyPost,results,Tryz.results45,go_sem,gR]
  repeat (first|with_reducible exact B|with_reducible refine Below.setCell ?_ o3 _)
theorem tI {x y z k:Int} (hk:Num k) (h0:k≠0) (w:World) :
  Rt 125 #[.agg #[.int .u64 (l0 x),.int .u64 (l1 x),.int .u64 (l2 x),.int .u64 (l3 x),.int .u64 (l0 y),.int .u64 (l1 y),.int .u64 (l2 y),.int .u64 (l3 y),.int .u64 (l0 z),.int .u64 (l1 z),.int .u64 (l2 z),.int .u64 (l3 z)],U4 k] w (.agg #[.int .u64 (l0 0),.int .u64 (l1 0),.int .u64 (l2 0),.int .u64 (l3 0),.int .u64 (l0 0),.int .u64 (l1 0),.int .u64 (l2 0),.int .u64 (l3 0),.int .u64 (l0 0),.int .u64 (l1 0),.int .u64 (l2 0),.int .u64 (l3 0)]):=by
 have he:∀ w,(Op.equalIn 10000 24 (U4 k) (.agg #[.int .u64 0,.int .u64 0,.int .u64 0,.int .u64 0])).run Tryz.prog w = .ok false w:=fun w=>by
  have:=zj hk (m:=0) ⟨by decide,by decide⟩ h0 w
  obtain ⟨z0,z1,z2,z3⟩:=aq
  ((try unfold Rt at this);(try unfold U4 at this);(try unfold P9 at this);rw [z0,z1,z2,z3] at this)
  exact this
 have bz:=bC
 obtain ⟨z0,z1,z2,z3⟩:=aq
 ((try unfold Rt);(try unfold U4);(try unfold P9);rw [z0,z1,z2,z3])
 go_enter Tryz.func125,Tryz.ntmps125
 go_wp2
 simp [bodyPost,results,Tryz.results125,go_sem]
 repeat (first|with_reducible refine Below.setCell ?_ (by omega) _|(first|with_reducible exact Below.refl _ _|with_reducible refine Below.alloc ?_ (by first|omega|(simp;done)|(simp;omega)) _))
theorem qP {x y z x' y' z':Int} (C:Hid (∀ w,Mds w→Rt 79 #[.agg #[.int .u64 (l0 x),.int .u64 (l1 x),.int .u64 (l2 x),.int .u64 (l3 x),.int .u64 (l0 y),.int .u64 (l1 y),.int .u64 (l2 y),.int .u64 (l3 y),.int .u64 (l0 z),.int .u64 (l1 z),.int .u64 (l2 z),.int .u64 (l3 z)]] w (.agg #[.int .u64 (l0 x'),.int .u64 (l1 x'),.int .u64 (l2 x'),.int .u64 (l3 x'),.int .u64 (l0 y'),.int .u64 (l1 y'),.int .u64 (l2 y'),.int .u64 (l3 y'),.int .u64 (l0 z'),.int .u64 (l1 z'),.int .u64 (l2 z'),.int .u64 (l3 z')]))) (w:World) (hm:Mds w) :
  Rt 125 #[.agg #[.int .u64 (l0 x),.int .u64 (l1 x),.int .u64 (l2 x),.int .u64 (l3 x),.int .u64 (l0 y),.int .u64 (l1 y),.int .u64 (l2 y),.int .u64 (l3 y),.int .u64 (l0 z),.int .u64 (l1 z),.int .u64 (l2 z),.int .u64 (l3 z)],.agg #[.int .u64 (l0 0),.int .u64 (l1 0),.int .u64 (l2 0),.int .u64 (l3 0)]] w (.agg #[.int .u64 (l0 x'),.int .u64 (l1 x'),.int .u64 (l2 x'),.int .u64 (l3 x'),.int .u64 (l0 y'),.int .u64 (l1 y'),.int .u64 (l2 y'),.int .u64 (l3 y'),.int .u64 (l0 z'),.int .u64 (l1 z'),.int .u64 (l2 z'),.int .u64 (l3 z')]):=by
 have he:∀ w,(Op.equalIn 10000 24 (.agg #[.int .u64 0,.int .u64 0,.int .u64 0,.int .u64 0]) (.agg #[.int .u64 0,.int .u64 0,.int .u64 0,.int .u64 0])).run Tryz.prog w = .ok true w:=fun w=>by rw [qB];rfl
 have bz:=bC
 obtain ⟨z0,z1,z2,z3⟩:=aq
 ((try unfold Rt);(try unfold U4);(try unfold P9);rw [z0,z1,z2,z3])
 clear z0 z1 z2 z3
 go_enter Tryz.func125,Tryz.ntmps125
 go_wp2_with fail
 refine aa (fun W=>Below w.heap.size w W∧Mds W∧aw W (w.heap.size+1+1)) ⟨by repeat (first|with_reducible exact Below.refl _ _|with_reducible refine Below.alloc ?_ (by first|omega|(simp;done)|(simp;omega)) _),((hm.alloc _).alloc _).alloc _,aw.new (by simp)⟩ ?_
 rintro W ⟨B,hD,hR⟩
 have o3:w.heap.size≤w.heap.size+1+1:=by omega
 generalize w.heap.size+1+1=br at *
 with_reducible refine (C.out _ hD).mono ?_
 rintro e w1 ⟨rfl,hb⟩
 replace B:=B.trans (hb.mono B.size)
 replace hR:=hR.keep hb
 clear hb hD W
 have gR:=hR.cells;have fR:=hR.free
 go_wp2
 simp [bodyPost,results,Tryz.results125,go_sem,gR]
 repeat (first|with_reducible exact B|with_reducible refine Below.setCell ?_ o3 _)
open Go.RowKit Go.Sort
theorem tJ {x y z a b c d s f g q h k u m n b1 b2 b3 v e1 r:Int} (C0:Hid (∀ w,Rt 84 #[.agg #[.int .u64 (l0 x),.int .u64 (l1 x),.int .u64 (l2 x),.int .u64 (l3 x),.int .u64 (l0 y),.int .u64 (l1 y),.int .u64 (l2 y),.int .u64 (l3 y),.int .u64 (l0 z),.int .u64 (l1 z),.int .u64 (l2 z),.int .u64 (l3 z)]] w (.bool false)))
    (C1:Hid (∀ w,Mds w→Rt 86 #[U4 y] w (U4 a)))
    (C2:Hid (∀ w,Mds w→Rt 86 #[U4 a] w (U4 b)))
    (C3:Hid (∀ w,Mds w→Rt 86 #[U4 x] w (U4 c)))
    (C4:Hid (∀ w,Mds w→Rt 123 #[U4 c] w (U4 d)))
    (C5:Hid (∀ w,Mds w→Rt 122 #[U4 d,U4 c] w (U4 s)))
    (C6:Hid (∀ w,Mds w→Rt 87 #[U4 x,U4 a] w (U4 f)))
    (C7:Hid (∀ w,Mds w→Rt 123 #[U4 f] w (U4 g)))
    (C8:Hid (∀ w,Mds w→Rt 123 #[U4 g] w (U4 q)))
    (C9:Hid (∀ w,Mds w→Rt 86 #[U4 s] w (U4 h)))
    (C10:Hid (∀ w,Mds w→Rt 123 #[U4 q] w (U4 k)))
    (C11:Hid (∀ w,Mds w→Rt 124 #[U4 h,U4 k] w (U4 u)))
    (C12:Hid (∀ w,Mds w→Rt 124 #[U4 q,U4 u] w (U4 m)))
    (C13:Hid (∀ w,Mds w→Rt 87 #[U4 s,U4 m] w (U4 n)))
    (C14:Hid (∀ w,Mds w→Rt 123 #[U4 b] w (U4 b1)))
    (C15:Hid (∀ w,Mds w→Rt 123 #[U4 b1] w (U4 b2)))
    (C16:Hid (∀ w,Mds w→Rt 123 #[U4 b2] w (U4 b3)))
    (C17:Hid (∀ w,Mds w→Rt 124 #[U4 n,U4 b3] w (U4 v)))
    (C18:Hid (∀ w,Mds w→Rt 87 #[U4 y,U4 z] w (U4 e1)))
    (C19:Hid (∀ w,Mds w→Rt 123 #[U4 e1] w (U4 r)))
    (w:World) (hm:Mds w) :
    Rt 79 #[.agg #[.int .u64 (l0 x),.int .u64 (l1 x),.int .u64 (l2 x),.int .u64 (l3 x),.int .u64 (l0 y),.int .u64 (l1 y),.int .u64 (l2 y),.int .u64 (l3 y),.int .u64 (l0 z),.int .u64 (l1 z),.int .u64 (l2 z),.int .u64 (l3 z)]] w (.agg #[.int .u64 (l0 u),.int .u64 (l1 u),.int .u64 (l2 u),.int .u64 (l3 u),.int .u64 (l0 v),.int .u64 (l1 v),.int .u64 (l2 v),.int .u64 (l3 v),.int .u64 (l0 r),.int .u64 (l1 r),.int .u64 (l2 r),.int .u64 (l3 r)]):=by
  go_enter Tryz.func79,Tryz.ntmps79
  go_wp2_with fail
  refine aa (fun W=>Below w.heap.size w W∧Mds W∧Thr W w.heap.size x y z∧aw W (w.heap.size+1)) ⟨by repeat (first|with_reducible exact Below.refl _ _|with_reducible refine Below.alloc ?_ (by first|omega|(simp;done)|(simp;omega)) _),(hm.alloc _).alloc _,(Thr.new rfl).alloc _,aw.new (by simp)⟩ ?_
  rintro W ⟨B,hD,hT,hR⟩
  have o3:w.heap.size≤w.heap.size+1:=by omega
  generalize w.heap.size+1=br at *
  with_reducible refine (C0.out _).mono ?_
  rintro e w1 ⟨rfl,hb⟩
  replace B:=B.trans (hb.mono B.size)
  replace hD:=hD.keep hb;replace hT:=hT.keep hb;replace hR:=hR.keep hb
  clear hb W
  have ghT:=hT.cells
  go_wp2_with fail
  refine aa (fun W=>Below w.heap.size w W∧Mds W∧Thr W w.heap.size x y z∧aw W br) ⟨B,hD,hT,hR⟩ ?_
  clear B hD hT hR ghT
  rintro W ⟨B,hD,hT,hR⟩
  with_reducible refine (C1.out _ hD).mono ?_
  rintro e w2 ⟨rfl,hb⟩
  replace B:=B.trans (hb.mono B.size)
  replace hD:=hD.keep hb;replace hT:=hT.keep hb;replace hR:=hR.keep hb
  clear hb W
  go_wp2_with fail
  refine aa (fun W=>Below w.heap.size w W∧Mds W∧Thr W w.heap.size x y z∧aw W br∧ab W w2.heap.size a) ⟨B.alloc B.size _,hD.alloc _,hT.alloc _,hR.alloc _,ab.new _ _ _⟩ ?_
  clear B hD hT hR
  rintro W ⟨B,hD,hT,hR,hA⟩
  generalize w2.heap.size=ba at *
  with_reducible refine (C2.out _ hD).mono ?_
  rintro e w3 ⟨rfl,hb⟩
  replace B:=B.trans (hb.mono B.size)
  replace hD:=hD.keep hb;replace hT:=hT.keep hb;replace hR:=hR.keep hb;replace hA:=hA.keep hb
  clear hb W
  have ghT:=fun o=>(hT.alloc o).cells
  go_wp2_with fail
  refine aa (fun W=>Below w.heap.size w W∧Mds W∧Thr W w.heap.size x y z∧aw W br∧ab W ba a∧ab W w3.heap.size b) ⟨B.alloc B.size _,hD.alloc _,hT.alloc _,hR.alloc _,hA.alloc _,ab.new _ _ _⟩ ?_
  clear B hD hT hR hA ghT
  rintro W ⟨B,hD,hT,hR,hA,hB⟩
  generalize w3.heap.size=bb at *
  with_reducible refine (C3.out _ hD).mono ?_
  rintro e w4 ⟨rfl,hb⟩
  replace B:=B.trans (hb.mono B.size)
  replace hD:=hD.keep hb;replace hT:=hT.keep hb;replace hR:=hR.keep hb;replace hA:=hA.keep hb;replace hB:=hB.keep hb
  clear hb W
  go_wp2_with fail
  refine af (fun W=>Below w.heap.size w W∧Mds W∧Thr W w.heap.size x y z∧aw W br∧ab W ba a∧ab W bb b∧ab W w4.heap.size c) ⟨B.alloc B.size _,hD.alloc _,hT.alloc _,hR.alloc _,hA.alloc _,hB.alloc _,ab.new _ _ _⟩ ?_
  clear B hD hT hR hA hB
  rintro W ⟨B,hD,hT,hR,hA,hB,hC⟩
  generalize w4.heap.size=bc at *
  refine aD (A:=?AA1) 4 (by kernel_rfl) (by kernel_rfl) rfl rfl (aB _ _ _) (fun V hV=>?HH1) (fun V w1 hV hw=>?TT1)
  case HH1 =>
    have hDg:∀ d os,Mds (grow (redrawn V d) os):=fun d os=>(hD.keep hV).keep (below_regrown V d os)
    have ghC:=(hC.keep hV).grown
    unfold Gr
    simp only [List.take_succ_cons,List.take_zero]
    repeat
      first
        | go_big_quiet_skip
        | (go_big_quiet_want;go_big_quiet_op;go_big_quiet_on)
        | (go_big_quiet_want
           go_big_quiet_op
           apply Exists.intro
           refine ⟨fun p=>?_,?_⟩
           · (first|(go_at_call 123;with_reducible exact Calls.regrown_of (C4.out _ (hDg p.d p.os)))|(go_at_call 122;with_reducible exact Calls.regrown_of (C5.out _ (hDg p.d p.os))))
           go_big_quiet_on)
    refine wpQuiet_nil ?_
    exact rfl
  case TT1 =>
    have hb:=ap hV hw
    have hN:=(ac.new rfl).keep hw
    have nhD:V.heap.size≠1:=Nat.ne_of_gt (Nat.lt_of_lt_of_le (hD.lt) hV.size)
    have nhT:V.heap.size≠w.heap.size:=Nat.ne_of_gt (Nat.lt_of_lt_of_le (hT.lt) hV.size)
    have nhR:V.heap.size≠br:=Nat.ne_of_gt (Nat.lt_of_lt_of_le (hR.lt) hV.size)
    have nhA:V.heap.size≠ba:=Nat.ne_of_gt (Nat.lt_of_lt_of_le (World.block_lt_of_cell? _ _ hA.1) hV.size)
    have nhB:V.heap.size≠bb:=Nat.ne_of_gt (Nat.lt_of_lt_of_le (World.block_lt_of_cell? _ _ hB.1) hV.size)
    have nhC:V.heap.size≠bc:=Nat.ne_of_gt (Nat.lt_of_lt_of_le (World.block_lt_of_cell? _ _ hC.1) hV.size)
    have gn:w.heap.size≤V.heap.size:=Nat.le_trans B.size hV.size
    replace B:=B.trans (hb.mono B.size)
    replace hD:=hD.keep hb;replace hT:=hT.keep hb;replace hR:=hR.keep hb;replace hA:=hA.keep hb;replace hB:=hB.keep hb;replace hC:=hC.keep hb
    clear hb hw hV W
    generalize V.heap.size=bs at *
    clear V
    have gN:=hN.1.all4;have qN:=hN.2.all4
    have ghT:=hT.cells
    have ghA:=hA.cells
    have mhD:=nhD.symm
    have mhT:=nhT.symm
    have mhR:=nhR.symm
    have mhA:=nhA.symm
    have mhB:=nhB.symm
    have mhC:=nhC.symm
    simp only [List.drop_succ_cons,List.drop_zero,Act.put,List.setIfInBounds_toArray,List.set_cons_zero,List.set_cons_succ]
    go_wp2_with fail
    refine aa (fun W=>Below w.heap.size w W∧Mds W∧Thr W w.heap.size x y z∧aw W br∧ab W ba a∧ab W bb b∧ab W bc c∧ab W bs s) ⟨ah B gn _ _ _ _,hD.set4 nhD _ _ _ _,hT.set4 nhT _ _ _ _,hR.set4 nhR _ _ _ _,hA.set4 nhA _ _ _ _,hB.set4 nhB _ _ _ _,hC.set4 nhC _ _ _ _,ab.sets4 (ac.has hN)⟩ ?_
    clear B hN gN qN hD hT hR hA hB hC nhD mhD nhT mhT nhR mhR nhA mhA nhB mhB nhC mhC ghT ghA gn
    rintro W ⟨B,hD,hT,hR,hA,hB,hC,hS⟩
    clear w1
    with_reducible refine (C6.out _ hD).mono ?_
    rintro e w5 ⟨rfl,hb⟩
    replace B:=B.trans (hb.mono B.size)
    replace hD:=hD.keep hb;replace hT:=hT.keep hb;replace hR:=hR.keep hb;replace hA:=hA.keep hb;replace hB:=hB.keep hb;replace hC:=hC.keep hb;replace hS:=hS.keep hb
    clear hb W
    go_wp2_with fail
    refine aa (fun W=>Below w.heap.size w W∧Mds W∧Thr W w.heap.size x y z∧aw W br∧ab W ba a∧ab W bb b∧ab W bc c∧ab W bs s) ⟨B,hD,hT,hR,hA,hB,hC,hS⟩ ?_
    clear B hD hT hR hA hB hC hS
    rintro W ⟨B,hD,hT,hR,hA,hB,hC,hS⟩
    with_reducible refine (C7.out _ hD).mono ?_
    rintro e w6 ⟨rfl,hb⟩
    replace B:=B.trans (hb.mono B.size)
    replace hD:=hD.keep hb;replace hT:=hT.keep hb;replace hR:=hR.keep hb;replace hA:=hA.keep hb;replace hB:=hB.keep hb;replace hC:=hC.keep hb;replace hS:=hS.keep hb
    clear hb W
    go_wp2_with fail
    refine aa (fun W=>Below w.heap.size w W∧Mds W∧Thr W w.heap.size x y z∧aw W br∧ab W ba a∧ab W bb b∧ab W bc c∧ab W bs s) ⟨B,hD,hT,hR,hA,hB,hC,hS⟩ ?_
    clear B hD hT hR hA hB hC hS
    rintro W ⟨B,hD,hT,hR,hA,hB,hC,hS⟩
    with_reducible refine (C8.out _ hD).mono ?_
    rintro e w7 ⟨rfl,hb⟩
    replace B:=B.trans (hb.mono B.size)
    replace hD:=hD.keep hb;replace hT:=hT.keep hb;replace hR:=hR.keep hb;replace hA:=hA.keep hb;replace hB:=hB.keep hb;replace hC:=hC.keep hb;replace hS:=hS.keep hb
    clear hb W
    go_wp2_with fail
    refine af (fun W=>Below w.heap.size w W∧Mds W∧Thr W w.heap.size x y z∧aw W br∧ab W ba a∧ab W bb b∧ab W bc c∧ab W bs s∧ab W w7.heap.size q) ⟨B.alloc B.size _,hD.alloc _,hT.alloc _,hR.alloc _,hA.alloc _,hB.alloc _,hC.alloc _,hS.alloc _,ab.new _ _ _⟩ ?_
    clear B hD hT hR hA hB hC hS
    rintro W ⟨B,hD,hT,hR,hA,hB,hC,hS,hQ⟩
    generalize w7.heap.size=bq at *
    clear hA hC
    refine aD (A:=?AA2) 5 (by kernel_rfl) (by kernel_rfl) rfl rfl (aB _ _ _) (fun V hV=>?HH2) (fun V w1 hV hw=>?TT2)
    case HH2 =>
      have hDg:∀ d os,Mds (grow (redrawn V d) os):=fun d os=>(hD.keep hV).keep (below_regrown V d os)
      have ghS:=(hS.keep hV).grown
      have ghQ:=(hQ.keep hV).grown
      unfold Gr
      simp only [List.take_succ_cons,List.take_zero]
      repeat
        first
          | go_big_quiet_skip
          | (go_big_quiet_want;go_big_quiet_op;go_big_quiet_on)
          | (go_big_quiet_want
             go_big_quiet_op
             apply Exists.intro
             refine ⟨fun p=>?_,?_⟩
             · (first|(go_at_call 86;with_reducible exact Calls.regrown_of (C9.out _ (hDg p.d p.os)))|(go_at_call 123;with_reducible exact Calls.regrown_of (C10.out _ (hDg p.d p.os)))|(go_at_call 124;with_reducible exact Calls.regrown_of (C11.out _ (hDg p.d p.os))))
             go_big_quiet_on)
      refine wpQuiet_nil ?_
      exact rfl
    case TT2 =>
      have hb:=ap hV hw
      have hN:=(ac.new rfl).keep hw
      have nhD:V.heap.size≠1:=Nat.ne_of_gt (Nat.lt_of_lt_of_le (hD.lt) hV.size)
      have nhT:V.heap.size≠w.heap.size:=Nat.ne_of_gt (Nat.lt_of_lt_of_le (hT.lt) hV.size)
      have nhR:V.heap.size≠br:=Nat.ne_of_gt (Nat.lt_of_lt_of_le (hR.lt) hV.size)
      have nhB:V.heap.size≠bb:=Nat.ne_of_gt (Nat.lt_of_lt_of_le (World.block_lt_of_cell? _ _ hB.1) hV.size)
      have nhS:V.heap.size≠bs:=Nat.ne_of_gt (Nat.lt_of_lt_of_le (World.block_lt_of_cell? _ _ hS.1) hV.size)
      have nhQ:V.heap.size≠bq:=Nat.ne_of_gt (Nat.lt_of_lt_of_le (World.block_lt_of_cell? _ _ hQ.1) hV.size)
      have gn:w.heap.size≤V.heap.size:=Nat.le_trans B.size hV.size
      replace B:=B.trans (hb.mono B.size)
      replace hD:=hD.keep hb;replace hT:=hT.keep hb;replace hR:=hR.keep hb;replace hB:=hB.keep hb;replace hS:=hS.keep hb;replace hQ:=hQ.keep hb
      clear hb hw hV W
      generalize V.heap.size=bu at *
      clear V
      have gN:=hN.1.all4;have qN:=hN.2.all4
      have mhD:=nhD.symm
      have mhT:=nhT.symm
      have mhR:=nhR.symm
      have mhB:=nhB.symm
      have mhS:=nhS.symm
      have mhQ:=nhQ.symm
      simp only [List.drop_succ_cons,List.drop_zero,Act.put,List.setIfInBounds_toArray,List.set_cons_zero,List.set_cons_succ]
      go_wp2_with fail
      refine af (fun W=>Below w.heap.size w W∧Mds W∧Thr W w.heap.size x y z∧aw W br∧ab W bb b∧ab W bs s∧ab W bq q∧ab W bu u) ⟨ah B gn _ _ _ _,hD.set4 nhD _ _ _ _,hT.set4 nhT _ _ _ _,hR.set4 nhR _ _ _ _,hB.set4 nhB _ _ _ _,hS.set4 nhS _ _ _ _,hQ.set4 nhQ _ _ _ _,ab.sets4 (ac.has hN)⟩ ?_
      clear B hN gN qN hD hT hR hB hS hQ nhD mhD nhT mhT nhR mhR nhB mhB nhS mhS nhQ mhQ  gn
      rintro W ⟨B,hD,hT,hR,hB,hS,hQ,hU⟩
      clear w1
      refine aD (A:=?AA3) 10 (by kernel_rfl) (by kernel_rfl) rfl rfl (aB _ _ _) (fun V hV=>?HH3) (fun V w1 hV hw=>?TT3)
      case HH3 =>
        have hDg:∀ d os,Mds (grow (redrawn V d) os):=fun d os=>(hD.keep hV).keep (below_regrown V d os)
        have ghB:=(hB.keep hV).grown
        have ghS:=(hS.keep hV).grown
        have ghQ:=(hQ.keep hV).grown
        have ghU:=(hU.keep hV).grown
        unfold Gr
        simp only [List.take_succ_cons,List.take_zero]
        repeat
          first
            | go_big_quiet_skip
            | (go_big_quiet_want;go_big_quiet_op;go_big_quiet_on)
            | (go_big_quiet_want
               go_big_quiet_op
               apply Exists.intro
               refine ⟨fun p=>?_,?_⟩
               · (first|(go_at_call 124;with_reducible exact Calls.regrown_of (C12.out _ (hDg p.d p.os)))|(go_at_call 87;with_reducible exact Calls.regrown_of (C13.out _ (hDg p.d p.os)))|(go_at_call 123;with_reducible exact Calls.regrown_of (C14.out _ (hDg p.d p.os)))|(go_at_call 123;with_reducible exact Calls.regrown_of (C15.out _ (hDg p.d p.os)))|(go_at_call 123;with_reducible exact Calls.regrown_of (C16.out _ (hDg p.d p.os)))|(go_at_call 124;with_reducible exact Calls.regrown_of (C17.out _ (hDg p.d p.os))))
               go_big_quiet_on)
        refine wpQuiet_nil ?_
        exact rfl
      case TT3 =>
        have hb:=ap hV hw
        have hN:=(ac.new rfl).keep hw
        have nhD:V.heap.size≠1:=Nat.ne_of_gt (Nat.lt_of_lt_of_le (hD.lt) hV.size)
        have nhT:V.heap.size≠w.heap.size:=Nat.ne_of_gt (Nat.lt_of_lt_of_le (hT.lt) hV.size)
        have nhR:V.heap.size≠br:=Nat.ne_of_gt (Nat.lt_of_lt_of_le (hR.lt) hV.size)
        have nhB:V.heap.size≠bb:=Nat.ne_of_gt (Nat.lt_of_lt_of_le (World.block_lt_of_cell? _ _ hB.1) hV.size)
        have nhS:V.heap.size≠bs:=Nat.ne_of_gt (Nat.lt_of_lt_of_le (World.block_lt_of_cell? _ _ hS.1) hV.size)
        have nhQ:V.heap.size≠bq:=Nat.ne_of_gt (Nat.lt_of_lt_of_le (World.block_lt_of_cell? _ _ hQ.1) hV.size)
        have nhU:V.heap.size≠bu:=Nat.ne_of_gt (Nat.lt_of_lt_of_le (World.block_lt_of_cell? _ _ hU.1) hV.size)
        have gn:w.heap.size≤V.heap.size:=Nat.le_trans B.size hV.size
        replace B:=B.trans (hb.mono B.size)
        replace hD:=hD.keep hb;replace hT:=hT.keep hb;replace hR:=hR.keep hb;replace hB:=hB.keep hb;replace hS:=hS.keep hb;replace hQ:=hQ.keep hb;replace hU:=hU.keep hb
        clear hb hw hV W
        generalize V.heap.size=bv at *
        clear V
        have gN:=hN.1.all4;have qN:=hN.2.all4
        have mhD:=nhD.symm
        have mhT:=nhT.symm
        have mhR:=nhR.symm
        have mhB:=nhB.symm
        have mhS:=nhS.symm
        have mhQ:=nhQ.symm
        have mhU:=nhU.symm
        simp only [List.drop_succ_cons,List.drop_zero,Act.put,List.setIfInBounds_toArray,List.set_cons_zero,List.set_cons_succ]
        go_wp2_with fail
        refine af (fun W=>Below w.heap.size w W∧Mds W∧Thr W w.heap.size x y z∧aw W br∧ab W bb b∧ab W bs s∧ab W bq q∧ab W bu u∧ab W bv v) ⟨ah B gn _ _ _ _,hD.set4 nhD _ _ _ _,hT.set4 nhT _ _ _ _,hR.set4 nhR _ _ _ _,hB.set4 nhB _ _ _ _,hS.set4 nhS _ _ _ _,hQ.set4 nhQ _ _ _ _,hU.set4 nhU _ _ _ _,ab.sets4 (ac.has hN)⟩ ?_
        clear B hN gN qN hD hT hR hB hS hQ hU nhD mhD nhT mhT nhR mhR nhB mhB nhS mhS nhQ mhQ nhU mhU  gn
        rintro W ⟨B,hD,hT,hR,hB,hS,hQ,hU,hV1⟩
        clear w1
        have ghT:=hT.grown
        have ghU:=hU.grown
        have ghV1:=hV1.grown
        have hDg:∀ d os,Mds (grow (redrawn W d) os):=fun d os=>hD.keep (below_regrown W d os)
        refine aL 9 (by kernel_rfl) (by kernel_rfl) ?_
        simp only [List.take_succ_cons,List.take_zero,List.drop_succ_cons,List.drop_zero]
        repeat
          first
            | go_big_quiet_skip
            | (go_big_quiet_want;go_big_quiet_op;go_big_quiet_on)
            | (go_big_quiet_want
               go_big_quiet_op
               apply Exists.intro
               refine ⟨fun p=>?_,?_⟩
               · (first|(go_at_call 87;with_reducible exact Calls.regrown_of (C18.out _ (hDg p.d p.os)))|(go_at_call 123;with_reducible exact Calls.regrown_of (C19.out _ (hDg p.d p.os))))
               go_big_quiet_on)
        refine wpQuiet_nil ?_
        rintro w8 ⟨p,rfl⟩
        have hb:=below_regrown W p.d p.os
        generalize grow (redrawn W p.d) p.os=w8 at *
        replace B:=B.trans (hb.mono B.size)
        replace hD:=hD.keep hb;replace hT:=hT.keep hb;replace hR:=hR.keep hb;replace hB:=hB.keep hb;replace hS:=hS.keep hb;replace hQ:=hQ.keep hb;replace hU:=hU.keep hb;replace hV1:=hV1.keep hb
        clear hb W ghT ghU ghV1 hDg
        have gR:=hR.cells;have fR:=hR.free
        go_wp2
        simp [bodyPost,results,Tryz.results79,go_sem,gR]
        repeat (first|with_reducible exact B|with_reducible refine Below.setCell ?_ o3 _)
open Go.RowKit Go.Sort
structure LateC (z z2 c ey h r k m q n p s u v1 v2 v3 v o1 o2:Int):Prop where
 A11:Hid (∀ w,Mds w→Rt 86 #[U4 h] w (U4 k))
 A12:Hid (∀ w,Mds w→Rt 87 #[U4 k,U4 h] w (U4 m))
 A13:Hid (∀ w,Mds w→Rt 87 #[U4 c,U4 k] w (U4 q))
 A14:Hid (∀ w,Mds w→Rt 86 #[U4 r] w (U4 n))
 A15:Hid (∀ w,Mds w→Rt 124 #[U4 n,U4 m] w (U4 p))
 A16:Hid (∀ w,Mds w→Rt 123 #[U4 q] w (U4 s))
 A17:Hid (∀ w,Mds w→Rt 124 #[U4 p,U4 s] w (U4 u))
 A18:Hid (∀ w,Mds w→Rt 124 #[U4 q,U4 u] w (U4 v1))
 A19:Hid (∀ w,Mds w→Rt 87 #[U4 r,U4 v1] w (U4 v2))
 A20:Hid (∀ w,Mds w→Rt 87 #[U4 ey,U4 m] w (U4 v3))
 A21:Hid (∀ w,Mds w→Rt 124 #[U4 v2,U4 v3] w (U4 v))
 A22:Hid (∀ w,Mds w→Rt 87 #[U4 z,U4 z2] w (U4 o1))
 A23:Hid (∀ w,Mds w→Rt 87 #[U4 o1,U4 h] w (U4 o2))
theorem mY {x y z x2 y2 z2 a b c d ey f h g j r X Y Z:Int} (C0:Hid (∀ w,Rt 84 #[.agg #[.int .u64 (l0 x),.int .u64 (l1 x),.int .u64 (l2 x),.int .u64 (l3 x),.int .u64 (l0 y),.int .u64 (l1 y),.int .u64 (l2 y),.int .u64 (l3 y),.int .u64 (l0 z),.int .u64 (l1 z),.int .u64 (l2 z),.int .u64 (l3 z)]] w (.bool false)))
    (C1:Hid (∀ w,Rt 84 #[.agg #[.int .u64 (l0 x2),.int .u64 (l1 x2),.int .u64 (l2 x2),.int .u64 (l3 x2),.int .u64 (l0 y2),.int .u64 (l1 y2),.int .u64 (l2 y2),.int .u64 (l3 y2),.int .u64 (l0 z2),.int .u64 (l1 z2),.int .u64 (l2 z2),.int .u64 (l3 z2)]] w (.bool false)))
    (A1:Hid (∀ w,Mds w→Rt 86 #[U4 z] w (U4 a)))
    (A2:Hid (∀ w,Mds w→Rt 86 #[U4 z2] w (U4 b)))
    (A3:Hid (∀ w,Mds w→Rt 87 #[U4 x,U4 b] w (U4 c)))
    (A4:Hid (∀ w,Mds w→Rt 87 #[U4 b,U4 z2] w (U4 d)))
    (A5:Hid (∀ w,Mds w→Rt 87 #[U4 y,U4 d] w (U4 ey)))
    (A6:Hid (∀ w,Mds w→Rt 87 #[U4 x2,U4 a] w (U4 f)))
    (A7:Hid (∀ w,Mds w→Rt 124 #[U4 f,U4 c] w (U4 h)))
    (A8:Hid (∀ w,Mds w→Rt 87 #[U4 a,U4 z] w (U4 g)))
    (A9:Hid (∀ w,Mds w→Rt 87 #[U4 y2,U4 g] w (U4 j)))
    (A10:Hid (∀ w,Mds w→Rt 124 #[U4 j,U4 ey] w (U4 r)))
    (HB:Hid (((∀ w,(Op.equalIn 10000 24 (U4 h) (.agg #[.int .u64 0,.int .u64 0,.int .u64 0,.int .u64 0])).run Tryz.prog w = .ok true w)∧Hid (∀ w,Mds w→Rt 125 #[.agg #[.int .u64 (l0 x),.int .u64 (l1 x),.int .u64 (l2 x),.int .u64 (l3 x),.int .u64 (l0 y),.int .u64 (l1 y),.int .u64 (l2 y),.int .u64 (l3 y),.int .u64 (l0 z),.int .u64 (l1 z),.int .u64 (l2 z),.int .u64 (l3 z)],U4 r] w (.agg #[.int .u64 (l0 X),.int .u64 (l1 X),.int .u64 (l2 X),.int .u64 (l3 X),.int .u64 (l0 Y),.int .u64 (l1 Y),.int .u64 (l2 Y),.int .u64 (l3 Y),.int .u64 (l0 Z),.int .u64 (l1 Z),.int .u64 (l2 Z),.int .u64 (l3 Z)]))) ∨
      ((∀ w,(Op.equalIn 10000 24 (U4 h) (.agg #[.int .u64 0,.int .u64 0,.int .u64 0,.int .u64 0])).run Tryz.prog w = .ok false w)∧∃ k m q n p s v1 v2 v3 o1,LateC z z2 c ey h r k m q n p s X v1 v2 v3 Y o1 Z)))
    (w:World) (hm:Mds w) :
    Rt 80 #[.agg #[.int .u64 (l0 x),.int .u64 (l1 x),.int .u64 (l2 x),.int .u64 (l3 x),.int .u64 (l0 y),.int .u64 (l1 y),.int .u64 (l2 y),.int .u64 (l3 y),.int .u64 (l0 z),.int .u64 (l1 z),.int .u64 (l2 z),.int .u64 (l3 z)],.agg #[.int .u64 (l0 x2),.int .u64 (l1 x2),.int .u64 (l2 x2),.int .u64 (l3 x2),.int .u64 (l0 y2),.int .u64 (l1 y2),.int .u64 (l2 y2),.int .u64 (l3 y2),.int .u64 (l0 z2),.int .u64 (l1 z2),.int .u64 (l2 z2),.int .u64 (l3 z2)]] w (.agg #[.int .u64 (l0 X),.int .u64 (l1 X),.int .u64 (l2 X),.int .u64 (l3 X),.int .u64 (l0 Y),.int .u64 (l1 Y),.int .u64 (l2 Y),.int .u64 (l3 Y),.int .u64 (l0 Z),.int .u64 (l1 Z),.int .u64 (l2 Z),.int .u64 (l3 Z)]):=by
  have bz:=bC
  go_enter Tryz.func80,Tryz.ntmps80
  go_wp2_with fail
  refine aa (fun W=>Below w.heap.size w W∧Mds W∧Thr W w.heap.size x y z∧Thr W (w.heap.size+1) x2 y2 z2∧aw W (w.heap.size+1+1)) ⟨by repeat (first|with_reducible exact Below.refl _ _|with_reducible refine Below.alloc ?_ (by first|omega|(simp;done)|(simp;omega)) _),((hm.alloc _).alloc _).alloc _,((Thr.new rfl).alloc _).alloc _,(Thr.new (by simp)).alloc _,aw.new (by simp)⟩ ?_
  rintro W ⟨B,hD,hT,hO,hR⟩
  have o3:w.heap.size≤w.heap.size+1+1:=by omega
  generalize w.heap.size+1+1=br at *
  generalize w.heap.size+1=bo at *
  with_reducible refine (C0.out _).mono ?_
  rintro e w1 ⟨rfl,hb⟩
  replace B:=B.trans (hb.mono B.size)
  replace hD:=hD.keep hb;replace hT:=hT.keep hb;replace hO:=hO.keep hb;replace hR:=hR.keep hb
  clear hb W
  have ghO:=hO.cells
  go_wp2_with fail
  refine aa (fun W=>Below w.heap.size w W∧Mds W∧Thr W w.heap.size x y z∧Thr W bo x2 y2 z2∧aw W br) ⟨B,hD,hT,hO,hR⟩ ?_
  clear B hD hT hO hR ghO
  rintro W ⟨B,hD,hT,hO,hR⟩
  with_reducible refine (C1.out _).mono ?_
  rintro e w2 ⟨rfl,hb⟩
  replace B:=B.trans (hb.mono B.size)
  replace hD:=hD.keep hb;replace hT:=hT.keep hb;replace hO:=hO.keep hb;replace hR:=hR.keep hb
  clear hb W
  go_wp2_with fail
  refine af (fun W=>Below w.heap.size w W∧Mds W∧Thr W w.heap.size x y z∧Thr W bo x2 y2 z2∧aw W br) ⟨B,hD,hT,hO,hR⟩ ?_
  clear B hD hT hO hR
  rintro W ⟨B,hD,hT,hO,hR⟩
  refine gg (A:=?AA1) 6 (by kernel_rfl) (by kernel_rfl) rfl rfl rfl rfl (aB _ _ _) (aB _ _ _) (fun V hV=>?HH1) (fun V V2 w1 hV hw hV2 hw2 hdd=>?TT1)
  case HH1 =>
    have hDg:∀ d os,Mds (grow (redrawn V d) os):=fun d os=>(hD.keep hV).keep (below_regrown V d os)
    have ghT:=(hT.keep hV).grown
    have ghO:=(hO.keep hV).grown
    unfold Gr
    simp only [List.take_succ_cons,List.take_zero]
    repeat
      first
        | go_big_quiet_skip
        | (go_big_quiet_want;go_big_quiet_op;go_big_quiet_on)
        | (go_big_quiet_want
           go_big_quiet_op
           apply Exists.intro
           refine ⟨fun p=>?_,?_⟩
           · (first|(go_at_call 86;with_reducible exact Calls.regrown_of (A1.out _ (hDg p.d p.os)))|(go_at_call 86;with_reducible exact Calls.regrown_of (A2.out _ (hDg p.d p.os))))
           go_big_quiet_on)
    refine wpQuiet_nil ?_
    exact rfl
  case TT1 =>
    have hb:=ap hV hw
    have hN:=(ac.new rfl).keep hw
    have hM:=(ac.new rfl).keep hw2
    have nhD:V.heap.size≠1:=Nat.ne_of_gt (Nat.lt_of_lt_of_le (hD.lt) hV.size)
    have nhT:V.heap.size≠w.heap.size:=Nat.ne_of_gt (Nat.lt_of_lt_of_le (hT.lt) hV.size)
    have nhO:V.heap.size≠bo:=Nat.ne_of_gt (Nat.lt_of_lt_of_le (hO.lt) hV.size)
    have nhR:V.heap.size≠br:=Nat.ne_of_gt (Nat.lt_of_lt_of_le (hR.lt) hV.size)
    have khD:V2.heap.size≠1:=Nat.ne_of_gt (Nat.lt_of_lt_of_le (hD.lt) hV2.size)
    have khT:V2.heap.size≠w.heap.size:=Nat.ne_of_gt (Nat.lt_of_lt_of_le (hT.lt) hV2.size)
    have khO:V2.heap.size≠bo:=Nat.ne_of_gt (Nat.lt_of_lt_of_le (hO.lt) hV2.size)
    have khR:V2.heap.size≠br:=Nat.ne_of_gt (Nat.lt_of_lt_of_le (hR.lt) hV2.size)
    have gn:w.heap.size≤V.heap.size:=Nat.le_trans B.size hV.size
    have gm:w.heap.size≤V2.heap.size:=Nat.le_trans B.size hV2.size
    have hdd2:=hdd.symm
    replace B:=B.trans (hb.mono B.size)
    replace hD:=hD.keep hb;replace hT:=hT.keep hb;replace hO:=hO.keep hb;replace hR:=hR.keep hb
    clear hb hw hV hw2 hV2 W
    generalize V.heap.size=ba at *
    generalize V2.heap.size=bb at *
    clear V V2
    have gN:=hN.1.all4;have qN:=hN.2.all4
    have gM:=hM.1.all4;have qM:=hM.2.all4
    have mhD:=nhD.symm
    have lhD:=khD.symm
    have mhT:=nhT.symm
    have lhT:=khT.symm
    have mhO:=nhO.symm
    have lhO:=khO.symm
    have mhR:=nhR.symm
    have lhR:=khR.symm
    simp only [List.drop_succ_cons,List.drop_zero,Act.put,List.setIfInBounds_toArray,List.set_cons_zero,List.set_cons_succ]
    go_wp2_with fail
    refine af (fun W=>Below w.heap.size w W∧Mds W∧Thr W w.heap.size x y z∧Thr W bo x2 y2 z2∧aw W br∧ab W ba a∧ab W bb b) ⟨ah (ah B gn _ _ _ _) gm _ _ _ _,(hD.set4 nhD _ _ _ _).set4 khD _ _ _ _,(hT.set4 nhT _ _ _ _).set4 khT _ _ _ _,(hO.set4 nhO _ _ _ _).set4 khO _ _ _ _,(hR.set4 nhR _ _ _ _).set4 khR _ _ _ _,(ab.sets4 (ac.has hN)).set4 hdd2 _ _ _ _,ab.sets4 (ac.has (hM.set4 hdd _ _ _ _))⟩ ?_
    clear B hN gN qN hM gM qM hdd hdd2 hD hT hO hR nhD mhD khD lhD nhT mhT khT lhT nhO mhO khO lhO nhR mhR khR lhR  gn gm
    rintro W ⟨B,hD,hT,hO,hR,hA,hB⟩
    clear w1
    refine gg (A:=?AA2) 11 (by kernel_rfl) (by kernel_rfl) rfl rfl rfl rfl (aB _ _ _) (aB _ _ _) (fun V hV=>?HH2) (fun V V2 w1 hV hw hV2 hw2 hdd=>?TT2)
    case HH2 =>
      have hDg:∀ d os,Mds (grow (redrawn V d) os):=fun d os=>(hD.keep hV).keep (below_regrown V d os)
      have ghT:=(hT.keep hV).grown
      have ghO:=(hO.keep hV).grown
      have ghB:=(hB.keep hV).grown
      unfold Gr
      simp only [List.take_succ_cons,List.take_zero]
      repeat
        first
          | go_big_quiet_skip
          | (go_big_quiet_want;go_big_quiet_op;go_big_quiet_on)
          | (go_big_quiet_want
             go_big_quiet_op
             apply Exists.intro
             refine ⟨fun p=>?_,?_⟩
             · (first|(go_at_call 87;with_reducible exact Calls.regrown_of (A3.out _ (hDg p.d p.os)))|(go_at_call 87;with_reducible exact Calls.regrown_of (A4.out _ (hDg p.d p.os)))|(go_at_call 87;with_reducible exact Calls.regrown_of (A5.out _ (hDg p.d p.os))))
             go_big_quiet_on)
      refine wpQuiet_nil ?_
      exact rfl
    case TT2 =>
      have hb:=ap hV hw
      have hN:=(ac.new rfl).keep hw
      have hM:=(ac.new rfl).keep hw2
      have nhD:V.heap.size≠1:=Nat.ne_of_gt (Nat.lt_of_lt_of_le (hD.lt) hV.size)
      have nhT:V.heap.size≠w.heap.size:=Nat.ne_of_gt (Nat.lt_of_lt_of_le (hT.lt) hV.size)
      have nhO:V.heap.size≠bo:=Nat.ne_of_gt (Nat.lt_of_lt_of_le (hO.lt) hV.size)
      have nhR:V.heap.size≠br:=Nat.ne_of_gt (Nat.lt_of_lt_of_le (hR.lt) hV.size)
      have nhA:V.heap.size≠ba:=Nat.ne_of_gt (Nat.lt_of_lt_of_le (World.block_lt_of_cell? _ _ hA.1) hV.size)
      have nhB:V.heap.size≠bb:=Nat.ne_of_gt (Nat.lt_of_lt_of_le (World.block_lt_of_cell? _ _ hB.1) hV.size)
      have khD:V2.heap.size≠1:=Nat.ne_of_gt (Nat.lt_of_lt_of_le (hD.lt) hV2.size)
      have khT:V2.heap.size≠w.heap.size:=Nat.ne_of_gt (Nat.lt_of_lt_of_le (hT.lt) hV2.size)
      have khO:V2.heap.size≠bo:=Nat.ne_of_gt (Nat.lt_of_lt_of_le (hO.lt) hV2.size)
      have khR:V2.heap.size≠br:=Nat.ne_of_gt (Nat.lt_of_lt_of_le (hR.lt) hV2.size)
      have khA:V2.heap.size≠ba:=Nat.ne_of_gt (Nat.lt_of_lt_of_le (World.block_lt_of_cell? _ _ hA.1) hV2.size)
      have khB:V2.heap.size≠bb:=Nat.ne_of_gt (Nat.lt_of_lt_of_le (World.block_lt_of_cell? _ _ hB.1) hV2.size)
      have gn:w.heap.size≤V.heap.size:=Nat.le_trans B.size hV.size
      have gm:w.heap.size≤V2.heap.size:=Nat.le_trans B.size hV2.size
      have hdd2:=hdd.symm
      replace B:=B.trans (hb.mono B.size)
      replace hD:=hD.keep hb;replace hT:=hT.keep hb;replace hO:=hO.keep hb;replace hR:=hR.keep hb;replace hA:=hA.keep hb;replace hB:=hB.keep hb
      clear hb hw hV hw2 hV2 W
      generalize V.heap.size=bc at *
      generalize V2.heap.size=be at *
      clear V V2
      have gN:=hN.1.all4;have qN:=hN.2.all4
      have gM:=hM.1.all4;have qM:=hM.2.all4
      have mhD:=nhD.symm
      have lhD:=khD.symm
      have mhT:=nhT.symm
      have lhT:=khT.symm
      have mhO:=nhO.symm
      have lhO:=khO.symm
      have mhR:=nhR.symm
      have lhR:=khR.symm
      have mhA:=nhA.symm
      have lhA:=khA.symm
      have mhB:=nhB.symm
      have lhB:=khB.symm
      simp only [List.drop_succ_cons,List.drop_zero,Act.put,List.setIfInBounds_toArray,List.set_cons_zero,List.set_cons_succ]
      go_wp2_with fail
      refine af (fun W=>Below w.heap.size w W∧Mds W∧Thr W w.heap.size x y z∧Thr W bo x2 y2 z2∧aw W br∧ab W ba a∧ab W bb b∧ab W bc c∧ab W be ey) ⟨ah (ah B gn _ _ _ _) gm _ _ _ _,(hD.set4 nhD _ _ _ _).set4 khD _ _ _ _,(hT.set4 nhT _ _ _ _).set4 khT _ _ _ _,(hO.set4 nhO _ _ _ _).set4 khO _ _ _ _,(hR.set4 nhR _ _ _ _).set4 khR _ _ _ _,(hA.set4 nhA _ _ _ _).set4 khA _ _ _ _,(hB.set4 nhB _ _ _ _).set4 khB _ _ _ _,(ab.sets4 (ac.has hN)).set4 hdd2 _ _ _ _,ab.sets4 (ac.has (hM.set4 hdd _ _ _ _))⟩ ?_
      clear B hN gN qN hM gM qM hdd hdd2 hD hT hO hR hA hB nhD mhD khD lhD nhT mhT khT lhT nhO mhO khO lhO nhR mhR khR lhR nhA mhA khA lhA nhB mhB khB lhB  gn gm
      rintro W ⟨B,hD,hT,hO,hR,hA,hB,hC,hE⟩
      clear w1
      clear hB
      refine aD (A:=?AA3) 6 (by kernel_rfl) (by kernel_rfl) rfl rfl (aB _ _ _) (fun V hV=>?HH3) (fun V w1 hV hw=>?TT3)
      case HH3 =>
        have hDg:∀ d os,Mds (grow (redrawn V d) os):=fun d os=>(hD.keep hV).keep (below_regrown V d os)
        have ghO:=(hO.keep hV).grown
        have ghA:=(hA.keep hV).grown
        have ghC:=(hC.keep hV).grown
        unfold Gr
        simp only [List.take_succ_cons,List.take_zero]
        repeat
          first
            | go_big_quiet_skip
            | (go_big_quiet_want;go_big_quiet_op;go_big_quiet_on)
            | (go_big_quiet_want
               go_big_quiet_op
               apply Exists.intro
               refine ⟨fun p=>?_,?_⟩
               · (first|(go_at_call 87;with_reducible exact Calls.regrown_of (A6.out _ (hDg p.d p.os)))|(go_at_call 124;with_reducible exact Calls.regrown_of (A7.out _ (hDg p.d p.os))))
               go_big_quiet_on)
        refine wpQuiet_nil ?_
        exact rfl
      case TT3 =>
        have hb:=ap hV hw
        have hN:=(ac.new rfl).keep hw
        have nhD:V.heap.size≠1:=Nat.ne_of_gt (Nat.lt_of_lt_of_le (hD.lt) hV.size)
        have nhT:V.heap.size≠w.heap.size:=Nat.ne_of_gt (Nat.lt_of_lt_of_le (hT.lt) hV.size)
        have nhO:V.heap.size≠bo:=Nat.ne_of_gt (Nat.lt_of_lt_of_le (hO.lt) hV.size)
        have nhR:V.heap.size≠br:=Nat.ne_of_gt (Nat.lt_of_lt_of_le (hR.lt) hV.size)
        have nhA:V.heap.size≠ba:=Nat.ne_of_gt (Nat.lt_of_lt_of_le (World.block_lt_of_cell? _ _ hA.1) hV.size)
        have nhC:V.heap.size≠bc:=Nat.ne_of_gt (Nat.lt_of_lt_of_le (World.block_lt_of_cell? _ _ hC.1) hV.size)
        have nhE:V.heap.size≠be:=Nat.ne_of_gt (Nat.lt_of_lt_of_le (World.block_lt_of_cell? _ _ hE.1) hV.size)
        have gn:w.heap.size≤V.heap.size:=Nat.le_trans B.size hV.size
        replace B:=B.trans (hb.mono B.size)
        replace hD:=hD.keep hb;replace hT:=hT.keep hb;replace hO:=hO.keep hb;replace hR:=hR.keep hb;replace hA:=hA.keep hb;replace hC:=hC.keep hb;replace hE:=hE.keep hb
        clear hb hw hV W
        generalize V.heap.size=bh at *
        clear V
        have gN:=hN.1.all4;have qN:=hN.2.all4
        have mhD:=nhD.symm
        have mhT:=nhT.symm
        have mhO:=nhO.symm
        have mhR:=nhR.symm
        have mhA:=nhA.symm
        have mhC:=nhC.symm
        have mhE:=nhE.symm
        simp only [List.drop_succ_cons,List.drop_zero,Act.put,List.setIfInBounds_toArray,List.set_cons_zero,List.set_cons_succ]
        go_wp2_with fail
        refine af (fun W=>Below w.heap.size w W∧Mds W∧Thr W w.heap.size x y z∧Thr W bo x2 y2 z2∧aw W br∧ab W ba a∧ab W bc c∧ab W be ey∧ab W bh h) ⟨ah B gn _ _ _ _,hD.set4 nhD _ _ _ _,hT.set4 nhT _ _ _ _,hO.set4 nhO _ _ _ _,hR.set4 nhR _ _ _ _,hA.set4 nhA _ _ _ _,hC.set4 nhC _ _ _ _,hE.set4 nhE _ _ _ _,ab.sets4 (ac.has hN)⟩ ?_
        clear B hN gN qN hD hT hO hR hA hC hE nhD mhD nhT mhT nhO mhO nhR mhR nhA mhA nhC mhC nhE mhE  gn
        rintro W ⟨B,hD,hT,hO,hR,hA,hC,hE,hH⟩
        clear w1
        clear C0 C1 A1 A2 A3 A4 A5 A6 A7
        rcases HB.out with ⟨he,CS⟩|⟨he,k,m,q,n,p,s,v1,v2,v3,o1,L⟩
        · clear HB
          refine aD (A:=?AA4) 9 (by kernel_rfl) (by kernel_rfl) rfl rfl (aB _ _ _) (fun V hV=>?HH4) (fun V w1 hV hw=>?TT4)
          case HH4 =>
            have hDg:∀ d os,Mds (grow (redrawn V d) os):=fun d os=>(hD.keep hV).keep (below_regrown V d os)
            have ghT:=(hT.keep hV).grown
            have ghO:=(hO.keep hV).grown
            have ghA:=(hA.keep hV).grown
            have ghE:=(hE.keep hV).grown
            unfold Gr
            simp only [List.take_succ_cons,List.take_zero]
            repeat
              first
                | go_big_quiet_skip
                | (go_big_quiet_want;go_big_quiet_op;go_big_quiet_on)
                | (go_big_quiet_want
                   go_big_quiet_op
                   apply Exists.intro
                   refine ⟨fun p=>?_,?_⟩
                   · (first|(go_at_call 87;with_reducible exact Calls.regrown_of (A8.out _ (hDg p.d p.os)))|(go_at_call 87;with_reducible exact Calls.regrown_of (A9.out _ (hDg p.d p.os)))|(go_at_call 124;with_reducible exact Calls.regrown_of (A10.out _ (hDg p.d p.os))))
                   go_big_quiet_on)
            refine wpQuiet_nil ?_
            exact rfl
          case TT4 =>
            have hb:=ap hV hw
            have hN:=(ac.new rfl).keep hw
            have nhD:V.heap.size≠1:=Nat.ne_of_gt (Nat.lt_of_lt_of_le (hD.lt) hV.size)
            have nhT:V.heap.size≠w.heap.size:=Nat.ne_of_gt (Nat.lt_of_lt_of_le (hT.lt) hV.size)
            have nhO:V.heap.size≠bo:=Nat.ne_of_gt (Nat.lt_of_lt_of_le (hO.lt) hV.size)
            have nhR:V.heap.size≠br:=Nat.ne_of_gt (Nat.lt_of_lt_of_le (hR.lt) hV.size)
            have nhA:V.heap.size≠ba:=Nat.ne_of_gt (Nat.lt_of_lt_of_le (World.block_lt_of_cell? _ _ hA.1) hV.size)
            have nhC:V.heap.size≠bc:=Nat.ne_of_gt (Nat.lt_of_lt_of_le (World.block_lt_of_cell? _ _ hC.1) hV.size)
            have nhE:V.heap.size≠be:=Nat.ne_of_gt (Nat.lt_of_lt_of_le (World.block_lt_of_cell? _ _ hE.1) hV.size)
            have nhH:V.heap.size≠bh:=Nat.ne_of_gt (Nat.lt_of_lt_of_le (World.block_lt_of_cell? _ _ hH.1) hV.size)
            have gn:w.heap.size≤V.heap.size:=Nat.le_trans B.size hV.size
            replace B:=B.trans (hb.mono B.size)
            replace hD:=hD.keep hb;replace hT:=hT.keep hb;replace hO:=hO.keep hb;replace hR:=hR.keep hb;replace hA:=hA.keep hb;replace hC:=hC.keep hb;replace hE:=hE.keep hb;replace hH:=hH.keep hb
            clear hb hw hV W
            generalize V.heap.size=bg at *
            clear V
            have gN:=hN.1.all4;have qN:=hN.2.all4
            have ghT:=hT.cells
            have ghH:=hH.cells
            have mhD:=nhD.symm
            have mhT:=nhT.symm
            have mhO:=nhO.symm
            have mhR:=nhR.symm
            have mhA:=nhA.symm
            have mhC:=nhC.symm
            have mhE:=nhE.symm
            have mhH:=nhH.symm
            simp only [List.drop_succ_cons,List.drop_zero,Act.put,List.setIfInBounds_toArray,List.set_cons_zero,List.set_cons_succ]
            go_wp2_with fail
            refine aa (fun W=>Below w.heap.size w W∧Mds W∧Thr W w.heap.size x y z∧Thr W bo x2 y2 z2∧aw W br∧ab W ba a∧ab W bc c∧ab W be ey∧ab W bh h∧ab W bg r) ⟨ah B gn _ _ _ _,hD.set4 nhD _ _ _ _,hT.set4 nhT _ _ _ _,hO.set4 nhO _ _ _ _,hR.set4 nhR _ _ _ _,hA.set4 nhA _ _ _ _,hC.set4 nhC _ _ _ _,hE.set4 nhE _ _ _ _,hH.set4 nhH _ _ _ _,ab.sets4 (ac.has hN)⟩ ?_
            clear B hN gN qN hD hT hO hR hA hC hE hH nhD mhD nhT mhT nhO mhO nhR mhR nhA mhA nhC mhC nhE mhE nhH mhH ghT ghH gn
            rintro W ⟨B,hD,hT,hO,hR,hA,hC,hE,hH,hG⟩
            clear w1
            with_reducible refine (CS.out _ hD).mono ?_
            rintro e w9 ⟨rfl,hb⟩
            replace B:=B.trans (hb.mono B.size)
            replace hD:=hD.keep hb;replace hT:=hT.keep hb;replace hO:=hO.keep hb;replace hR:=hR.keep hb;replace hA:=hA.keep hb;replace hC:=hC.keep hb;replace hE:=hE.keep hb;replace hH:=hH.keep hb;replace hG:=hG.keep hb
            clear hb W hD hT hO hA hC hE hH hG
            have gR:=hR.cells;have fR:=hR.free
            go_wp2
            simp [bodyPost,results,Tryz.results80,go_sem,gR]
            repeat (first|with_reducible exact B|with_reducible refine Below.setCell ?_ o3 _)
        · clear HB
          obtain ⟨A11,A12,A13,A14,A15,A16,A17,A18,A19,A20,A21,A22,A23⟩:=L
          refine aD (A:=?AA5) 9 (by kernel_rfl) (by kernel_rfl) rfl rfl (aB _ _ _) (fun V hV=>?HH5) (fun V w1 hV hw=>?TT5)
          case HH5 =>
            have hDg:∀ d os,Mds (grow (redrawn V d) os):=fun d os=>(hD.keep hV).keep (below_regrown V d os)
            have ghT:=(hT.keep hV).grown
            have ghO:=(hO.keep hV).grown
            have ghA:=(hA.keep hV).grown
            have ghE:=(hE.keep hV).grown
            unfold Gr
            simp only [List.take_succ_cons,List.take_zero]
            repeat
              first
                | go_big_quiet_skip
                | (go_big_quiet_want;go_big_quiet_op;go_big_quiet_on)
                | (go_big_quiet_want
                   go_big_quiet_op
                   apply Exists.intro
                   refine ⟨fun p=>?_,?_⟩
                   · (first|(go_at_call 87;with_reducible exact Calls.regrown_of (A8.out _ (hDg p.d p.os)))|(go_at_call 87;with_reducible exact Calls.regrown_of (A9.out _ (hDg p.d p.os)))|(go_at_call 124;with_reducible exact Calls.regrown_of (A10.out _ (hDg p.d p.os))))
                   go_big_quiet_on)
            refine wpQuiet_nil ?_
            exact rfl
          case TT5 =>
            have hb:=ap hV hw
            have hN:=(ac.new rfl).keep hw
            have nhD:V.heap.size≠1:=Nat.ne_of_gt (Nat.lt_of_lt_of_le (hD.lt) hV.size)
            have nhT:V.heap.size≠w.heap.size:=Nat.ne_of_gt (Nat.lt_of_lt_of_le (hT.lt) hV.size)
            have nhO:V.heap.size≠bo:=Nat.ne_of_gt (Nat.lt_of_lt_of_le (hO.lt) hV.size)
            have nhR:V.heap.size≠br:=Nat.ne_of_gt (Nat.lt_of_lt_of_le (hR.lt) hV.size)
            have nhA:V.heap.size≠ba:=Nat.ne_of_gt (Nat.lt_of_lt_of_le (World.block_lt_of_cell? _ _ hA.1) hV.size)
            have nhC:V.heap.size≠bc:=Nat.ne_of_gt (Nat.lt_of_lt_of_le (World.block_lt_of_cell? _ _ hC.1) hV.size)
            have nhE:V.heap.size≠be:=Nat.ne_of_gt (Nat.lt_of_lt_of_le (World.block_lt_of_cell? _ _ hE.1) hV.size)
            have nhH:V.heap.size≠bh:=Nat.ne_of_gt (Nat.lt_of_lt_of_le (World.block_lt_of_cell? _ _ hH.1) hV.size)
            have gn:w.heap.size≤V.heap.size:=Nat.le_trans B.size hV.size
            replace B:=B.trans (hb.mono B.size)
            replace hD:=hD.keep hb;replace hT:=hT.keep hb;replace hO:=hO.keep hb;replace hR:=hR.keep hb;replace hA:=hA.keep hb;replace hC:=hC.keep hb;replace hE:=hE.keep hb;replace hH:=hH.keep hb
            clear hb hw hV W
            generalize V.heap.size=bg at *
            clear V
            have gN:=hN.1.all4;have qN:=hN.2.all4
            have ghH:=hH.cells
            have mhD:=nhD.symm
            have mhT:=nhT.symm
            have mhO:=nhO.symm
            have mhR:=nhR.symm
            have mhA:=nhA.symm
            have mhC:=nhC.symm
            have mhE:=nhE.symm
            have mhH:=nhH.symm
            simp only [List.drop_succ_cons,List.drop_zero,Act.put,List.setIfInBounds_toArray,List.set_cons_zero,List.set_cons_succ]
            go_wp2_with fail
            refine aa (fun W=>Below w.heap.size w W∧Mds W∧Thr W w.heap.size x y z∧Thr W bo x2 y2 z2∧aw W br∧ab W ba a∧ab W bc c∧ab W be ey∧ab W bh h∧ab W bg r) ⟨ah B gn _ _ _ _,hD.set4 nhD _ _ _ _,hT.set4 nhT _ _ _ _,hO.set4 nhO _ _ _ _,hR.set4 nhR _ _ _ _,hA.set4 nhA _ _ _ _,hC.set4 nhC _ _ _ _,hE.set4 nhE _ _ _ _,hH.set4 nhH _ _ _ _,ab.sets4 (ac.has hN)⟩ ?_
            clear B hN gN qN hD hT hO hR hA hC hE hH nhD mhD nhT mhT nhO mhO nhR mhR nhA mhA nhC mhC nhE mhE nhH mhH ghH gn
            rintro W ⟨B,hD,hT,hO,hR,hA,hC,hE,hH,hG⟩
            clear w1
            clear hA
            with_reducible refine (A11.out _ hD).mono ?_
            rintro e w3 ⟨rfl,hb⟩
            replace B:=B.trans (hb.mono B.size)
            replace hD:=hD.keep hb;replace hT:=hT.keep hb;replace hO:=hO.keep hb;replace hR:=hR.keep hb;replace hC:=hC.keep hb;replace hE:=hE.keep hb;replace hH:=hH.keep hb;replace hG:=hG.keep hb
            clear hb W
            have ghH:=hH.allocs
            go_wp2_with fail
            refine aa (fun W=>Below w.heap.size w W∧Mds W∧Thr W w.heap.size x y z∧Thr W bo x2 y2 z2∧aw W br∧ab W bc c∧ab W be ey∧ab W bh h∧ab W bg r∧ab W w3.heap.size k) ⟨B.alloc B.size _,hD.alloc _,hT.alloc _,hO.alloc _,hR.alloc _,hC.alloc _,hE.alloc _,hH.alloc _,hG.alloc _,ab.new _ _ _⟩ ?_
            clear B hD hT hO hR hC hE hH hG ghH
            rintro W ⟨B,hD,hT,hO,hR,hC,hE,hH,hG,hK⟩
            generalize w3.heap.size=bk at *
            with_reducible refine (A12.out _ hD).mono ?_
            rintro e w4 ⟨rfl,hb⟩
            replace B:=B.trans (hb.mono B.size)
            replace hD:=hD.keep hb;replace hT:=hT.keep hb;replace hO:=hO.keep hb;replace hR:=hR.keep hb;replace hC:=hC.keep hb;replace hE:=hE.keep hb;replace hH:=hH.keep hb;replace hG:=hG.keep hb;replace hK:=hK.keep hb
            clear hb W
            have ghC:=hC.allocs
            have ghK:=hK.allocs
            go_wp2_with fail
            refine aa (fun W=>Below w.heap.size w W∧Mds W∧Thr W w.heap.size x y z∧Thr W bo x2 y2 z2∧aw W br∧ab W bc c∧ab W be ey∧ab W bh h∧ab W bg r∧ab W bk k∧ab W w4.heap.size m) ⟨B.alloc B.size _,hD.alloc _,hT.alloc _,hO.alloc _,hR.alloc _,hC.alloc _,hE.alloc _,hH.alloc _,hG.alloc _,hK.alloc _,ab.new _ _ _⟩ ?_
            clear B hD hT hO hR hC hE hH hG hK ghC ghK
            rintro W ⟨B,hD,hT,hO,hR,hC,hE,hH,hG,hK,hM1⟩
            generalize w4.heap.size=bm at *
            with_reducible refine (A13.out _ hD).mono ?_
            rintro e w5 ⟨rfl,hb⟩
            replace B:=B.trans (hb.mono B.size)
            replace hD:=hD.keep hb;replace hT:=hT.keep hb;replace hO:=hO.keep hb;replace hR:=hR.keep hb;replace hC:=hC.keep hb;replace hE:=hE.keep hb;replace hH:=hH.keep hb;replace hG:=hG.keep hb;replace hK:=hK.keep hb;replace hM1:=hM1.keep hb
            clear hb W
            go_wp2_with fail
            refine af (fun W=>Below w.heap.size w W∧Mds W∧Thr W w.heap.size x y z∧Thr W bo x2 y2 z2∧aw W br∧ab W bc c∧ab W be ey∧ab W bh h∧ab W bg r∧ab W bk k∧ab W bm m∧ab W w5.heap.size q) ⟨B.alloc B.size _,hD.alloc _,hT.alloc _,hO.alloc _,hR.alloc _,hC.alloc _,hE.alloc _,hH.alloc _,hG.alloc _,hK.alloc _,hM1.alloc _,ab.new _ _ _⟩ ?_
            clear B hD hT hO hR hC hE hH hG hK hM1
            rintro W ⟨B,hD,hT,hO,hR,hC,hE,hH,hG,hK,hM1,hQ⟩
            generalize w5.heap.size=bq at *
            clear hK hC
            refine aD (A:=?AA6) 7 (by kernel_rfl) (by kernel_rfl) rfl rfl (aB _ _ _) (fun V hV=>?HH6) (fun V w1 hV hw=>?TT6)
            case HH6 =>
              have hDg:∀ d os,Mds (grow (redrawn V d) os):=fun d os=>(hD.keep hV).keep (below_regrown V d os)
              have ghG:=(hG.keep hV).grown
              have ghM1:=(hM1.keep hV).grown
              have ghQ:=(hQ.keep hV).grown
              unfold Gr
              simp only [List.take_succ_cons,List.take_zero]
              repeat
                first
                  | go_big_quiet_skip
                  | (go_big_quiet_want;go_big_quiet_op;go_big_quiet_on)
                  | (go_big_quiet_want
                     go_big_quiet_op
                     apply Exists.intro
                     refine ⟨fun p=>?_,?_⟩
                     · (first|(go_at_call 86;with_reducible exact Calls.regrown_of (A14.out _ (hDg p.d p.os)))|(go_at_call 124;with_reducible exact Calls.regrown_of (A15.out _ (hDg p.d p.os)))|(go_at_call 123;with_reducible exact Calls.regrown_of (A16.out _ (hDg p.d p.os)))|(go_at_call 124;with_reducible exact Calls.regrown_of (A17.out _ (hDg p.d p.os))))
                     go_big_quiet_on)
              refine wpQuiet_nil ?_
              exact rfl
            case TT6 =>
              have hb:=ap hV hw
              have hN:=(ac.new rfl).keep hw
              have nhD:V.heap.size≠1:=Nat.ne_of_gt (Nat.lt_of_lt_of_le (hD.lt) hV.size)
              have nhT:V.heap.size≠w.heap.size:=Nat.ne_of_gt (Nat.lt_of_lt_of_le (hT.lt) hV.size)
              have nhO:V.heap.size≠bo:=Nat.ne_of_gt (Nat.lt_of_lt_of_le (hO.lt) hV.size)
              have nhR:V.heap.size≠br:=Nat.ne_of_gt (Nat.lt_of_lt_of_le (hR.lt) hV.size)
              have nhE:V.heap.size≠be:=Nat.ne_of_gt (Nat.lt_of_lt_of_le (World.block_lt_of_cell? _ _ hE.1) hV.size)
              have nhH:V.heap.size≠bh:=Nat.ne_of_gt (Nat.lt_of_lt_of_le (World.block_lt_of_cell? _ _ hH.1) hV.size)
              have nhG:V.heap.size≠bg:=Nat.ne_of_gt (Nat.lt_of_lt_of_le (World.block_lt_of_cell? _ _ hG.1) hV.size)
              have nhM1:V.heap.size≠bm:=Nat.ne_of_gt (Nat.lt_of_lt_of_le (World.block_lt_of_cell? _ _ hM1.1) hV.size)
              have nhQ:V.heap.size≠bq:=Nat.ne_of_gt (Nat.lt_of_lt_of_le (World.block_lt_of_cell? _ _ hQ.1) hV.size)
              have gn:w.heap.size≤V.heap.size:=Nat.le_trans B.size hV.size
              replace B:=B.trans (hb.mono B.size)
              replace hD:=hD.keep hb;replace hT:=hT.keep hb;replace hO:=hO.keep hb;replace hR:=hR.keep hb;replace hE:=hE.keep hb;replace hH:=hH.keep hb;replace hG:=hG.keep hb;replace hM1:=hM1.keep hb;replace hQ:=hQ.keep hb
              clear hb hw hV W
              generalize V.heap.size=bu at *
              clear V
              have gN:=hN.1.all4;have qN:=hN.2.all4
              have mhD:=nhD.symm
              have mhT:=nhT.symm
              have mhO:=nhO.symm
              have mhR:=nhR.symm
              have mhE:=nhE.symm
              have mhH:=nhH.symm
              have mhG:=nhG.symm
              have mhM1:=nhM1.symm
              have mhQ:=nhQ.symm
              simp only [List.drop_succ_cons,List.drop_zero,Act.put,List.setIfInBounds_toArray,List.set_cons_zero,List.set_cons_succ]
              go_wp2_with fail
              refine af (fun W=>Below w.heap.size w W∧Mds W∧Thr W w.heap.size x y z∧Thr W bo x2 y2 z2∧aw W br∧ab W be ey∧ab W bh h∧ab W bg r∧ab W bm m∧ab W bq q∧ab W bu X) ⟨ah B gn _ _ _ _,hD.set4 nhD _ _ _ _,hT.set4 nhT _ _ _ _,hO.set4 nhO _ _ _ _,hR.set4 nhR _ _ _ _,hE.set4 nhE _ _ _ _,hH.set4 nhH _ _ _ _,hG.set4 nhG _ _ _ _,hM1.set4 nhM1 _ _ _ _,hQ.set4 nhQ _ _ _ _,ab.sets4 (ac.has hN)⟩ ?_
              clear B hN gN qN hD hT hO hR hE hH hG hM1 hQ nhD mhD nhT mhT nhO mhO nhR mhR nhE mhE nhH mhH nhG mhG nhM1 mhM1 nhQ mhQ  gn
              rintro W ⟨B,hD,hT,hO,hR,hE,hH,hG,hM1,hQ,hU⟩
              clear w1
              refine aD (A:=?AA7) 9 (by kernel_rfl) (by kernel_rfl) rfl rfl (aB _ _ _) (fun V hV=>?HH7) (fun V w1 hV hw=>?TT7)
              case HH7 =>
                have hDg:∀ d os,Mds (grow (redrawn V d) os):=fun d os=>(hD.keep hV).keep (below_regrown V d os)
                have ghE:=(hE.keep hV).grown
                have ghG:=(hG.keep hV).grown
                have ghM1:=(hM1.keep hV).grown
                have ghQ:=(hQ.keep hV).grown
                have ghU:=(hU.keep hV).grown
                unfold Gr
                simp only [List.take_succ_cons,List.take_zero]
                repeat
                  first
                    | go_big_quiet_skip
                    | (go_big_quiet_want;go_big_quiet_op;go_big_quiet_on)
                    | (go_big_quiet_want
                       go_big_quiet_op
                       apply Exists.intro
                       refine ⟨fun p=>?_,?_⟩
                       · (first|(go_at_call 124;with_reducible exact Calls.regrown_of (A18.out _ (hDg p.d p.os)))|(go_at_call 87;with_reducible exact Calls.regrown_of (A19.out _ (hDg p.d p.os)))|(go_at_call 87;with_reducible exact Calls.regrown_of (A20.out _ (hDg p.d p.os)))|(go_at_call 124;with_reducible exact Calls.regrown_of (A21.out _ (hDg p.d p.os))))
                       go_big_quiet_on)
                refine wpQuiet_nil ?_
                exact rfl
              case TT7 =>
                have hb:=ap hV hw
                have hN:=(ac.new rfl).keep hw
                have nhD:V.heap.size≠1:=Nat.ne_of_gt (Nat.lt_of_lt_of_le (hD.lt) hV.size)
                have nhT:V.heap.size≠w.heap.size:=Nat.ne_of_gt (Nat.lt_of_lt_of_le (hT.lt) hV.size)
                have nhO:V.heap.size≠bo:=Nat.ne_of_gt (Nat.lt_of_lt_of_le (hO.lt) hV.size)
                have nhR:V.heap.size≠br:=Nat.ne_of_gt (Nat.lt_of_lt_of_le (hR.lt) hV.size)
                have nhE:V.heap.size≠be:=Nat.ne_of_gt (Nat.lt_of_lt_of_le (World.block_lt_of_cell? _ _ hE.1) hV.size)
                have nhH:V.heap.size≠bh:=Nat.ne_of_gt (Nat.lt_of_lt_of_le (World.block_lt_of_cell? _ _ hH.1) hV.size)
                have nhG:V.heap.size≠bg:=Nat.ne_of_gt (Nat.lt_of_lt_of_le (World.block_lt_of_cell? _ _ hG.1) hV.size)
                have nhM1:V.heap.size≠bm:=Nat.ne_of_gt (Nat.lt_of_lt_of_le (World.block_lt_of_cell? _ _ hM1.1) hV.size)
                have nhQ:V.heap.size≠bq:=Nat.ne_of_gt (Nat.lt_of_lt_of_le (World.block_lt_of_cell? _ _ hQ.1) hV.size)
                have nhU:V.heap.size≠bu:=Nat.ne_of_gt (Nat.lt_of_lt_of_le (World.block_lt_of_cell? _ _ hU.1) hV.size)
                have gn:w.heap.size≤V.heap.size:=Nat.le_trans B.size hV.size
                replace B:=B.trans (hb.mono B.size)
                replace hD:=hD.keep hb;replace hT:=hT.keep hb;replace hO:=hO.keep hb;replace hR:=hR.keep hb;replace hE:=hE.keep hb;replace hH:=hH.keep hb;replace hG:=hG.keep hb;replace hM1:=hM1.keep hb;replace hQ:=hQ.keep hb;replace hU:=hU.keep hb
                clear hb hw hV W
                generalize V.heap.size=bv at *
                clear V
                have gN:=hN.1.all4;have qN:=hN.2.all4
                have mhD:=nhD.symm
                have mhT:=nhT.symm
                have mhO:=nhO.symm
                have mhR:=nhR.symm
                have mhE:=nhE.symm
                have mhH:=nhH.symm
                have mhG:=nhG.symm
                have mhM1:=nhM1.symm
                have mhQ:=nhQ.symm
                have mhU:=nhU.symm
                simp only [List.drop_succ_cons,List.drop_zero,Act.put,List.setIfInBounds_toArray,List.set_cons_zero,List.set_cons_succ]
                go_wp2_with fail
                refine af (fun W=>Below w.heap.size w W∧Mds W∧Thr W w.heap.size x y z∧Thr W bo x2 y2 z2∧aw W br∧ab W be ey∧ab W bh h∧ab W bg r∧ab W bm m∧ab W bq q∧ab W bu X∧ab W bv Y) ⟨ah B gn _ _ _ _,hD.set4 nhD _ _ _ _,hT.set4 nhT _ _ _ _,hO.set4 nhO _ _ _ _,hR.set4 nhR _ _ _ _,hE.set4 nhE _ _ _ _,hH.set4 nhH _ _ _ _,hG.set4 nhG _ _ _ _,hM1.set4 nhM1 _ _ _ _,hQ.set4 nhQ _ _ _ _,hU.set4 nhU _ _ _ _,ab.sets4 (ac.has hN)⟩ ?_
                clear B hN gN qN hD hT hO hR hE hH hG hM1 hQ hU nhD mhD nhT mhT nhO mhO nhR mhR nhE mhE nhH mhH nhG mhG nhM1 mhM1 nhQ mhQ nhU mhU  gn
                rintro W ⟨B,hD,hT,hO,hR,hE,hH,hG,hM1,hQ,hU,hV1⟩
                clear w1
                have ghT:=hT.grown
                have ghO:=hO.grown
                have ghU:=hU.grown
                have ghV1:=hV1.grown
                have ghH:=hH.grown
                have hDg:∀ d os,Mds (grow (redrawn W d) os):=fun d os=>hD.keep (below_regrown W d os)
                refine aL 10 (by kernel_rfl) (by kernel_rfl) ?_
                simp only [List.take_succ_cons,List.take_zero,List.drop_succ_cons,List.drop_zero]
                repeat
                  first
                    | go_big_quiet_skip
                    | (go_big_quiet_want;go_big_quiet_op;go_big_quiet_on)
                    | (go_big_quiet_want
                       go_big_quiet_op
                       apply Exists.intro
                       refine ⟨fun p=>?_,?_⟩
                       · (first|(go_at_call 87;with_reducible exact Calls.regrown_of (A22.out _ (hDg p.d p.os)))|(go_at_call 87;with_reducible exact Calls.regrown_of (A23.out _ (hDg p.d p.os))))
                       go_big_quiet_on)
                refine wpQuiet_nil ?_
                rintro w6 ⟨p,rfl⟩
                have hb:=below_regrown W p.d p.os
                generalize grow (redrawn W p.d) p.os=w6 at *
                replace B:=B.trans (hb.mono B.size)
                replace hD:=hD.keep hb;replace hT:=hT.keep hb;replace hO:=hO.keep hb;replace hR:=hR.keep hb;replace hE:=hE.keep hb;replace hH:=hH.keep hb;replace hG:=hG.keep hb;replace hM1:=hM1.keep hb;replace hQ:=hQ.keep hb;replace hU:=hU.keep hb;replace hV1:=hV1.keep hb
                clear hb W ghT ghO ghU ghV1 ghH hDg
                have gR:=hR.cells;have fR:=hR.free
                go_wp2
                simp [bodyPost,results,Tryz.results80,go_sem,gR]
                repeat (first|with_reducible exact B|with_reducible refine Below.setCell ?_ o3 _)
end Go.Proofs.YtnnnaajgjniiaaaGreatDoor
