import Derived.Test.YtjoandmehahfgaaGreatDoorLeaf
import Derived.LoopN
import Derived.BigRegion
import Derived.Deep.RegionWith
set_option maxHeartbeats 1000000
namespace Go.Proofs.YtjoandmehahfgaaGreatDoor
open Go.RowKit
theorem uH {x0 x1 x2 x3 y0 y1 y2 y3:Int} (hx0:aj x0) (hx1:aj x1) (hx2:aj x2) (hx3:aj x3) (hy0:aj y0) (hy1:aj y1) (hy2:aj y2) (hy3:aj y3) (w:World) :
  Calls Tryz.prog 95 #[.agg #[.int .u64 x0,.int .u64 x1,.int .u64 x2,.int .u64 x3],.agg #[.int .u64 y0,.int .u64 y1,.int .u64 y2,.int .u64 y3]] w fun e w' =>
   e = .returned (.tuple #[.agg #[.int .u64 (dv x0 y0 0),.int .u64 (dv x1 y1 (cY x0 y0 0)),.int .u64 (dv x2 y2 (cY x1 y1 (cY x0 y0 0))),.int .u64 (dv x3 y3 (cY x2 y2 (cY x1 y1 (cY x0 y0 0))))],.int .u64 (cY x3 y3 (cY x2 y2 (cY x1 y1 (cY x0 y0 0))))])∧Below w.heap.size w w':=by
 have z:(0:Int)≤0∧(0:Int)≤1:=by decide
 have c0:=ii hx0 hy0 z
 have c1:=ii hx1 hy1 c0
 have c2:=ii hx2 hy2 c1
 have g0:=oH hx0 hy0 z
 have g1:=oH hx1 hy1 c0
 have g2:=oH hx2 hy2 c1
 have g3:=oH hx3 hy3 c2
 clear z c0 c1 c2
 go_enter Tryz.func95,Tryz.ntmps95
 go_wp2
 refine wp_loop_rounds 5 ?_
 rw [rounds_succ];go_wp2;go_region;go_wp2
 rw [rounds_succ];go_wp2;go_region;go_wp2
 rw [rounds_succ];go_wp2;go_region;go_wp2
 rw [rounds_succ];go_wp2;go_region;go_wp2
 rw [rounds_succ];go_wp2
 simp [bodyPost,results,Tryz.results95,go_sem]
 repeat (first|with_reducible exact Below.refl _ _|with_reducible refine Below.drew ?_|with_reducible refine Below.alloc ?_ (by first|omega|(simp;done)|(simp;omega)) _)
theorem jO {n m:Int} (hn:Num n) (hm:Num m) (w:World) :
  Calls Tryz.prog 95 #[.agg #[.int .u64 (l0 n),.int .u64 (l1 n),.int .u64 (l2 n),.int .u64 (l3 n)],.agg #[.int .u64 (l0 m),.int .u64 (l1 m),.int .u64 (l2 m),.int .u64 (l3 m)]] w fun e w' =>
   e = .returned (.tuple #[.agg #[.int .u64 (l0 (fM n m)),.int .u64 (l1 (fM n m)),.int .u64 (l2 (fM n m)),.int .u64 (l3 (fM n m))],.int .u64 (fm n m)])∧Below w.heap.size w w':=by
 refine (uH (bW n) (bX n) (bY n) (cf n) (bW m) (bX m) (bY m) (cf m) w).mono ?_
 obtain ⟨r0,r1,r2,r3,r4⟩:=zH (l0 n) (l1 n) (l2 n) (l3 n) (l0 m) (l1 m) (l2 m) (l3 m)
 rw [ie hn,ie hm] at r0 r1 r2 r3 r4
 rw [r0,r1,r2,r3,r4]
 exact fun e w' h=>h
theorem uI {x0 x1 x2 x3 y0 y1 y2 y3:Int} (hx0:aj x0) (hx1:aj x1) (hx2:aj x2) (hx3:aj x3) (hy0:aj y0) (hy1:aj y1) (hy2:aj y2) (hy3:aj y3) (w:World) :
  Calls Tryz.prog 102 #[.agg #[.int .u64 x0,.int .u64 x1,.int .u64 x2,.int .u64 x3],.agg #[.int .u64 y0,.int .u64 y1,.int .u64 y2,.int .u64 y3]] w fun e w' =>
   e = .returned (.tuple #[.agg #[.int .u64 (eB x0 y0 0),.int .u64 (eB x1 y1 (di x0 y0 0)),.int .u64 (eB x2 y2 (di x1 y1 (di x0 y0 0))),.int .u64 (eB x3 y3 (di x2 y2 (di x1 y1 (di x0 y0 0))))],.int .u64 (di x3 y3 (di x2 y2 (di x1 y1 (di x0 y0 0))))])∧Below w.heap.size w w':=by
 have g0:=tP hx0 hy0 (by decide:(0:Int)≤0∧(0:Int)≤1)
 have g1:=tP hx1 hy1 (eW x0 y0 0)
 have g2:=tP hx2 hy2 (eW x1 y1 (di x0 y0 0))
 have g3:=tP hx3 hy3 (eW x2 y2 (di x1 y1 (di x0 y0 0)))
 go_enter Tryz.func102,Tryz.ntmps102
 go_wp2
 refine wp_loop_rounds 5 ?_
 rw [rounds_succ];go_wp2;go_region;go_wp2
 rw [rounds_succ];go_wp2;go_region;go_wp2
 rw [rounds_succ];go_wp2;go_region;go_wp2
 rw [rounds_succ];go_wp2;go_region;go_wp2
 rw [rounds_succ];go_wp2
 simp [bodyPost,results,Tryz.results102,go_sem]
 repeat (first|with_reducible exact Below.refl _ _|with_reducible refine Below.drew ?_|with_reducible refine Below.alloc ?_ (by first|omega|(simp;done)|(simp;omega)) _)
theorem iT {n m:Int} (hn:Num n) (hm:Num m) (w:World) :
  Calls Tryz.prog 102 #[.agg #[.int .u64 (l0 n),.int .u64 (l1 n),.int .u64 (l2 n),.int .u64 (l3 n)],.agg #[.int .u64 (l0 m),.int .u64 (l1 m),.int .u64 (l2 m),.int .u64 (l3 m)]] w fun e w' =>
   e = .returned (.tuple #[.agg #[.int .u64 (l0 (fN n m)),.int .u64 (l1 (fN n m)),.int .u64 (l2 (fN n m)),.int .u64 (l3 (fN n m))],.int .u64 (fW n m)])∧Below w.heap.size w w':=by
 refine (uI (bW n) (bX n) (bY n) (cf n) (bW m) (bX m) (bY m) (cf m) w).mono ?_
 obtain ⟨r0,r1,r2,r3,r4⟩:=zI (bW n) (bX n) (bY n) (cf n) (bW m) (bX m) (bY m) (cf m)
 rw [ie hn,ie hm] at r0 r1 r2 r3 r4
 rw [r0,r1,r2,r3,r4]
 exact fun e w' h=>h
open Go.RowKit
theorem wR {v:Int} (h:aj v):l0 v=v∧l1 v=0∧l2 v=0∧l3 v=0:=by
 obtain ⟨_,_⟩:=h
 unfold l0 l1 l2 l3;refine ⟨by omega,by omega,by omega,by omega⟩
theorem eX {v:Int} (h:aj v) (w:World) :
  Calls Tryz.prog 61 #[.int .u64 v] w fun e w'=>e = .returned (.agg #[.int .u64 (l0 v),.int .u64 (l1 v),.int .u64 (l2 v),.int .u64 (l3 v)])∧Below w.heap.size w w':=by
 obtain ⟨r0,r1,r2,r3⟩:=wR h
 rw [r0,r1,r2,r3]
 clear r0 r1 r2 r3
 go_enter Tryz.func61,Tryz.ntmps61
 go_wp2
 simp [bodyPost,results,Tryz.results61,go_sem]
 repeat (first|with_reducible exact Below.refl _ _|with_reducible refine Below.drew ?_|with_reducible refine Below.alloc ?_ (by first|omega|(simp;done)|(simp;omega)) _)
theorem rV (a0 a1 a2 a3 b0 b1 b2 b3:Int) (w:World):(Op.equalIn 10000 24 (.agg #[.int .u64 a0,.int .u64 a1,.int .u64 a2,.int .u64 a3]) (.agg #[.int .u64 b0,.int .u64 b1,.int .u64 b2,.int .u64 b3])).run Tryz.prog w = .ok (a0==b0&&(a1==b1&&(a2==b2&&a3==b3))) w:=by
 have tu:=Tryz.underlying22
 have ta:=Tryz.isAgg22
 have tz:=Tryz.sizeOf22
 rw [show (10000:Nat)=9999+1 from rfl,Op.equalIn]
 simp only [Sem.run_bind,run_underlying Tryz.underlying24,Result.andThen_ok]
 simp only [Std.Legacy.Range.forIn_eq_forIn_range',Std.Legacy.Range.size,Nat.sub_zero,Nat.add_sub_cancel,Nat.div_one,List.range'_succ,List.range'_zero,List.forIn_cons,List.forIn_nil]
 go_simp
 by_cases h1:a0=b0<;>by_cases h2:a1=b1<;>by_cases h3:a2=b2<;>by_cases h4:a3=b3<;>simp [h1,h2,h3,h4]
theorem ik {n m:Int} (hn:Num n) (hm:Num m) (w:World):(Op.equalIn 10000 24 (.agg #[.int .u64 (l0 n),.int .u64 (l1 n),.int .u64 (l2 n),.int .u64 (l3 n)]) (.agg #[.int .u64 (l0 m),.int .u64 (l1 m),.int .u64 (l2 m),.int .u64 (l3 m)])).run Tryz.prog w = .ok (decide (n=m)) w:=by
 rw [rV]
 congr 1
 by_cases h:n=m
 ·subst h;simp
 ·have:¬(l0 n=l0 m∧l1 n=l1 m∧l2 n=l2 m∧l3 n=l3 m):=fun ⟨a,b,c,d⟩=>h (tM hn hm a b c d)
  simp [h]
  intro a b c d
  exact this ⟨a,b,c,d⟩
theorem wS {n:Int} (w:World):(Op.equalIn 10000 24 (.agg #[.int .u64 (l0 n),.int .u64 (l1 n),.int .u64 (l2 n),.int .u64 (l3 n)]) (.agg #[.int .u64 (l0 n),.int .u64 (l1 n),.int .u64 (l2 n),.int .u64 (l3 n)])).run Tryz.prog w = .ok true w:=by
 rw [rV];simp
theorem BC {n m:Int} (hn:Num n) (hm:Num m) (h:n≠m) (w:World):(Op.equalIn 10000 24 (.agg #[.int .u64 (l0 n),.int .u64 (l1 n),.int .u64 (l2 n),.int .u64 (l3 n)]) (.agg #[.int .u64 (l0 m),.int .u64 (l1 m),.int .u64 (l2 m),.int .u64 (l3 m)])).run Tryz.prog w = .ok false w:=by
 rw [ik hn hm];simp [h]
theorem my {n m:Int} (hn:Num n) (hm:Num m) (w:World) :
  Calls Tryz.prog 71 #[.agg #[.int .u64 (l0 n),.int .u64 (l1 n),.int .u64 (l2 n),.int .u64 (l3 n)],.agg #[.int .u64 (l0 m),.int .u64 (l1 m),.int .u64 (l2 m),.int .u64 (l3 m)]] w fun e w'=>e = .returned (.int .i64 (jN n m))∧Below w.heap.size w w':=by
 by_cases h:n=m
 ·subst h
  have he:=wS (n:=n)
  rw [show jN n n=0 by simp [jN]]
  go_enter Tryz.func71,Tryz.ntmps71
  go_wp2
  go_ret
  refine ⟨rfl,?_⟩
  repeat (first|with_reducible exact Below.refl _ _|with_reducible refine Below.drew ?_|with_reducible refine Below.alloc ?_ (by first|omega|(simp;done)|(simp;omega)) _)
 ·have he:=BC hn hm h
  by_cases hlt:n<m
  ·rw [show jN n m = -1 by simp [jN,h,hlt]]
   have hb:fW n m=1:=by simp [fW,hlt]
   go_enter Tryz.func71,Tryz.ntmps71
   go_wp2_with (go_at_call 102;refine (iT hn hm _).mono ?_;rintro e w' ⟨rfl,hw⟩)
   have hz:=hw.size
   simp at hz
   go_ret
   refine ⟨rfl,?_⟩
   repeat (first|with_reducible exact Below.refl _ _|with_reducible refine Below.drew ?_|with_reducible refine Below.alloc ?_ (by first|omega|(simp;done)|(simp;omega)) _|with_reducible refine Below.trans ?_ (Below.mono hw (by first|omega|(simp;done)|(simp;omega))))
  ·rw [show jN n m=1 by simp [jN,h,hlt]]
   have hb:fW n m=0:=by simp [fW,hlt]
   go_enter Tryz.func71,Tryz.ntmps71
   go_wp2_with (go_at_call 102;refine (iT hn hm _).mono ?_;rintro e w' ⟨rfl,hw⟩)
   have hz:=hw.size
   simp at hz
   go_ret
   refine ⟨rfl,?_⟩
   repeat (first|with_reducible exact Below.refl _ _|with_reducible refine Below.drew ?_|with_reducible refine Below.alloc ?_ (by first|omega|(simp;done)|(simp;omega)) _|with_reducible refine Below.trans ?_ (Below.mono hw (by first|omega|(simp;done)|(simp;omega))))
open Go.RowKit
theorem uJ (p0 p1 p2 p3 p4 p5 p6 p7:Int) (w:World) :
  Calls Tryz.prog 135 #[.agg #[.int .u64 p0,.int .u64 p1,.int .u64 p2,.int .u64 p3,.int .u64 p4,.int .u64 p5,.int .u64 p6,.int .u64 p7]] w fun e w' =>
   e = .returned (.tuple #[.agg #[.int .u64 p4,.int .u64 p5,.int .u64 p6,.int .u64 p7],.agg #[.int .u64 p0,.int .u64 p1,.int .u64 p2,.int .u64 p3]])∧Below w.heap.size w w':=by
 go_enter Tryz.func135,Tryz.ntmps135
 go_wp2
 refine wp_loop_rounds 5 ?_
 rw [rounds_succ];go_wp2;go_region;go_wp2
 rw [rounds_succ];go_wp2;go_region;go_wp2
 rw [rounds_succ];go_wp2;go_region;go_wp2
 rw [rounds_succ];go_wp2;go_region;go_wp2
 rw [rounds_succ];go_wp2;go_region;go_wp2
 simp [bodyPost,results,Tryz.results135,go_sem]
 repeat (first|with_reducible exact Below.refl _ _|with_reducible refine Below.drew ?_|with_reducible refine Below.alloc ?_ (by first|omega|(simp;done)|(simp;omega)) _)
end Go.Proofs.YtjoandmehahfgaaGreatDoor
