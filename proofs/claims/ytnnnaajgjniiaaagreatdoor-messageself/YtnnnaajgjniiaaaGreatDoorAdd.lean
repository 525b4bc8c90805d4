import Derived.Test.YtnnnaajgjniiaaaGreatDoorLeaf
import Derived.LoopN
import Derived.BigRegion
import Derived.Deep.RegionWith
set_option maxHeartbeats 1000000
namespace Go.Proofs.YtnnnaajgjniiaaaGreatDoor
open Go.RowKit
theorem rz {x0 x1 x2 x3 y0 y1 y2 y3:Int} (hx0:ai x0) (hx1:ai x1) (hx2:ai x2) (hx3:ai x3) (hy0:ai y0) (hy1:ai y1) (hy2:ai y2) (hy3:ai y3) (w:World) :
  Calls Tryz.prog 131 #[.agg #[.int .u64 x0,.int .u64 x1,.int .u64 x2,.int .u64 x3],.agg #[.int .u64 y0,.int .u64 y1,.int .u64 y2,.int .u64 y3]] w fun e w' =>
   e = .returned (.tuple #[.agg #[.int .u64 (cV x0 y0 0),.int .u64 (cV x1 y1 (cI x0 y0 0)),.int .u64 (cV x2 y2 (cI x1 y1 (cI x0 y0 0))),.int .u64 (cV x3 y3 (cI x2 y2 (cI x1 y1 (cI x0 y0 0))))],.int .u64 (cI x3 y3 (cI x2 y2 (cI x1 y1 (cI x0 y0 0))))])∧Below w.heap.size w w':=by
 have z:(0:Int)≤0∧(0:Int)≤1:=by decide
 have c0:=fB hx0 hy0 z
 have c1:=fB hx1 hy1 c0
 have c2:=fB hx2 hy2 c1
 have g0:=mj hx0 hy0 z
 have g1:=mj hx1 hy1 c0
 have g2:=mj hx2 hy2 c1
 have g3:=mj hx3 hy3 c2
 clear z c0 c1 c2
 go_enter Tryz.func131,Tryz.ntmps131
 go_wp2
 refine wp_loop_rounds 5 ?_
 rw [rounds_succ];go_wp2;go_region;go_wp2
 rw [rounds_succ];go_wp2;go_region;go_wp2
 rw [rounds_succ];go_wp2;go_region;go_wp2
 rw [rounds_succ];go_wp2;go_region;go_wp2
 rw [rounds_succ];go_wp2
 simp [bodyPost,results,Tryz.results131,go_sem]
 repeat (first|with_reducible exact Below.refl _ _|with_reducible refine Below.drew ?_|with_reducible refine Below.alloc ?_ (by first|omega|(simp;done)|(simp;omega)) _)
theorem iC {n m:Int} (hn:Num n) (hm:Num m) (w:World) :
  Calls Tryz.prog 131 #[.agg #[.int .u64 (l0 n),.int .u64 (l1 n),.int .u64 (l2 n),.int .u64 (l3 n)],.agg #[.int .u64 (l0 m),.int .u64 (l1 m),.int .u64 (l2 m),.int .u64 (l3 m)]] w fun e w' =>
   e = .returned (.tuple #[.agg #[.int .u64 (l0 (dF n m)),.int .u64 (l1 (dF n m)),.int .u64 (l2 (dF n m)),.int .u64 (l3 (dF n m))],.int .u64 (cW n m)])∧Below w.heap.size w w':=by
 refine (rz (bJ n) (bK n) (bL n) (bO n) (bJ m) (bK m) (bL m) (bO m) w).mono ?_
 obtain ⟨r0,r1,r2,r3,r4⟩:=wm (l0 n) (l1 n) (l2 n) (l3 n) (l0 m) (l1 m) (l2 m) (l3 m)
 rw [fw hn,fw hm] at r0 r1 r2 r3 r4
 rw [r0,r1,r2,r3,r4]
 exact fun e w' h=>h
theorem rA {x0 x1 x2 x3 y0 y1 y2 y3:Int} (hx0:ai x0) (hx1:ai x1) (hx2:ai x2) (hx3:ai x3) (hy0:ai y0) (hy1:ai y1) (hy2:ai y2) (hy3:ai y3) (w:World) :
  Calls Tryz.prog 96 #[.agg #[.int .u64 x0,.int .u64 x1,.int .u64 x2,.int .u64 x3],.agg #[.int .u64 y0,.int .u64 y1,.int .u64 y2,.int .u64 y3]] w fun e w' =>
   e = .returned (.tuple #[.agg #[.int .u64 (dE x0 y0 0),.int .u64 (dE x1 y1 (cP x0 y0 0)),.int .u64 (dE x2 y2 (cP x1 y1 (cP x0 y0 0))),.int .u64 (dE x3 y3 (cP x2 y2 (cP x1 y1 (cP x0 y0 0))))],.int .u64 (cP x3 y3 (cP x2 y2 (cP x1 y1 (cP x0 y0 0))))])∧Below w.heap.size w w':=by
 have g0:=qE hx0 hy0 (by decide:(0:Int)≤0∧(0:Int)≤1)
 have g1:=qE hx1 hy1 (dQ x0 y0 0)
 have g2:=qE hx2 hy2 (dQ x1 y1 (cP x0 y0 0))
 have g3:=qE hx3 hy3 (dQ x2 y2 (cP x1 y1 (cP x0 y0 0)))
 go_enter Tryz.func96,Tryz.ntmps96
 go_wp2
 refine wp_loop_rounds 5 ?_
 rw [rounds_succ];go_wp2;go_region;go_wp2
 rw [rounds_succ];go_wp2;go_region;go_wp2
 rw [rounds_succ];go_wp2;go_region;go_wp2
 rw [rounds_succ];go_wp2;go_region;go_wp2
 rw [rounds_succ];go_wp2
 simp [bodyPost,results,Tryz.results96,go_sem]
 repeat (first|with_reducible exact Below.refl _ _|with_reducible refine Below.drew ?_|with_reducible refine Below.alloc ?_ (by first|omega|(simp;done)|(simp;omega)) _)
theorem gf {n m:Int} (hn:Num n) (hm:Num m) (w:World) :
  Calls Tryz.prog 96 #[.agg #[.int .u64 (l0 n),.int .u64 (l1 n),.int .u64 (l2 n),.int .u64 (l3 n)],.agg #[.int .u64 (l0 m),.int .u64 (l1 m),.int .u64 (l2 m),.int .u64 (l3 m)]] w fun e w' =>
   e = .returned (.tuple #[.agg #[.int .u64 (l0 (dG n m)),.int .u64 (l1 (dG n m)),.int .u64 (l2 (dG n m)),.int .u64 (l3 (dG n m))],.int .u64 (eJ n m)])∧Below w.heap.size w w':=by
 refine (rA (bJ n) (bK n) (bL n) (bO n) (bJ m) (bK m) (bL m) (bO m) w).mono ?_
 obtain ⟨r0,r1,r2,r3,r4⟩:=wn (bJ n) (bK n) (bL n) (bO n) (bJ m) (bK m) (bL m) (bO m)
 rw [fw hn,fw hm] at r0 r1 r2 r3 r4
 rw [r0,r1,r2,r3,r4]
 exact fun e w' h=>h
open Go.RowKit
theorem tj {v:Int} (h:ai v):l0 v=v∧l1 v=0∧l2 v=0∧l3 v=0:=by
 obtain ⟨_,_⟩:=h
 unfold l0 l1 l2 l3;refine ⟨by omega,by omega,by omega,by omega⟩
theorem eO {v:Int} (h:ai v) (w:World) :
  Calls Tryz.prog 126 #[.int .u64 v] w fun e w'=>e = .returned (.agg #[.int .u64 (l0 v),.int .u64 (l1 v),.int .u64 (l2 v),.int .u64 (l3 v)])∧Below w.heap.size w w':=by
 obtain ⟨r0,r1,r2,r3⟩:=tj h
 rw [r0,r1,r2,r3]
 clear r0 r1 r2 r3
 go_enter Tryz.func126,Tryz.ntmps126
 go_wp2
 simp [bodyPost,results,Tryz.results126,go_sem]
 repeat (first|with_reducible exact Below.refl _ _|with_reducible refine Below.drew ?_|with_reducible refine Below.alloc ?_ (by first|omega|(simp;done)|(simp;omega)) _)
theorem pp (a0 a1 a2 a3 b0 b1 b2 b3:Int) (w:World):(Op.equalIn 10000 24 (.agg #[.int .u64 a0,.int .u64 a1,.int .u64 a2,.int .u64 a3]) (.agg #[.int .u64 b0,.int .u64 b1,.int .u64 b2,.int .u64 b3])).run Tryz.prog w = .ok (a0==b0&&(a1==b1&&(a2==b2&&a3==b3))) w:=by
 have tu:=Tryz.underlying22
 have ta:=Tryz.isAgg22
 have tz:=Tryz.sizeOf22
 rw [show (10000:Nat)=9999+1 from rfl,Op.equalIn]
 simp only [Sem.run_bind,run_underlying Tryz.underlying24,Result.andThen_ok]
 simp only [Std.Legacy.Range.forIn_eq_forIn_range',Std.Legacy.Range.size,Nat.sub_zero,Nat.add_sub_cancel,Nat.div_one,List.range'_succ,List.range'_zero,List.forIn_cons,List.forIn_nil]
 go_simp
 by_cases h1:a0=b0<;>by_cases h2:a1=b1<;>by_cases h3:a2=b2<;>by_cases h4:a3=b3<;>simp [h1,h2,h3,h4]
theorem fD {n m:Int} (hn:Num n) (hm:Num m) (w:World):(Op.equalIn 10000 24 (.agg #[.int .u64 (l0 n),.int .u64 (l1 n),.int .u64 (l2 n),.int .u64 (l3 n)]) (.agg #[.int .u64 (l0 m),.int .u64 (l1 m),.int .u64 (l2 m),.int .u64 (l3 m)])).run Tryz.prog w = .ok (decide (n=m)) w:=by
 rw [pp]
 congr 1
 by_cases h:n=m
 ·subst h;simp
 ·have:¬(l0 n=l0 m∧l1 n=l1 m∧l2 n=l2 m∧l3 n=l3 m):=fun ⟨a,b,c,d⟩=>h (qB hn hm a b c d)
  simp [h]
  intro a b c d
  exact this ⟨a,b,c,d⟩
theorem xX {n:Int} (w:World):(Op.equalIn 10000 24 (.agg #[.int .u64 (l0 n),.int .u64 (l1 n),.int .u64 (l2 n),.int .u64 (l3 n)]) (.agg #[.int .u64 (l0 n),.int .u64 (l1 n),.int .u64 (l2 n),.int .u64 (l3 n)])).run Tryz.prog w = .ok true w:=by
 rw [pp];simp
theorem xI {n m:Int} (hn:Num n) (hm:Num m) (h:n≠m) (w:World):(Op.equalIn 10000 24 (.agg #[.int .u64 (l0 n),.int .u64 (l1 n),.int .u64 (l2 n),.int .u64 (l3 n)]) (.agg #[.int .u64 (l0 m),.int .u64 (l1 m),.int .u64 (l2 m),.int .u64 (l3 m)])).run Tryz.prog w = .ok false w:=by
 rw [fD hn hm];simp [h]
theorem jU {n m:Int} (hn:Num n) (hm:Num m) (w:World) :
  Calls Tryz.prog 52 #[.agg #[.int .u64 (l0 n),.int .u64 (l1 n),.int .u64 (l2 n),.int .u64 (l3 n)],.agg #[.int .u64 (l0 m),.int .u64 (l1 m),.int .u64 (l2 m),.int .u64 (l3 m)]] w fun e w'=>e = .returned (.int .i64 (iA n m))∧Below w.heap.size w w':=by
 by_cases h:n=m
 ·subst h
  have he:=xX (n:=n)
  rw [show iA n n=0 by simp [iA]]
  go_enter Tryz.func52,Tryz.ntmps52
  go_wp2
  go_ret
  refine ⟨rfl,?_⟩
  repeat (first|with_reducible exact Below.refl _ _|with_reducible refine Below.drew ?_|with_reducible refine Below.alloc ?_ (by first|omega|(simp;done)|(simp;omega)) _)
 ·have he:=xI hn hm h
  by_cases hlt:n<m
  ·rw [show iA n m = -1 by simp [iA,h,hlt]]
   have hb:eJ n m=1:=by simp [eJ,hlt]
   go_enter Tryz.func52,Tryz.ntmps52
   go_wp2_with (go_at_call 96;refine (gf hn hm _).mono ?_;rintro e w' ⟨rfl,hw⟩)
   have hz:=hw.size
   simp at hz
   go_ret
   refine ⟨rfl,?_⟩
   repeat (first|with_reducible exact Below.refl _ _|with_reducible refine Below.drew ?_|with_reducible refine Below.alloc ?_ (by first|omega|(simp;done)|(simp;omega)) _|with_reducible refine Below.trans ?_ (Below.mono hw (by first|omega|(simp;done)|(simp;omega))))
  ·rw [show iA n m=1 by simp [iA,h,hlt]]
   have hb:eJ n m=0:=by simp [eJ,hlt]
   go_enter Tryz.func52,Tryz.ntmps52
   go_wp2_with (go_at_call 96;refine (gf hn hm _).mono ?_;rintro e w' ⟨rfl,hw⟩)
   have hz:=hw.size
   simp at hz
   go_ret
   refine ⟨rfl,?_⟩
   repeat (first|with_reducible exact Below.refl _ _|with_reducible refine Below.drew ?_|with_reducible refine Below.alloc ?_ (by first|omega|(simp;done)|(simp;omega)) _|with_reducible refine Below.trans ?_ (Below.mono hw (by first|omega|(simp;done)|(simp;omega))))
open Go.RowKit
theorem rB (p0 p1 p2 p3 p4 p5 p6 p7:Int) (w:World) :
  Calls Tryz.prog 189 #[.agg #[.int .u64 p0,.int .u64 p1,.int .u64 p2,.int .u64 p3,.int .u64 p4,.int .u64 p5,.int .u64 p6,.int .u64 p7]] w fun e w' =>
   e = .returned (.tuple #[.agg #[.int .u64 p4,.int .u64 p5,.int .u64 p6,.int .u64 p7],.agg #[.int .u64 p0,.int .u64 p1,.int .u64 p2,.int .u64 p3]])∧Below w.heap.size w w':=by
 go_enter Tryz.func189,Tryz.ntmps189
 go_wp2
 refine wp_loop_rounds 5 ?_
 rw [rounds_succ];go_wp2;go_region;go_wp2
 rw [rounds_succ];go_wp2;go_region;go_wp2
 rw [rounds_succ];go_wp2;go_region;go_wp2
 rw [rounds_succ];go_wp2;go_region;go_wp2
 rw [rounds_succ];go_wp2;go_region;go_wp2
 simp [bodyPost,results,Tryz.results189,go_sem]
 repeat (first|with_reducible exact Below.refl _ _|with_reducible refine Below.drew ?_|with_reducible refine Below.alloc ?_ (by first|omega|(simp;done)|(simp;omega)) _)
end Go.Proofs.YtnnnaajgjniiaaaGreatDoor
