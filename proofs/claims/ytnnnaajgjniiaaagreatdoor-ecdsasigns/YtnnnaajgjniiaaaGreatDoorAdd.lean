import Derived.Test.YtnnnaajgjniiaaaGreatDoorLeaf
import Derived.LoopN
import Derived.BigRegion
import Derived.Deep.RegionWith
set_option maxHeartbeats 1000000
namespace Go.Proofs.YtnnnaajgjniiaaaGreatDoor
open Go.RowKit
theorem sR {x0 x1 x2 x3 y0 y1 y2 y3:Int} (hx0:al x0) (hx1:al x1) (hx2:al x2) (hx3:al x3) (hy0:al y0) (hy1:al y1) (hy2:al y2) (hy3:al y3) (w:World) :
  Calls Tryz.prog 131 #[.agg #[.int .u64 x0,.int .u64 x1,.int .u64 x2,.int .u64 x3],.agg #[.int .u64 y0,.int .u64 y1,.int .u64 y2,.int .u64 y3]] w fun e w' =>
   e = .returned (.tuple #[.agg #[.int .u64 (dt x0 y0 0),.int .u64 (dt x1 y1 (cQ x0 y0 0)),.int .u64 (dt x2 y2 (cQ x1 y1 (cQ x0 y0 0))),.int .u64 (dt x3 y3 (cQ x2 y2 (cQ x1 y1 (cQ x0 y0 0))))],.int .u64 (cQ x3 y3 (cQ x2 y2 (cQ x1 y1 (cQ x0 y0 0))))])∧Below w.heap.size w w':=by
 have z:(0:Int)≤0∧(0:Int)≤1:=by decide
 have c0:=fU hx0 hy0 z
 have c1:=fU hx1 hy1 c0
 have c2:=fU hx2 hy2 c1
 have g0:=mS hx0 hy0 z
 have g1:=mS hx1 hy1 c0
 have g2:=mS hx2 hy2 c1
 have g3:=mS hx3 hy3 c2
 clear z c0 c1 c2
 go_enter Tryz.func131,Tryz.ntmps131
 go_wp2
 refine wp_loop_rounds 5 ?_
 rw [rounds_succ];go_wp2;go_region;go_wp2
 rw [rounds_succ];go_wp2;go_region;go_wp2
 rw [rounds_succ];go_wp2;go_region;go_wp2
 rw [rounds_succ];go_wp2;go_region;go_wp2
 rw [rounds_succ];go_wp2
 simp [bodyPost,results,Tryz.results131,go_sem]
 repeat (first|with_reducible exact Below.refl _ _|with_reducible refine Below.drew ?_|with_reducible refine Below.alloc ?_ (by first|omega|(simp;done)|(simp;omega)) _)
theorem kJ {n m:Int} (hn:Num n) (hm:Num m) (w:World) :
  Calls Tryz.prog 131 #[.agg #[.int .u64 (l0 n),.int .u64 (l1 n),.int .u64 (l2 n),.int .u64 (l3 n)],.agg #[.int .u64 (l0 m),.int .u64 (l1 m),.int .u64 (l2 m),.int .u64 (l3 m)]] w fun e w' =>
   e = .returned (.tuple #[.agg #[.int .u64 (l0 (cE n m)),.int .u64 (l1 (cE n m)),.int .u64 (l2 (cE n m)),.int .u64 (l3 (cE n m))],.int .u64 (bO n m)])∧Below w.heap.size w w':=by
 refine (sR (aU n) (aV n) (aW n) (bj n) (aU m) (aV m) (aW m) (bj m) w).mono ?_
 obtain ⟨r0,r1,r2,r3,r4⟩:=xK (l0 n) (l1 n) (l2 n) (l3 n) (l0 m) (l1 m) (l2 m) (l3 m)
 rw [du hn,du hm] at r0 r1 r2 r3 r4
 rw [r0,r1,r2,r3,r4]
 exact fun e w' h=>h
theorem sS {x0 x1 x2 x3 y0 y1 y2 y3:Int} (hx0:al x0) (hx1:al x1) (hx2:al x2) (hx3:al x3) (hy0:al y0) (hy1:al y1) (hy2:al y2) (hy3:al y3) (w:World) :
  Calls Tryz.prog 96 #[.agg #[.int .u64 x0,.int .u64 x1,.int .u64 x2,.int .u64 x3],.agg #[.int .u64 y0,.int .u64 y1,.int .u64 y2,.int .u64 y3]] w fun e w' =>
   e = .returned (.tuple #[.agg #[.int .u64 (dP x0 y0 0),.int .u64 (dP x1 y1 (dc x0 y0 0)),.int .u64 (dP x2 y2 (dc x1 y1 (dc x0 y0 0))),.int .u64 (dP x3 y3 (dc x2 y2 (dc x1 y1 (dc x0 y0 0))))],.int .u64 (dc x3 y3 (dc x2 y2 (dc x1 y1 (dc x0 y0 0))))])∧Below w.heap.size w w':=by
 have g0:=rY hx0 hy0 (by decide:(0:Int)≤0∧(0:Int)≤1)
 have g1:=rY hx1 hy1 (dX x0 y0 0)
 have g2:=rY hx2 hy2 (dX x1 y1 (dc x0 y0 0))
 have g3:=rY hx3 hy3 (dX x2 y2 (dc x1 y1 (dc x0 y0 0)))
 go_enter Tryz.func96,Tryz.ntmps96
 go_wp2
 refine wp_loop_rounds 5 ?_
 rw [rounds_succ];go_wp2;go_region;go_wp2
 rw [rounds_succ];go_wp2;go_region;go_wp2
 rw [rounds_succ];go_wp2;go_region;go_wp2
 rw [rounds_succ];go_wp2;go_region;go_wp2
 rw [rounds_succ];go_wp2
 simp [bodyPost,results,Tryz.results96,go_sem]
 repeat (first|with_reducible exact Below.refl _ _|with_reducible refine Below.drew ?_|with_reducible refine Below.alloc ?_ (by first|omega|(simp;done)|(simp;omega)) _)
theorem iq {n m:Int} (hn:Num n) (hm:Num m) (w:World) :
  Calls Tryz.prog 96 #[.agg #[.int .u64 (l0 n),.int .u64 (l1 n),.int .u64 (l2 n),.int .u64 (l3 n)],.agg #[.int .u64 (l0 m),.int .u64 (l1 m),.int .u64 (l2 m),.int .u64 (l3 m)]] w fun e w' =>
   e = .returned (.tuple #[.agg #[.int .u64 (l0 (ca n m)),.int .u64 (l1 (ca n m)),.int .u64 (l2 (ca n m)),.int .u64 (l3 (ca n m))],.int .u64 (cL n m)])∧Below w.heap.size w w':=by
 refine (sS (aU n) (aV n) (aW n) (bj n) (aU m) (aV m) (aW m) (bj m) w).mono ?_
 obtain ⟨r0,r1,r2,r3,r4⟩:=xL (aU n) (aV n) (aW n) (bj n) (aU m) (aV m) (aW m) (bj m)
 rw [du hn,du hm] at r0 r1 r2 r3 r4
 rw [r0,r1,r2,r3,r4]
 exact fun e w' h=>h
open Go.RowKit
theorem o6 {v:Int} (h:al v):l0 v=v∧l1 v=0∧l2 v=0∧l3 v=0:=by
 obtain ⟨_,_⟩:=h
 unfold l0 l1 l2 l3;refine ⟨by omega,by omega,by omega,by omega⟩
theorem je {v:Int} (h:al v) (w:World) :
  Calls Tryz.prog 126 #[.int .u64 v] w fun e w'=>e = .returned (.agg #[.int .u64 (l0 v),.int .u64 (l1 v),.int .u64 (l2 v),.int .u64 (l3 v)])∧Below w.heap.size w w':=by
 obtain ⟨r0,r1,r2,r3⟩:=o6 h
 rw [r0,r1,r2,r3]
 clear r0 r1 r2 r3
 go_enter Tryz.func126,Tryz.ntmps126
 go_wp2
 simp [bodyPost,results,Tryz.results126,go_sem]
 repeat (first|with_reducible exact Below.refl _ _|with_reducible refine Below.drew ?_|with_reducible refine Below.alloc ?_ (by first|omega|(simp;done)|(simp;omega)) _)
theorem qB (a0 a1 a2 a3 b0 b1 b2 b3:Int) (w:World):(Op.equalIn 10000 24 (.agg #[.int .u64 a0,.int .u64 a1,.int .u64 a2,.int .u64 a3]) (.agg #[.int .u64 b0,.int .u64 b1,.int .u64 b2,.int .u64 b3])).run Tryz.prog w = .ok (a0==b0&&(a1==b1&&(a2==b2&&a3==b3))) w:=by
 have tu:=Tryz.underlying22
 have ta:=Tryz.isAgg22
 have tz:=Tryz.sizeOf22
 rw [show (10000:Nat)=9999+1 from rfl,Op.equalIn]
 simp only [Sem.run_bind,run_underlying Tryz.underlying24,Result.andThen_ok]
 simp only [Std.Legacy.Range.forIn_eq_forIn_range',Std.Legacy.Range.size,Nat.sub_zero,Nat.add_sub_cancel,Nat.div_one,List.range'_succ,List.range'_zero,List.forIn_cons,List.forIn_nil]
 go_simp
 by_cases h1:a0=b0<;>by_cases h2:a1=b1<;>by_cases h3:a2=b2<;>by_cases h4:a3=b3<;>simp [h1,h2,h3,h4]
theorem iR {n m:Int} (hn:Num n) (hm:Num m) (w:World):(Op.equalIn 10000 24 (.agg #[.int .u64 (l0 n),.int .u64 (l1 n),.int .u64 (l2 n),.int .u64 (l3 n)]) (.agg #[.int .u64 (l0 m),.int .u64 (l1 m),.int .u64 (l2 m),.int .u64 (l3 m)])).run Tryz.prog w = .ok (decide (n=m)) w:=by
 rw [qB]
 congr 1
 by_cases h:n=m
 ·subst h;simp
 ·have:¬(l0 n=l0 m∧l1 n=l1 m∧l2 n=l2 m∧l3 n=l3 m):=fun ⟨a,b,c,d⟩=>h (rS hn hm a b c d)
  simp [h]
  intro a b c d
  exact this ⟨a,b,c,d⟩
theorem zG {n:Int} (w:World):(Op.equalIn 10000 24 (.agg #[.int .u64 (l0 n),.int .u64 (l1 n),.int .u64 (l2 n),.int .u64 (l3 n)]) (.agg #[.int .u64 (l0 n),.int .u64 (l1 n),.int .u64 (l2 n),.int .u64 (l3 n)])).run Tryz.prog w = .ok true w:=by
 rw [qB];simp
theorem zj {n m:Int} (hn:Num n) (hm:Num m) (h:n≠m) (w:World):(Op.equalIn 10000 24 (.agg #[.int .u64 (l0 n),.int .u64 (l1 n),.int .u64 (l2 n),.int .u64 (l3 n)]) (.agg #[.int .u64 (l0 m),.int .u64 (l1 m),.int .u64 (l2 m),.int .u64 (l3 m)])).run Tryz.prog w = .ok false w:=by
 rw [iR hn hm];simp [h]
theorem oo {n m:Int} (hn:Num n) (hm:Num m) (w:World) :
  Calls Tryz.prog 52 #[.agg #[.int .u64 (l0 n),.int .u64 (l1 n),.int .u64 (l2 n),.int .u64 (l3 n)],.agg #[.int .u64 (l0 m),.int .u64 (l1 m),.int .u64 (l2 m),.int .u64 (l3 m)]] w fun e w'=>e = .returned (.int .i64 (dI n m))∧Below w.heap.size w w':=by
 by_cases h:n=m
 ·subst h
  have he:=zG (n:=n)
  rw [show dI n n=0 by simp [dI]]
  go_enter Tryz.func52,Tryz.ntmps52
  go_wp2
  go_ret
  refine ⟨rfl,?_⟩
  repeat (first|with_reducible exact Below.refl _ _|with_reducible refine Below.drew ?_|with_reducible refine Below.alloc ?_ (by first|omega|(simp;done)|(simp;omega)) _)
 ·have he:=zj hn hm h
  by_cases hlt:n<m
  ·rw [show dI n m = -1 by simp [dI,h,hlt]]
   have hb:cL n m=1:=by simp [cL,hlt]
   go_enter Tryz.func52,Tryz.ntmps52
   go_wp2_with (go_at_call 96;refine (iq hn hm _).mono ?_;rintro e w' ⟨rfl,hw⟩)
   have hz:=hw.size
   simp at hz
   go_ret
   refine ⟨rfl,?_⟩
   repeat (first|with_reducible exact Below.refl _ _|with_reducible refine Below.drew ?_|with_reducible refine Below.alloc ?_ (by first|omega|(simp;done)|(simp;omega)) _|with_reducible refine Below.trans ?_ (Below.mono hw (by first|omega|(simp;done)|(simp;omega))))
  ·rw [show dI n m=1 by simp [dI,h,hlt]]
   have hb:cL n m=0:=by simp [cL,hlt]
   go_enter Tryz.func52,Tryz.ntmps52
   go_wp2_with (go_at_call 96;refine (iq hn hm _).mono ?_;rintro e w' ⟨rfl,hw⟩)
   have hz:=hw.size
   simp at hz
   go_ret
   refine ⟨rfl,?_⟩
   repeat (first|with_reducible exact Below.refl _ _|with_reducible refine Below.drew ?_|with_reducible refine Below.alloc ?_ (by first|omega|(simp;done)|(simp;omega)) _|with_reducible refine Below.trans ?_ (Below.mono hw (by first|omega|(simp;done)|(simp;omega))))
open Go.RowKit
theorem sU (p0 p1 p2 p3 p4 p5 p6 p7:Int) (w:World) :
  Calls Tryz.prog 189 #[.agg #[.int .u64 p0,.int .u64 p1,.int .u64 p2,.int .u64 p3,.int .u64 p4,.int .u64 p5,.int .u64 p6,.int .u64 p7]] w fun e w' =>
   e = .returned (.tuple #[.agg #[.int .u64 p4,.int .u64 p5,.int .u64 p6,.int .u64 p7],.agg #[.int .u64 p0,.int .u64 p1,.int .u64 p2,.int .u64 p3]])∧Below w.heap.size w w':=by
 go_enter Tryz.func189,Tryz.ntmps189
 go_wp2
 refine wp_loop_rounds 5 ?_
 rw [rounds_succ];go_wp2;go_region;go_wp2
 rw [rounds_succ];go_wp2;go_region;go_wp2
 rw [rounds_succ];go_wp2;go_region;go_wp2
 rw [rounds_succ];go_wp2;go_region;go_wp2
 rw [rounds_succ];go_wp2;go_region;go_wp2
 simp [bodyPost,results,Tryz.results189,go_sem]
 repeat (first|with_reducible exact Below.refl _ _|with_reducible refine Below.drew ?_|with_reducible refine Below.alloc ?_ (by first|omega|(simp;done)|(simp;omega)) _)
end Go.Proofs.YtnnnaajgjniiaaaGreatDoor
