import Derived.Test.YtnnnaajgjniiaaaGreatDoorFExp
import Derived.Laws.StructEq
set_option maxRecDepth 100000
set_option maxHeartbeats 4000000
namespace Go.Proofs.YtnnnaajgjniiaaaGreatDoor
open Go.RowKit Go.Sort
theorem wZ (a0 a1 a2 a3 b0 b1 b2 b3:Int) (w:World):(Op.equalIn 9999 24 (.agg #[.int .u64 a0,.int .u64 a1,.int .u64 a2,.int .u64 a3]) (.agg #[.int .u64 b0,.int .u64 b1,.int .u64 b2,.int .u64 b3])).run Tryz.prog w = .ok (a0==b0&&(a1==b1&&(a2==b2&&a3==b3))) w:=by
 have tu:=Tryz.underlying22
 have ta:=Tryz.isAgg22
 have tz:=Tryz.sizeOf22
 rw [show (9999:Nat)=9998+1 from rfl,Op.equalIn]
 simp only [Sem.run_bind,run_underlying Tryz.underlying24,Result.andThen_ok]
 simp only [Std.Legacy.Range.forIn_eq_forIn_range',Std.Legacy.Range.size,Nat.sub_zero,Nat.add_sub_cancel,Nat.div_one,List.range'_succ,List.range'_zero,List.forIn_cons,List.forIn_nil]
 go_simp
 by_cases h1:a0=b0<;>by_cases h2:a1=b1<;>by_cases h3:a2=b2<;>by_cases h4:a3=b3<;>simp [h1,h2,h3,h4]
theorem j6 {n m:Int} (hn:Num n) (hm:Num m) (w:World):(Op.equalIn 9999 24 (.agg #[.int .u64 (l0 n),.int .u64 (l1 n),.int .u64 (l2 n),.int .u64 (l3 n)]) (.agg #[.int .u64 (l0 m),.int .u64 (l1 m),.int .u64 (l2 m),.int .u64 (l3 m)])).run Tryz.prog w = .ok (decide (n=m)) w:=by
 rw [wZ]
 congr 1
 by_cases h:n=m
 ·subst h;simp
 ·have:¬(l0 n=l0 m∧l1 n=l1 m∧l2 n=l2 m∧l3 n=l3 m):=fun ⟨a,b,c,d⟩=>h (qB hn hm a b c d)
  simp [h]
  intro a b c d
  exact this ⟨a,b,c,d⟩
theorem sb {x y x' y':Int} {i j:Bool} (hx:Num x) (hy:Num y) (hx':Num x') (hy':Num y') (w:World) :
  (Op.equalIn 10000 56 (.agg #[.int .u64 (l0 x),.int .u64 (l1 x),.int .u64 (l2 x),.int .u64 (l3 x),.int .u64 (l0 y),.int .u64 (l1 y),.int .u64 (l2 y),.int .u64 (l3 y),.bool i]) (.agg #[.int .u64 (l0 x'),.int .u64 (l1 x'),.int .u64 (l2 x'),.int .u64 (l3 x'),.int .u64 (l0 y'),.int .u64 (l1 y'),.int .u64 (l2 y'),.int .u64 (l3 y'),.bool j])).run Tryz.prog w = .ok (decide (x=x')&&(decide (y=y')&&(i==j))) w:=by
 have e1:=j6 hx hx'
 have e2:=j6 hy hy'
 have tf : (Tryz.prog.fieldsOf 56) = #[{ name := "X", type := 24, offset := 0, embedded := false, tag := "", pkgPath := "", byteOffset := 0 }, { name := "Y", type := 24, offset := 4, embedded := false, tag := "", pkgPath := "", byteOffset := 32 }, { name := "Identity", type := 4, offset := 8, embedded := false, tag := "", pkgPath := "", byteOffset := 64 }] := by
  unfold Program.fieldsOf;rw [Tryz.underlying56]
 rw [show (10000:Nat)=9999+1 from rfl,run_equalIn_struct w 9999 _ _ _ (by rw [tf];exact Tryz.underlying56) (by kernel_rfl),tf]
 have tu:=Tryz.underlying4
 have ta:=Tryz.isAgg4
 have tz:=Tryz.sizeOf4
 have ta':=Tryz.isAgg24
 have tz':=Tryz.sizeOf24
 simp only [Op.eqFields]
 go_simp
 by_cases h1:x=x'<;>by_cases h2:y=y'<;>by_cases h3:i=j<;>simp [h1,h2,h3]
end Go.Proofs.YtnnnaajgjniiaaaGreatDoor
