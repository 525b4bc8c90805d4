import Derived.Test.YtncpjgpioajbeaaGreatDoorESWA
import Derived.Test.YtncpjgpioajbeaaGreatDoorCEq
namespace Go.Proofs.YtncpjgpioajbeaaGreatDoor
open Go.RowKit Go.Sort
set_option maxRecDepth 100000 in
set_option maxHeartbeats 4000000 in
theorem eq_sig_any {x y x' y' : Int} {i j : Bool} (hx : Num x) (hy : Num y) (hx' : Num x') (hy' : Num y') (w : World) :
    (Op.equalIn 10000 28 (.agg #[.int .u64 (l0 x), .int .u64 (l1 x), .int .u64 (l2 x), .int .u64 (l3 x), .int .u64 (l0 y), .int .u64 (l1 y), .int .u64 (l2 y), .int .u64 (l3 y), .bool i]) (.agg #[.int .u64 (l0 x'), .int .u64 (l1 x'), .int .u64 (l2 x'), .int .u64 (l3 x'), .int .u64 (l0 y'), .int .u64 (l1 y'), .int .u64 (l2 y'), .int .u64 (l3 y'), .bool j])).run Tryz.prog w = .ok (decide (x = x') && (decide (y = y') && (i == j))) w := by
  have e1 := eq_num9 hx hx'
  have e2 := eq_num9 hy hy'
  have tf : (Tryz.prog.fieldsOf 28) = #[{ name := "R", type := 24, offset := 0, embedded := false, tag := "", pkgPath := "", byteOffset := 0 }, { name := "S", type := 24, offset := 4, embedded := false, tag := "", pkgPath := "", byteOffset := 32 }, { name := "Odd", type := 4, offset := 8, embedded := false, tag := "", pkgPath := "", byteOffset := 64 }] := by
    unfold Program.fieldsOf; rw [Tryz.underlying28]
  rw [show (10000 : Nat) = 9999 + 1 from rfl, run_equalIn_struct w 9999 _ _ _ (by rw [tf]; exact Tryz.underlying28) (by kernel_rfl), tf]
  have tu := Tryz.underlying4
  have ta := Tryz.isAgg4
  have tz := Tryz.sizeOf4
  have ta' := Tryz.isAgg24
  have tz' := Tryz.sizeOf24
  simp only [Op.eqFields]
  go_simp
  by_cases h1 : x = x' <;> by_cases h2 : y = y' <;> by_cases h3 : i = j <;> simp [h1, h2, h3]

end Go.Proofs.YtncpjgpioajbeaaGreatDoor
