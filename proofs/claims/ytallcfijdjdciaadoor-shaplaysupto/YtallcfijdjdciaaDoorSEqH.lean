import Derived.Test.YtallcfijdjdciaaDoorSBase
namespace Go.Proofs.YtallcfijdjdciaaDoor
open Go.RowKit Go.Sort

/-- '==' of two digests. -/
theorem eq_hash {X Zs : List (BitVec 8)} (hx : X.length = 32) (hy : Zs.length = 32) (w : World) : (Op.equalIn 10000 40 (.agg (byts X).toArray) (.agg (byts Zs).toArray)).run Tryd.prog w = .ok (decide (X = Zs)) w := by
  rw [show (10000 : Nat) = 9999 + 1 from rfl, Op.equalIn]
  have tz : (sizeOf 5).run Tryd.prog w = .ok 1 w := by have := Tryd.sizeOf5; simp [go_sem, this]
  simp only [Sem.run_bind, run_underlying Tryd.underlying40, Result.andThen_ok, tz]
  simp only [Std.Legacy.Range.forIn_eq_forIn_range', Std.Legacy.Range.size, Nat.sub_zero, Nat.add_sub_cancel, Nat.div_one]
  have h := eq_loop8 (X := X) (Zs := Zs) w 32 0 (by omega) (by omega)
  rw [h, same8_iff hx hy]
  by_cases e : X = Zs <;> simp [e]

end Go.Proofs.YtallcfijdjdciaaDoor
