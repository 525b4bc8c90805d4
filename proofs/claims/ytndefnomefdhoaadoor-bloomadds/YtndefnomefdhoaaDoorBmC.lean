import Derived.Test.YtndefnomefdhoaaDoorBmB
import Derived.Test.YtndefnomefdhoaaDoorBmA
/- BloomMakes. -/
namespace Go.Proofs.YtndefnomefdhoaaDoor
open Go.RowKit Go.Sort

/-- '==' of two filters. -/
theorem eq_bloom {X Zs : List (BitVec 8)} (hx : X.length = 256) (hy : Zs.length = 256) (w : World) : (Op.equalIn 10000 24 (.agg (byts X).toArray) (.agg (byts Zs).toArray)).run Tryd.prog w = .ok (decide (X = Zs)) w := by
  rw [show (10000 : Nat) = 9999 + 1 from rfl, Op.equalIn]
  have tz : (sizeOf 5).run Tryd.prog w = .ok 1 w := by have := Tryd.sizeOf5; simp [go_sem, this]
  simp only [Sem.run_bind, run_underlying Tryd.underlying24, Result.andThen_ok, tz]
  simp only [Std.Legacy.Range.forIn_eq_forIn_range', Std.Legacy.Range.size, Nat.sub_zero, Nat.add_sub_cancel, Nat.div_one]
  have h := eq_loop8 (X := X) (Zs := Zs) w 256 0 (by omega) (by omega)
  rw [h, same8_iff hx hy]
  by_cases e : X = Zs <;> simp [e]

end Go.Proofs.YtndefnomefdhoaaDoor

/- Filters as sets of bits. -/
namespace Go.Proofs.YtndefnomefdhoaaDoor
open Go.RowKit Go.Sort

/-- Is the bit set? -/
def tF (F : List (BitVec 8)) (j : Nat) : Bool := (F.getD (atF j) 0).getLsbD (j % 8)
/-- Several bits set. -/
def setsF (F : List (BitVec 8)) (l : List Nat) : List (BitVec 8) := l.foldl setF F
theorem setsF_len : ∀ (l : List Nat) {F : List (BitVec 8)}, F.length = 256 → (setsF F l).length = 256
  | [], _, h => h
  | x :: l, F, h => setsF_len l (by rw [setF_len]; exact h)
end Go.Proofs.YtndefnomefdhoaaDoor
