import Derived.Test.YtkmkkcnlafbboaaShiftNum
import Derived.Test.YtkmkkcnlafbboaaLongNum
import Derived.Test.YtkmkkcnlafbboaaAdd
namespace Go.Proofs.Ytkmkkcnlafbboaa
open Go.RowKit

theorem lift_or {x y s : Int} (hx : Word x) (hy : Word y) (s0 : 0 ≤ s) (s1 : s ≤ 63) :
    bits .or .u64 (y / 2 ^ (64 - s).toNat) (IntKind.u64.wrap (x * 2 ^ s.toNat)) = IntKind.u64.wrap (x * 2 ^ s.toNat) + y / 2 ^ (64 - s).toNat := by
  rw [← up_or hx hy s0 s1]
  obtain ⟨k, e, k0, k1, _, _, _⟩ := up_limb hx s0 s1
  obtain ⟨_, _, _, _, _, g0, g1⟩ := up_limb hy s0 s1
  obtain ⟨_, p1, _⟩ := pow_pair s0 s1
  have z : 0 ≤ 2 ^ s.toNat * k := Int.mul_nonneg (by omega) k0
  rw [e]
  generalize 2 ^ s.toNat * k = a at *
  generalize y / 2 ^ (64 - s).toNat = b at *
  obtain ⟨a, rfl⟩ := Int.eq_ofNat_of_zero_le z
  obtain ⟨b, rfl⟩ := Int.eq_ofNat_of_zero_le g0
  exact or_comm b a (by omega) (by omega)

end Go.Proofs.Ytkmkkcnlafbboaa
