import Derived.Test.YtdjjphcfobbipaaRows
import Derived.Test.YtdjjphcfobbipaaNum
import Derived.WalkKit
import Derived.WalkSpells
import Derived.WalkLawsBesides
import Derived.Laws.Externs
import Derived.Shelf.Spec.BitsCarry
import Derived.Lib.Mul64
import Derived.Laws.Bits64b
namespace Go.Proofs.Ytdjjphcfobbipaa
open Go.RowKit

/-! bits.Mul64: the halves of both numbers, as whole numbers that never wrap. -/
theorem low32 {a : Nat} (h : a < 18446744073709551616) : bits .and .u64 (a : Int) 4294967295 = ((a % 4294967296 : Nat) : Int) := by
  refine (bits_and_u64_nat a 4294967295 h (by decide)).trans ?_
  exact congrArg Int.ofNat (Nat.and_two_pow_sub_one_eq_mod a 32)
theorem high32 (a : Nat) : (a : Int) / 4294967296 = ((a / 4294967296 : Nat) : Int) := by omega
theorem fits64 {a : Nat} (h : a < 18446744073709551616) : IntKind.u64.wrap (a : Int) = (a : Int) := by rw [IntKind.wrap_u64]; omega
theorem cut64 (a : Nat) : IntKind.u64.wrap (a : Int) = ((a % 18446744073709551616 : Nat) : Int) := by rw [IntKind.wrap_u64]; omega

end Go.Proofs.Ytdjjphcfobbipaa
