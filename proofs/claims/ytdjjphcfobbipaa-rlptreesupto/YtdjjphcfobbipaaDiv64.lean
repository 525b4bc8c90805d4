import Derived.Test.YtdjjphcfobbipaaLeaf
import Derived.Test.YtdjjphcfobbipaaShelf
import Derived.Test.YtdjjphcfobbipaaTail
import Derived.Test.YtdjjphcfobbipaaMulNum
import Derived.LoopN
import Derived.Lib.ItoaNum
namespace Go.Proofs.Ytdjjphcfobbipaa
open Go.RowKit

/-- The rest behind a digit, as the limbs reckon it. -/
theorem rest_wrap {un u y q v : Int} (hy : y < 18446744073709551616) (hy0 : 0 < y) (h : (un * 4294967296 + u) % y = un * 4294967296 + u - q * y) (hv : (un * 4294967296 + u) % y = v) :
    IntKind.u64.wrap (IntKind.u64.wrap (IntKind.u64.wrap (un * 4294967296) + u) - IntKind.u64.wrap (q * y)) = v ∧ 0 ≤ v ∧ v < y := by
  have m0 := Int.emod_nonneg (un * 4294967296 + u) (show y ≠ 0 by omega)
  have m1 := Int.emod_lt_of_pos (un * 4294967296 + u) hy0
  simp only [IntKind.wrap_u64]
  generalize q * y = p at *
  generalize (un * 4294967296 + u) % y = t at *
  omega

/-- The digit that is guessed from the top limbs. -/
def guessN (hi lo d : Int) : Int := if d ≤ hi then 18446744073709551615 else (hi * 18446744073709551616 + lo) / d

theorem guessN_word {hi lo d : Int} (hh : Word hi) (hl : Word lo) (hd : 0 < d) : Word (guessN hi lo d) := by
  obtain ⟨_, _⟩ := hh; obtain ⟨_, _⟩ := hl
  unfold guessN
  split
  · exact ⟨by decide, by decide⟩
  · exact ⟨Int.ediv_nonneg (by omega) (by omega), Int.ediv_lt_of_lt_mul hd (by omega)⟩

end Go.Proofs.Ytdjjphcfobbipaa
