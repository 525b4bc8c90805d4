import Derived.Test.YtongiohdomacoaaBmD
import Derived.Test.YtongiohdomacoaaBmN
import Derived.Test.YtongiohdomacoaaBmI
import Derived.Laws.IdiomStrings
/- Count, Within, Union, Bits. -/
namespace Go.Proofs.Ytongiohdomacoaa
open Go.RowKit Go.Sort

/-- Filters in a row. -/
def Fls (W : World) (b o : Nat) (FS : List (List (BitVec 8))) : Prop := ∀ k, k < FS.length → (FS.getD k zF).length = 256 ∧ W.rangeAt b (o + k * 256) (byts (FS.getD k zF))
theorem Fls.keep {W w1 : World} {b o : Nat} {FS : List (List (BitVec 8))} (h : Fls W b o FS) (hb : Below W.heap.size W w1) : Fls w1 b o FS := fun k hk => ⟨(h k hk).1, fun j v hv => cell_keep hb ((h k hk).2 j v hv)⟩
end Go.Proofs.Ytongiohdomacoaa
