import Derived.Test.YtfhakamheidcnaaDoorCSumK
import Derived.Test.YtfhakamheidcnaaDoorCBlend
import Derived.Test.YtfhakamheidcnaaDoorQAlloc
import Derived.Test.YtfhakamheidcnaaDoorGet
import Derived.Test.YtfhakamheidcnaaDoorCLift
namespace Go.Proofs.YtfhakamheidcnaaDoor
open Go.RowKit Go.Sort

/-- 32 bytes from a cell on. -/
def Cb (W : World) (b ob : Nat) (A : List Int) : Prop := A.length = 32 ∧ ∀ i, i < 32 → W.cell? ⟨b, ob + i, none⟩ = some (.int .u8 (A.getD i 0))
theorem Cb.keep {W w1 : World} {b ob : Nat} {A : List Int} (h : Cb W b ob A) (hb : Below W.heap.size W w1) : Cb w1 b ob A := ⟨h.1, fun i hi => cell_keep hb (h.2 i hi)⟩
theorem Cb.alloc {W : World} {b ob : Nat} {A : List Int} (h : Cb W b ob A) (o : Obj) : Cb (W.alloc o) b ob A := h.keep ((Below.refl _ _).alloc (Nat.le_refl _) o)
/-- The first byte. -/
def Fb (W : World) (b : Nat) (f : Int) : Prop := W.cell? ⟨b, 0, none⟩ = some (.int .u8 f)
theorem Fb.keep {W w1 : World} {b : Nat} {f : Int} (h : Fb W b f) (hb : Below W.heap.size W w1) : Fb w1 b f := cell_keep hb h
theorem Fb.alloc {W : World} {b : Nat} {f : Int} (h : Fb W b f) (o : Obj) : Fb (W.alloc o) b f := h.keep ((Below.refl _ _).alloc (Nat.le_refl _) o)
end Go.Proofs.YtfhakamheidcnaaDoor
