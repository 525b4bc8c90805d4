import Derived.Test.YtmcodflbngkdcaaGreatDoorCSumK
import Derived.Test.YtmcodflbngkdcaaGreatDoorCBlend
import Derived.Test.YtmcodflbngkdcaaGreatDoorFFold
import Derived.Test.YtmcodflbngkdcaaGreatDoorGet
import Derived.Test.YtmcodflbngkdcaaGreatDoorCSq
namespace Go.Proofs.YtmcodflbngkdcaaGreatDoor
open Go.RowKit Go.Sort

/-- 32 bytes from a cell on. -/
def Cb (W : World) (b ob : Nat) (A : List Int) : Prop := A.length = 32 ∧ ∀ i, i < 32 → W.cell? ⟨b, ob + i, none⟩ = some (.int .u8 (A.getD i 0))
theorem Cb.keep {W w1 : World} {b ob : Nat} {A : List Int} (h : Cb W b ob A) (hb : Below W.heap.size W w1) : Cb w1 b ob A := ⟨h.1, fun i hi => cell_keep hb (h.2 i hi)⟩
theorem Cb.alloc {W : World} {b ob : Nat} {A : List Int} (h : Cb W b ob A) (o : Obj) : Cb (W.alloc o) b ob A := h.keep ((Below.refl _ _).alloc (Nat.le_refl _) o)
/-- The first byte. -/
def Fb (W : World) (b : Nat) (f : Int) : Prop := W.cell? ⟨b, 0, none⟩ = some (.int .u8 f)
theorem Fb.keep {W w1 : World} {b : Nat} {f : Int} (h : Fb W b f) (hb : Below W.heap.size W w1) : Fb w1 b f := cell_keep hb h
theorem Fb.alloc {W : World} {b : Nat} {f : Int} (h : Fb W b f) (o : Obj) : Fb (W.alloc o) b f := h.keep ((Below.refl _ _).alloc (Nat.le_refl _) o)
theorem Nm.newb {W : World} {b : Nat} {t : TypeId} {n : Int} (e : b = W.heap.size) : Nm (W.alloc (.cells #[.int .u64 (l0 n), .int .u64 (l1 n), .int .u64 (l2 n), .int .u64 (l3 n)] t)) b n := Cl.new _ e rfl

end Go.Proofs.YtmcodflbngkdcaaGreatDoor
