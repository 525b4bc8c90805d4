import Derived.Test.YtkmdhencmppemaaNbC
import Derived.Deep.RegionHeld
import Derived.Deep.AppendLies
/- Layer 11: join, Key. -/
namespace Go.Proofs.Ytkmdhencmppemaa
open Go.RowKit Go.Sort

theorem joinL_next : ∀ {R : List Int} {j : Nat}, 2 * j + 1 < R.length → joinL (R.take (2 * (j + 1))) = joinL (R.take (2 * j)) ++ [16 * R.getD (2 * j) 0 + R.getD (2 * j + 1) 0]
  | [], _, h => by simp at h
  | [_], _, h => by simp at h
  | x :: y :: R, 0, _ => by simp [joinL]
  | x :: y :: R, j + 1, h => by
    have e1 : 2 * (j + 1 + 1) = 2 * (j + 1) + 1 + 1 := by omega
    have e2 : 2 * (j + 1) = 2 * j + 1 + 1 := by omega
    have ih := joinL_next (R := R) (j := j) (by simp at h; omega)
    rw [e1, List.take_succ_cons, List.take_succ_cons, joinL, ih, e2, List.take_succ_cons, List.take_succ_cons, joinL]
    simp
theorem cell_oneN (w : World) (x : Value) (t : TypeId) : ∀ (j : Nat) u, [x][j]? = some u → (w.alloc (.cells #[x] t)).drew.cell? (Addr.add ⟨w.heap.size, 0, none⟩ j) = some u := cell_one_new w x t

/-- Key: its error, its answer. -/
def keyE (X : List Int) : Int := if X.length % 2 = 1 ∨ rowB X = false then 110 else 0
def keyX (X : List Int) : List Int := if X.length % 2 = 1 ∨ rowB X = false then [] else joinL X
end Go.Proofs.Ytkmdhencmppemaa
