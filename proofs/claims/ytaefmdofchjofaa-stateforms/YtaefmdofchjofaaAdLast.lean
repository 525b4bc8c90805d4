import Derived.Test.YtaefmdofchjofaaRowB
import Derived.Test.YtaefmdofchjofaaQTail
import Derived.Test.YtaefmdofchjofaaHold
import Derived.Laws.Cover3
import Derived.Great.Walk
namespace Go.Proofs.Ytaefmdofchjofaa
open Go.RowKit Go.Sort

theorem rangeBox {W : World} {M : List Value} {t : TypeId} : (W.alloc (.cells M.toArray t)).rangeAt W.heap.size 0 M := fun j v hv => by
  rw [Nat.zero_add, World.cell?_alloc_mark]
  simpa using hv
theorem there_new {W : World} {b : Nat} {cs : Array Value} {t : TypeId} (e : b = W.heap.size) {n : Nat} (hn : n = cs.size) : (W.alloc (.cells cs t)).there b 0 n := by
  subst e hn
  intro j hj
  rw [Nat.zero_add, World.cell?_alloc_mark, World.frozen?_alloc_mark]
  refine ⟨by simp [hj], ?_⟩
  simp
theorem wpList_worldA {P : Program} {ops : Array Oper} {Q : Exit → Act → World → Prop} {l : List Oper} {a : Act} {w : World} (I : World → Prop) (h : I w) (k : ∀ W, I W → wpList P ops Q l a W) : wpList P ops Q l a w := k w h
theorem laid_in {w W : World} {n b : Nat} {D : List Value} (B : Below n w W) (hb : n ≤ b) (ht : W.there b 0 D.length) : Below n w (W.setCells b 0 D) ∧ (W.setCells b 0 D).rangeAt b 0 D := ⟨below_setCells hb D 0 W B, World.rangeAt_setCells_same _ _ _ _ ht⟩
end Go.Proofs.Ytaefmdofchjofaa
