import Derived.Test.YtcjabligkeaafaaDoorRowB
import Derived.Test.YtcjabligkeaafaaDoorQTail
import Derived.Test.YtcjabligkeaafaaDoorHold
import Derived.Test.YtcjabligkeaafaaDoorRows
import Derived.Test.YtcjabligkeaafaaDoorNum
import Derived.WalkKit
import Derived.WalkSpells
import Derived.WalkLawsBesides
import Derived.Laws.Externs
import Derived.Shelf.Spec.BitsCarry
import Derived.Lib.Mul64
import Derived.Laws.Bits64b
import Derived.LoopN
import Derived.BigRegion
import Derived.Deep.RegionWith
import Derived.Test.YtcjabligkeaafaaDoorTail
import Derived.Laws.Cover3
import Derived.Great.Walk
namespace Go.Proofs.YtcjabligkeaafaaDoor
open Go.RowKit Go.Sort

theorem range_keep {W W' : World} {n b o : Nat} {M : List Value} (h : W.rangeAt b o M) (hb : Below n W W') (hl : b < n) : W'.rangeAt b o M := fun j v hv => by
  rw [hb.cell (p := ⟨b, o + j, none⟩) hl]; exact h j v hv
theorem there_new {W : World} {b : Nat} {cs : Array Value} {t : TypeId} (e : b = W.heap.size) {n : Nat} (hn : n = cs.size) : (W.alloc (.cells cs t)).there b 0 n := by
  subst e hn
  intro j hj
  rw [Nat.zero_add, World.cell?_alloc_mark, World.frozen?_alloc_mark]
  refine ⟨by simp [hj], ?_⟩
  simp
theorem wpList_worldA {P : Program} {ops : Array Oper} {Q : Exit → Act → World → Prop} {l : List Oper} {a : Act} {w : World} (I : World → Prop) (h : I w) (k : ∀ W, I W → wpList P ops Q l a W) : wpList P ops Q l a w := k w h
theorem laid_in {w W : World} {n b : Nat} {D : List Value} (B : Below n w W) (hb : n ≤ b) (ht : W.there b 0 D.length) : Below n w (W.setCells b 0 D) ∧ (W.setCells b 0 D).rangeAt b 0 D := ⟨below_setCells hb D 0 W B, World.rangeAt_setCells_same _ _ _ _ ht⟩
end Go.Proofs.YtcjabligkeaafaaDoor
