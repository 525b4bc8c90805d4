import Derived.Test.YtanokeeffbiijaaDoorTsT
import Derived.Deep.RegionHeld
import Derived.OrdersHeld
/- Tools: a variable made, a value stored whole, a cell stored: the world behind it under a name. -/
namespace Go.Proofs.YtanokeeffbiijaaDoor.tq
open Go.RowKit Go.Sort
theorem heap_setT {W : World} {b i k : Nat} {v : Value} (h : k ≠ b) : (W.setCell ⟨b, i, none⟩ v).heap[k]? = W.heap[k]? := Below.heap_setCell W ⟨b, i, none⟩ v k h
theorem heap_setsT {b k : Nat} (h : k ≠ b) : ∀ (vs : List Value) (o : Nat) (W : World), (W.setCells b o vs).heap[k]? = W.heap[k]?
  | [], _, _ => rfl
  | v :: vs, o, W => (heap_setsT h vs (o + 1) (W.setCell ⟨b, o, none⟩ v)).trans (heap_setT h)
theorem range_same {W W' : World} {b o : Nat} {A : List Value} (h : W.rangeAt b o A) (e : W'.heap[b]? = W.heap[b]?) : W'.rangeAt b o A := fun j v hv => by
  rw [World.cell?_of_block (w := W) (a := ⟨b, o + j, none⟩) e]; exact h j v hv
theorem there_same {W W' : World} {b o n : Nat} (h : W.there b o n) (e : W'.heap[b]? = W.heap[b]?) : W'.there b o n := fun j hj => ⟨by
  rw [World.cell?_of_block (w := W) (a := ⟨b, o + j, none⟩) e]; exact (h j hj).1, by
  rw [World.frozen?_of_block (w := W) (a := ⟨b, o + j, none⟩) e]; exact (h j hj).2⟩
theorem there_keepT {W W' : World} {b o n : Nat} (h : W.there b o n) (lt : b < W.heap.size) (B : Below W.heap.size W W') : W'.there b o n := there_same h (B.block b lt)
/-- All blocks but b are as they were. -/
structure But (W W' : World) (b : Nat) : Prop where
  os : W'.os = W.os
  tape : W'.tape = W.tape
  output : W'.output = W.output
  size : W'.heap.size = W.heap.size
  block : ∀ k, k ≠ b → W'.heap[k]? = W.heap[k]?
theorem But.below {n : Nat} {w W W' : World} {b : Nat} (h : But W W' b) (hb : n ≤ b) (B : Below n w W) : Below n w W' := ⟨h.os.trans B.os, h.tape.trans B.tape, h.output.trans B.output, by rw [h.size]; exact B.size, fun k hk => (h.block k (by omega)).trans (B.block k hk)⟩
theorem size_setT (W : World) (a : Addr) (v : Value) : (W.setCell a v).heap.size = W.heap.size := World.size_setCell _ _ _
theorem but_set {W : World} {b i : Nat} {v : Value} : But W (W.setCell ⟨b, i, none⟩ v) b := ⟨rfl, rfl, rfl, size_setT _ _ _, fun _ h => heap_setT h⟩
theorem but_sets {b : Nat} : ∀ (vs : List Value) (o : Nat) (W : World), But W (W.setCells b o vs) b
  | [], _, _ => ⟨rfl, rfl, rfl, rfl, fun _ _ => rfl⟩
  | v :: vs, o, W =>
    have h1 := but_sets (b := b) vs (o + 1) (W.setCell ⟨b, o, none⟩ v)
    have h2 : But W (W.setCell ⟨b, o, none⟩ v) b := but_set
    ⟨h1.os.trans h2.os, h1.tape.trans h2.tape, h1.output.trans h2.output, h1.size.trans h2.size, fun k hk => (h1.block k hk).trans (h2.block k hk)⟩
end Go.Proofs.YtanokeeffbiijaaDoor.tq
