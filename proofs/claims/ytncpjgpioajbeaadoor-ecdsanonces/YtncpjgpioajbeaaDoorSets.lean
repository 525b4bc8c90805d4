import Derived.Test.YtncpjgpioajbeaaDoorFNum
import Derived.Test.YtncpjgpioajbeaaDoorTail
import Derived.Deep.RegionHeld
namespace Go.Proofs.YtncpjgpioajbeaaDoor
open Go.RowKit

/-- Of w, the limbs vs have been written into block b from offset o on, and nothing else. -/
structure Sets (b o : Nat) (vs : List Int) (w w' : World) : Prop where
  os : w'.os = w.os
  tape : w'.tape = w.tape
  output : w'.output = w.output
  size : w'.heap.size = w.heap.size
  block : ∀ k, k ≠ b → w'.heap[k]? = w.heap[k]?
  frozen : ∀ p, w'.frozen? p = w.frozen? p
  out : ∀ j, (j < o ∨ o + vs.length ≤ j) → w'.cell? ⟨b, j, none⟩ = w.cell? ⟨b, j, none⟩
  inn : ∀ i, i < vs.length → w'.cell? ⟨b, o + i, none⟩ = some (.int .u64 (vs.getD i 0))

theorem Sets.start (b o : Nat) (w : World) : Sets b o [] w w := ⟨rfl, rfl, rfl, rfl, fun _ _ => rfl, fun _ => rfl, fun _ _ => rfl, fun i hi => by simp at hi⟩
theorem Sets.drew {b o : Nat} {vs : List Int} {w w' : World} (h : Sets b o vs w w') : Sets b o vs w w'.drew := ⟨h.os, h.tape, h.output, h.size, h.block, h.frozen, h.out, h.inn⟩
theorem Sets.drewN {b o : Nat} {vs : List Int} {w w' : World} (h : Sets b o vs w w') (n : Nat) : Sets b o vs w (w'.drewN n) := ⟨h.os, h.tape, h.output, h.size, h.block, h.frozen, h.out, h.inn⟩
theorem Sets.trans {b o : Nat} {vs us : List Int} {w w1 w2 : World} (h : Sets b o vs w w1) (k : Sets b o us w1 w2) (e : vs.length = us.length) : Sets b o us w w2 :=
  ⟨k.os.trans h.os, k.tape.trans h.tape, k.output.trans h.output, k.size.trans h.size, fun i hi => (k.block i hi).trans (h.block i hi), fun p => (k.frozen p).trans (h.frozen p),
    fun j hj => (k.out j hj).trans (h.out j (by rw [e]; exact hj)), k.inn⟩
theorem Sets.other {b o : Nat} {vs : List Int} {w w' : World} (h : Sets b o vs w w') {p : Addr} (hp : p.block ≠ b) : w'.cell? p = w.cell? p := World.cell?_of_block (w := w) (h.block p.block hp)
theorem Sets.below {b o B : Nat} {vs : List Int} {w w' : World} (h : Sets b o vs w w') (hb : B ≤ b) : Below B w w' :=
  ⟨h.os, h.tape, h.output, Nat.le_of_eq h.size.symm, fun k hk => h.block k (by omega)⟩

end Go.Proofs.YtncpjgpioajbeaaDoor
