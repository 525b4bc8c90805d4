import Derived.StillTail
import Derived.BigQuiet
import Derived.Below
import Derived.Shelf.Strconv.Itoa0
import Derived.Shelf.Bits.Mul64
import Derived.Test.YtjppjieidjodfabDoorProg
import Derived.Test.YtjppjieidjodfabDoorLeaf
import Derived.Deep.RegionHeld
namespace Go.Proofs.YtjppjieidjodfabDoor

section
variable {P : Program} {ops : Array Oper} {w0 : World}

theorem still_of_quiet_op {o : Oper} {a : Act} {K K' : Act → Prop} (hK : ∀ a, K a → K' a) (h : o.quiet P a (fun w' => w' = w0) K) : o.still P a w0 K' := by
  obtain ⟨v, h1, h2⟩ := h
  have h3 := h1 w0 rfl
  unfold Oper.quietAt at h3
  unfold Oper.still
  generalize (execOp a.eval o).run P w0 = r at *
  cases r with
  | ok n w' =>
    cases n <;> simp only [Oper.quietUpon] at h3 <;> simp only [Oper.stillUpon]
    case value u => exact ⟨h3.1, h3.2 ▸ hK _ h2⟩
    case skip => exact ⟨h3.1, h3.2 ▸ hK _ h2⟩
    case enter f args => exact ⟨h3.1, v, h3.2, hK _ h2⟩
  | halt x w' => simp only [Oper.quietUpon] at h3

theorem still_of_quiet {Q : Act → Prop} : ∀ (l : List Oper) (a : Act), wpQuiet P ops (fun w' => w' = w0) Q l a → wpStill P ops w0 Q l a
  | [], _, h => h
  | o :: l, a, h => by
    unfold wpQuiet at h
    unfold wpStill
    split
    · rename_i hw; rw [if_pos hw] at h; exact still_of_quiet_op (fun a' h' => still_of_quiet l a' h') h
    · rename_i hw; rw [if_neg hw] at h; exact still_of_quiet l _ h

/-- A region that draws its order: up to operation n it only reads; from n on the order is forced. -/
theorem region_tail {id : Nat} {Q : Exit → Act → World → Prop} {a : Act} {w : World} {l : List Oper} (n : Nat) (hm : P.follows .mixedOrders = true) (hB : Region.lexTailB .any l.toArray n = true)
    (h : wpQuiet P l.toArray (fun w' => w' = w.drew) (fun a' => wpList P l.toArray Q (l.drop n) a' w.drew) (l.take n) a) : (Code.region id l.toArray true).wp P Q a w :=
  wp_region_still_tail n hm hB (still_of_quiet _ _ h)
end

/-- A callee that only makes memory leaves every older cell and its mark. -/
theorem oldCells {W w1 : World} (h : Go.RowKit.Below W.heap.size W w1) (b o : Nat) (hb : b < W.heap.size) : w1.cell? ⟨b, o, none⟩ = W.cell? ⟨b, o, none⟩ ∧ w1.frozen? ⟨b, o, none⟩ = W.frozen? ⟨b, o, none⟩ :=
  ⟨h.cell hb, h.frozen hb⟩

end Go.Proofs.YtjppjieidjodfabDoor

namespace Go.Proofs
open Go.Shelf
def Tryd.lays129_ren : Go.Shelf.Ren := ⟨fun | 129 => 122 | n => n, fun | 53 => 22 | 3 => 3 | 4 => 4 | 46 => 98 | 5 => 5 | 9 => 9 | n => n, fun | n => n⟩
theorem Tryd.lays129 : Go.Proofs.Lays.n129 Tryd.prog Tryd.lays129_ren := {
  mixed := by kernel_rfl
  f129 := Tryd.func122.trans (congrArg some (by kernel_rfl))
  t3 := Tryd.underlying3
  a3 := Tryd.isAgg3
  z3 := Tryd.sizeOf3
  v3 := Tryd.zeroValue3
  t4 := Tryd.underlying4
  a4 := Tryd.isAgg4
  z4 := Tryd.sizeOf4
  v4 := Tryd.zeroValue4
  t5 := Tryd.underlying5
  a5 := Tryd.isAgg5
  z5 := Tryd.sizeOf5
  v5 := Tryd.zeroValue5
  t9 := Tryd.underlying9
  a9 := Tryd.isAgg9
  z9 := Tryd.sizeOf9
  v9 := Tryd.zeroValue9
  t46 := Tryd.underlying98
  a46 := Tryd.isAgg98
  z46 := Tryd.sizeOf98
  v46 := Tryd.zeroValue98
  t53 := Tryd.underlying22
  a53 := Tryd.isAgg22
  z53 := Tryd.sizeOf22
  v53 := Tryd.zeroValue22 }
theorem Tryd.bits_Len64 (x : Int) (w : World) (h0 : 0 ≤ x) (h1 : x ≤ 18446744073709551615) :
    Calls Tryd.prog 122 #[.int .u64 x] w fun e w' => e = .returned (.int .i64 (Lib.bitLen x.toNat)) ∧ w' = w := Any.bits_Len64 Tryd.lays129 x w h0 h1
def Tryd.lays264_ren : Go.Shelf.Ren := ⟨fun | 264 => 129 | n => n, fun | 53 => 22 | 46 => 98 | n => n, fun | n => n⟩
theorem Tryd.lays264 : Go.Proofs.Lays.n264 Tryd.prog Tryd.lays264_ren := {
  mixed := by kernel_rfl
  f264 := Tryd.func129.trans (congrArg some (by kernel_rfl))
  t46 := Tryd.underlying98
  a46 := Tryd.isAgg98
  z46 := Tryd.sizeOf98
  v46 := Tryd.zeroValue98
  t53 := Tryd.underlying22
  a53 := Tryd.isAgg22
  z53 := Tryd.sizeOf22
  v53 := Tryd.zeroValue22 }
open Go.RowKit Go.Lib in
theorem Tryd.bits_Mul64 (x y : Nat) (hx : x < 18446744073709551616) (hy : y < 18446744073709551616) (w : World) :
    Calls Tryd.prog 129 #[.int .u64 x, .int .u64 y] w fun e w' => e = .returned (.tuple #[.int .u64 ((x * y / 18446744073709551616 : Nat) : Int), .int .u64 ((x * y % 18446744073709551616 : Nat) : Int)]) ∧ w' = w := Any.bits_Mul64 Tryd.lays264 x y hx hy w
end Go.Proofs

namespace Go.Proofs.YtjppjieidjodfabDoor
open Go.RowKit

/-- Of w, the limbs vs have been written into block b from offset o on, and nothing else. -/
structure Sets (b o : Nat) (vs : List Int) (w w' : World) : Prop where
  os : w'.os = w.os
  tape : w'.tape = w.tape
  output : w'.output = w.output
  size : w'.heap.size = w.heap.size
  block : ∀ k, k ≠ b → w'.heap[k]? = w.heap[k]?
  frozen : ∀ p, w'.frozen? p = w.frozen? p
  out : ∀ j, (j < o ∨ o + vs.length ≤ j) → w'.cell? ⟨b, j, none⟩ = w.cell? ⟨b, j, none⟩
  inn : ∀ i, i < vs.length → w'.cell? ⟨b, o + i, none⟩ = some (.int .u64 (vs.getD i 0))

theorem Sets.start (b o : Nat) (w : World) : Sets b o [] w w := ⟨rfl, rfl, rfl, rfl, fun _ _ => rfl, fun _ => rfl, fun _ _ => rfl, fun i hi => by simp at hi⟩
theorem Sets.drew {b o : Nat} {vs : List Int} {w w' : World} (h : Sets b o vs w w') : Sets b o vs w w'.drew := ⟨h.os, h.tape, h.output, h.size, h.block, h.frozen, h.out, h.inn⟩
theorem Sets.drewN {b o : Nat} {vs : List Int} {w w' : World} (h : Sets b o vs w w') (n : Nat) : Sets b o vs w (w'.drewN n) := ⟨h.os, h.tape, h.output, h.size, h.block, h.frozen, h.out, h.inn⟩
theorem Sets.ofDraws {b o : Nat} {vs : List Int} {w w' : World} {n : Nat} (h : Sets b o vs (w.drewN n) w') : Sets b o vs w w' := ⟨h.os, h.tape, h.output, h.size, h.block, h.frozen, h.out, h.inn⟩
theorem Sets.snoc {b o : Nat} {vs : List Int} {w w1 : World} (h : Sets b o vs w w1) {u : Value} (hc : w.cell? ⟨b, o + vs.length, none⟩ = some u) (v : Int) (j : Nat) (hj : j = o + vs.length) : Sets b o (vs ++ [v]) w (w1.setCell ⟨b, j, none⟩ (.int .u64 v)) := by
  subst hj
  have hc1 : w1.cell? ⟨b, o + vs.length, none⟩ = some u := by rw [h.out _ (by omega)]; exact hc
  refine ⟨h.os, h.tape, h.output, ?_, fun k hk => ?_, fun p => ?_, fun j hj => ?_, fun i hi => ?_⟩
  · rw [← h.size]; simp [World.setCell]
  · rw [Below.heap_setCell _ _ _ _ hk]; exact h.block k hk
  · rw [World.frozen?_setCell]; exact h.frozen p
  · simp at hj
    have ne : (⟨b, o + vs.length, none⟩ : Addr) ≠ ⟨b, j, none⟩ := by simp; omega
    rw [World.cell?_setCell_other _ _ _ _ ne]
    exact h.out j (by omega)
  · simp at hi
    by_cases e : i = vs.length
    · subst e
      rw [World.cell?_setCell_same _ _ _ hc1]
      simp
    · have ne : (⟨b, o + vs.length, none⟩ : Addr) ≠ ⟨b, o + i, none⟩ := by simp; omega
      rw [World.cell?_setCell_other _ _ _ _ ne, h.inn i (by omega)]
      simp [List.getD, List.getElem?_append_left (show i < vs.length by omega)]
theorem Sets.trans {b o : Nat} {vs us : List Int} {w w1 w2 : World} (h : Sets b o vs w w1) (k : Sets b o us w1 w2) (e : vs.length = us.length) : Sets b o us w w2 :=
  ⟨k.os.trans h.os, k.tape.trans h.tape, k.output.trans h.output, k.size.trans h.size, fun i hi => (k.block i hi).trans (h.block i hi), fun p => (k.frozen p).trans (h.frozen p),
    fun j hj => (k.out j hj).trans (h.out j (by rw [e]; exact hj)), k.inn⟩
theorem Sets.other {b o : Nat} {vs : List Int} {w w' : World} (h : Sets b o vs w w') {p : Addr} (hp : p.block ≠ b) : w'.cell? p = w.cell? p := World.cell?_of_block (w := w) (h.block p.block hp)
theorem Sets.below {b o B : Nat} {vs : List Int} {w w' : World} (h : Sets b o vs w w') (hb : B ≤ b) : Below B w w' :=
  ⟨h.os, h.tape, h.output, Nat.le_of_eq h.size.symm, fun k hk => h.block k (by omega)⟩

end Go.Proofs.YtjppjieidjodfabDoor
