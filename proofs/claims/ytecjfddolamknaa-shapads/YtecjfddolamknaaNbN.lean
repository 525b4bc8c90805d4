import Derived.Test.YtecjfddolamknaaNbM
/- Layer 11: apart. -/
namespace Go.Proofs.Ytecjfddolamknaa
open Go.RowKit Go.Sort

/-- What is kept but for the blocks of n slices. -/
structure Many (w w' : World) (n : Nat) (V : Nat → Value) : Prop where
  os : w'.os = w.os
  tape : w'.tape = w.tape
  output : w'.output = w.output
  size : w.heap.size ≤ w'.heap.size
  block : ∀ k, k < w.heap.size → (∀ i, i < n → (V i).ownBlock ≠ some k) → w'.heap[k]? = w.heap[k]?
theorem Many.refl (w : World) (n : Nat) (V : Nat → Value) : Many w w n V := ⟨rfl, rfl, rfl, Nat.le_refl _, fun _ _ _ => rfl⟩
theorem Many.grown {w w1 w2 : World} {n i : Nat} {V : Nat → Value} (h : Many w w1 n V) (hi : i < n) (hg : w1.grownBy w2 (V i).ownBlock) : Many w w2 n V :=
  ⟨hg.os.trans h.os, hg.tape.trans h.tape, hg.output.trans h.output, Nat.le_trans h.size hg.size, fun k hk hn => (hg.block k (Nat.lt_of_lt_of_le hk h.size) (fun e => hn i hi e.symm)).trans (h.block k hk hn)⟩
/-- n slices in a list: all can be read, those from s on are the call's own. -/
structure Fam (B : Nat) (W : World) (gl n : Nat) (V : Nat → Value) (F : Nat → List Int) (s : Nat) : Prop where
  cell : ∀ i, i < n → W.cell? ⟨gl, i, none⟩ = some (V i)
  rd : ∀ i, i < n → Rd W (V i) (F i)
  own : ∀ i, s ≤ i → i < n → OwnB B W (V i) (F i)
  dis : ∀ i j k, i < n → j < n → i ≠ j → (V i).ownBlock = some k → (V j).ownBlock ≠ some k
  far : ∀ i k, i < n → (V i).ownBlock = some k → gl ≠ k
theorem Fam.step {B gl n s s' i : Nat} {W W' : World} {V : Nat → Value} {F : Nat → List Int} {Y : List Int} (h : Fam B W gl n V F s) (hi : i < n) (hg : W.grownBy W' (V i).ownBlock) (hr : Rd W' (V i) Y) (ho : s' ≤ i → OwnB B W' (V i) Y) (hs : s ≤ s') : Fam B W' gl n V (fun j => if j = i then Y else F j) s' where
  cell := fun j hj => hg.cell (h.cell j hj) (fun e => h.far i gl hi e.symm rfl)
  rd := fun j hj => by
    by_cases e : j = i
    · subst e; simpa using hr
    · simp only [if_neg e]
      exact (h.rd j hj).kept hg (fun k hk => h.dis j i k hj hi e hk)
  own := fun j h1 h2 => by
    by_cases e : j = i
    · subst e; simpa using ho h1
    · simp only [if_neg e]
      exact (h.own j (Nat.le_trans hs h1) h2).kept hg (fun k hk => h.dis j i k h2 hi e hk)
  dis := h.dis
  far := h.far
theorem Fam.congr {B gl n s : Nat} {W : World} {V : Nat → Value} {F G : Nat → List Int} (h : Fam B W gl n V F s) (e : ∀ i, i < n → F i = G i) : Fam B W gl n V G s :=
  ⟨h.cell, fun i hi => e i hi ▸ h.rd i hi, fun i h1 h2 => e i h2 ▸ h.own i h1 h2, h.dis, h.far⟩
theorem rep_snoc (k : Nat) (x : Int) : List.replicate k x ++ [x] = List.replicate (k + 1) x := by rw [List.replicate_succ']
end Go.Proofs.Ytecjfddolamknaa
