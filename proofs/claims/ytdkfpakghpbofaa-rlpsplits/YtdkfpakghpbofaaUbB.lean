import Derived.Test.YtdkfpakghpbofaaUbA
/- Layer 1: the document's Bytes. -/
namespace Go.Proofs.Ytdkfpakghpbofaa
open Go.RowKit

end Go.Proofs.Ytdkfpakghpbofaa

/- Layer 1: slices.Clone, Bytes. -/
namespace Go.Proofs.Ytdkfpakghpbofaa
open Go.RowKit Go.Sort

theorem heap_newU (W : World) (o : Obj) : (W.alloc o).heap[W.heap.size]? = some o := by
  show (W.heap.push o)[W.heap.size]? = some o
  simp
theorem src_bz {W : World} {b o : Nat} {X : List Int} (h : Bz W b o X) (j : Nat) (u : Value) (hu : (X.map (Value.int .u8))[j]? = some u) : W.cell? ((⟨b, o, none⟩ : Addr).add j) = some u := by
  rw [List.getElem?_map] at hu
  obtain ⟨x, hx, rfl⟩ := Option.map_eq_some_iff.1 hu
  have hj : j < X.length := (List.getElem?_eq_some_iff.1 hx).1
  rw [Addr.add_mid, h j hj]
  simp [List.getD, hx]
theorem own_mt (B : Nat) (W : World) (hB : B ≤ W.heap.size) : OwnB B (W.alloc (.cells #[] 5)) (.slice (some ⟨W.heap.size, 0, none⟩) 0 0) [] :=
  ⟨rfl, .inr ⟨W.heap.size, 0, _, rfl, hB, heap_newU _ _, Nat.le_refl _, by unfold maxLen; omega, rfl, rfl⟩⟩
theorem sl_some (w : World) (a : Addr) (n c : Nat) : (binOp .eql 22 (.slice (some a) n c) (.slice none 0 0)).run Try.prog w = .ok (.bool false) w := by kernel_rfl
end Go.Proofs.Ytdkfpakghpbofaa
