import Derived.Test.YtkmdhencmppemaaNbG
/- Layer 11: Unpack. -/
namespace Go.Proofs.Ytkmdhencmppemaa
open Go.RowKit Go.Sort

/-- Are these bytes a packed row? -/
def okU (D : List Int) : Prop := D ≠ [] ∧ (D.getD 0 0 = 0 ∨ D.getD 0 0 = 32 ∨ (16 ≤ D.getD 0 0 ∧ D.getD 0 0 < 32) ∨ (48 ≤ D.getD 0 0 ∧ D.getD 0 0 < 64))
instance (D : List Int) : Decidable (okU D) := by unfold okU; infer_instance
def unpR (D : List Int) : List Int := if D.getD 0 0 / 16 % 2 = 1 then [D.getD 0 0 % 16] else []
def unpX (D : List Int) : List Int := if okU D then unpR D ++ ofL (D.drop 1) else []
def unpM (D : List Int) : Bool := decide (okU D ∧ 32 ≤ D.getD 0 0)
def unpE (D : List Int) : Int := if okU D then 0 else 110
/-- Each byte modulo 16. -/
def modL (X : List Int) : List Int := X.map (· % 16)
theorem modL_len (X : List Int) : (modL X).length = X.length := by simp [modL]
theorem modL_row (X : List Int) : ∀ x ∈ modL X, 0 ≤ x ∧ x ≤ 15 := fun x hx => by
  obtain ⟨y, _, rfl⟩ := List.mem_map.1 hx
  exact ⟨by omega, by omega⟩
theorem modL_bys (X : List Int) : Bys (modL X) := fun x hx => by have := modL_row X x hx; omega
theorem modL_rowB (X : List Int) : rowB (modL X) = true := (rowB_iff (modL_bys X)).2 (modL_row X)
theorem made_full {w : World} (n : Nat) (hn : n ≤ 281474976710656) : OwnB w.heap.size (w.alloc (.cells (madeCells #[Value.int .u8 0] n) 5)) (.slice (some ⟨w.heap.size, 0, none⟩) n n) (List.replicate n 0) := by
  have := World.ownsRow_lit (base := w.heap.size) (e := 5) (size := 1) w (madeCells #[Value.int .u8 0] n) n (Nat.le_refl _) (by unfold maxLen; omega) (by rw [made_bytes]; simp)
  rw [OwnB, List.length_replicate, List.map_replicate]
  rw [made_bytes] at this ⊢
  exact this
end Go.Proofs.Ytkmdhencmppemaa
