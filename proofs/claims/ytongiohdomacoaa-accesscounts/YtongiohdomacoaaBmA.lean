import Derived.Test.YtongiohdomacoaaSBase
import Derived.Test.YtongiohdomacoaaTail
/- Filters: 256 bytes. -/
namespace Go.Proofs.Ytongiohdomacoaa
open Go.RowKit Go.Sort

/-- Block b holds these 256 bytes and may be written. -/
def Blm (W : World) (b : Nat) (M : List (BitVec 8)) : Prop := M.length = 256 ∧ (∀ i, i < 256 → W.cell? ⟨b, i, none⟩ = some (.int .u8 (Y (M.getD i 0)))) ∧ Loose W b 256
theorem Blm.lt {W : World} {b : Nat} {M : List (BitVec 8)} (h : Blm W b M) : b < W.heap.size := World.block_lt_of_cell? W ⟨b, 0, none⟩ (h.2.1 0 (by decide))
theorem Blm.keep {W w1 : World} {b : Nat} {M : List (BitVec 8)} (h : Blm W b M) (hb : Below W.heap.size W w1) : Blm w1 b M := ⟨h.1, fun i hi => cell_keep hb (h.2.1 i hi), h.2.2.keep hb h.lt⟩
theorem Blm.alloc {W : World} {b : Nat} {M : List (BitVec 8)} (h : Blm W b M) (o : Obj) : Blm (W.alloc o) b M := h.keep ((Below.refl _ _).alloc (Nat.le_refl _) o)
theorem Blm.drew {W : World} {b : Nat} {M : List (BitVec 8)} (h : Blm W b M) : Blm W.drew b M := h
theorem Blm.other {W : World} {b b' i : Nat} {M : List (BitVec 8)} (h : Blm W b M) (ne : b' ≠ b) (v : Value) : Blm (W.setCell ⟨b', i, none⟩ v) b M := ⟨h.1, fun j hj => by rw [World.cell?_setCell_far _ _ _ _ ne]; exact h.2.1 j hj, h.2.2.set _ _⟩
theorem Blm.otherCells {W : World} {b b' o : Nat} {M : List (BitVec 8)} (h : Blm W b M) (ne : b' ≠ b) (cs : List Value) : Blm (W.setCells b' o cs) b M := ⟨h.1, fun j hj => by rw [World.cell?_setCells_out _ _ _ _ _ (fun e => absurd e.symm ne)]; exact h.2.1 j hj, h.2.2.setCells _ _ _⟩
theorem Blm.set {W : World} {b : Nat} {M : List (BitVec 8)} (h : Blm W b M) (i : Nat) (hi : i < 256) (v : BitVec 8) : Blm (W.setCell ⟨b, i, none⟩ (.int .u8 (Y v))) b (M.set i v) := by
  refine ⟨by rw [List.length_set]; exact h.1, fun j hj => ?_, h.2.2.set _ _⟩
  by_cases e : i = j
  · subst e
    rw [World.cell?_setCell_same _ _ _ (h.2.1 i hi)]
    simp [List.getD, h.1, hi]
  · have ne : (⟨b, i, none⟩ : Addr) ≠ ⟨b, j, none⟩ := by first | (simp; done) | (simp; omega)
    rw [World.cell?_setCell_other _ _ _ _ ne, h.2.1 j hj]
    simp [List.getD, List.getElem?_set_ne e]
theorem Blm.range {W : World} {b : Nat} {M : List (BitVec 8)} (h : Blm W b M) : W.rangeAt b 0 (byts M) := by
  intro j v hv
  unfold byts at hv
  rw [List.getElem?_map] at hv
  obtain ⟨x, hx, rfl⟩ := Option.map_eq_some_iff.1 hv
  have hj : j < M.length := (List.getElem?_eq_some_iff.1 hx).1
  rw [Nat.zero_add, h.2.1 j (by rw [← h.1]; exact hj)]
  simp [List.getD, hx]
theorem Blm.there {W : World} {b : Nat} {M : List (BitVec 8)} (h : Blm W b M) : W.there b 0 256 := by
  intro j hj
  rw [Nat.zero_add]
  exact ⟨by rw [h.2.1 j hj]; rfl, h.2.2 j hj⟩
theorem Blm.new {W : World} {b : Nat} {M : List (BitVec 8)} (hl : M.length = 256) (t : TypeId) (e : b = W.heap.size) : Blm (W.alloc (.cells (byts M).toArray t)) b M := by
  refine ⟨hl, fun i hi => ?_, Loose.new _ _ _ e⟩
  subst e
  rw [World.cell?_alloc_mark]
  simp [byts, List.getD, show i < M.length by omega]
theorem Blm.stored {W : World} {b : Nat} {M T : List (BitVec 8)} (h : Blm W b T) (hl : M.length = 256) : Blm (W.setCells b 0 (byts M)) b M := by
  refine ⟨hl, fun i hi => ?_, h.2.2.setCells _ _ _⟩
  have := World.rangeAt_setCells_same W b 0 (byts M) (by rw [byts_len, hl]; exact h.there) i (.int .u8 (Y (M.getD i 0))) (by simp [byts, List.getD, show i < M.length by omega])
  rwa [Nat.zero_add] at this
theorem Blm.off {w w' : World} {a b : Nat} {M : List (BitVec 8)} (h : Blm w a M) (o : Off b w w') (ne : a ≠ b) : Blm w' a M :=
  ⟨h.1, fun i hi => o.cell ne (h.2.1 i hi), fun i hi => by rw [World.frozen?_of_block (o.block a h.lt ne)]; exact h.2.2 i hi⟩
theorem Blm.grown {W : World} {b : Nat} {M : List (BitVec 8)} (h : Blm W b M) (d : Nat) (os : Array Obj) : Blm (grow (redrawn W d) os) b M := h.keep (below_regrown W d os)
def zF : List (BitVec 8) := List.replicate 256 0
/-- Ints in a row. -/
def Ixs (W : World) (b o : Nat) (L : List Int) : Prop := ∀ i, i < L.length → W.cell? ⟨b, o + i, none⟩ = some (.int .i64 (L.getD i 0))
theorem Ixs.keep {W w1 : World} {b o : Nat} {L : List Int} (h : Ixs W b o L) (hb : Below W.heap.size W w1) : Ixs w1 b o L := fun i hi => cell_keep hb (h i hi)
theorem Ixs.below {W w1 : World} {b o n : Nat} {L : List Int} (h : Ixs W b o L) (hb : Below n W w1) (hl : L = [] ∨ b < n) : Ixs w1 b o L := by
  rcases hl with rfl | e
  · exact fun i hi => absurd hi (by simp)
  · exact fun i hi => by rw [hb.cell (p := ⟨b, o + i, none⟩) e]; exact h i hi
theorem Ixs.off {w w' : World} {b b' o : Nat} {L : List Int} (h : Ixs w b o L) (ho : Off b' w w') (ne : b ≠ b') : Ixs w' b o L := fun i hi => ho.cell ne (h i hi)
end Go.Proofs.Ytongiohdomacoaa
