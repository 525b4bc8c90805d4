import Derived.Test.YtncpjgpioajbeaaGreatDoorSRNum
/- Rows of whole numbers in blocks. -/
namespace Go.Proofs.YtncpjgpioajbeaaGreatDoor.S
open Go.RowKit Go.Sort

def Ih (W : World) (b : Nat) (L : List Int) : Prop := (∀ i, i < L.length → W.cell? ⟨b, i, none⟩ = some (.int .i64 (L.getD i 0))) ∧ Loose W b L.length
theorem Ih.lt {W : World} {b : Nat} {L : List Int} (h : Ih W b L) (hl : 0 < L.length) : b < W.heap.size := World.block_lt_of_cell? W ⟨b, 0, none⟩ (h.1 0 hl)
theorem Ih.keep {W w1 : World} {b : Nat} {L : List Int} (h : Ih W b L) (hl : 0 < L.length) (hb : Below W.heap.size W w1) : Ih w1 b L := ⟨fun i hi => cell_keep hb (h.1 i hi), h.2.keep hb (h.lt hl)⟩
theorem Ih.alloc {W : World} {b : Nat} {L : List Int} (h : Ih W b L) (hl : 0 < L.length) (o : Obj) : Ih (W.alloc o) b L := h.keep hl ((Below.refl _ _).alloc (Nat.le_refl _) o)
theorem Ih.drew {W : World} {b : Nat} {L : List Int} (h : Ih W b L) : Ih W.drew b L := h
theorem Ih.new {W : World} {b : Nat} (L : List Int) (t : TypeId) (e : b = W.heap.size) : Ih (W.alloc (.cells (L.map (Value.int .i64)).toArray t)) b L := by
  refine ⟨fun i hi => ?_, Loose.new _ _ _ e⟩
  subst e
  rw [World.cell?_alloc_mark]
  simp [List.getElem?_map, List.getD, List.getElem?_eq_getElem hi]
theorem Ih.set {W : World} {b : Nat} {L : List Int} (h : Ih W b L) (i : Nat) (hi : i < L.length) (v : Int) : Ih (W.setCell ⟨b, i, none⟩ (.int .i64 v)) b (L.set i v) := by
  refine ⟨?_, by rw [List.length_set]; exact h.2.set _ _⟩
  intro j hj
  simp at hj
  by_cases e : i = j
  · subst e
    rw [World.cell?_setCell_same _ _ _ (h.1 i hi)]
    simp [List.getD, hi]
  · have ne : (⟨b, i, none⟩ : Addr) ≠ ⟨b, j, none⟩ := by first | (simp; done) | (simp; omega)
    rw [World.cell?_setCell_other _ _ _ _ ne, h.1 j hj]
    simp [List.getD, List.getElem?_set_ne e]
theorem Ih.other {W : World} {b b' i : Nat} {L : List Int} (h : Ih W b L) (ne : b' ≠ b) (v : Value) : Ih (W.setCell ⟨b', i, none⟩ v) b L := ⟨fun j hj => by rw [World.cell?_setCell_far _ _ _ _ ne]; exact h.1 j hj, h.2.set _ _⟩
theorem Ih.otherCells {W : World} {b b' o : Nat} {L : List Int} (h : Ih W b L) (ne : b' ≠ b) (cs : List Value) : Ih (W.setCells b' o cs) b L := ⟨fun j hj => by rw [World.cell?_setCells_out _ _ _ _ _ (fun e => absurd e.symm ne)]; exact h.1 j hj, h.2.setCells _ _ _⟩
theorem Ih.range {W : World} {b : Nat} {L : List Int} (h : Ih W b L) : W.rangeAt b 0 (L.map (Value.int .i64)) := by
  intro j v hv
  rw [List.getElem?_map] at hv
  obtain ⟨x, hx, rfl⟩ := Option.map_eq_some_iff.1 hv
  have hj : j < L.length := (List.getElem?_eq_some_iff.1 hx).1
  rw [Nat.zero_add, h.1 j hj]
  simp [List.getD, hx]
theorem Ih.there {W : World} {b : Nat} {L : List Int} (h : Ih W b L) {k : Nat} (e : L.length = k) : W.there b 0 k := by
  subst e
  intro j hj
  rw [Nat.zero_add]
  exact ⟨by rw [h.1 j hj]; rfl, h.2 j hj⟩
theorem Ih.stored {W : World} {b : Nat} {l L : List Int} (h : Ih W b l) (e : L.length = l.length) : Ih (W.setCells b 0 (L.map (Value.int .i64))) b L := by
  have hr := World.rangeAt_setCells_same W b 0 (L.map (Value.int .i64)) (by rw [List.length_map]; exact h.there e.symm)
  refine ⟨fun i hi => ?_, by rw [e]; exact h.2.setCells _ _ _⟩
  have := hr i (.int .i64 (L.getD i 0)) (by rw [List.getElem?_map, List.getElem?_eq_getElem hi]; simp [List.getD, hi])
  rwa [Nat.zero_add] at this
theorem one_i64 (l : List Int) : (l.map (Value.int .i64)).toArray.all (·.oneCell') = true := all_oneCell_toArray (by
  intro v hv
  obtain ⟨x, _, rfl⟩ := List.mem_map.1 hv
  rfl)
end Go.Proofs.YtncpjgpioajbeaaGreatDoor.S
