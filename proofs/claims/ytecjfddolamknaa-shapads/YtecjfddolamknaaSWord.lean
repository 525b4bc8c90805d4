import Derived.Test.YtecjfddolamknaaSBase
/- Words of 32 bits; rows of them in blocks. -/
namespace Go.Proofs.Ytecjfddolamknaa
open Go.RowKit Go.Sort

theorem U_there : ∃ f : BitVec 32 → Int, ∀ x, f x = (x.toNat : Int) := ⟨_, fun _ => rfl⟩
/-- A word as the program's number: under a name that the walk cannot open. -/
noncomputable def U : BitVec 32 → Int := Classical.choose U_there
theorem U_eq (x : BitVec 32) : U x = (x.toNat : Int) := Classical.choose_spec U_there x
theorem U_zero : U 0 = 0 := by rw [U_eq]; rfl
/-- A row of words as values. -/
noncomputable def wrds (L : List (BitVec 32)) : List Value := L.map fun x => .int .u32 (U x)
theorem wrds_len (L : List (BitVec 32)) : (wrds L).length = L.length := by simp [wrds]
/-- Block b holds these words from offset o on. -/
def Wds (W : World) (b o : Nat) (L : List (BitVec 32)) : Prop := ∀ i, i < L.length → W.cell? ⟨b, o + i, none⟩ = some (.int .u32 (U (L.getD i 0)))
theorem Wds.lt {W : World} {b o : Nat} {L : List (BitVec 32)} (h : Wds W b o L) (hl : 0 < L.length) : b < W.heap.size := World.block_lt_of_cell? W ⟨b, o + 0, none⟩ (h 0 hl)
theorem Wds.keep {W w1 : World} {b o : Nat} {L : List (BitVec 32)} (h : Wds W b o L) (hb : Below W.heap.size W w1) : Wds w1 b o L := fun i hi => cell_keep hb (h i hi)
theorem Wds.alloc {W : World} {b o : Nat} {L : List (BitVec 32)} (h : Wds W b o L) (x : Obj) : Wds (W.alloc x) b o L := h.keep ((Below.refl _ _).alloc (Nat.le_refl _) x)
theorem Wds.drew {W : World} {b o : Nat} {L : List (BitVec 32)} (h : Wds W b o L) : Wds W.drew b o L := h
theorem Wds.grown {W : World} {b o : Nat} {L : List (BitVec 32)} (h : Wds W b o L) (d : Nat) (os : Array Obj) : Wds (grow (redrawn W d) os) b o L := fun i hi => cell_regrown (h i hi) d os
theorem Wds.other {W : World} {b b' o i : Nat} {L : List (BitVec 32)} (h : Wds W b o L) (ne : b' ≠ b) (v : Value) : Wds (W.setCell ⟨b', i, none⟩ v) b o L := fun j hj => by rw [World.cell?_setCell_far _ _ _ _ ne]; exact h j hj
theorem Wds.otherCells {W : World} {b b' o p : Nat} {L : List (BitVec 32)} (h : Wds W b o L) (ne : b' ≠ b) (cs : List Value) : Wds (W.setCells b' p cs) b o L := fun j hj => by
  rw [World.cell?_setCells_out _ _ _ _ _ (fun e => absurd e.symm ne)]; exact h j hj
theorem Wds.off {b a o : Nat} {w w' : World} (h : Off b w w') {L : List (BitVec 32)} (ne : a ≠ b) (hL : Wds w a o L) : Wds w' a o L := fun i hi => h.cell ne (hL i hi)
theorem Wds.set {W : World} {b o : Nat} {L : List (BitVec 32)} (h : Wds W b o L) (i : Nat) (hi : i < L.length) (v : BitVec 32) : Wds (W.setCell ⟨b, o + i, none⟩ (.int .u32 (U v))) b o (L.set i v) := by
  intro j hj
  simp at hj
  by_cases e : i = j
  · subst e
    rw [World.cell?_setCell_same _ _ _ (h i hi)]
    simp [List.getD, hi]
  · have ne : (⟨b, o + i, none⟩ : Addr) ≠ ⟨b, o + j, none⟩ := by first | (simp; done) | (simp; omega)
    rw [World.cell?_setCell_other _ _ _ _ ne, h j hj]
    simp [List.getD, List.getElem?_set_ne e]
theorem Wds.range {W : World} {b o : Nat} {L : List (BitVec 32)} (h : Wds W b o L) : W.rangeAt b o (wrds L) := by
  intro j v hv
  unfold wrds at hv
  rw [List.getElem?_map] at hv
  obtain ⟨x, hx, rfl⟩ := Option.map_eq_some_iff.1 hv
  have hj : j < L.length := (List.getElem?_eq_some_iff.1 hx).1
  rw [h j hj]
  simp [List.getD, hx]
theorem Wds.of_range {W : World} {b o : Nat} {L : List (BitVec 32)} (h : W.rangeAt b o (wrds L)) : Wds W b o L := fun j hj => h j (.int .u32 (U (L.getD j 0))) (by simp [wrds, List.getD, hj])
theorem Wds.new {W : World} {b : Nat} (L : List (BitVec 32)) (t : TypeId) (e : b = W.heap.size) : Wds (W.alloc (.cells (wrds L).toArray t)) b 0 L := by
  subst e
  intro i hi
  rw [World.cell?_alloc_mark]
  simp [wrds, List.getElem?_map, List.getD, List.getElem?_eq_getElem hi]
/-- The cells o .. o+n-1 of block b may be written. -/
def Lse (W : World) (b o n : Nat) : Prop := ∀ i, i < n → W.frozen? ⟨b, o + i, none⟩ = false
theorem Wds.there {W : World} {b o n : Nat} {L : List (BitVec 32)} (h : Wds W b o L) (f : Lse W b o n) (e : L.length = n) : W.there b o n := by
  subst e
  intro j hj
  exact ⟨by rw [h j hj]; rfl, f j hj⟩
theorem Wds.stored {W : World} {b o : Nat} {L : List (BitVec 32)} (h : W.there b o L.length) : Wds (W.setCells b o (wrds L)) b o L :=
  Wds.of_range (World.rangeAt_setCells_same _ _ _ _ (by rw [wrds_len]; exact h))
theorem Loose.lse {W : World} {b n : Nat} (h : Loose W b n) : Lse W b 0 n := fun i hi => by rw [Nat.zero_add]; exact h i hi
end Go.Proofs.Ytecjfddolamknaa
