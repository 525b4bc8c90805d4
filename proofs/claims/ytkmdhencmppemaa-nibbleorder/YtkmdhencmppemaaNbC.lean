import Derived.Test.YtkmdhencmppemaaNbB
/- Layer 11: lent, still. -/
namespace Go.Proofs.Ytkmdhencmppemaa
open Go.RowKit Go.Sort

/-- A list and its marks. -/
def mk70 (X : List Int) (i : Nat) : List Int := X ++ (List.replicate i 195 ++ List.replicate (70 - i) 0)
theorem mk70_len (X : List Int) {i : Nat} (h : i ≤ 70) : (mk70 X i).length = X.length + 70 := by simp [mk70]; omega
theorem mk70_set (X : List Int) {i : Nat} (h : i < 70) : (mk70 X i).set (X.length + i) 195 = mk70 X (i + 1) := by
  obtain ⟨k, hk⟩ : ∃ k, 70 - i = k + 1 := ⟨69 - i, by omega⟩
  rw [mk70, mk70, hk, show 70 - (i + 1) = k by omega, List.set_append_right _ _ (by omega), Nat.add_sub_cancel_left, List.set_append_right _ _ (by simp), List.length_replicate, Nat.sub_self, List.replicate_succ (n := k), List.set_cons_zero, List.replicate_succ', List.append_assoc]
  rfl
/-- With all its marks. -/
def lentL (X : List Int) : List Int := X ++ List.replicate 70 195
theorem mk70_all (X : List Int) : mk70 X 70 = lentL X := by simp [mk70, lentL]
/-- Block g holds just these bytes, and may be written. -/
def Rw8 (W : World) (g : Nat) (X : List Int) : Prop := W.heap[g]? = some (.cells (X.map (Value.int .u8)).toArray 5 (0, 0))
theorem Rw8.lt {W : World} {g : Nat} {X : List Int} (h : Rw8 W g X) : g < W.heap.size := (Array.getElem?_eq_some_iff.1 h).1
theorem Rw8.keep {W W' : World} {g : Nat} {X : List Int} (h : Rw8 W g X) (hb : Below W.heap.size W W') : Rw8 W' g X := (hb.block g h.lt).trans h
theorem Rw8.bz {W : World} {g : Nat} {X : List Int} (h : Rw8 W g X) : Bz W g 0 X := fun i hi => by
  rw [Nat.zero_add, cell_of_row W g i _ _ _ h]
  simp [List.getD, hi]
theorem Rw8.free {W : World} {g : Nat} {X : List Int} (h : Rw8 W g X) (i : Nat) : W.frozen? ⟨g, i, none⟩ = false := frozen_of_row W g i _ _ h
theorem Rw8.set {W : World} {g i : Nat} {X : List Int} (h : Rw8 W g X) (u : Int) : Rw8 (W.setCell ⟨g, i, none⟩ (.int .u8 u)) g (X.set i u) := by
  have := heap_setCell_same W g i _ 5 (.int .u8 u) h
  rw [Rw8, this, List.map_set, List.setIfInBounds_toArray]
theorem Rw8.grown {W W' : World} {g : Nat} {X : List Int} {row : Option Nat} (h : Rw8 W g X) (hg : W.grownBy W' row) (hn : row ≠ some g) : Rw8 W' g X := (hg.block g h.lt (fun e => hn e.symm)).trans h
theorem src_of {a : Option Addr} {bd od g : Nat} {X : List Int} {w w1 : World} (ha : Az a bd od X) (hX : Bz w bd od X) (B : Below w.heap.size w w1) :
    0 < (X.map (Value.int .u8)).length → (some (⟨g, 0, none⟩ : Addr)) = some ⟨g, 0, none⟩ ∧ ∃ ad, a = some ad ∧ ∀ j v, (X.map (Value.int .u8))[j]? = some v → w1.cell? (ad.add j) = some v := by
  intro h0
  refine ⟨rfl, ?_⟩
  rcases ha with h | h
  · rw [h] at h0; simp at h0
  · refine ⟨_, h, fun j v hv => ?_⟩
    rw [List.getElem?_map] at hv
    obtain ⟨x, hx, rfl⟩ := Option.map_eq_some_iff.1 hv
    have hj : j < X.length := (List.getElem?_eq_some_iff.1 hx).1
    have hc := hX j hj
    rw [Addr.add_mid, B.cell (p := ⟨bd, od + j, none⟩) (World.block_lt_of_cell? w _ hc), hc]
    simp [List.getD, hx]
theorem splice_ints (X : List Int) (k : Nat) : splice (List.replicate (X.length + k) (Value.int .u8 0)) 0 (X.map (Value.int .u8)) = (X ++ List.replicate k 0).map (Value.int .u8) := by
  simp [splice, List.drop_replicate]
theorem lentL_at (X : List Int) {i : Nat} (h : i < X.length) : (lentL X).getD i 0 = X.getD i 0 := by
  rw [lentL, List.getD, List.getElem?_append_left h, List.getD]
theorem lentL_past (X : List Int) {i : Nat} (h : X.length ≤ i) (h2 : i < X.length + 70) : (lentL X).getD i 0 = 195 := by
  rw [lentL, List.getD, List.getElem?_append_right h, List.getElem?_replicate, if_pos (by omega)]; rfl
theorem lentL_len (X : List Int) : (lentL X).length = X.length + 70 := by simp [lentL]
theorem lentL_bz {W : World} {g : Nat} {X : List Int} (h : Rw8 W g (lentL X)) : Bz W g 0 X := h.bz.front
end Go.Proofs.Ytkmdhencmppemaa
