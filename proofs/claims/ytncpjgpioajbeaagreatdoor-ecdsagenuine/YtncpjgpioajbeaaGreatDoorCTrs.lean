import Derived.Test.YtncpjgpioajbeaaGreatDoorCSum
import Derived.Deep.MidRow
namespace Go.Proofs.YtncpjgpioajbeaaGreatDoor
open Go.RowKit Go.Sort

/-- A triple. -/
structure T3 where
  x : Int
  y : Int
  z : Int
def T3.cs (t : T3) : List Value := [.int .u64 (l0 t.x), .int .u64 (l1 t.x), .int .u64 (l2 t.x), .int .u64 (l3 t.x), .int .u64 (l0 t.y), .int .u64 (l1 t.y), .int .u64 (l2 t.y), .int .u64 (l3 t.y), .int .u64 (l0 t.z), .int .u64 (l1 t.z), .int .u64 (l2 t.z), .int .u64 (l3 t.z)]
def T3.j (t : T3) : EC.J := J3 t.x t.y t.z
def T3.Low (t : T3) : Prop := EC.Low t.x ∧ EC.Low t.y ∧ EC.Low t.z
def flat : List T3 → List Value
  | [] => []
  | t :: L => t.cs ++ flat L
theorem T3.len (t : T3) : t.cs.length = 12 := rfl
theorem flat_len : ∀ L, (flat L).length = L.length * 12
  | [] => rfl
  | t :: L => by show (t.cs ++ flat L).length = (L.length + 1) * 12; rw [List.length_append, flat_len L, t.len]; omega
theorem flat_get : ∀ (L : List T3) (i j : Nat), j < 12 → (flat L)[i * 12 + j]? = (L[i]?).bind fun t => t.cs[j]?
  | [], i, j, _ => by simp [flat]
  | t :: L, 0, j, h => by
    show (t.cs ++ flat L)[0 * 12 + j]? = _
    rw [List.getElem?_append_left (by rw [t.len]; omega)]
    simp
  | t :: L, i + 1, j, h => by
    show (t.cs ++ flat L)[(i + 1) * 12 + j]? = _
    rw [List.getElem?_append_right (by rw [t.len]; omega), t.len, show (i + 1) * 12 + j - 12 = i * 12 + j by omega, flat_get L i j h]
    simp
theorem flat_one : ∀ (L : List T3), ∀ v ∈ flat L, v.oneCell' = true
  | [], v, h => by simp [flat] at h
  | t :: L, v, h => by
    have h' : v ∈ t.cs ++ flat L := h
    rcases List.mem_append.1 h' with h1 | h1
    · simp [T3.cs] at h1
      rcases h1 with rfl | rfl | rfl | rfl | rfl | rfl | rfl | rfl | rfl | rfl | rfl | rfl <;> rfl
    · exact flat_one L v h1

/-- Triples in a row. -/
def TRow (W : World) (b : Nat) (L : List T3) : Prop := W.rangeAt b 0 (flat L)
theorem TRow.at {W : World} {b : Nat} {L : List T3} (h : TRow W b L) {i : Nat} (hi : i < L.length) (j : Nat) (hj : j < 12) {v : Value} (e : (L.getD i ⟨0, 0, 0⟩).cs[j]? = some v) : W.cell? ⟨b, i * 12 + j, none⟩ = some v := by
  have := h (i * 12 + j) v (by rw [flat_get L i j hj, List.getElem?_eq_getElem hi]; simpa [List.getD, List.getElem?_eq_getElem hi] using e)
  rwa [Nat.zero_add] at this
theorem TRow.lt {W : World} {b : Nat} {L : List T3} (h : TRow W b L) (hl : 0 < L.length) : b < W.heap.size := World.block_lt_of_cell? W ⟨b, 0 * 12 + 0, none⟩ (h.at hl 0 (by decide) rfl)
theorem TRow.keep {W w1 : World} {b : Nat} {L : List T3} (h : TRow W b L) (hb : Below W.heap.size W w1) : TRow w1 b L := fun j v hv => cell_keep hb (h j v hv)
theorem TRow.alloc {W : World} {b : Nat} {L : List T3} (h : TRow W b L) (ob : Obj) : TRow (W.alloc ob) b L := World.rangeAt_alloc h ob
theorem TRow.put {W : World} {b b' : Nat} {L : List T3} (h : TRow W b L) (ne : b' ≠ b) (x' y' z' : Int) : TRow (put12 W b' x' y' z') b L := fun j v hv => by
  unfold put12
  exact cell_far (cell_far (cell_far (cell_far (cell_far (cell_far (cell_far (cell_far (cell_far (cell_far (cell_far (cell_far (h j v hv) ne) ne) ne) ne) ne) ne) ne) ne) ne) ne) ne) ne
theorem TRow.cells {W : World} {b : Nat} {L : List T3} (h : TRow W b L) {i : Nat} (hi : i < L.length) : W.cell? ⟨b, i * 12, none⟩ = some (.int .u64 (l0 (L.getD i ⟨0, 0, 0⟩).x)) ∧ W.cell? ⟨b, i * 12 + 1, none⟩ = some (.int .u64 (l1 (L.getD i ⟨0, 0, 0⟩).x)) ∧ W.cell? ⟨b, i * 12 + 2, none⟩ = some (.int .u64 (l2 (L.getD i ⟨0, 0, 0⟩).x)) ∧ W.cell? ⟨b, i * 12 + 3, none⟩ = some (.int .u64 (l3 (L.getD i ⟨0, 0, 0⟩).x)) ∧ W.cell? ⟨b, i * 12 + 4, none⟩ = some (.int .u64 (l0 (L.getD i ⟨0, 0, 0⟩).y)) ∧ W.cell? ⟨b, i * 12 + 5, none⟩ = some (.int .u64 (l1 (L.getD i ⟨0, 0, 0⟩).y)) ∧ W.cell? ⟨b, i * 12 + 6, none⟩ = some (.int .u64 (l2 (L.getD i ⟨0, 0, 0⟩).y)) ∧ W.cell? ⟨b, i * 12 + 7, none⟩ = some (.int .u64 (l3 (L.getD i ⟨0, 0, 0⟩).y)) ∧ W.cell? ⟨b, i * 12 + 8, none⟩ = some (.int .u64 (l0 (L.getD i ⟨0, 0, 0⟩).z)) ∧ W.cell? ⟨b, i * 12 + 9, none⟩ = some (.int .u64 (l1 (L.getD i ⟨0, 0, 0⟩).z)) ∧ W.cell? ⟨b, i * 12 + 10, none⟩ = some (.int .u64 (l2 (L.getD i ⟨0, 0, 0⟩).z)) ∧ W.cell? ⟨b, i * 12 + 11, none⟩ = some (.int .u64 (l3 (L.getD i ⟨0, 0, 0⟩).z)) :=
  ⟨h.at hi 0 (by decide) rfl, h.at hi 1 (by decide) rfl, h.at hi 2 (by decide) rfl, h.at hi 3 (by decide) rfl, h.at hi 4 (by decide) rfl, h.at hi 5 (by decide) rfl, h.at hi 6 (by decide) rfl, h.at hi 7 (by decide) rfl, h.at hi 8 (by decide) rfl, h.at hi 9 (by decide) rfl, h.at hi 10 (by decide) rfl, h.at hi 11 (by decide) rfl⟩
theorem TRow.grown {W : World} {b : Nat} {L : List T3} (h : TRow W b L) {i : Nat} (hi : i < L.length) : ∀ d os, (grow (redrawn W d) os).cell? ⟨b, i * 12, none⟩ = some (.int .u64 (l0 (L.getD i ⟨0, 0, 0⟩).x)) ∧ (grow (redrawn W d) os).cell? ⟨b, i * 12 + 1, none⟩ = some (.int .u64 (l1 (L.getD i ⟨0, 0, 0⟩).x)) ∧ (grow (redrawn W d) os).cell? ⟨b, i * 12 + 2, none⟩ = some (.int .u64 (l2 (L.getD i ⟨0, 0, 0⟩).x)) ∧ (grow (redrawn W d) os).cell? ⟨b, i * 12 + 3, none⟩ = some (.int .u64 (l3 (L.getD i ⟨0, 0, 0⟩).x)) ∧ (grow (redrawn W d) os).cell? ⟨b, i * 12 + 4, none⟩ = some (.int .u64 (l0 (L.getD i ⟨0, 0, 0⟩).y)) ∧ (grow (redrawn W d) os).cell? ⟨b, i * 12 + 5, none⟩ = some (.int .u64 (l1 (L.getD i ⟨0, 0, 0⟩).y)) ∧ (grow (redrawn W d) os).cell? ⟨b, i * 12 + 6, none⟩ = some (.int .u64 (l2 (L.getD i ⟨0, 0, 0⟩).y)) ∧ (grow (redrawn W d) os).cell? ⟨b, i * 12 + 7, none⟩ = some (.int .u64 (l3 (L.getD i ⟨0, 0, 0⟩).y)) ∧ (grow (redrawn W d) os).cell? ⟨b, i * 12 + 8, none⟩ = some (.int .u64 (l0 (L.getD i ⟨0, 0, 0⟩).z)) ∧ (grow (redrawn W d) os).cell? ⟨b, i * 12 + 9, none⟩ = some (.int .u64 (l1 (L.getD i ⟨0, 0, 0⟩).z)) ∧ (grow (redrawn W d) os).cell? ⟨b, i * 12 + 10, none⟩ = some (.int .u64 (l2 (L.getD i ⟨0, 0, 0⟩).z)) ∧ (grow (redrawn W d) os).cell? ⟨b, i * 12 + 11, none⟩ = some (.int .u64 (l3 (L.getD i ⟨0, 0, 0⟩).z)) :=
  fun d os => (h.keep (below_regrown W d os)).cells hi
/-- A triple put into its place. -/
theorem TRow.sets {W : World} {b : Nat} {L : List T3} (h : TRow W b L) {i : Nat} (hi : i < L.length) (t : T3) : TRow (W.setCells b (i * 12) t.cs) b (L.set i t) := by
  intro k v hk
  rw [Nat.zero_add]
  have e : k = k / 12 * 12 + k % 12 := by omega
  have hj : k % 12 < 12 := Nat.mod_lt _ (by decide)
  generalize k / 12 = q at e
  generalize k % 12 = j at e hj
  subst e
  rw [flat_get _ q j hj] at hk
  have some_ : ∀ n, n < t.cs.length → (W.cell? ⟨b, i * 12 + n, none⟩).isSome = true := fun n hn => by
    have hn' : n < 12 := hn
    rw [h.at hi n hn' (List.getElem?_eq_getElem (by rw [T3.len]; exact hn'))]; rfl
  by_cases hq : q = i
  · subst hq
    rw [List.getElem?_set_self hi] at hk
    have hk' : t.cs[j]? = some v := hk
    rw [World.cell?_setCells_in b t.cs _ W some_ j (by rw [T3.len]; exact hj), ← hk', List.getElem?_eq_getElem]
  · rw [List.getElem?_set_ne (Ne.symm hq)] at hk
    have hql : q < L.length := by
      rcases Nat.lt_or_ge q L.length with h1 | h1
      · exact h1
      · rw [List.getElem?_eq_none h1] at hk; cases hk
    rw [World.cell?_setCells_out b t.cs _ W _ (fun _ _ => by show q * 12 + j < i * 12 ∨ i * 12 + t.cs.length ≤ q * 12 + j; rw [T3.len]; omega)]
    refine h.at hql j hj ?_
    rw [List.getElem?_eq_getElem hql] at hk
    simpa [List.getD, List.getElem?_eq_getElem hql] using hk
theorem Cl.cells_put {W : World} {b b' : Nat} {l : List Value} (h : Cl W b l) (ne : b' ≠ b) : ∀ (vs : List Value) (o : Nat), Cl (W.setCells b' o vs) b l := fun vs o k hk => by
  rw [World.cell?_setCells_out b' vs o W _ (fun e _ => absurd e.symm ne)]; exact h k hk
theorem Loose.cells_put {W : World} {b b' n : Nat} (h : Loose W b n) (vs : List Value) (o : Nat) : Loose (W.setCells b' o vs) b n := fun k hk => by
  rw [World.frozen?_setCells]; exact h k hk
theorem Mds.cells_put {W : World} {b' : Nat} (h : Mds W) (ne : b' ≠ 1) (vs : List Value) (o : Nat) : Mds (W.setCells b' o vs) := by
  induction vs generalizing W o with
  | nil => exact h
  | cons v r ih => exact ih (h.set ne v) (o + 1)
theorem below_cells {W w : World} {n b : Nat} (h : Below n w W) (hb : n ≤ b) : ∀ (vs : List Value) (o : Nat), Below n w (W.setCells b o vs) := fun vs => by
  induction vs generalizing W with
  | nil => exact fun _ => h
  | cons v r ih => exact fun o => ih (h.setCell (p := ⟨b, o, none⟩) hb v) (o + 1)
theorem TRow.other {W : World} {b b' : Nat} {L : List T3} (h : TRow W b L) (ne : b' ≠ b) (vs : List Value) (o : Nat) : TRow (W.setCells b' o vs) b L := World.rangeAt_setCells_apart h _ _ _ (.inl (Ne.symm ne))
theorem TRow.there {W : World} {b : Nat} {L : List T3} (h : TRow W b L) {n : Nat} (hL : Loose W b n) (e : L.length * 12 = n) {o m : Nat} (hm : o + m ≤ n) : W.there b o m := fun j hj => by
  refine ⟨?_, hL _ (by omega)⟩
  have hl := flat_len L
  have h1 : o + j < (flat L).length := by omega
  have := h (o + j) _ (List.getElem?_eq_getElem h1)
  rw [Nat.zero_add] at this
  rw [this]; rfl
end Go.Proofs.YtncpjgpioajbeaaGreatDoor
