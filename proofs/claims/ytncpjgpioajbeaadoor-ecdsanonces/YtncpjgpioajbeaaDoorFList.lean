import Derived.Test.YtncpjgpioajbeaaDoorFBin
import Derived.Deep.LoopGhost
import Derived.OwnWalk
import Derived.Deep.OwnRows
/- Lists of numbers in blocks. -/
namespace Go.Proofs.YtncpjgpioajbeaaDoor
open Go.RowKit Go.Sort

theorem info_num : (Tryd.prog.info? 24).map (fun i => (i.zero, i.size, i.bytes)) = some (some (.agg #[.int .u64 0, .int .u64 0, .int .u64 0, .int .u64 0]), 4, 32) := by kernel_rfl
theorem wpList_world {P : Program} {ops : Array Oper} {Q : Exit → Act → World → Prop} {l : List Oper} {a : Act} {w : World} (S : World → Prop) (h : S w) (k : ∀ W, S W → wpList P ops Q l a W) : wpList P ops Q l a w := k w h

/-- From cell o of block b on lie these numbers. -/
def Nms (W : World) (b o : Nat) (L : List Int) : Prop := ∀ i, i < L.length → W.cell? ⟨b, o + i * 4, none⟩ = some (.int .u64 (l0 (L.getD i 0))) ∧ W.cell? ⟨b, o + i * 4 + 1, none⟩ = some (.int .u64 (l1 (L.getD i 0))) ∧ W.cell? ⟨b, o + i * 4 + 2, none⟩ = some (.int .u64 (l2 (L.getD i 0))) ∧ W.cell? ⟨b, o + i * 4 + 3, none⟩ = some (.int .u64 (l3 (L.getD i 0)))

theorem Nms.keep {W w1 : World} {b o : Nat} {L : List Int} (h : Nms W b o L) (hb : RowKit.Below W.heap.size W w1) : Nms w1 b o L := fun i hi =>
  ⟨cell_keep hb (h i hi).1, cell_keep hb (h i hi).2.1, cell_keep hb (h i hi).2.2.1, cell_keep hb (h i hi).2.2.2⟩
theorem Nms.alloc {W : World} {b o : Nat} {L : List Int} (h : Nms W b o L) (ob : Obj) : Nms (W.alloc ob) b o L := h.keep ((Below.refl _ _).alloc (Nat.le_refl _) ob)
theorem Nms.set4 {W : World} {b b' o k : Nat} {L : List Int} (h : Nms W b o L) (ne : b' ≠ b) (v0 v1 v2 v3 : Value) : Nms ((((W.setCell ⟨b', k, none⟩ v0).setCell ⟨b', k + 1, none⟩ v1).setCell ⟨b', k + 2, none⟩ v2).setCell ⟨b', k + 3, none⟩ v3) b o L := fun i hi => by
  refine ⟨?_, ?_, ?_, ?_⟩ <;> rw [World.cell?_setCell_far _ _ _ _ ne, World.cell?_setCell_far _ _ _ _ ne, World.cell?_setCell_far _ _ _ _ ne, World.cell?_setCell_far _ _ _ _ ne]
  · exact (h i hi).1
  · exact (h i hi).2.1
  · exact (h i hi).2.2.1
  · exact (h i hi).2.2.2
/-- A block of just so many numbers. -/
def Blk4 (W : World) (b n : Nat) : Prop := ∃ cs, W.heap[b]? = some (.cells cs 24 (0, 0)) ∧ cs.size = n * 4
theorem Blk4.lt {W : World} {b n : Nat} (h : Blk4 W b n) : b < W.heap.size := by
  obtain ⟨cs, h, _⟩ := h
  exact (Array.getElem?_eq_some_iff.1 h).1
theorem Blk4.keep {W w1 : World} {b n : Nat} (h : Blk4 W b n) (hb : RowKit.Below W.heap.size W w1) : Blk4 w1 b n := by
  have l := h.lt
  obtain ⟨cs, h, e⟩ := h
  exact ⟨cs, (hb.block b l).trans h, e⟩
theorem Blk4.set {W : World} {b n : Nat} (h : Blk4 W b n) (b' k : Nat) (v : Value) : Blk4 (W.setCell ⟨b', k, none⟩ v) b n := by
  obtain ⟨cs, h, e⟩ := h
  by_cases q : b = b'
  · subst q
    exact ⟨cs.setIfInBounds k v, heap_setCell_same W b k cs _ v h, by simpa using e⟩
  · exact ⟨cs, (heap_setCell_other W ⟨b', k, none⟩ b v q).trans h, e⟩
/-- A list of one's own: it may be written. -/
def Own4 (W : World) (b : Nat) (L : List Int) : Prop := Nms W b 0 L ∧ Loose W b (L.length * 4) ∧ Blk4 W b L.length
theorem Own4.lt {W : World} {b : Nat} {L : List Int} (h : Own4 W b L) : b < W.heap.size := h.2.2.lt
theorem Own4.keep {W w1 : World} {b : Nat} {L : List Int} (h : Own4 W b L) (hb : RowKit.Below W.heap.size W w1) : Own4 w1 b L := ⟨h.1.keep hb, h.2.1.keep hb h.lt, h.2.2.keep hb⟩
theorem Own4.alloc {W : World} {b : Nat} {L : List Int} (h : Own4 W b L) (ob : Obj) : Own4 (W.alloc ob) b L := h.keep ((Below.refl _ _).alloc (Nat.le_refl _) ob)
theorem Own4.set4 {W : World} {b b' k : Nat} {L : List Int} (h : Own4 W b L) (ne : b' ≠ b) (v0 v1 v2 v3 : Value) : Own4 ((((W.setCell ⟨b', k, none⟩ v0).setCell ⟨b', k + 1, none⟩ v1).setCell ⟨b', k + 2, none⟩ v2).setCell ⟨b', k + 3, none⟩ v3) b L :=
  ⟨h.1.set4 ne _ _ _ _, (((h.2.1.set _ _).set _ _).set _ _).set _ _, (((h.2.2.set _ _ _).set _ _ _).set _ _ _).set _ _ _⟩
theorem Own4.sets {W : World} {b : Nat} {L : List Int} (h : Own4 W b L) {i : Nat} (hi : i < L.length) (n : Int) :
    Own4 ((((W.setCell ⟨b, i * 4, none⟩ (.int .u64 (l0 n))).setCell ⟨b, i * 4 + 1, none⟩ (.int .u64 (l1 n))).setCell ⟨b, i * 4 + 2, none⟩ (.int .u64 (l2 n))).setCell ⟨b, i * 4 + 3, none⟩ (.int .u64 (l3 n))) b (L.set i n) := by
  refine ⟨fun j hj => ?_, by rw [List.length_set]; exact (((h.2.1.set _ _).set _ _).set _ _).set _ _, by rw [List.length_set]; exact (((h.2.2.set _ _ _).set _ _ _).set _ _ _).set _ _ _⟩
  rw [List.length_set] at hj
  simp only [Nat.zero_add]
  have a := h.1 i hi
  have c := h.1 j hj
  simp only [Nat.zero_add] at a c
  obtain ⟨a0, a1, a2, a3⟩ := a
  obtain ⟨c0, c1, c2, c3⟩ := c
  by_cases e : i = j
  · subst e
    have e1 : (L.set i n).getD i 0 = n := by simp [List.getD, hi]
    rw [e1]
    have s : ∀ {W : World} {k : Nat} {u v : Value}, W.cell? ⟨b, k, none⟩ = some u → (W.setCell ⟨b, k, none⟩ v).cell? ⟨b, k, none⟩ = some v := fun h => World.cell?_setCell_same _ _ _ h
    have t0 := s (v := .int .u64 (l0 n)) a0
    have t1 := s (v := .int .u64 (l1 n)) (cell_off (u := .int .u64 (l0 n)) a1 (show i * 4 ≠ i * 4 + 1 by omega))
    have t2 := s (v := .int .u64 (l2 n)) (cell_off (u := .int .u64 (l1 n)) (cell_off (u := .int .u64 (l0 n)) a2 (show i * 4 ≠ i * 4 + 2 by omega)) (show i * 4 + 1 ≠ i * 4 + 2 by omega))
    have t3 := s (v := .int .u64 (l3 n)) (cell_off (u := .int .u64 (l2 n)) (cell_off (u := .int .u64 (l1 n)) (cell_off (u := .int .u64 (l0 n)) a3 (show i * 4 ≠ i * 4 + 3 by omega)) (show i * 4 + 1 ≠ i * 4 + 3 by omega)) (show i * 4 + 2 ≠ i * 4 + 3 by omega))
    exact ⟨cell_off (cell_off (cell_off t0 (by omega)) (by omega)) (by omega), cell_off (cell_off t1 (by omega)) (by omega), cell_off t2 (by omega), t3⟩
  · have e1 : (L.set i n).getD j 0 = L.getD j 0 := by simp [List.getD, List.getElem?_set_ne e]
    rw [e1]
    have o4 : ∀ {k : Nat} {v : Value}, (∀ d, d ≤ 3 → i * 4 + d ≠ k) → W.cell? ⟨b, k, none⟩ = some v → ((((W.setCell ⟨b, i * 4, none⟩ (.int .u64 (l0 n))).setCell ⟨b, i * 4 + 1, none⟩ (.int .u64 (l1 n))).setCell ⟨b, i * 4 + 2, none⟩ (.int .u64 (l2 n))).setCell ⟨b, i * 4 + 3, none⟩ (.int .u64 (l3 n))).cell? ⟨b, k, none⟩ = some v := fun hk h => cell_off (cell_off (cell_off (cell_off h (hk 0 (by omega))) (hk 1 (by omega))) (hk 2 (by omega))) (hk 3 (by omega))
    exact ⟨o4 (fun d hd => by omega) c0, o4 (fun d hd => by omega) c1, o4 (fun d hd => by omega) c2, o4 (fun d hd => by omega) c3⟩
theorem made_nums (n i : Nat) (hi : i < n * 4) : (madeCells #[Value.int .u64 0, Value.int .u64 0, Value.int .u64 0, Value.int .u64 0] (n * 4))[i]? = some (.int .u64 0) := by
  have h : i % 4 = 0 ∨ i % 4 = 1 ∨ i % 4 = 2 ∨ i % 4 = 3 := by omega
  simp only [madeCells, Array.getElem?_map, Array.getElem?_range, hi, if_true, Option.map_some]
  rcases h with h | h | h | h <;> simp [h]
theorem Own4.new (W : World) (n : Nat) (t : TypeId) (et : t = 24 := by rfl) : Own4 (W.alloc (.cells (madeCells #[Value.int .u64 0, Value.int .u64 0, Value.int .u64 0, Value.int .u64 0] (n * 4)) t)) W.heap.size (List.replicate n 0) := by
  obtain ⟨z0, z1, z2, z3⟩ := zero_limbs
  have hc : ∀ k, k < n * 4 → (W.alloc (.cells (madeCells #[Value.int .u64 0, Value.int .u64 0, Value.int .u64 0, Value.int .u64 0] (n * 4)) t)).cell? ⟨W.heap.size, k, none⟩ = some (.int .u64 0) := fun k hk => by
    rw [World.cell?_alloc_mark]
    exact made_nums n k hk
  refine ⟨fun i hi => ?_, Loose.new _ _ _ _, ⟨madeCells #[Value.int .u64 0, Value.int .u64 0, Value.int .u64 0, Value.int .u64 0] (n * 4), by rw [← et]; show (W.heap.push _)[W.heap.size]? = _; simp, by rw [List.length_replicate]; unfold madeCells; simp⟩⟩
  rw [List.length_replicate] at hi
  have e : (List.replicate n (0 : Int)).getD i 0 = 0 := by simp [List.getD, hi]
  rw [e, z0, z1, z2, z3]
  simp only [Nat.zero_add]
  exact ⟨hc _ (by omega), hc _ (by omega), hc _ (by omega), hc _ (by omega)⟩

theorem HoldM.setAt {W : World} {b b' k : Nat} {m c : Int} (h : HoldM W b m c) (ne : b' ≠ b) (v0 v1 v2 v3 : Value) : HoldM ((((W.setCell ⟨b', k, none⟩ v0).setCell ⟨b', k + 1, none⟩ v1).setCell ⟨b', k + 2, none⟩ v2).setCell ⟨b', k + 3, none⟩ v3) b m c := (((h.set ne v0).set ne v1).set ne v2).set ne v3
theorem Blank.setAt {W : World} {b b' k : Nat} (h : Blank W b) (ne : b' ≠ b) (v0 v1 v2 v3 : Value) : Blank ((((W.setCell ⟨b', k, none⟩ v0).setCell ⟨b', k + 1, none⟩ v1).setCell ⟨b', k + 2, none⟩ v2).setCell ⟨b', k + 3, none⟩ v3) b := (((h.set ne v0).set ne v1).set ne v2).set ne v3
theorem Hold.setAt {W : World} {b b' k : Nat} {n : Int} (h : Hold W b n) (ne : b' ≠ b) (v0 v1 v2 v3 : Value) : Hold ((((W.setCell ⟨b', k, none⟩ v0).setCell ⟨b', k + 1, none⟩ v1).setCell ⟨b', k + 2, none⟩ v2).setCell ⟨b', k + 3, none⟩ v3) b n := (((h.set ne v0).set ne v1).set ne v2).set ne v3
theorem Var.setAt {W : World} {b b' k : Nat} {n : Int} (h : Var W b n) (ne : b' ≠ b) (v0 v1 v2 v3 : Value) : Var ((((W.setCell ⟨b', k, none⟩ v0).setCell ⟨b', k + 1, none⟩ v1).setCell ⟨b', k + 2, none⟩ v2).setCell ⟨b', k + 3, none⟩ v3) b n := ⟨h.1.setAt ne _ _ _ _, (((h.2.set _ _).set _ _).set _ _).set _ _⟩

end Go.Proofs.YtncpjgpioajbeaaDoor

namespace Go.Proofs.YtncpjgpioajbeaaDoor
open Go.RowKit Go.Sort

/-- Where a list lies, if it has anything. -/
def At4 (a : Option Addr) (g o : Nat) (L : List Int) : Prop := L = [] ∨ a = some ⟨g, o, none⟩
end Go.Proofs.YtncpjgpioajbeaaDoor
