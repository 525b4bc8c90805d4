import Derived.Test.YtahekhamhdfkdaaRowB
import Derived.Deep.LoopGhost
import Derived.OwnWalk
import Derived.Laws.CopyOwn
namespace Go.Proofs.Ytahekhamhdfkdaa
open Go.RowKit

theorem info_byte : (Try.prog.info? 5).map (fun i => (i.zero, i.size, i.bytes)) = some (some (.int .u8 0), 1, 1) := by kernel_rfl

theorem bts_of_row {W : World} {g : Nat} {l : List Int} {t : TypeId} (h : W.heap[g]? = some (.cells (l.map (Value.int .u8)).toArray t (0, 0))) : Bts W g l := by
  refine ⟨fun i hi => ?_, fun i _ => frozen_of_row W g i _ t h⟩
  rw [cell_of_row W g i _ t _ h]
  simp [List.getD, List.getElem?_eq_getElem hi]

theorem own_row {W : World} {base g n : Nat} {e : TypeId} {xs : List Value} (h : W.ownsRow base e 1 (.slice (some ⟨g, 0, none⟩) n n) n xs) : W.heap[g]? = some (.cells xs.toArray e (0, 0)) := by
  rcases h.2 with ⟨h', _⟩ | ⟨g', cap', cur, h', _, hg, _, _, hs, ht⟩
  · simp at h'
  · simp only [Value.slice.injEq, Option.some.injEq, Addr.mk.injEq, and_true, true_and] at h'
    obtain ⟨rfl, rfl⟩ := h'
    rw [List.take_of_length_le (by rw [Array.length_toList, hs]; exact Nat.le_refl _)] at ht
    rw [hg, ← ht]

theorem made_facts {A : List Int} {w w1 : World} {bb ob : Nat} (ha : ∀ i, i < A.length → w.cell? ⟨bb, ob + i, none⟩ = some (.int .u8 (A.getD i 0)))
    (hown : w1.ownsRow w.heap.size 5 1 (.slice (some ⟨w.heap.size, 0, none⟩) (A.length + 9) (A.length + 9)) (A.length + 9) (madeCells (Value.int .u8 0).cells ((A.length + 9) * 1)).toList) (hgrow : w.grownBy w1 none) :
    w1.heap[w.heap.size]? = some (.cells ((List.replicate (A.length + 9) (Value.int .u8 0))).toArray 5 (0, 0)) ∧ Below w.heap.size w w1 ∧
    (∀ j v, (A.map (Value.int .u8))[j]? = some v → w1.cell? ((⟨bb, ob, none⟩ : Addr).add j) = some v) := by
  have hrow := own_row hown
  rw [show (Value.int IntKind.u8 0).cells = #[Value.int .u8 0] from rfl, toList_madeCells_one, Nat.mul_one] at hrow
  have B : Below w.heap.size w w1 := (Below.refl _ _).grown hgrow (Nat.le_refl _) (fun k hk => by cases hk)
  refine ⟨hrow, B, fun j v hv => ?_⟩
  rw [List.getElem?_map] at hv
  obtain ⟨x, hx, rfl⟩ := Option.map_eq_some_iff.1 hv
  have hj : j < A.length := (List.getElem?_eq_some_iff.1 hx).1
  have hc := ha j hj
  rw [Addr.add_mid, B.cell (p := ⟨bb, ob + j, none⟩) (World.block_lt_of_cell? w _ hc), hc]
  simp [List.getD, hx]

theorem splice_bytes (A : List Int) (k : Nat) : splice (List.replicate (A.length + k) (Value.int .u8 0)) 0 (A.map (Value.int .u8)) = (A ++ List.replicate k 0).map (Value.int .u8) := by
  simp [splice, List.drop_replicate]

theorem room_set (A : List Int) {i : Nat} (h : i < 9) : (A ++ (List.replicate i 165 ++ List.replicate (9 - i) 0)).set (A.length + i) 165 = A ++ (List.replicate (i + 1) 165 ++ List.replicate (9 - (i + 1)) 0) := by
  obtain ⟨k, hk⟩ : ∃ k, 9 - i = k + 1 := ⟨8 - i, by omega⟩
  rw [hk, show 9 - (i + 1) = k by omega, List.set_append_right _ _ (by omega), Nat.add_sub_cancel_left, List.set_append_right _ _ (by simp), List.length_replicate, Nat.sub_self, List.replicate_succ (n := k), List.set_cons_zero, List.replicate_succ', List.append_assoc]
  rfl

end Go.Proofs.Ytahekhamhdfkdaa
