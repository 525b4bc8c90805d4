import Derived.Test.YtkbmonlbgnnjlaaDoorKWrite
import Derived.OwnWalk
import Derived.Deep.OwnRows
import Derived.Laws.CopyOwn
namespace Go.Proofs.YtkbmonlbgnnjlaaDoor.K
open Go.RowKit Go.Sort

theorem info_byte : (Tryd.prog.info? 5).map (fun i => (i.zero, i.size, i.bytes)) = some (some (.int .u8 0), 1, 1) := by kernel_rfl

/-- Block g holds these bytes, all of them, and may be written. -/
def Row8 (W : World) (g : Nat) (X : List (BitVec 8)) : Prop := Byo W g 0 X ∧ Loose W g X.length
theorem Row8.set {W : World} {g : Nat} {X : List (BitVec 8)} (h : Row8 W g X) (i : Nat) (hi : i < X.length) (v : BitVec 8) : Row8 (W.setCell ⟨g, i, none⟩ (.int .u8 (Y v))) g (X.set i v) := by
  refine ⟨fun j hj => ?_, by rw [List.length_set]; exact h.2.set _ _⟩
  rw [List.length_set] at hj
  rw [Nat.zero_add]
  have hc := h.1 j hj
  rw [Nat.zero_add] at hc
  by_cases e : i = j
  · subst e
    rw [World.cell?_setCell_same _ _ _ hc]
    simp [List.getD, hi]
  · have ne : (⟨g, i, none⟩ : Addr) ≠ ⟨g, j, none⟩ := by first | (simp; done) | (simp; omega)
    rw [World.cell?_setCell_other _ _ _ _ ne, hc]
    simp [List.getD, List.getElem?_set_ne e]
end Go.Proofs.YtkbmonlbgnnjlaaDoor.K

namespace Go.Proofs.YtkbmonlbgnnjlaaDoor.K
open Go.RowKit Go.Sort

theorem Sp.new {W : World} {b : Nat} (k : Int) (t : TypeId) (e : b = W.heap.size) : Sp (W.alloc (.cells #[.int .i64 k, .int .u64 0, .int .u64 0, .int .u64 0, .int .u64 0, .int .u64 0, .int .u64 0, .int .u64 0, .int .u64 0, .int .u64 0, .int .u64 0, .int .u64 0, .int .u64 0, .int .u64 0, .int .u64 0, .int .u64 0, .int .u64 0, .int .u64 0, .int .u64 0, .int .u64 0, .int .u64 0, .int .u64 0, .int .u64 0, .int .u64 0, .int .u64 0, .int .u64 0, .int .i64 0] t)) b k (List.replicate 25 0) 0 := by
  subst e
  have z : V 0#64 = 0 := V_zero
  refine ⟨by simp, ?_, fun i hi => ?_, ?_, Loose.new _ _ _ rfl⟩
  · rw [World.cell?_alloc_mark]; rfl
  · have hi' : i < 25 := by simpa using hi
    rw [rep_getD, World.cell?_alloc_mark]
    have e : ([.int .i64 k, .int .u64 0, .int .u64 0, .int .u64 0, .int .u64 0, .int .u64 0, .int .u64 0, .int .u64 0, .int .u64 0, .int .u64 0, .int .u64 0, .int .u64 0, .int .u64 0, .int .u64 0, .int .u64 0, .int .u64 0, .int .u64 0, .int .u64 0, .int .u64 0, .int .u64 0, .int .u64 0, .int .u64 0, .int .u64 0, .int .u64 0, .int .u64 0, .int .u64 0, .int .i64 0] : List Value) = .int .i64 k :: (List.replicate 25 (.int .u64 0) ++ [.int .i64 0]) := rfl
    have h : ([.int .i64 k, .int .u64 0, .int .u64 0, .int .u64 0, .int .u64 0, .int .u64 0, .int .u64 0, .int .u64 0, .int .u64 0, .int .u64 0, .int .u64 0, .int .u64 0, .int .u64 0, .int .u64 0, .int .u64 0, .int .u64 0, .int .u64 0, .int .u64 0, .int .u64 0, .int .u64 0, .int .u64 0, .int .u64 0, .int .u64 0, .int .u64 0, .int .u64 0, .int .u64 0, .int .i64 0] : List Value)[1 + i]? = some (.int .u64 0) := by rw [e, Nat.add_comm 1 i, List.getElem?_cons_succ, List.getElem?_append_left (by simpa using hi'), List.getElem?_replicate, if_pos hi']
    rw [show (0 : BitVec 64) = 0#64 from rfl, z]
    simpa using h
  · rw [World.cell?_alloc_mark]; rfl

end Go.Proofs.YtkbmonlbgnnjlaaDoor.K
