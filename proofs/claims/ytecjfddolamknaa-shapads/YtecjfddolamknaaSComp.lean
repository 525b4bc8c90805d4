import Derived.Test.YtecjfddolamknaaSSpec
import Derived.Test.YtecjfddolamknaaTail
/- Compress. -/
namespace Go.Proofs.Ytecjfddolamknaa
open Go.RowKit Go.Sort

theorem hold {p : Prop} (h : Hid p) : p := h.out
/-- Block b holds these 64 words and may be written. -/
def Sch (W : World) (b : Nat) (L : List (BitVec 32)) : Prop := L.length = 64 ∧ Wds W b 0 L ∧ Loose W b 64
theorem Sch.lt {W : World} {b : Nat} {L : List (BitVec 32)} (h : Sch W b L) : b < W.heap.size := h.2.1.lt (by rw [h.1]; decide)
theorem Sch.keep {W w1 : World} {b : Nat} {L : List (BitVec 32)} (h : Sch W b L) (hb : Below W.heap.size W w1) : Sch w1 b L := ⟨h.1, h.2.1.keep hb, h.2.2.keep hb h.lt⟩
theorem Sch.drew {W : World} {b : Nat} {L : List (BitVec 32)} (h : Sch W b L) : Sch W.drew b L := h
theorem Sch.set {W : World} {b i : Nat} {L : List (BitVec 32)} (h : Sch W b L) (hi : i < 64) (v : BitVec 32) : Sch (W.setCell ⟨b, i, none⟩ (.int .u32 (U v))) b (L.set i v) := by
  have k := h.2.1.set i (by rw [h.1]; exact hi) v
  rw [Nat.zero_add] at k
  exact ⟨by rw [List.length_set]; exact h.1, k, h.2.2.set _ _⟩
theorem Sch.other {W : World} {b b' i : Nat} {L : List (BitVec 32)} (h : Sch W b L) (ne : b' ≠ b) (v : Value) : Sch (W.setCell ⟨b', i, none⟩ v) b L := ⟨h.1, h.2.1.other ne v, h.2.2.set _ _⟩
theorem Sch.otherCells {W : World} {b b' o : Nat} {L : List (BitVec 32)} (h : Sch W b L) (ne : b' ≠ b) (cs : List Value) : Sch (W.setCells b' o cs) b L := ⟨h.1, h.2.1.otherCells ne cs, h.2.2.setCells _ _ _⟩
theorem Sch.at {W : World} {b i : Nat} {L : List (BitVec 32)} (h : Sch W b L) (hi : i < 64) : W.cell? ⟨b, i, none⟩ = some (.int .u32 (U (L.getD i 0))) := by
  have k := h.2.1 i (by rw [h.1]; exact hi)
  rwa [Nat.zero_add] at k
theorem Sch.there {W : World} {b : Nat} {L : List (BitVec 32)} (h : Sch W b L) : W.there b 0 64 := h.2.1.there h.2.2.lse h.1
theorem Sch.stored {W : World} {b : Nat} {L M : List (BitVec 32)} (h : Sch W b L) (hl : M.length = 64) : Sch (W.setCells b 0 (wrds M)) b M :=
  ⟨hl, Wds.stored (by rw [hl]; exact h.there), h.2.2.setCells _ _ _⟩
theorem Sch.new {W : World} {b : Nat} {L : List (BitVec 32)} (hl : L.length = 64) (t : TypeId) (e : b = W.heap.size) : Sch (W.alloc (.cells (wrds L).toArray t)) b L := ⟨hl, Wds.new L t e, Loose.new _ _ _ e⟩
theorem zeros64 : (wrds (List.replicate 64 0)).toArray = #[.int .u32 0, .int .u32 0, .int .u32 0, .int .u32 0, .int .u32 0, .int .u32 0, .int .u32 0, .int .u32 0, .int .u32 0, .int .u32 0, .int .u32 0, .int .u32 0, .int .u32 0, .int .u32 0, .int .u32 0, .int .u32 0, .int .u32 0, .int .u32 0, .int .u32 0, .int .u32 0, .int .u32 0, .int .u32 0, .int .u32 0, .int .u32 0, .int .u32 0, .int .u32 0, .int .u32 0, .int .u32 0, .int .u32 0, .int .u32 0, .int .u32 0, .int .u32 0, .int .u32 0, .int .u32 0, .int .u32 0, .int .u32 0, .int .u32 0, .int .u32 0, .int .u32 0, .int .u32 0, .int .u32 0, .int .u32 0, .int .u32 0, .int .u32 0, .int .u32 0, .int .u32 0, .int .u32 0, .int .u32 0, .int .u32 0, .int .u32 0, .int .u32 0, .int .u32 0, .int .u32 0, .int .u32 0, .int .u32 0, .int .u32 0, .int .u32 0, .int .u32 0, .int .u32 0, .int .u32 0, .int .u32 0, .int .u32 0, .int .u32 0, .int .u32 0] := by
  have h : U 0#32 = 0 := U_zero
  simp [wrds, List.replicate, h]
theorem Sch.zeros {W : World} {b : Nat} (t : TypeId) (e : b = W.heap.size) : Sch (W.alloc (.cells #[.int .u32 0, .int .u32 0, .int .u32 0, .int .u32 0, .int .u32 0, .int .u32 0, .int .u32 0, .int .u32 0, .int .u32 0, .int .u32 0, .int .u32 0, .int .u32 0, .int .u32 0, .int .u32 0, .int .u32 0, .int .u32 0, .int .u32 0, .int .u32 0, .int .u32 0, .int .u32 0, .int .u32 0, .int .u32 0, .int .u32 0, .int .u32 0, .int .u32 0, .int .u32 0, .int .u32 0, .int .u32 0, .int .u32 0, .int .u32 0, .int .u32 0, .int .u32 0, .int .u32 0, .int .u32 0, .int .u32 0, .int .u32 0, .int .u32 0, .int .u32 0, .int .u32 0, .int .u32 0, .int .u32 0, .int .u32 0, .int .u32 0, .int .u32 0, .int .u32 0, .int .u32 0, .int .u32 0, .int .u32 0, .int .u32 0, .int .u32 0, .int .u32 0, .int .u32 0, .int .u32 0, .int .u32 0, .int .u32 0, .int .u32 0, .int .u32 0, .int .u32 0, .int .u32 0, .int .u32 0, .int .u32 0, .int .u32 0, .int .u32 0, .int .u32 0] t)) b (List.replicate 64 0) := by
  rw [← zeros64]
  exact Sch.new (by simp) _ e

end Go.Proofs.Ytecjfddolamknaa
