import Derived.Test.YtecjfddolamknaaSComp
namespace Go.Proofs.Ytecjfddolamknaa
open Go.RowKit Go.Sort

theorem eight {S : List (BitVec 32)} (h : S.length = 8) : ∃ a b c d e f g h, S = [a, b, c, d, e, f, g, h] := by
  match S, h with
  | [a, b, c, d, e, f, g, h], _ => exact ⟨a, b, c, d, e, f, g, h, rfl⟩

/-- Block b holds these eight words and may be written. -/
def E8 (W : World) (b : Nat) (S : List (BitVec 32)) : Prop := S.length = 8 ∧ Wds W b 0 S ∧ Loose W b 8
theorem E8.lt {W : World} {b : Nat} {L : List (BitVec 32)} (h : E8 W b L) : b < W.heap.size := h.2.1.lt (by rw [h.1]; decide)
theorem E8.keep {W w1 : World} {b : Nat} {L : List (BitVec 32)} (h : E8 W b L) (hb : Below W.heap.size W w1) : E8 w1 b L := ⟨h.1, h.2.1.keep hb, h.2.2.keep hb h.lt⟩
theorem E8.drew {W : World} {b : Nat} {L : List (BitVec 32)} (h : E8 W b L) : E8 W.drew b L := h
theorem E8.otherCells {W : World} {b b' o : Nat} {L : List (BitVec 32)} (h : E8 W b L) (ne : b' ≠ b) (cs : List Value) : E8 (W.setCells b' o cs) b L := ⟨h.1, h.2.1.otherCells ne cs, h.2.2.setCells _ _ _⟩
theorem E8.at {W : World} {b i : Nat} {L : List (BitVec 32)} (h : E8 W b L) (hi : i < 8) : W.cell? ⟨b, i, none⟩ = some (.int .u32 (U (L.getD i 0))) := by
  have k := h.2.1 i (by rw [h.1]; exact hi)
  rwa [Nat.zero_add] at k
theorem E8.there {W : World} {b : Nat} {L : List (BitVec 32)} (h : E8 W b L) : W.there b 0 8 := h.2.1.there h.2.2.lse h.1
theorem E8.stored {W : World} {b : Nat} {L M : List (BitVec 32)} (h : E8 W b L) (hl : M.length = 8) : E8 (W.setCells b 0 (wrds M)) b M :=
  ⟨hl, Wds.stored (by rw [hl]; exact h.there), h.2.2.setCells _ _ _⟩
theorem E8.new {W : World} {b : Nat} {L : List (BitVec 32)} (hl : L.length = 8) (t : TypeId) (e : b = W.heap.size) : E8 (W.alloc (.cells (wrds L).toArray t)) b L := ⟨hl, Wds.new L t e, Loose.new _ _ _ e⟩
theorem E8.zeros {W : World} {b : Nat} (t : TypeId) (e : b = W.heap.size) : E8 (W.alloc (.cells #[.int .u32 0, .int .u32 0, .int .u32 0, .int .u32 0, .int .u32 0, .int .u32 0, .int .u32 0, .int .u32 0] t)) b (List.replicate 8 0) := by
  have h : U 0#32 = 0 := U_zero
  have z : (wrds (List.replicate 8 0)).toArray = #[.int .u32 0, .int .u32 0, .int .u32 0, .int .u32 0, .int .u32 0, .int .u32 0, .int .u32 0, .int .u32 0] := by simp [wrds, List.replicate, h]
  rw [← z]
  exact E8.new (by simp) _ e

end Go.Proofs.Ytecjfddolamknaa
