import Derived.Test.YtcjabligkeaafaaDoorKAbs
import Derived.Test.YtcjabligkeaafaaDoorKRPerm
import Derived.Deep.Upon
namespace Go.Proofs.YtcjabligkeaafaaDoor.K
open Go.RowKit Go.Sort

/-- Block b holds these bytes from offset o on. -/
def Byo (W : World) (b o : Nat) (X : List (BitVec 8)) : Prop := ∀ i, i < X.length → W.cell? ⟨b, o + i, none⟩ = some (.int .u8 (Y (X.getD i 0)))
theorem Byo.keep {W w1 : World} {b o : Nat} {X : List (BitVec 8)} (h : Byo W b o X) (hb : Below W.heap.size W w1) : Byo w1 b o X := fun i hi => cell_keep hb (h i hi)
theorem Byo.off {b b' o : Nat} {w w' : World} {X : List (BitVec 8)} (h : Byo w b o X) (ho : Off b' w w') (ne : b ≠ b') : Byo w' b o X := fun i hi => ho.cell ne (h i hi)
theorem Byo.drop {W : World} {b o n : Nat} {X : List (BitVec 8)} (h : Byo W b o X) : Byo W b (o + n) (X.drop n) := fun i hi => by
  rw [List.length_drop] at hi
  have := h (n + i) (by omega)
  rw [show o + n + i = o + (n + i) by omega, this]
  simp [List.getD, List.getElem?_drop]

theorem Sp.range {W : World} {b : Nat} {k : Int} {L : List (BitVec 64)} {t : Nat} (h : Sp W b k L t) : W.rangeAt b 1 (lanes L) := by
  intro j v hv
  unfold lanes at hv
  rw [List.getElem?_map] at hv
  obtain ⟨x, hx, rfl⟩ := Option.map_eq_some_iff.1 hv
  have hj : j < L.length := (List.getElem?_eq_some_iff.1 hx).1
  rw [h.2.2.1 j hj]
  simp [List.getD, hx]
theorem Sp.there {W : World} {b : Nat} {k : Int} {L : List (BitVec 64)} {t : Nat} (h : Sp W b k L t) : W.there b 1 25 := by
  intro j hj
  exact ⟨by rw [h.2.2.1 j (by rw [h.1]; exact hj)]; rfl, h.2.2.2.2 (1 + j) (by omega)⟩
theorem Sp.stored {W : World} {b : Nat} {k : Int} {L M : List (BitVec 64)} {t : Nat} (h : Sp W b k L t) (hl : M.length = 25) : Sp (W.setCells b 1 (lanes M)) b k M t := by
  refine ⟨hl, ?_, fun j hj => ?_, ?_, h.2.2.2.2.setCells _ _ _⟩
  · rw [World.cell?_setCells_out _ _ _ _ _ (fun _ _ => .inl (by simp))]; exact h.2.1
  · have := World.rangeAt_setCells_same W b 1 (lanes M) (by rw [lanes_len, hl]; exact h.there) j (.int .u64 (V (M.getD j 0))) (by simp [lanes, List.getD, hj])
    exact this
  · rw [World.cell?_setCells_out _ _ _ _ _ (fun _ _ => .inr (by rw [lanes_len, hl]; exact Nat.le_refl 26))]; exact h.2.2.2.1
theorem Off.setCells {b o : Nat} {w w' : World} (h : Off b w w') (cs : List Value) : Off b w (w'.setCells b o cs) := by
  have := below_setCells (B := 0) (a := w') (Nat.zero_le b) cs o w' (Below.refl _ _)
  refine h.trans ⟨this.os, this.tape, this.output, this.size, fun k hk hb => World.heap_setCells_other _ _ _ _ hk hb⟩

/-- What a slice of bytes is: where there are any, it says where they lie. -/
def At (a : Option Addr) (b o : Nat) (X : List (BitVec 8)) : Prop := X = [] ∨ a = some ⟨b, o, none⟩

end Go.Proofs.YtcjabligkeaafaaDoor.K
