import Derived.Test.YtcjabligkeaafaaDoorKMix
/- A text taken in, byte by byte. -/
namespace Go.Proofs.YtcjabligkeaafaaDoor.K
open Go.RowKit Go.Sort

/-- Bytes mixed in from a place on. -/
def mixs (L : List (BitVec 64)) (p : Nat) : List (BitVec 8) → List (BitVec 64)
  | [] => L
  | x :: X => mixs (mixL L p x) (p + 1) X
theorem mixs_snoc (L : List (BitVec 64)) (p : Nat) (x : BitVec 8) : ∀ X : List (BitVec 8), mixs L p (X ++ [x]) = mixL (mixs L p X) (p + X.length) x
  | [] => rfl
  | y :: X => by
    rw [List.cons_append, mixs, mixs, mixs_snoc _ _ _ X]
    simp [Nat.add_assoc, Nat.add_comm 1]
theorem take_snoc {X : List (BitVec 8)} {i : Nat} (h : i < X.length) : X.take (i + 1) = X.take i ++ [X.getD i 0] := by
  rw [List.take_add_one, List.getD, List.getElem?_eq_getElem h]
  rfl
theorem mixs_next {L : List (BitVec 64)} {p : Nat} {X : List (BitVec 8)} {i : Nat} (h : i < X.length) : mixs L p (X.take (i + 1)) = mixL (mixs L p (X.take i)) (p + i) (X.getD i 0) := by
  rw [take_snoc h, mixs_snoc, List.length_take, Nat.min_eq_left (by omega)]

/-- A full block is permuted. -/
def turn (L : List (BitVec 64)) (t : Nat) : List (BitVec 64) := if t % 136 = 0 then perm L else L
/-- The lanes when the bytes have been taken in, t of them before. -/
def absb (L : List (BitVec 64)) (t : Nat) : List (BitVec 8) → List (BitVec 64)
  | [] => L
  | x :: X => absb (turn (mixL L (t % 136) x) (t + 1)) (t + 1) X
theorem absb_app (L : List (BitVec 64)) : ∀ (t : Nat) (X Z : List (BitVec 8)), absb L t (X ++ Z) = absb (absb L t X) (t + X.length) Z
  | t, [], Z => rfl
  | t, x :: X, Z => by
    rw [List.cons_append, absb, absb, absb_app _ (t + 1) X Z]
    simp [Nat.add_assoc, Nat.add_comm 1]
/-- A piece that stays in the block. -/
theorem absb_piece (L : List (BitVec 64)) : ∀ (t : Nat) (X : List (BitVec 8)), 0 < X.length → t % 136 + X.length ≤ 136 → absb L t X = turn (mixs L (t % 136) X) (t + X.length)
  | _, [], h, _ => absurd h (by simp)
  | t, [x], _, _ => by simp [absb, mixs]
  | t, x :: y :: X, _, h => by
    simp only [List.length_cons] at h
    have e1 : turn (mixL L (t % 136) x) (t + 1) = mixL L (t % 136) x := by
      unfold turn
      rw [if_neg (by omega)]
    rw [absb, e1, absb_piece _ (t + 1) (y :: X) (by simp) (by simp only [List.length_cons]; omega), show (t + 1) % 136 = t % 136 + 1 by omega]
    simp only [mixs, List.length_cons]
    congr 1
    omega

/-- Block b holds a sponge and may be written. -/
def Sp (W : World) (b : Nat) (k : Int) (L : List (BitVec 64)) (t : Nat) : Prop :=
  L.length = 25 ∧ W.cell? ⟨b, 0, none⟩ = some (.int .i64 k) ∧ Lno W b 1 L ∧ W.cell? ⟨b, 26, none⟩ = some (.int .i64 (t : Int)) ∧ Loose W b 27
theorem Sp.lt {W : World} {b : Nat} {k : Int} {L : List (BitVec 64)} {t : Nat} (h : Sp W b k L t) : b < W.heap.size := World.block_lt_of_cell? W ⟨b, 0, none⟩ h.2.1
theorem Sp.keep {W w1 : World} {b : Nat} {k : Int} {L : List (BitVec 64)} {t : Nat} (h : Sp W b k L t) (hb : Below W.heap.size W w1) : Sp w1 b k L t :=
  ⟨h.1, cell_keep hb h.2.1, fun i hi => cell_keep hb (h.2.2.1 i hi), cell_keep hb h.2.2.2.1, h.2.2.2.2.keep hb h.lt⟩
theorem Sp.alloc {W : World} {b : Nat} {k : Int} {L : List (BitVec 64)} {t : Nat} (h : Sp W b k L t) (o : Obj) : Sp (W.alloc o) b k L t := h.keep ((Below.refl _ _).alloc (Nat.le_refl _) o)
theorem Sp.drew {W : World} {b : Nat} {k : Int} {L : List (BitVec 64)} {t : Nat} (h : Sp W b k L t) : Sp W.drew b k L t := h
theorem Sp.taken {W : World} {b : Nat} {k : Int} {L : List (BitVec 64)} {t : Nat} (h : Sp W b k L t) (t' : Nat) : Sp (W.setCell ⟨b, 26, none⟩ (.int .i64 (t' : Int))) b k L t' := by
  have ne : ∀ i, i < 26 → (⟨b, 26, none⟩ : Addr) ≠ ⟨b, i, none⟩ := fun i hi => by first | (simp; done) | (simp; omega)
  refine ⟨h.1, ?_, fun j hj => ?_, ?_, h.2.2.2.2.set _ _⟩
  · rw [World.cell?_setCell_other _ _ _ _ (ne 0 (by decide))]; exact h.2.1
  · rw [World.cell?_setCell_other _ _ _ _ (ne (1 + j) (by have := h.1; omega))]; exact h.2.2.1 j hj
  · exact World.cell?_setCell_same _ _ _ h.2.2.2.1
theorem Sp.mix {W : World} {b : Nat} {k : Int} {L : List (BitVec 64)} {t : Nat} (h : Sp W b k L t) {p : Nat} (hp : p < 136) (x : BitVec 8) :
    Sp (W.setCell ⟨b, 1 + p / 8, none⟩ (.int .u64 (V (L.getD (p / 8) 0 ^^^ up x (p % 8 * 8))))) b k (mixL L p x) t := by
  have hl := h.1
  have ne : ∀ i, i ≠ 1 + p / 8 → (⟨b, 1 + p / 8, none⟩ : Addr) ≠ ⟨b, i, none⟩ := fun i hi => by first | (simp; done) | (simp; omega)
  refine ⟨by rw [mixL_len]; exact h.1, ?_, fun j hj => ?_, ?_, h.2.2.2.2.set _ _⟩
  · rw [World.cell?_setCell_other _ _ _ _ (ne 0 (by omega))]; exact h.2.1
  · rw [mixL_len] at hj
    by_cases e : j = p / 8
    · subst e
      rw [World.cell?_setCell_same _ _ _ (h.2.2.1 _ hj)]
      simp [mixL, List.getD, hj]
    · rw [World.cell?_setCell_other _ _ _ _ (ne (1 + j) (by omega)), h.2.2.1 j hj]
      simp [mixL, List.getD, List.getElem?_set_ne (Ne.symm e)]
  · rw [World.cell?_setCell_other _ _ _ _ (ne 26 (by omega))]; exact h.2.2.2.1

end Go.Proofs.YtcjabligkeaafaaDoor.K
