import Derived.Test.YtmegdnalpaddmaaHold
import Derived.LoopN
namespace Go.Proofs.Ytmegdnalpaddmaa
open Go.RowKit

theorem rounds_world {P : Program} {c : Code} {Q : Exit → Act → World → Prop} {n : Nat} {a : Act} {w : World} (S : World → Prop) (h : S w) (k : ∀ W, S W → Code.rounds P c Q n a W) : Code.rounds P c Q n a w := k w h

theorem Row.new (W : World) (l : List Int) (t : TypeId) : Row (W.alloc (.cells (l.map (Value.int .u64)).toArray t)) W.heap.size l := by
  intro i hi
  rw [World.cell?_alloc_mark]
  simp [List.getElem?_map, List.getD, List.getElem?_eq_getElem hi]
theorem Loose.new (W : World) (cs : Array Value) (t : TypeId) (n : Nat) : Loose (W.alloc (.cells cs t)) W.heap.size n := fun i _ => by simp [go_sem]
theorem Row.set {W : World} {b : Nat} {l : List Int} (h : Row W b l) (i : Nat) (hi : i < l.length) (v : Int) : Row (W.setCell ⟨b, i, none⟩ (.int .u64 v)) b (l.set i v) := by
  intro j hj
  simp at hj
  by_cases e : i = j
  · subst e
    rw [World.cell?_setCell_same _ _ _ (h i hi)]
    simp [List.getD, hi]
  · have ne : (⟨b, i, none⟩ : Addr) ≠ ⟨b, j, none⟩ := by first | (simp; done) | (simp; omega)
    rw [World.cell?_setCell_other _ _ _ _ ne, h j hj]
    simp [List.getD, List.getElem?_set_ne e]
theorem Row.setOther {W : World} {b : Nat} {l : List Int} (h : Row W b l) {p : Addr} (hp : p.block ≠ b) (v : Value) : Row (W.setCell p v) b l := fun j hj => by
  rw [World.cell?_setCell_far _ _ _ _ hp]; exact h j hj
theorem Loose.set {W : World} {b n : Nat} (h : Loose W b n) (p : Addr) (v : Value) : Loose (W.setCell p v) b n := fun j hj => by rw [World.frozen?_setCell]; exact h j hj
theorem Row.drew {W : World} {b : Nat} {l : List Int} (h : Row W b l) : Row W.drew b l := h
theorem Loose.drew {W : World} {b n : Nat} (h : Loose W b n) : Loose W.drew b n := h

theorem limbs_1 {vs : List Int} {R : Int} (ln : vs.length = 2) (wv : Words vs) (e : val vs = R) (h : R < 18446744073709551616) : vs = [l0 R, 0] := by
  match vs, ln with
  | [v0, v1], _ =>
    obtain ⟨_, _⟩ := wv v0 (by simp); obtain ⟨_, _⟩ := wv v1 (by simp)
    subst e
    simp only [val] at *
    unfold l0
    simp only [List.cons.injEq, and_true]
    omega
theorem limbs_2 {vs : List Int} {R : Int} (ln : vs.length = 3) (wv : Words vs) (e : val vs = R) (h : R < 340282366920938463463374607431768211456) : vs = [l0 R, l1 R, 0] := by
  match vs, ln with
  | [v0, v1, v2], _ =>
    obtain ⟨_, _⟩ := wv v0 (by simp); obtain ⟨_, _⟩ := wv v1 (by simp); obtain ⟨_, _⟩ := wv v2 (by simp)
    subst e
    simp only [val] at *
    unfold l0 l1
    simp only [List.cons.injEq, and_true]
    omega
theorem limbs_3 {vs : List Int} {R : Int} (ln : vs.length = 4) (wv : Words vs) (e : val vs = R) (h : R < 6277101735386680763835789423207666416102355444464034512896) : vs = [l0 R, l1 R, l2 R, 0] := by
  match vs, ln with
  | [v0, v1, v2, v3], _ =>
    obtain ⟨_, _⟩ := wv v0 (by simp); obtain ⟨_, _⟩ := wv v1 (by simp); obtain ⟨_, _⟩ := wv v2 (by simp); obtain ⟨_, _⟩ := wv v3 (by simp)
    subst e
    simp only [val] at *
    unfold l0 l1 l2
    simp only [List.cons.injEq, and_true]
    omega
theorem limbs_4 {vs : List Int} {R : Int} (ln : vs.length = 5) (wv : Words vs) (e : val vs = R) (h : R < 115792089237316195423570985008687907853269984665640564039457584007913129639936) : vs = [l0 R, l1 R, l2 R, l3 R, 0] := by
  match vs, ln with
  | [v0, v1, v2, v3, v4], _ =>
    obtain ⟨_, _⟩ := wv v0 (by simp); obtain ⟨_, _⟩ := wv v1 (by simp); obtain ⟨_, _⟩ := wv v2 (by simp); obtain ⟨_, _⟩ := wv v3 (by simp); obtain ⟨_, _⟩ := wv v4 (by simp)
    subst e
    simp only [val] at *
    unfold l0 l1 l2 l3
    simp only [List.cons.injEq, and_true]
    omega

end Go.Proofs.Ytmegdnalpaddmaa
