import Derived.Test.YtdkfpakghpbofaaRsM
/- Layer 7: a list of texts of one's own. -/
namespace Go.Proofs.Ytdkfpakghpbofaa
open Go.RowKit Go.Sort
/-- A list of texts: the row and each text in memory of one's own, apart from the row. -/
def TxE (B : Nat) (W : World) (pv : Value) (XS : List (List Int)) (VS : List Value) : Prop :=
  VS.length = XS.length ∧ W.ownsRow B 22 1 pv XS.length VS ∧ ∀ j, j < XS.length → ∃ u, VS[j]? = some u ∧ OwnB B W u (XS.getD j []) ∧ u ≠ .slice none 0 0 ∧ (∀ k, u.ownBlock = some k → pv.ownBlock ≠ some k)
theorem TxE.nil (B : Nat) (W : World) : TxE B W (.slice none 0 0) [] [] := ⟨rfl, ⟨rfl, .inl ⟨rfl, rfl⟩⟩, fun _ hj => absurd hj (Nat.not_lt_zero _)⟩
theorem TxE.keep {B : Nat} {W W' : World} {pv : Value} {XS : List (List Int)} {VS : List Value} (h : TxE B W pv XS VS) (hb : Below W.heap.size W W') : TxE B W' pv XS VS := by
  refine ⟨h.1, World.ownsRow.kept h.2.1 (grown_of_below hb Option.none) (by cases pv.ownBlock <;> simp), fun j hj => ?_⟩
  obtain ⟨u, h1, h2, h3, h4⟩ := h.2.2 j hj
  exact ⟨u, h1, h2.keep hb, h3, h4⟩
theorem TxE.step {B : Nat} {W W' : World} {pv v' u : Value} {XS : List (List Int)} {X : List Int} {VS : List Value} (h : TxE B W pv XS VS) (hu : OwnB B W u X) (hn : u ≠ .slice none 0 0) (ha : ∀ k, u.ownBlock = some k → pv.ownBlock ≠ some k)
    (ho : W'.ownsRow B 22 1 v' (XS.length + 1) (VS ++ [u])) (hg : W.grownBy W' pv.ownBlock) (hv : v'.ownBlock = pv.ownBlock ∨ v'.ownBlock = some W.heap.size) : TxE B W' v' (XS ++ [X]) (VS ++ [u]) := by
  have hl := h.1
  have far : ∀ {x : Value} {Y : List Int}, OwnB B W x Y → (∀ k, x.ownBlock = some k → pv.ownBlock ≠ some k) → ∀ k, x.ownBlock = some k → v'.ownBlock ≠ some k := fun {x Y} hx hk k e => by
    rcases hv with q | q
    · rw [q]; exact hk k e
    · rw [q]; intro e2; have := (hx.lt k e).2; have := Option.some.inj e2; omega
  refine ⟨by simp [hl], by simpa using ho, fun j hj => ?_⟩
  rw [List.length_append] at hj
  have l1 : ([X] : List (List Int)).length = 1 := rfl
  by_cases e : j = XS.length
  · subst e
    refine ⟨u, by rw [List.getElem?_append_right (by omega), hl, Nat.sub_self]; rfl, ?_, hn, far hu ha⟩
    have g : (XS ++ [X]).getD XS.length [] = X := by simp [List.getD]
    rw [g]
    exact hu.kept hg ha
  · obtain ⟨x, h1, h2, h3, h4⟩ := h.2.2 j (by omega)
    refine ⟨x, by rw [List.getElem?_append_left (by omega)]; exact h1, ?_, h3, far h2 h4⟩
    have g : (XS ++ [X]).getD j [] = XS.getD j [] := by simp [List.getD, List.getElem?_append_left (show j < XS.length by omega)]
    rw [g]
    exact h2.kept hg h4
end Go.Proofs.Ytdkfpakghpbofaa
