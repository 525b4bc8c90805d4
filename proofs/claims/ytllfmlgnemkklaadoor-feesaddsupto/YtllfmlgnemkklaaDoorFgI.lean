import Derived.Test.YtllfmlgnemkklaaDoorFgC
/- Layer 18: what a transaction weighs bounds its lists. -/
namespace Go.Proofs.YtllfmlgnemkklaaDoor
open Go.RowKit Go.Sort
open tq
theorem sumW_len {α : Type} {wt : α → Nat} (h : ∀ x, 1 ≤ wt x) : ∀ L : List α, L.length ≤ sumW wt L
  | [] => Nat.zero_le _
  | x :: L => by have := h x; have := sumW_len h L; rw [sumW, List.length_cons]; omega
theorem sumW_at {α : Type} {wt : α → Nat} (z : α) : ∀ (L : List α) (i : Nat), i < L.length → wt (L.getD i z) ≤ sumW wt L
  | [], i, h => absurd h (Nat.not_lt_zero _)
  | x :: L, 0, _ => by rw [sumW]; exact Nat.le_add_right _ _
  | x :: L, i + 1, h => by have := sumW_at (wt := wt) z L i (by simpa using h); rw [sumW]; have e : (x :: L).getD (i + 1) z = L.getD i z := rfl; rw [e]; omega
theorem bdG_of {t : Txv} (h : txW t ≤ 1048576) : BdG t := by
  unfold txW at h
  have h1 := sumW_len (wt := enW) (fun e => by unfold enW; omega) t.El
  have h3 := sumW_len (wt := fun _ : Aun => 1) (fun _ => Nat.le_refl _) t.Ul
  refine ⟨by omega, by omega, fun i hi => ?_, by omega⟩
  have h4 := sumW_at (wt := enW) zEn t.El i hi
  have h5 := sumW_len (wt := fun X : List Int => X.length + 1) (fun X => by omega) (t.El.getD i zEn).ks
  have h6 : 23 + sumW (fun X : List Int => X.length + 1) (t.El.getD i zEn).ks ≤ sumW enW t.El := h4
  omega
end Go.Proofs.YtllfmlgnemkklaaDoor

/- Layer 18: bytes and digests as arguments (only the way down). -/
namespace Go.Proofs.YtllfmlgnemkklaaDoor.tq
open Go.ChangeShapes Go.WideShapes Go.ChangeAt Go.RowKit Go.Deep
section
variable {H : Type} {enc : TypeId × Value → H} {W : World}
theorem slice_ofF {v : Value} {a : Option Addr} {n c : Nat} (hv : ∃ a n c, v = .slice a n c) (h : v.cells.toList = [.slice a n c]) : v = .slice a n c := by
  obtain ⟨a1, n1, c1, rfl⟩ := hv
  simpa [Value.cells] using h
theorem open_bt {base : Nat} {v : Value} {d : DataW H} {p : List MemPlace} (hval : Value.okWide Tryd.prog W .any base 27 v) (h : DataW.Trod enc Tryd.prog W 0 (fun _ => true) true 27 v d p) :
    ∃ (a : Option Addr) (b o c : Nat) (X : List Int), v = .slice a X.length c ∧ BtG W a b o c X ∧ X.length + 1 ≤ Rows.uptoBulk d := by
  have hv := okWide_slice Tryd.underlying27 hval
  obtain ⟨fuel, hf⟩ := h
  obtain ⟨a, b, o, c, X, h1, h2, h3, h4, h5, h6⟩ := cells_bytes hf
  exact ⟨a, b, o, c, X, slice_ofF hv h1, ⟨h2, h3, h4, h5⟩, h6⟩
theorem open_ks {base : Nat} {v : Value} {d : DataW H} {p : List MemPlace} (hval : Value.okWide Tryd.prog W .any base 29 v) (h : DataW.Trod enc Tryd.prog W 0 (fun _ => true) true 29 v d p) :
    ∃ (a : Option Addr) (b o c : Nat) (L : List (List Int)), v = .slice a L.length c ∧ KsG W a b o c L ∧ sumW (fun X => X.length + 1) L + 1 ≤ Rows.uptoBulk d := by
  have hv := okWide_slice Tryd.underlying29 hval
  obtain ⟨fuel, hf⟩ := h
  obtain ⟨a, b, o, c, L, h1, h2, h3⟩ := cells_has hf
  exact ⟨a, b, o, c, L, slice_ofF hv h1, h2, h3⟩
end
end Go.Proofs.YtllfmlgnemkklaaDoor.tq
namespace Go.Proofs.YtllfmlgnemkklaaDoor
open tq
theorem bdL_of {t : Txv} (h : txW t ≤ 1048576) : t.Dl.length < 500000000 ∧ t.El.length < 5000000 := by
  unfold txW at h
  have h1 := sumW_len (wt := enW) (fun e => by unfold enW; omega) t.El
  omega
theorem ksL_of {L : List (List Int)} (h : sumW (fun X : List Int => X.length + 1) L + 1 ≤ 1048576) : L.length < 10000000 := by
  have h1 := sumW_len (wt := fun X : List Int => X.length + 1) (fun X => by omega) L
  omega
end Go.Proofs.YtllfmlgnemkklaaDoor
