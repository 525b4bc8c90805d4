import Derived.Test.YtcjabligkeaafaaDoorRcO
/- Layer 17: an address and a digest as arguments. -/
namespace Go.Proofs.YtcjabligkeaafaaDoor.tq
open Go.ChangeShapes Go.WideShapes Go.ChangeAt Go.RowKit Go.Deep
variable {H : Type} {enc : TypeId × Value → H} {W : World}
theorem open_adR {base : Nat} {v : Value} {d : DataW H} {p : List MemPlace} (hval : Value.okWide Tryd.prog W .any base 24 v) (h : DataW.Trod enc Tryd.prog W 0 (fun _ => true) true 24 v d p) :
    ∃ X : List Int, AdG X ∧ v = .agg (hC X).toArray := by
  obtain ⟨cs, rfl, hsz⟩ : ∃ cs : Array Value, v = .agg cs ∧ cs.size = 20 := by
    simp only [Value.okWide, Tryd.underlying24] at hval
    obtain ⟨cs, h1, h2, _⟩ := hval
    exact ⟨cs, h1, h2.trans cells_adN⟩
  obtain ⟨fuel, hf⟩ := h
  obtain ⟨X, h1, h2, _⟩ := cells_arr Tryd.underlying24 cells_adN hf
  refine ⟨X, h1, ?_⟩
  have e : cs = (hC X).toArray := by
    apply Array.toList_inj.1
    simpa [Value.cells, hC] using h2
  rw [e]
theorem open_haR {base : Nat} {v : Value} {d : DataW H} {p : List MemPlace} (hval : Value.okWide Tryd.prog W .any base 26 v) (h : DataW.Trod enc Tryd.prog W 0 (fun _ => true) true 26 v d p) :
    ∃ X : List Int, HaG X ∧ v = .agg (hC X).toArray := by
  obtain ⟨cs, rfl, hsz⟩ : ∃ cs : Array Value, v = .agg cs ∧ cs.size = 32 := by
    simp only [Value.okWide, Tryd.underlying26] at hval
    obtain ⟨cs, h1, h2, _⟩ := hval
    exact ⟨cs, h1, h2.trans cells_haN⟩
  obtain ⟨fuel, hf⟩ := h
  obtain ⟨X, h1, h2, _⟩ := cells_arr Tryd.underlying26 cells_haN hf
  refine ⟨X, h1, ?_⟩
  have e : cs = (hC X).toArray := by
    apply Array.toList_inj.1
    simpa [Value.cells, hC] using h2
  rw [e]
end Go.Proofs.YtcjabligkeaafaaDoor.tq
