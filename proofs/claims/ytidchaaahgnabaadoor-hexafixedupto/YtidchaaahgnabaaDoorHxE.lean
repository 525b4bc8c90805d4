import Derived.Test.YtidchaaahgnabaaDoorHxD
namespace Go.Proofs.YtidchaaahgnabaaDoor
open Go.RowKit Go.Sort

/-- The digits' values, from a cell on. -/
def Dl (W : World) (g : Nat) (t : ByteArray) : Prop := ∀ i, i < t.size → W.cell? ⟨g, i, none⟩ = some (.int .i64 (dv (bt t i)))
theorem Dl.keep {W W' : World} {g : Nat} {t : ByteArray} (h : Dl W g t) (hb : Below W.heap.size W W') : Dl W' g t := fun i hi => cellK hb (h i hi)
theorem dl_getD (t : ByteArray) {n i : Nat} (h : i < n) : (dl t n).getD i 0 = dv (bt t i) := by simp [dl, List.getD, List.getElem?_range h]
theorem rtail_lies {s : ByteArray} (hs : s.size < 1073741824) (h : okP s) (w : World) : Calls Tryd.prog 42 #[.string s] w fun e w' => ∃ a g c, e = .returned (.tuple #[.slice a (tl s).size c, .bool true]) ∧ ((tl s).size ≠ 0 → a = some ⟨g, 0, none⟩) ∧ Dl w' g (tl s) ∧ Below w.heap.size w w' :=
  (rtail_yes hs h w).mono fun e w' ⟨v, h1, h2, h3⟩ => by
    obtain ⟨a, g, c, rfl, h4, h5, _⟩ := h2.lies
    rw [dl_len] at h1 h5
    refine ⟨a, g, c, h1, fun hn => h4 fun e => hn (by rw [← dl_len (tl s) (tl s).size, e]; rfl), fun i hi => ?_, h3⟩
    rw [h5 i hi, dl_getD _ hi]
end Go.Proofs.YtidchaaahgnabaaDoor
