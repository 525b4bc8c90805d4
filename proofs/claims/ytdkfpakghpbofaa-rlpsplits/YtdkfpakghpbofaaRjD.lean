import Derived.Test.YtdkfpakghpbofaaRjC
import Derived.Test.YtdkfpakghpbofaaCZL
/- Layer 7: Join of both sides. -/
namespace Go.Proofs.Ytdkfpakghpbofaa
open Go.RowKit Go.Sort

/-- A text where a slice points. -/
def Tz (W : World) (v : Value) (X : List Int) : Prop := ∃ a g p c, v = .slice a X.length c ∧ X.length ≤ c ∧ Az a g p X ∧ (a = none → c = 0) ∧ Bz W g p X
theorem Tz.keep {W W' : World} {v : Value} {X : List Int} (h : Tz W v X) (hb : Below W.heap.size W W') : Tz W' v X := by
  obtain ⟨a, g, p, c, h1, h2, h3, h4, h5⟩ := h
  exact ⟨a, g, p, c, h1, h2, h3, h4, h5.keep hb⟩
/-- Texts in a row. -/
def Pz (W : World) (b o : Nat) (XS : List (List Int)) (V : Nat → Value) : Prop := ∀ i, i < XS.length → W.cell? ⟨b, o + i, none⟩ = some (V i) ∧ Tz W (V i) (XS.getD i [])
theorem Pz.keep {W W' : World} {b o : Nat} {XS : List (List Int)} {V : Nat → Value} (h : Pz W b o XS V) (hb : Below W.heap.size W W') : Pz W' b o XS V := fun i hi => ⟨cell_keep hb (h i hi).1, (h i hi).2.keep hb⟩
def AzP (a : Option Addr) (b o : Nat) (XS : List (List Int)) : Prop := XS = [] ∨ a = some ⟨b, o, none⟩
theorem AzP.cons {a : Option Addr} {b o : Nat} {XS : List (List Int)} (h : AzP a b o XS) (hl : 0 < XS.length) : a = some ⟨b, o, none⟩ := by
  rcases h with h | h
  · rw [h] at hl; exact absurd hl (Nat.lt_irrefl _)
  · exact h
def LimS (n : Nat) : Prop := n ≤ 1048576
theorem LimS.le {n : Nat} (h : LimS n) : n ≤ 1048576 := h
end Go.Proofs.Ytdkfpakghpbofaa
