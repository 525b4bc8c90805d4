import Derived.Test.YtgedkdkaddcmmaaDoorCSC
import Derived.Test.YtgedkdkaddcmmaaDoorCSB
import Derived.Test.YtgedkdkaddcmmaaDoorCSumK
import Derived.Test.YtgedkdkaddcmmaaDoorCOps
namespace Go.Proofs.YtgedkdkaddcmmaaDoor
open Go.RowKit Go.Sort

theorem first_bad {p : Nat → Prop} : ∀ n, (∀ i, i < n → p i) ∨ ∃ m, m < n ∧ (∀ i, i < m → p i) ∧ ¬ p m
  | 0 => .inl fun i h => absurd h (Nat.not_lt_zero _)
  | n + 1 => by
    rcases first_bad (p := p) n with h | ⟨m, h1, h2, h3⟩
    · by_cases k : p n
      · exact .inl fun i hi => by
          by_cases e : i = n
          · rw [e]; exact k
          · exact h i (by omega)
      · exact .inr ⟨n, by omega, h, k⟩
    · exact .inr ⟨m, by omega, h2, h3⟩
theorem csums_any {L : List PP} {a : Option Addr} {bp op c : Nat} (hl : L.length ≤ 1954687338326) (hnum : ∀ i, i < L.length → Num (L.getD i ⟨0, 0, true⟩).x ∧ Num (L.getD i ⟨0, 0, true⟩).y) (ha : L = [] ∨ a = some ⟨bp, op, none⟩) (w : World) (hm : Mds w) (hI : Pts w bp op L) :
    Calls Tryd.prog 3 #[.slice a L.length c] w fun e w' => e = .returned (.bool true) ∧ Below w.heap.size w w' := by
  have hz : Num (0 : Int) := ⟨by decide, by decide⟩
  rcases first_bad (p := fun i => Vd (L.getD i ⟨0, 0, true⟩).x (L.getD i ⟨0, 0, true⟩).y (L.getD i ⟨0, 0, true⟩).i) L.length with hV | ⟨m, h1, h2, h3⟩
  · obtain ⟨x, y, j, hj, ej⟩ := rep_pt (sumP_on hV L.length (Nat.le_refl _))
    exact csums_walk rfl hl hnum ha hj.low.1.num hj.low.2.num w hI
      (fun W g cap B hP hg => csum_any (by omega) hV hj ej (.inr rfl) W (hm.keep B) hP hg)
      (fun W B => rsum5_good (by omega) hV hj ej ha W (hI.keep B))
  · obtain ⟨nx, ny⟩ := hnum m h1
    exact csums_walk rfl hl hnum ha hz hz w hI
      (fun W g cap B hP hg => csum_bad (by omega) h1 h2 (fun w hm => (con_no nx ny h3).out w hm) (.inr rfl) W (hm.keep B) hP hg)
      (fun W B => rsum5_bad (by omega) h1 h2 h3 nx ny ha W (hI.keep B))
end Go.Proofs.YtgedkdkaddcmmaaDoor
