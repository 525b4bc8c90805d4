import Derived.Test.YtmegdnalpaddmaaMul2
import Derived.Test.YtmegdnalpaddmaaAdd
import Derived.Lib.QuietBelow
import Derived.Deep.RegionHeld
import Derived.Test.YtmegdnalpaddmaaSets
namespace Go.Proofs.Ytmegdnalpaddmaa
open Go.RowKit Go.Sort

/-- Block b holds the number n: four limbs. -/
def Hold (W : World) (b : Nat) (n : Int) : Prop :=
  W.cell? ⟨b, 0, none⟩ = some (.int .u64 (l0 n)) ∧ W.cell? ⟨b, 1, none⟩ = some (.int .u64 (l1 n)) ∧ W.cell? ⟨b, 2, none⟩ = some (.int .u64 (l2 n)) ∧ W.cell? ⟨b, 3, none⟩ = some (.int .u64 (l3 n))

theorem cell_keep {W w1 : World} {p : Addr} {v : Value} (hb : Below W.heap.size W w1) (h : W.cell? p = some v) : w1.cell? p = some v := by
  rw [hb.cell (World.block_lt_of_cell? W p h)]; exact h
theorem Hold.keep {W w1 : World} {b : Nat} {n : Int} (h : Hold W b n) (hb : Below W.heap.size W w1) : Hold w1 b n :=
  ⟨cell_keep hb h.1, cell_keep hb h.2.1, cell_keep hb h.2.2.1, cell_keep hb h.2.2.2⟩
theorem Hold.alloc {W : World} {b : Nat} {n : Int} (h : Hold W b n) (o : Obj) : Hold (W.alloc o) b n :=
  h.keep ((Below.refl _ _).alloc (Nat.le_refl _) o)
theorem Hold.drew {W : World} {b : Nat} {n : Int} (h : Hold W b n) : Hold W.drew b n := h
theorem Hold.new (W : World) (n : Int) (t : TypeId) : Hold (W.alloc (.cells #[.int .u64 (l0 n), .int .u64 (l1 n), .int .u64 (l2 n), .int .u64 (l3 n)] t)) W.heap.size n := by
  refine ⟨?_, ?_, ?_, ?_⟩ <;> simp [go_sem]
theorem Hold.grown {W : World} {b : Nat} {n : Int} (h : Hold W b n) : ∀ d os, (grow (redrawn W d) os).cell? ⟨b, 0, none⟩ = some (.int .u64 (l0 n)) ∧ (grow (redrawn W d) os).cell? ⟨b, 1, none⟩ = some (.int .u64 (l1 n)) ∧ (grow (redrawn W d) os).cell? ⟨b, 2, none⟩ = some (.int .u64 (l2 n)) ∧ (grow (redrawn W d) os).cell? ⟨b, 3, none⟩ = some (.int .u64 (l3 n)) :=
  fun d os => ⟨cell_regrown h.1 d os, cell_regrown h.2.1 d os, cell_regrown h.2.2.1 d os, cell_regrown h.2.2.2 d os⟩

theorem Hold.allocs {W : World} {b : Nat} {n : Int} (h : Hold W b n) : ∀ o, (W.alloc o).cell? ⟨b, 0, none⟩ = some (.int .u64 (l0 n)) ∧ (W.alloc o).cell? ⟨b, 1, none⟩ = some (.int .u64 (l1 n)) ∧ (W.alloc o).cell? ⟨b, 2, none⟩ = some (.int .u64 (l2 n)) ∧ (W.alloc o).cell? ⟨b, 3, none⟩ = some (.int .u64 (l3 n)) :=
  fun o => h.alloc o
theorem Hold.allocs2 {W : World} {b : Nat} {n : Int} (h : Hold W b n) : ∀ o o', ((W.alloc o).alloc o').cell? ⟨b, 0, none⟩ = some (.int .u64 (l0 n)) ∧ ((W.alloc o).alloc o').cell? ⟨b, 1, none⟩ = some (.int .u64 (l1 n)) ∧ ((W.alloc o).alloc o').cell? ⟨b, 2, none⟩ = some (.int .u64 (l2 n)) ∧ ((W.alloc o).alloc o').cell? ⟨b, 3, none⟩ = some (.int .u64 (l3 n)) :=
  fun o o' => (h.alloc o).alloc o'
theorem Hold.cells {W : World} {b : Nat} {n : Int} (h : Hold W b n) : W.cell? ⟨b, 0, none⟩ = some (.int .u64 (l0 n)) ∧ W.cell? ⟨b, 1, none⟩ = some (.int .u64 (l1 n)) ∧ W.cell? ⟨b, 2, none⟩ = some (.int .u64 (l2 n)) ∧ W.cell? ⟨b, 3, none⟩ = some (.int .u64 (l3 n)) := h

/-- The world under one name, with what is known of it. -/
theorem calls_world {P : Program} {f : FuncId} {args : Array Value} {w : World} {R : Ending → World → Prop} (S : World → Prop) (h : S w) (k : ∀ W, S W → Calls P f args W R) : Calls P f args w R := k w h
theorem wp_world {P : Program} {c : Code} {Q : Exit → Act → World → Prop} {a : Act} {w : World} (S : World → Prop) (h : S w) (k : ∀ W, S W → c.wp P Q a W) : c.wp P Q a w := k w h

end Go.Proofs.Ytmegdnalpaddmaa

namespace Go.Proofs.Ytmegdnalpaddmaa
open Go.RowKit

/-- Block b holds these limbs, from its first cell on. -/
def Row (W : World) (b : Nat) (l : List Int) : Prop := ∀ i, i < l.length → W.cell? ⟨b, i, none⟩ = some (.int .u64 (l.getD i 0))
/-- The first n cells of block b may be written. -/
def Loose (W : World) (b n : Nat) : Prop := ∀ i, i < n → W.frozen? ⟨b, i, none⟩ = false

theorem Row.lt {W : World} {b : Nat} {l : List Int} (h : Row W b l) (hl : 0 < l.length) : b < W.heap.size := World.block_lt_of_cell? W ⟨b, 0, none⟩ (h 0 hl)
theorem Row.keep {W w1 : World} {b : Nat} {l : List Int} (h : Row W b l) (hb : Below W.heap.size W w1) : Row w1 b l := fun i hi => cell_keep hb (h i hi)
theorem Loose.keep {W w1 : World} {b n : Nat} (h : Loose W b n) (hb : Below W.heap.size W w1) (hlt : b < W.heap.size) : Loose w1 b n := fun i hi => by rw [hb.frozen (p := ⟨b, i, none⟩) hlt]; exact h i hi
theorem Row.alloc {W : World} {b : Nat} {l : List Int} (h : Row W b l) (o : Obj) : Row (W.alloc o) b l := h.keep ((Below.refl _ _).alloc (Nat.le_refl _) o)
theorem Loose.alloc {W : World} {b n : Nat} (h : Loose W b n) (hlt : b < W.heap.size) (o : Obj) : Loose (W.alloc o) b n := h.keep ((Below.refl _ _).alloc (Nat.le_refl _) o) hlt
theorem Row.other {W W' : World} {b b' o : Nat} {l vs : List Int} (h : Row W b l) (s : Sets b' o vs W W') (ne : b ≠ b') : Row W' b l := fun i hi => by rw [s.other (p := ⟨b, i, none⟩) ne]; exact h i hi
theorem Loose.sets {W W' : World} {b b' o n : Nat} {vs : List Int} (h : Loose W b n) (s : Sets b' o vs W W') : Loose W' b n := fun i hi => by rw [s.frozen]; exact h i hi
/-- What is written takes its place. -/
theorem Row.sets {W W' : World} {b o : Nat} {l vs : List Int} (h : Row W b l) (s : Sets b o vs W W') (hl : o + vs.length ≤ l.length) : Row W' b (l.take o ++ (vs ++ l.drop (o + vs.length))) := by
  intro i hi
  simp at hi
  by_cases h1 : i < o
  · rw [s.out i (.inl h1), h i (by omega)]
    simp [List.getD, List.getElem?_append_left (show i < (l.take o).length by simp; omega), h1]
  · by_cases h2 : i < o + vs.length
    · obtain ⟨j, rfl⟩ : ∃ j, i = o + j := ⟨i - o, by omega⟩
      rw [s.inn j (by omega)]
      have e : (l.take o).length = o := by simp; omega
      simp [List.getD, List.getElem?_append_right (show (l.take o).length ≤ o + j by omega), List.getElem?_append_left (show j < vs.length by omega), e]
    · rw [s.out i (.inr (by omega)), h i (by omega)]
      have e : (l.take o).length = o := by simp; omega
      rw [List.getD, List.getD, List.getElem?_append_right (show (l.take o).length ≤ i by omega), e, List.getElem?_append_right (show vs.length ≤ i - o by omega), List.getElem?_drop, show o + vs.length + (i - o - vs.length) = i by omega]
theorem Row.drewN {W : World} {b : Nat} {l : List Int} (h : Row W b l) (n : Nat) : Row (W.drewN n) b l := h
theorem Loose.drewN {W : World} {b n : Nat} (h : Loose W b n) (k : Nat) : Loose (W.drewN k) b n := h

end Go.Proofs.Ytmegdnalpaddmaa
