import Derived.Test.YtmhcgjkemlcgoaaDoorRowB
import Derived.Test.YtmhcgjkemlcgoaaDoorQAlloc
import Derived.Test.YtmhcgjkemlcgoaaDoorOut
import Derived.Laws.Cover3
import Derived.Great.Walk
namespace Go.Proofs.YtmhcgjkemlcgoaaDoor
open Go.RowKit Go.Sort

theorem rangeBox {W : World} {M : List Value} {t : TypeId} : (W.alloc (.cells M.toArray t)).rangeAt W.heap.size 0 M := fun j v hv => by
  rw [Nat.zero_add, World.cell?_alloc_mark]
  simpa using hv
theorem there_new {W : World} {b : Nat} {cs : Array Value} {t : TypeId} (e : b = W.heap.size) {n : Nat} (hn : n = cs.size) : (W.alloc (.cells cs t)).there b 0 n := by
  subst e hn
  intro j hj
  rw [Nat.zero_add, World.cell?_alloc_mark, World.frozen?_alloc_mark]
  refine ⟨by simp [hj], ?_⟩
  simp
theorem wpList_worldA {P : Program} {ops : Array Oper} {Q : Exit → Act → World → Prop} {l : List Oper} {a : Act} {w : World} (I : World → Prop) (h : I w) (k : ∀ W, I W → wpList P ops Q l a W) : wpList P ops Q l a w := k w h
theorem laid_in {w W : World} {n b : Nat} {D : List Value} (B : Below n w W) (hb : n ≤ b) (ht : W.there b 0 D.length) : Below n w (W.setCells b 0 D) ∧ (W.setCells b 0 D).rangeAt b 0 D := ⟨below_setCells hb D 0 W B, World.rangeAt_setCells_same _ _ _ _ ht⟩
theorem Bts.cells_putA {W : World} {b b' : Nat} {l : List Int} (h : Bts W b l) (ne : b' ≠ b) (vs : List Value) (o : Nat) : Bts (W.setCells b' o vs) b l := by
  induction vs generalizing W o with
  | nil => exact h
  | cons v r ih => exact ih (h.other ne v) (o + 1)
theorem Bts.of_range {W : World} {b : Nat} {l : List Int} (h : W.rangeAt b 0 (l.map (Value.int .u8))) (hf : Loose W b l.length) : Bts W b l := by
  refine ⟨fun i hi => ?_, hf⟩
  have := h i (.int .u8 (l.getD i 0)) (by rw [List.getElem?_map, List.getElem?_eq_getElem hi]; simp [List.getD, hi])
  rwa [Nat.zero_add] at this
theorem Bts.storedA {W : World} {b : Nat} {l L : List Int} (h : Bts W b l) (e : L.length = l.length) : Bts (W.setCells b 0 (L.map (Value.int .u8))) b L := by
  refine Bts.of_range (World.rangeAt_setCells_same _ _ _ _ (by rw [List.length_map]; exact h.there e.symm)) ?_
  rw [e]
  have hl := h.2
  generalize L.map (Value.int .u8) = vs
  generalize (0 : Nat) = o
  clear h e
  induction vs generalizing W o with
  | nil => exact hl
  | cons v r ih => exact ih (hl.set _ _) (o + 1)

end Go.Proofs.YtmhcgjkemlcgoaaDoor

namespace Go.Proofs.YtmhcgjkemlcgoaaDoor
open Go.RowKit Go.Sort

/-- Are two rows of bytes the same, from s on, m of them? -/
def sameJ (X Y : List Int) : Nat → Nat → Bool
  | _, 0 => true
  | s, m + 1 => X.getD s 0 == Y.getD s 0 && sameJ X Y (s + 1) m
theorem part_j {X : List Int} {i : Nat} (h : i < X.length) (w : World) : (part 5 (X.map (Value.int .u8)).toArray (i * 1)).run Tryd.prog w = .ok (.int .u8 (X.getD i 0)) w := by
  have ta := Tryd.isAgg5

  rw [Nat.mul_one]
  simp [Go.part, go_sem, ta, h]
theorem eq_loopJ {X Y : List Int} (w : World) : ∀ (m s : Nat), s + m ≤ X.length → s + m ≤ Y.length →
    (forIn (m := Sem) (List.range' s m) ((none : Option Bool), ()) fun i _ => do
      let x ← part 5 (X.map (Value.int .u8)).toArray (i * 1)
      let y ← part 5 (Y.map (Value.int .u8)).toArray (i * 1)
      let b ← Op.equalIn 9999 5 x y
      if (!b) = true then pure (ForInStep.done (some false, ())) else pure (ForInStep.yield (none, ()))).run Tryd.prog w = .ok (if sameJ X Y s m = true then (none, ()) else (some false, ())) w
  | 0, s, _, _ => by simp [sameJ]
  | m + 1, s, h1, h2 => by
    have tu := Tryd.underlying5
    rw [List.range'_succ, List.forIn_cons]
    simp only [Sem.run_bind, part_j (show s < X.length by omega), part_j (show s < Y.length by omega), Result.andThen_ok]
    rw [show (9999 : Nat) = 9998 + 1 from rfl, run_equalIn_int _ _ _ _ _ _ _ tu]
    simp only [Result.andThen_ok]
    rw [sameJ]
    have ih := eq_loopJ (X := X) (Y := Y) w m (s + 1) (by omega) (by omega)
    generalize X.getD s 0 = a at *
    generalize Y.getD s 0 = b at *
    by_cases e : a = b
    · subst e
      simp only [beq_self_eq_true, Bool.not_true, Bool.false_eq_true, if_false, Sem.run_pure, Result.andThen_ok, Bool.true_and]
      exact ih
    · have ne : (a == b) = false := beq_eq_false_iff_ne.2 e
      simp only [ne, Bool.not_false, if_true, Sem.run_pure, Result.andThen_ok, Bool.false_and, Bool.false_eq_true, if_false]
theorem sameJ_iff {X Y : List Int} : ∀ (m s : Nat), sameJ X Y s m = true ↔ ∀ i, s ≤ i → i < s + m → X.getD i 0 = Y.getD i 0
  | 0, s => by simp [sameJ]; intro i h1 h2; omega
  | m + 1, s => by
    rw [sameJ, Bool.and_eq_true, sameJ_iff m (s + 1)]
    constructor
    · rintro ⟨h1, h2⟩ i h3 h4
      by_cases e : i = s
      · subst e; exact eq_of_beq h1
      · exact h2 i (by omega) (by omega)
    · intro h
      exact ⟨by rw [h s (Nat.le_refl _) (by omega)]; exact beq_self_eq_true _, fun i h1 h2 => h i (by omega) (by omega)⟩
theorem sameJ_eq {X Y : List Int} {n : Nat} (hx : X.length = n) (hy : Y.length = n) : sameJ X Y 0 n = decide (X = Y) := by
  have h := sameJ_iff (X := X) (Y := Y) n 0
  by_cases e : X = Y
  · subst e
    rw [decide_eq_true rfl]
    exact h.2 fun _ _ _ => rfl
  · rw [decide_eq_false e]
    apply Bool.eq_false_iff.2
    intro ht
    exact e (extB (by rw [hx, hy]) fun t h1 => h.1 ht t (Nat.zero_le _) (by omega))
end Go.Proofs.YtmhcgjkemlcgoaaDoor
