import Derived.Test.YtcjabligkeaafaaDoorAdLast
namespace Go.Proofs.YtcjabligkeaafaaDoor
open Go.RowKit Go.Sort

/-- Are two rows of bytes the same, from s on, m of them? -/
def sameJ (X Y : List Int) : Nat → Nat → Bool
  | _, 0 => true
  | s, m + 1 => X.getD s 0 == Y.getD s 0 && sameJ X Y (s + 1) m
theorem part_j {X : List Int} {i : Nat} (h : i < X.length) (w : World) : (part 5 (X.map (Value.int .u8)).toArray (i * 1)).run Tryd.prog w = .ok (.int .u8 (X.getD i 0)) w := by
  have ta := Tryd.isAgg5

  rw [Nat.mul_one]
  simp [Go.part, go_sem, ta, h]
theorem eq_loopJ {X Y : List Int} (w : World) : ∀ (m s : Nat), s + m ≤ X.length → s + m ≤ Y.length →
    (forIn (m := Sem) (List.range' s m) ((none : Option Bool), ()) fun i _ => do
      let x ← part 5 (X.map (Value.int .u8)).toArray (i * 1)
      let y ← part 5 (Y.map (Value.int .u8)).toArray (i * 1)
      let b ← Op.equalIn 9999 5 x y
      if (!b) = true then pure (ForInStep.done (some false, ())) else pure (ForInStep.yield (none, ()))).run Tryd.prog w = .ok (if sameJ X Y s m = true then (none, ()) else (some false, ())) w
  | 0, s, _, _ => by simp [sameJ]
  | m + 1, s, h1, h2 => by
    have tu := Tryd.underlying5
    rw [List.range'_succ, List.forIn_cons]
    simp only [Sem.run_bind, part_j (show s < X.length by omega), part_j (show s < Y.length by omega), Result.andThen_ok]
    rw [show (9999 : Nat) = 9998 + 1 from rfl, run_equalIn_int _ _ _ _ _ _ _ tu]
    simp only [Result.andThen_ok]
    rw [sameJ]
    have ih := eq_loopJ (X := X) (Y := Y) w m (s + 1) (by omega) (by omega)
    generalize X.getD s 0 = a at *
    generalize Y.getD s 0 = b at *
    by_cases e : a = b
    · subst e
      simp only [beq_self_eq_true, Bool.not_true, Bool.false_eq_true, if_false, Sem.run_pure, Result.andThen_ok, Bool.true_and]
      exact ih
    · have ne : (a == b) = false := beq_eq_false_iff_ne.2 e
      simp only [ne, Bool.not_false, if_true, Sem.run_pure, Result.andThen_ok, Bool.false_and, Bool.false_eq_true, if_false]
theorem sameJ_iff {X Y : List Int} : ∀ (m s : Nat), sameJ X Y s m = true ↔ ∀ i, s ≤ i → i < s + m → X.getD i 0 = Y.getD i 0
  | 0, s => by simp [sameJ]; intro i h1 h2; omega
  | m + 1, s => by
    rw [sameJ, Bool.and_eq_true, sameJ_iff m (s + 1)]
    constructor
    · rintro ⟨h1, h2⟩ i h3 h4
      by_cases e : i = s
      · subst e; exact eq_of_beq h1
      · exact h2 i (by omega) (by omega)
    · intro h
      exact ⟨by rw [h s (Nat.le_refl _) (by omega)]; exact beq_self_eq_true _, fun i h1 h2 => h i (by omega) (by omega)⟩
theorem sameJ_eq {X Y : List Int} {n : Nat} (hx : X.length = n) (hy : Y.length = n) : sameJ X Y 0 n = decide (X = Y) := by
  have h := sameJ_iff (X := X) (Y := Y) n 0
  by_cases e : X = Y
  · subst e
    rw [decide_eq_true rfl]
    exact h.2 fun _ _ _ => rfl
  · rw [decide_eq_false e]
    apply Bool.eq_false_iff.2
    intro ht
    exact e (extB (by rw [hx, hy]) fun t h1 => h.1 ht t (Nat.zero_le _) (by omega))
/-- '==' of two addresses. -/
theorem eq_adrJ {X Y : List Int} (hx : X.length = 20) (hy : Y.length = 20) (w : World) : (Op.equalIn 10000 24 (.agg (X.map (Value.int .u8)).toArray) (.agg (Y.map (Value.int .u8)).toArray)).run Tryd.prog w = .ok (decide (X = Y)) w := by
  rw [show (10000 : Nat) = 9999 + 1 from rfl, Op.equalIn]
  have tz : (sizeOf 5).run Tryd.prog w = .ok 1 w := by have := Tryd.sizeOf5; simp [go_sem, this]
  simp only [Sem.run_bind, run_underlying Tryd.underlying24, Result.andThen_ok, tz]
  simp only [Std.Legacy.Range.forIn_eq_forIn_range', Std.Legacy.Range.size, Nat.sub_zero, Nat.add_sub_cancel, Nat.div_one]
  have h := eq_loopJ (X := X) (Y := Y) w 20 0 (by omega) (by omega)
  rw [h, sameJ_eq hx hy]
  by_cases e : X = Y <;> simp [e]
end Go.Proofs.YtcjabligkeaafaaDoor
