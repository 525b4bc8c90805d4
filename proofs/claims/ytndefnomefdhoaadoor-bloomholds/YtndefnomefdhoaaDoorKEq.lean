import Derived.Test.YtndefnomefdhoaaDoorKBase
namespace Go.Proofs.YtndefnomefdhoaaDoor.K
open Go.RowKit Go.Sort

/-- Are two rows of lanes the same, from s on, m of them? -/
def sameFrom (X Y : List (BitVec 64)) : Nat → Nat → Bool
  | _, 0 => true
  | s, m + 1 => X.getD s 0 == Y.getD s 0 && sameFrom X Y (s + 1) m

theorem part_lane {X : List (BitVec 64)} {i : Nat} (h : i < X.length) (w : World) : (part 57 (lanes X).toArray (i * 1)).run Tryd.prog w = .ok (.int .u64 (V (X.getD i 0))) w := by
  have ta := Tryd.isAgg57
  have g : (lanes X)[i]? = some (.int .u64 (V (X.getD i 0))) := by simp [lanes, List.getD, h]
  simp [Go.part, go_sem, ta, g]

theorem eq_loop {X Y : List (BitVec 64)} (w : World) : ∀ (m s : Nat), s + m ≤ X.length → s + m ≤ Y.length →
    (forIn (m := Sem) (List.range' s m) ((none : Option Bool), ()) fun i _ => do
      let x ← part 57 (lanes X).toArray (i * 1)
      let y ← part 57 (lanes Y).toArray (i * 1)
      let b ← Op.equalIn 9999 57 x y
      if (!b) = true then pure (ForInStep.done (some false, ())) else pure (ForInStep.yield (none, ()))).run Tryd.prog w = .ok (if sameFrom X Y s m = true then (none, ()) else (some false, ())) w
  | 0, s, _, _ => by simp [sameFrom]
  | m + 1, s, h1, h2 => by
    have tu := Tryd.underlying57
    rw [List.range'_succ, List.forIn_cons]
    simp only [Sem.run_bind, part_lane (show s < X.length by omega), part_lane (show s < Y.length by omega), Result.andThen_ok]
    rw [show (9999 : Nat) = 9998 + 1 from rfl, run_equalIn_int _ _ _ _ _ _ _ tu]
    simp only [Result.andThen_ok]
    rw [sameFrom]
    have ih := eq_loop (X := X) (Y := Y) w m (s + 1) (by omega) (by omega)
    generalize X.getD s 0 = a at *
    generalize Y.getD s 0 = b at *
    by_cases e : a = b
    · subst e
      simp only [beq_self_eq_true, Bool.not_true, Bool.false_eq_true, if_false, Sem.run_pure, Result.andThen_ok, Bool.true_and]
      exact ih
    · have ne : (V a == V b) = false := beq_eq_false_iff_ne.2 fun h => e (V_inj h)
      have ne2 : (a == b) = false := beq_eq_false_iff_ne.2 e
      simp only [ne, ne2, Bool.not_false, if_true, Sem.run_pure, Result.andThen_ok, Bool.false_and, Bool.false_eq_true, if_false]

theorem sameFrom_iff {X Y : List (BitVec 64)} : ∀ (m s : Nat), sameFrom X Y s m = true ↔ ∀ i, s ≤ i → i < s + m → X.getD i 0 = Y.getD i 0
  | 0, s => by simp [sameFrom]; intro i h1 h2; omega
  | m + 1, s => by
    rw [sameFrom, Bool.and_eq_true, sameFrom_iff m (s + 1)]
    constructor
    · rintro ⟨h1, h2⟩ i h3 h4
      by_cases e : i = s
      · subst e; exact eq_of_beq h1
      · exact h2 i (by omega) (by omega)
    · intro h
      exact ⟨by rw [h s (Nat.le_refl _) (by omega)]; exact beq_self_eq_true _, fun i h1 h2 => h i (by omega) (by omega)⟩
theorem same_iff {X Y : List (BitVec 64)} {n : Nat} (hx : X.length = n) (hy : Y.length = n) : sameFrom X Y 0 n = decide (X = Y) := by
  have h := sameFrom_iff (X := X) (Y := Y) n 0
  by_cases e : X = Y
  · subst e
    rw [decide_eq_true rfl]
    exact h.2 fun _ _ _ => rfl
  · rw [decide_eq_false e]
    apply Bool.eq_false_iff.2
    intro ht
    apply e
    apply List.ext_getElem (by rw [hx, hy])
    intro i h1 h2
    have := h.1 ht i (Nat.zero_le _) (by omega)
    rw [List.getD, List.getElem?_eq_getElem h1, List.getD, List.getElem?_eq_getElem h2] at this
    simpa using this

/-- '==' of two rows of 25 lanes. -/
theorem eq_lanes {X Y : List (BitVec 64)} (hx : X.length = 25) (hy : Y.length = 25) (w : World) : (Op.equalIn 10000 58 (.agg (lanes X).toArray) (.agg (lanes Y).toArray)).run Tryd.prog w = .ok (decide (X = Y)) w := by
  rw [show (10000 : Nat) = 9999 + 1 from rfl, Op.equalIn]
  have tz : (sizeOf 57).run Tryd.prog w = .ok 1 w := by have := Tryd.sizeOf57; simp [go_sem, this]
  simp only [Sem.run_bind, run_underlying Tryd.underlying58, Result.andThen_ok, tz]
  simp only [Std.Legacy.Range.forIn_eq_forIn_range', Std.Legacy.Range.size, Nat.sub_zero, Nat.add_sub_cancel, Nat.div_one]
  have h := eq_loop (X := X) (Y := Y) w 25 0 (by omega) (by omega)
  rw [h, same_iff hx hy]
  by_cases e : X = Y <;> simp [e]

end Go.Proofs.YtndefnomefdhoaaDoor.K
