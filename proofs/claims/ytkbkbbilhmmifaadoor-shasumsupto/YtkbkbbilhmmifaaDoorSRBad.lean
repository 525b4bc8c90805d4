import Derived.Test.YtkbkbbilhmmifaaDoorSRComp
/- A block of another length; '==' of states. -/
namespace Go.Proofs.YtkbkbbilhmmifaaDoor
open Go.RowKit Go.Sort

def sameW (X Z : List (BitVec 32)) : Nat → Nat → Bool
  | _, 0 => true
  | s, m + 1 => X.getD s 0 == Z.getD s 0 && sameW X Z (s + 1) m
theorem eq_loopW {X Z : List (BitVec 32)} (w : World) : ∀ (m s : Nat), s + m ≤ X.length → s + m ≤ Z.length →
    (forIn (m := Sem) (List.range' s m) ((none : Option Bool), ()) fun i _ => do
      let x ← part 22 (wrds X).toArray (i * 1)
      let y ← part 22 (wrds Z).toArray (i * 1)
      let b ← Op.equalIn 9999 22 x y
      if (!b) = true then pure (ForInStep.done (some false, ())) else pure (ForInStep.yield (none, ()))).run Tryd.prog w = .ok (if sameW X Z s m = true then (none, ()) else (some false, ())) w
  | 0, s, _, _ => by simp [sameW]
  | m + 1, s, h1, h2 => by
    have tu := Tryd.underlying22
    rw [List.range'_succ, List.forIn_cons]
    simp only [Sem.run_bind, part_word (show s < X.length by omega), part_word (show s < Z.length by omega), Result.andThen_ok]
    rw [show (9999 : Nat) = 9998 + 1 from rfl, run_equalIn_int _ _ _ _ _ _ _ tu]
    simp only [Result.andThen_ok]
    rw [sameW]
    have ih := eq_loopW (X := X) (Z := Z) w m (s + 1) (by omega) (by omega)
    generalize X.getD s 0 = a at *
    generalize Z.getD s 0 = b at *
    by_cases e : a = b
    · subst e
      simp only [beq_self_eq_true, Bool.not_true, Bool.false_eq_true, if_false, Sem.run_pure, Result.andThen_ok, Bool.true_and]
      exact ih
    · have ne : (U a == U b) = false := beq_eq_false_iff_ne.2 fun h => e (U_inj h)
      have ne2 : (a == b) = false := beq_eq_false_iff_ne.2 e
      simp only [ne, ne2, Bool.not_false, if_true, Sem.run_pure, Result.andThen_ok, Bool.false_and, Bool.false_eq_true, if_false]
theorem sameW_self (X : List (BitVec 32)) : ∀ m s, sameW X X s m = true
  | 0, _ => rfl
  | m + 1, s => by rw [sameW, sameW_self X m (s + 1)]; simp
/-- '==' of a state with itself. -/
theorem eq_state {X : List (BitVec 32)} (hx : X.length = 8) (w : World) : (Op.equalIn 10000 23 (.agg (wrds X).toArray) (.agg (wrds X).toArray)).run Tryd.prog w = .ok true w := by
  rw [show (10000 : Nat) = 9999 + 1 from rfl, Op.equalIn]
  have tz : (sizeOf 22).run Tryd.prog w = .ok 1 w := by have := Tryd.sizeOf22; simp [go_sem, this]
  simp only [Sem.run_bind, run_underlying Tryd.underlying23, Result.andThen_ok, tz]
  simp only [Std.Legacy.Range.forIn_eq_forIn_range', Std.Legacy.Range.size, Nat.sub_zero, Nat.add_sub_cancel, Nat.div_one]
  have h := eq_loopW (X := X) (Z := X) w 8 0 (by omega) (by omega)
  rw [h, sameW_self]
  simp

def z8 : List (BitVec 32) := List.replicate 8 0
theorem z8_cells : (wrds z8).toArray = #[.int .u32 0, .int .u32 0, .int .u32 0, .int .u32 0, .int .u32 0, .int .u32 0, .int .u32 0, .int .u32 0] := by
  simp [wrds, z8, List.replicate]
  exact U_zero
set_option maxRecDepth 100000 in
set_option maxHeartbeats 4000000 in
theorem comp_bad {a : Option Addr} {n cd : Nat} {S : List (BitVec 32)} (hn : n ≠ 64) (w : World) :
    Calls Tryd.prog 7 #[.agg (wrds S).toArray, .slice a n cd] w fun e w' => e = .returned (.tuple #[.agg (wrds z8).toArray, .int .i64 1]) ∧ Below w.heap.size w w' := by
  have hn' : (n : Int) ≠ 64 := by omega
  rw [z8_cells]
  go_enter Tryd.func7, Tryd.ntmps7
  go_wp2
  simp [bodyPost, results, Tryd.results7, go_sem]
  repeat (first | with_reducible exact Below.refl _ _ | with_reducible refine Below.setCell ?_ (by omega) _ | with_reducible refine Below.alloc ?_ (by first | omega | (simp; done) | (simp; omega)) _)
set_option maxRecDepth 100000 in
set_option maxHeartbeats 4000000 in
theorem rcomp_bad {a : Option Addr} {n cd : Nat} {S : List (BitVec 32)} (hn : n ≠ 64) (w : World) :
    Calls Tryd.prog 8 #[.agg (wrds S).toArray, .slice a n cd] w fun e w' => e = .returned (.tuple #[.agg (wrds z8).toArray, .int .i64 1]) ∧ Below w.heap.size w w' := by
  have hn' : (n : Int) ≠ 64 := by omega
  rw [z8_cells]
  go_enter Tryd.func8, Tryd.ntmps8
  go_wp2
  simp [bodyPost, results, Tryd.results8, go_sem]
  repeat (first | with_reducible exact Below.refl _ _ | with_reducible refine Below.setCell ?_ (by omega) _ | with_reducible refine Below.alloc ?_ (by first | omega | (simp; done) | (simp; omega)) _)
end Go.Proofs.YtkbkbbilhmmifaaDoor
