import Derived.Test.YtndefnomefdhoabDoorKLent
namespace Go.Proofs.YtndefnomefdhoabDoor.K
open Go.RowKit Go.Sort

/-- Are two rows of byts the same, from s on, m of them? -/
def sameFrom8 (X Zs : List (BitVec 8)) : Nat → Nat → Bool
  | _, 0 => true
  | s, m + 1 => X.getD s 0 == Zs.getD s 0 && sameFrom8 X Zs (s + 1) m

theorem part_byte {X : List (BitVec 8)} {i : Nat} (h : i < X.length) (w : World) : (part 5 (byts X).toArray (i * 1)).run Tryd.prog w = .ok (.int .u8 (Y (X.getD i 0))) w := by
  have ta := Tryd.isAgg5
  have g : (byts X)[i]? = some (.int .u8 (Y (X.getD i 0))) := by simp [byts, List.getD, h]
  simp [Go.part, go_sem, ta, g]

theorem eq_loop8 {X Zs : List (BitVec 8)} (w : World) : ∀ (m s : Nat), s + m ≤ X.length → s + m ≤ Zs.length →
    (forIn (m := Sem) (List.range' s m) ((none : Option Bool), ()) fun i _ => do
      let x ← part 5 (byts X).toArray (i * 1)
      let y ← part 5 (byts Zs).toArray (i * 1)
      let b ← Op.equalIn 9999 5 x y
      if (!b) = true then pure (ForInStep.done (some false, ())) else pure (ForInStep.yield (none, ()))).run Tryd.prog w = .ok (if sameFrom8 X Zs s m = true then (none, ()) else (some false, ())) w
  | 0, s, _, _ => by simp [sameFrom8]
  | m + 1, s, h1, h2 => by
    have tu := Tryd.underlying5
    rw [List.range'_succ, List.forIn_cons]
    simp only [Sem.run_bind, part_byte (show s < X.length by omega), part_byte (show s < Zs.length by omega), Result.andThen_ok]
    rw [show (9999 : Nat) = 9998 + 1 from rfl, run_equalIn_int _ _ _ _ _ _ _ tu]
    simp only [Result.andThen_ok]
    rw [sameFrom8]
    have ih := eq_loop8 (X := X) (Zs := Zs) w m (s + 1) (by omega) (by omega)
    generalize X.getD s 0 = a at *
    generalize Zs.getD s 0 = b at *
    by_cases e : a = b
    · subst e
      simp only [beq_self_eq_true, Bool.not_true, Bool.false_eq_true, if_false, Sem.run_pure, Result.andThen_ok, Bool.true_and]
      exact ih
    · have ne : (Y a == Y b) = false := beq_eq_false_iff_ne.2 fun h => e (Y_inj h)
      have ne2 : (a == b) = false := beq_eq_false_iff_ne.2 e
      simp only [ne, ne2, Bool.not_false, if_true, Sem.run_pure, Result.andThen_ok, Bool.false_and, Bool.false_eq_true, if_false]

theorem sameFrom8_iff {X Zs : List (BitVec 8)} : ∀ (m s : Nat), sameFrom8 X Zs s m = true ↔ ∀ i, s ≤ i → i < s + m → X.getD i 0 = Zs.getD i 0
  | 0, s => by simp [sameFrom8]; intro i h1 h2; omega
  | m + 1, s => by
    rw [sameFrom8, Bool.and_eq_true, sameFrom8_iff m (s + 1)]
    constructor
    · rintro ⟨h1, h2⟩ i h3 h4
      by_cases e : i = s
      · subst e; exact eq_of_beq h1
      · exact h2 i (by omega) (by omega)
    · intro h
      exact ⟨by rw [h s (Nat.le_refl _) (by omega)]; exact beq_self_eq_true _, fun i h1 h2 => h i (by omega) (by omega)⟩
theorem same8_iff {X Zs : List (BitVec 8)} {n : Nat} (hx : X.length = n) (hy : Zs.length = n) : sameFrom8 X Zs 0 n = decide (X = Zs) := by
  have h := sameFrom8_iff (X := X) (Zs := Zs) n 0
  by_cases e : X = Zs
  · subst e
    rw [decide_eq_true rfl]
    exact h.2 fun _ _ _ => rfl
  · rw [decide_eq_false e]
    apply Bool.eq_false_iff.2
    intro ht
    apply e
    apply List.ext_getElem (by rw [hx, hy])
    intro i h1 h2
    have := h.1 ht i (Nat.zero_le _) (by omega)
    rw [List.getD, List.getElem?_eq_getElem h1, List.getD, List.getElem?_eq_getElem h2] at this
    simpa using this

theorem Sp.new {W : World} {b : Nat} (k : Int) (t : TypeId) (e : b = W.heap.size) : Sp (W.alloc (.cells #[.int .i64 k, .int .u64 0, .int .u64 0, .int .u64 0, .int .u64 0, .int .u64 0, .int .u64 0, .int .u64 0, .int .u64 0, .int .u64 0, .int .u64 0, .int .u64 0, .int .u64 0, .int .u64 0, .int .u64 0, .int .u64 0, .int .u64 0, .int .u64 0, .int .u64 0, .int .u64 0, .int .u64 0, .int .u64 0, .int .u64 0, .int .u64 0, .int .u64 0, .int .u64 0, .int .i64 0] t)) b k (List.replicate 25 0) 0 := by
  subst e
  have z : V 0#64 = 0 := V_zero
  refine ⟨by simp, ?_, fun i hi => ?_, ?_, Loose.new _ _ _ rfl⟩
  · rw [World.cell?_alloc_mark]; rfl
  · have hi' : i < 25 := by simpa using hi
    rw [rep_getD, World.cell?_alloc_mark]
    have e : ([.int .i64 k, .int .u64 0, .int .u64 0, .int .u64 0, .int .u64 0, .int .u64 0, .int .u64 0, .int .u64 0, .int .u64 0, .int .u64 0, .int .u64 0, .int .u64 0, .int .u64 0, .int .u64 0, .int .u64 0, .int .u64 0, .int .u64 0, .int .u64 0, .int .u64 0, .int .u64 0, .int .u64 0, .int .u64 0, .int .u64 0, .int .u64 0, .int .u64 0, .int .u64 0, .int .i64 0] : List Value) = .int .i64 k :: (List.replicate 25 (.int .u64 0) ++ [.int .i64 0]) := rfl
    have h : ([.int .i64 k, .int .u64 0, .int .u64 0, .int .u64 0, .int .u64 0, .int .u64 0, .int .u64 0, .int .u64 0, .int .u64 0, .int .u64 0, .int .u64 0, .int .u64 0, .int .u64 0, .int .u64 0, .int .u64 0, .int .u64 0, .int .u64 0, .int .u64 0, .int .u64 0, .int .u64 0, .int .u64 0, .int .u64 0, .int .u64 0, .int .u64 0, .int .u64 0, .int .u64 0, .int .i64 0] : List Value)[1 + i]? = some (.int .u64 0) := by rw [e, Nat.add_comm 1 i, List.getElem?_cons_succ, List.getElem?_append_left (by simpa using hi'), List.getElem?_replicate, if_pos hi']
    rw [show (0 : BitVec 64) = 0#64 from rfl, z]
    simpa using h
  · rw [World.cell?_alloc_mark]; rfl

end Go.Proofs.YtndefnomefdhoabDoor.K
