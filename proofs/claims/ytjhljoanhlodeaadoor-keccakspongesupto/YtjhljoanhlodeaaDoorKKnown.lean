import Derived.Test.YtjhljoanhlodeaaDoorKLent
namespace Go.Proofs.YtjhljoanhlodeaaDoor
open Go.RowKit Go.Sort

/-- Are two rows of byts the same, from s on, m of them? -/
def sameFrom8 (X Zs : List (BitVec 8)) : Nat → Nat → Bool
  | _, 0 => true
  | s, m + 1 => X.getD s 0 == Zs.getD s 0 && sameFrom8 X Zs (s + 1) m

theorem part_byte {X : List (BitVec 8)} {i : Nat} (h : i < X.length) (w : World) : (part 5 (byts X).toArray (i * 1)).run Tryd.prog w = .ok (.int .u8 (Y (X.getD i 0))) w := by
  have ta := Tryd.isAgg5
  have g : (byts X)[i]? = some (.int .u8 (Y (X.getD i 0))) := by simp [byts, List.getD, h]
  simp [Go.part, go_sem, ta, g]

theorem eq_loop8 {X Zs : List (BitVec 8)} (w : World) : ∀ (m s : Nat), s + m ≤ X.length → s + m ≤ Zs.length →
    (forIn (m := Sem) (List.range' s m) ((none : Option Bool), ()) fun i _ => do
      let x ← part 5 (byts X).toArray (i * 1)
      let y ← part 5 (byts Zs).toArray (i * 1)
      let b ← Op.equalIn 9999 5 x y
      if (!b) = true then pure (ForInStep.done (some false, ())) else pure (ForInStep.yield (none, ()))).run Tryd.prog w = .ok (if sameFrom8 X Zs s m = true then (none, ()) else (some false, ())) w
  | 0, s, _, _ => by simp [sameFrom8]
  | m + 1, s, h1, h2 => by
    have tu := Tryd.underlying5
    rw [List.range'_succ, List.forIn_cons]
    simp only [Sem.run_bind, part_byte (show s < X.length by omega), part_byte (show s < Zs.length by omega), Result.andThen_ok]
    rw [show (9999 : Nat) = 9998 + 1 from rfl, run_equalIn_int _ _ _ _ _ _ _ tu]
    simp only [Result.andThen_ok]
    rw [sameFrom8]
    have ih := eq_loop8 (X := X) (Zs := Zs) w m (s + 1) (by omega) (by omega)
    generalize X.getD s 0 = a at *
    generalize Zs.getD s 0 = b at *
    by_cases e : a = b
    · subst e
      simp only [beq_self_eq_true, Bool.not_true, Bool.false_eq_true, if_false, Sem.run_pure, Result.andThen_ok, Bool.true_and]
      exact ih
    · have ne : (Y a == Y b) = false := beq_eq_false_iff_ne.2 fun h => e (Y_inj h)
      have ne2 : (a == b) = false := beq_eq_false_iff_ne.2 e
      simp only [ne, ne2, Bool.not_false, if_true, Sem.run_pure, Result.andThen_ok, Bool.false_and, Bool.false_eq_true, if_false]

theorem sameFrom8_iff {X Zs : List (BitVec 8)} : ∀ (m s : Nat), sameFrom8 X Zs s m = true ↔ ∀ i, s ≤ i → i < s + m → X.getD i 0 = Zs.getD i 0
  | 0, s => by simp [sameFrom8]; intro i h1 h2; omega
  | m + 1, s => by
    rw [sameFrom8, Bool.and_eq_true, sameFrom8_iff m (s + 1)]
    constructor
    · rintro ⟨h1, h2⟩ i h3 h4
      by_cases e : i = s
      · subst e; exact eq_of_beq h1
      · exact h2 i (by omega) (by omega)
    · intro h
      exact ⟨by rw [h s (Nat.le_refl _) (by omega)]; exact beq_self_eq_true _, fun i h1 h2 => h i (by omega) (by omega)⟩
theorem same8_iff {X Zs : List (BitVec 8)} {n : Nat} (hx : X.length = n) (hy : Zs.length = n) : sameFrom8 X Zs 0 n = decide (X = Zs) := by
  have h := sameFrom8_iff (X := X) (Zs := Zs) n 0
  by_cases e : X = Zs
  · subst e
    rw [decide_eq_true rfl]
    exact h.2 fun _ _ _ => rfl
  · rw [decide_eq_false e]
    apply Bool.eq_false_iff.2
    intro ht
    apply e
    apply List.ext_getElem (by rw [hx, hy])
    intro i h1 h2
    have := h.1 ht i (Nat.zero_le _) (by omega)
    rw [List.getD, List.getElem?_eq_getElem h1, List.getD, List.getElem?_eq_getElem h2] at this
    simpa using this

/-- '==' of two digests. -/
theorem eq_hash {X Zs : List (BitVec 8)} (hx : X.length = 32) (hy : Zs.length = 32) (w : World) : (Op.equalIn 10000 34 (.agg (byts X).toArray) (.agg (byts Zs).toArray)).run Tryd.prog w = .ok (decide (X = Zs)) w := by
  rw [show (10000 : Nat) = 9999 + 1 from rfl, Op.equalIn]
  have tz : (sizeOf 5).run Tryd.prog w = .ok 1 w := by have := Tryd.sizeOf5; simp [go_sem, this]
  simp only [Sem.run_bind, run_underlying Tryd.underlying34, Result.andThen_ok, tz]
  simp only [Std.Legacy.Range.forIn_eq_forIn_range', Std.Legacy.Range.size, Nat.sub_zero, Nat.add_sub_cancel, Nat.div_one]
  have h := eq_loop8 (X := X) (Zs := Zs) w 32 0 (by omega) (by omega)
  rw [h, same8_iff hx hy]
  by_cases e : X = Zs <;> simp [e]

theorem num_any (n : Int) (w : World) : Calls Tryd.prog 12 #[.int .i64 n] w fun e w' => e = .returned (.int .i64 n) ∧ w' = w := by
  go_enter Tryd.func12, Tryd.ntmps12
  go_wp2
  go_ret
  exact ⟨rfl, rfl⟩

set_option maxHeartbeats 1000000 in
theorem len_any {b : Nat} {t : Nat} (w : World) (h : w.cell? ⟨b, 26, none⟩ = some (.int .i64 (t : Int))) : Calls Tryd.prog 7 #[.pointer (some ⟨b, 0, none⟩)] w fun e w' => e = .returned (.int .i64 (t : Int)) ∧ w' = w := by
  go_enter Tryd.func7, Tryd.ntmps7
  go_wp2
  go_ret
  exact ⟨rfl, rfl⟩

theorem Sp.new {W : World} {b : Nat} (k : Int) (t : TypeId) (e : b = W.heap.size) : Sp (W.alloc (.cells #[.int .i64 k, .int .u64 0, .int .u64 0, .int .u64 0, .int .u64 0, .int .u64 0, .int .u64 0, .int .u64 0, .int .u64 0, .int .u64 0, .int .u64 0, .int .u64 0, .int .u64 0, .int .u64 0, .int .u64 0, .int .u64 0, .int .u64 0, .int .u64 0, .int .u64 0, .int .u64 0, .int .u64 0, .int .u64 0, .int .u64 0, .int .u64 0, .int .u64 0, .int .u64 0, .int .i64 0] t)) b k (List.replicate 25 0) 0 := by
  subst e
  have z : V 0#64 = 0 := V_zero
  refine ⟨by simp, ?_, fun i hi => ?_, ?_, Loose.new _ _ _ rfl⟩
  · rw [World.cell?_alloc_mark]; rfl
  · have hi' : i < 25 := by simpa using hi
    rw [rep_getD, World.cell?_alloc_mark]
    have e : ([.int .i64 k, .int .u64 0, .int .u64 0, .int .u64 0, .int .u64 0, .int .u64 0, .int .u64 0, .int .u64 0, .int .u64 0, .int .u64 0, .int .u64 0, .int .u64 0, .int .u64 0, .int .u64 0, .int .u64 0, .int .u64 0, .int .u64 0, .int .u64 0, .int .u64 0, .int .u64 0, .int .u64 0, .int .u64 0, .int .u64 0, .int .u64 0, .int .u64 0, .int .u64 0, .int .i64 0] : List Value) = .int .i64 k :: (List.replicate 25 (.int .u64 0) ++ [.int .i64 0]) := rfl
    have h : ([.int .i64 k, .int .u64 0, .int .u64 0, .int .u64 0, .int .u64 0, .int .u64 0, .int .u64 0, .int .u64 0, .int .u64 0, .int .u64 0, .int .u64 0, .int .u64 0, .int .u64 0, .int .u64 0, .int .u64 0, .int .u64 0, .int .u64 0, .int .u64 0, .int .u64 0, .int .u64 0, .int .u64 0, .int .u64 0, .int .u64 0, .int .u64 0, .int .u64 0, .int .u64 0, .int .i64 0] : List Value)[1 + i]? = some (.int .u64 0) := by rw [e, Nat.add_comm 1 i, List.getElem?_cons_succ, List.getElem?_append_left (by simpa using hi'), List.getElem?_replicate, if_pos hi']
    rw [show (0 : BitVec 64) = 0#64 from rfl, z]
    simpa using h
  · rw [World.cell?_alloc_mark]; rfl

set_option maxHeartbeats 1000000 in
theorem new0_any (w : World) : Calls Tryd.prog 10 #[.int .i64 0] w fun e w' => ∃ g, e = .returned (.tuple #[.pointer (some ⟨g, 0, none⟩), .int .i64 0]) ∧ w.heap.size ≤ g ∧ Sp w' g 0 (List.replicate 25 0) 0 ∧ Below w.heap.size w w' := by
  go_enter Tryd.func10, Tryd.ntmps10
  go_wp2
  refine bodyPost_ret (v := .tuple #[.pointer (some ⟨w.heap.size, 0, none⟩), .int .i64 0]) ?_ rfl ⟨w.heap.size, rfl, Nat.le_refl _, Sp.new 0 _ rfl, (Below.refl _ _).alloc (Nat.le_refl _) _⟩
  simp [results, Tryd.results10, go_sem]
set_option maxHeartbeats 1000000 in
theorem new1_any (w : World) : Calls Tryd.prog 10 #[.int .i64 1] w fun e w' => ∃ g, e = .returned (.tuple #[.pointer (some ⟨g, 0, none⟩), .int .i64 0]) ∧ w.heap.size ≤ g ∧ Sp w' g 1 (List.replicate 25 0) 0 ∧ Below w.heap.size w w' := by
  go_enter Tryd.func10, Tryd.ntmps10
  go_wp2
  refine bodyPost_ret (v := .tuple #[.pointer (some ⟨w.heap.size, 0, none⟩), .int .i64 0]) ?_ rfl ⟨w.heap.size, rfl, Nat.le_refl _, Sp.new 1 _ rfl, (Below.refl _ _).alloc (Nat.le_refl _) _⟩
  simp [results, Tryd.results10, go_sem]

end Go.Proofs.YtjhljoanhlodeaaDoor
