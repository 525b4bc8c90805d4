import Derived.Test.YteoddmncfkmhgaaUbD
/- Layer 1: Get, Strict of any list; '==' of 32 bytes. -/
namespace Go.Proofs.Yteoddmncfkmhgaa
open Go.RowKit Go.Sort

/-- Are two rows of bytes the same, from s on, m of them? -/
def sameI (X Y : List Int) : Nat → Nat → Bool
  | _, 0 => true
  | s, m + 1 => X.getD s 0 == Y.getD s 0 && sameI X Y (s + 1) m
theorem part_i {X : List Int} {i : Nat} (h : i < X.length) (w : World) : (part 5 (X.map (Value.int .u8)).toArray (i * 1)).run Try.prog w = .ok (.int .u8 (X.getD i 0)) w := by
  have ta := Try.isAgg5

  rw [Nat.mul_one]
  simp [Go.part, go_sem, ta, h]
theorem eq_loopI {X Y : List Int} (w : World) : ∀ (m s : Nat), s + m ≤ X.length → s + m ≤ Y.length →
    (forIn (m := Sem) (List.range' s m) ((none : Option Bool), ()) fun i _ => do
      let x ← part 5 (X.map (Value.int .u8)).toArray (i * 1)
      let y ← part 5 (Y.map (Value.int .u8)).toArray (i * 1)
      let b ← Op.equalIn 9999 5 x y
      if (!b) = true then pure (ForInStep.done (some false, ())) else pure (ForInStep.yield (none, ()))).run Try.prog w = .ok (if sameI X Y s m = true then (none, ()) else (some false, ())) w
  | 0, s, _, _ => by simp [sameI]
  | m + 1, s, h1, h2 => by
    have tu := Try.underlying5
    rw [List.range'_succ, List.forIn_cons]
    simp only [Sem.run_bind, part_i (show s < X.length by omega), part_i (show s < Y.length by omega), Result.andThen_ok]
    rw [show (9999 : Nat) = 9998 + 1 from rfl, run_equalIn_int _ _ _ _ _ _ _ tu]
    simp only [Result.andThen_ok]
    rw [sameI]
    have ih := eq_loopI (X := X) (Y := Y) w m (s + 1) (by omega) (by omega)
    generalize X.getD s 0 = a at *
    generalize Y.getD s 0 = b at *
    by_cases e : a = b
    · subst e
      simp only [beq_self_eq_true, Bool.not_true, Bool.false_eq_true, if_false, Sem.run_pure, Result.andThen_ok, Bool.true_and]
      exact ih
    · have ne : (a == b) = false := beq_eq_false_iff_ne.2 e
      simp only [ne, Bool.not_false, if_true, Sem.run_pure, Result.andThen_ok, Bool.false_and, Bool.false_eq_true, if_false]
theorem sameI_iff {X Y : List Int} : ∀ (m s : Nat), sameI X Y s m = true ↔ ∀ i, s ≤ i → i < s + m → X.getD i 0 = Y.getD i 0
  | 0, s => by simp [sameI]; intro i h1 h2; omega
  | m + 1, s => by
    rw [sameI, Bool.and_eq_true, sameI_iff m (s + 1)]
    constructor
    · rintro ⟨h1, h2⟩ i h3 h4
      by_cases e : i = s
      · subst e; exact eq_of_beq h1
      · exact h2 i (by omega) (by omega)
    · intro h
      exact ⟨by rw [h s (Nat.le_refl _) (by omega)]; exact beq_self_eq_true _, fun i h1 h2 => h i (by omega) (by omega)⟩
theorem sameI_eq {X Y : List Int} {n : Nat} (hx : X.length = n) (hy : Y.length = n) : sameI X Y 0 n = decide (X = Y) := by
  have h := sameI_iff (X := X) (Y := Y) n 0
  by_cases e : X = Y
  · subst e
    rw [decide_eq_true rfl]
    exact h.2 fun _ _ _ => rfl
  · rw [decide_eq_false e]
    apply Bool.eq_false_iff.2
    intro ht
    exact e (extB (by rw [hx, hy]) fun t h1 => h.1 ht t (Nat.zero_le _) (by omega))
/-- '==' of two rows of 32 bytes. -/
theorem eq_b32 {X Y : List Int} (hx : X.length = 32) (hy : Y.length = 32) (w : World) : (Op.equalIn 10000 27 (.agg (X.map (Value.int .u8)).toArray) (.agg (Y.map (Value.int .u8)).toArray)).run Try.prog w = .ok (decide (X = Y)) w := by
  rw [show (10000 : Nat) = 9999 + 1 from rfl, Op.equalIn]
  have tz : (sizeOf 5).run Try.prog w = .ok 1 w := by have := Try.sizeOf5; simp [go_sem, this]
  simp only [Sem.run_bind, run_underlying Try.underlying27, Result.andThen_ok, tz]
  simp only [Std.Legacy.Range.forIn_eq_forIn_range', Std.Legacy.Range.size, Nat.sub_zero, Nat.add_sub_cancel, Nat.div_one]
  have h := eq_loopI (X := X) (Y := Y) w 32 0 (by omega) (by omega)
  rw [h, sameI_eq hx hy]
  by_cases e : X = Y <;> simp [e]
theorem unum_any (v : Int) (w : World) : Calls Try.prog 12 #[.int .i64 v] w fun e w' => e = .returned (.int .i64 v) ∧ w' = w := by
  go_enter Try.func12, Try.ntmps12
  go_wp2
  simp [bodyPost, results, Try.results12, go_sem]
def gv (X : List Int) : Int := if X.length ≤ 32 then sufN X X.length else 0
def ge (X : List Int) : Int := if X.length ≤ 32 then 0 else 11
def sv (X : List Int) : Int := if X.length ≤ 32 then (if X ≠ [] ∧ X.getD 0 0 = 0 then 0 else sufN X X.length) else 0
def se (X : List Int) : Int := if X.length ≤ 32 then (if X ≠ [] ∧ X.getD 0 0 = 0 then 13 else 0) else 11
theorem get_all {g c : Nat} {X : List Int} (hX : Byts X) (w : World) (hz : Bz w g 0 X) :
    Calls Try.prog 10 #[.slice (some ⟨g, 0, none⟩) X.length c] w fun e w' => e = .returned (.tuple #[.agg #[.int .u64 (l0 (gv X)), .int .u64 (l1 (gv X)), .int .u64 (l2 (gv X)), .int .u64 (l3 (gv X))], .int .i64 (ge X)]) ∧ Below w.heap.size w w' := by
  by_cases h : X.length ≤ 32
  · rw [gv, ge, if_pos h, if_pos h]; exact get_some hX h w hz
  · rw [gv, ge, if_neg h, if_neg h]; exact get_long (by omega) w
theorem rget_all {a : Option Addr} {b o c : Nat} {X : List Int} (hX : Byts X) (hZ : Az a b o X) (w : World) (hz : Bz w b o X) :
    Calls Try.prog 11 #[.slice a X.length c] w fun e w' => e = .returned (.tuple #[.agg #[.int .u64 (l0 (gv X)), .int .u64 (l1 (gv X)), .int .u64 (l2 (gv X)), .int .u64 (l3 (gv X))], .int .i64 (ge X)]) ∧ Below w.heap.size w w' := by
  by_cases h : X.length ≤ 32
  · rw [gv, ge, if_pos h, if_pos h]; exact rget_any hZ hX h w hz
  · rw [gv, ge, if_neg h, if_neg h]; exact rget_long (by omega) w
theorem strict_all {g c : Nat} {X : List Int} (hX : Byts X) (w : World) (hz : Bz w g 0 X) :
    Calls Try.prog 13 #[.slice (some ⟨g, 0, none⟩) X.length c] w fun e w' => e = .returned (.tuple #[.agg #[.int .u64 (l0 (sv X)), .int .u64 (l1 (sv X)), .int .u64 (l2 (sv X)), .int .u64 (l3 (sv X))], .int .i64 (se X)]) ∧ Below w.heap.size w w' := by
  by_cases h : X.length ≤ 32
  · have GT : Hid (∀ W, Below w.heap.size w W → Calls Try.prog 10 #[.slice (some ⟨g, 0, none⟩) X.length c] W fun e w' => e = .returned (.tuple #[.agg #[.int .u64 (l0 (sufN X X.length)), .int .u64 (l1 (sufN X X.length)), .int .u64 (l2 (sufN X X.length)), .int .u64 (l3 (sufN X X.length))], .int .i64 0]) ∧ Below W.heap.size W w') := fun W B => get_some hX h W (hz.keep B)
    rw [sv, se, if_pos h, if_pos h]
    by_cases h0 : X = []
    · rw [if_neg (by simp [h0]), if_neg (by simp [h0])]
      exact strict_none w (by rw [h0]; rfl) GT
    · have hp : 0 < X.length := List.length_pos_iff.2 h0
      have hc := hz 0 hp
      rw [Nat.add_zero] at hc
      by_cases h1 : X.getD 0 0 = 0
      · rw [if_pos ⟨h0, h1⟩, if_pos ⟨h0, h1⟩]
        obtain ⟨z0, z1, z2, z3⟩ := zero_limbs
        rw [z0, z1, z2, z3]
        rw [h1] at hc
        exact strict_lead w hp hc GT
      · rw [if_neg (fun q => h1 q.2), if_neg (fun q => h1 q.2)]
        exact strict_some w hp h1 hc GT
  · rw [sv, se, if_neg h, if_neg h]
    exact strict_bad w (by decide) (fun W _ => get_long (by omega) W)
theorem rstrict_all {a : Option Addr} {b o c : Nat} {X : List Int} (hX : Byts X) (hZ : Az a b o X) (w : World) (hz : Bz w b o X) :
    Calls Try.prog 14 #[.slice a X.length c] w fun e w' => e = .returned (.tuple #[.agg #[.int .u64 (l0 (sv X)), .int .u64 (l1 (sv X)), .int .u64 (l2 (sv X)), .int .u64 (l3 (sv X))], .int .i64 (se X)]) ∧ Below w.heap.size w w' := by
  by_cases h : X.length ≤ 32
  · have GT : Hid (∀ W, Below w.heap.size w W → Calls Try.prog 11 #[.slice a X.length c] W fun e w' => e = .returned (.tuple #[.agg #[.int .u64 (l0 (sufN X X.length)), .int .u64 (l1 (sufN X X.length)), .int .u64 (l2 (sufN X X.length)), .int .u64 (l3 (sufN X X.length))], .int .i64 0]) ∧ Below W.heap.size W w') := fun W B => rget_any hZ hX h W (hz.keep B)
    rw [sv, se, if_pos h, if_pos h]
    by_cases h0 : X = []
    · rw [if_neg (by simp [h0]), if_neg (by simp [h0])]
      exact rstrict_none w (by rw [h0]; rfl) GT
    · have hp : 0 < X.length := List.length_pos_iff.2 h0
      obtain rfl := hZ.cons hp
      have hc := hz 0 hp
      rw [Nat.add_zero] at hc
      by_cases h1 : X.getD 0 0 = 0
      · rw [if_pos ⟨h0, h1⟩, if_pos ⟨h0, h1⟩]
        rw [h1] at hc
        exact rstrict_lead hp h w hc
      · rw [if_neg (fun q => h1 q.2), if_neg (fun q => h1 q.2)]
        exact rstrict_some w h hp h1 hc GT
  · rw [sv, se, if_neg h, if_neg h]
    exact rstrict_long (by omega) w
theorem Bts.bz {W : World} {b : Nat} {l : List Int} (h : Bts W b l) : Bz W b 0 l := fun i hi => by rw [Nat.zero_add]; exact h.1 i hi
end Go.Proofs.Yteoddmncfkmhgaa
