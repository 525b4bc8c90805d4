import Derived.Test.YtidchaaahgnabaaDoorHxP
/- Layer 8: arrays compared; a store into a new array; lower. -/
namespace Go.Proofs.YtidchaaahgnabaaDoor
open Go.RowKit Go.Sort
theorem extB {A B : List Int} (h : A.length = B.length) (e : ∀ t, t < A.length → A.getD t 0 = B.getD t 0) : A = B := by
  apply List.ext_getElem h
  intro i h1 h2
  have := e i h1
  rw [List.getD, List.getD, List.getElem?_eq_getElem h1, List.getElem?_eq_getElem h2] at this
  exact this
/-- Are two rows of bytes the same, from s on, m of them? -/
def sameI (X Y : List Int) : Nat → Nat → Bool
  | _, 0 => true
  | s, m + 1 => X.getD s 0 == Y.getD s 0 && sameI X Y (s + 1) m
theorem part_i {X : List Int} {i : Nat} (h : i < X.length) (w : World) : (Go.part 5 (X.map (Value.int .u8)).toArray (i * 1)).run Tryd.prog w = .ok (.int .u8 (X.getD i 0)) w := by
  have ta := Tryd.isAgg5

  rw [Nat.mul_one]
  simp [Go.part, go_sem, ta, h]
theorem eq_loopI {X Y : List Int} (w : World) : ∀ (m s : Nat), s + m ≤ X.length → s + m ≤ Y.length →
    (forIn (m := Sem) (List.range' s m) ((none : Option Bool), ()) fun i _ => do
      let x ← Go.part 5 (X.map (Value.int .u8)).toArray (i * 1)
      let y ← Go.part 5 (Y.map (Value.int .u8)).toArray (i * 1)
      let b ← Op.equalIn 9999 5 x y
      if (!b) = true then pure (ForInStep.done (some false, ())) else pure (ForInStep.yield (none, ()))).run Tryd.prog w = .ok (if sameI X Y s m = true then (none, ()) else (some false, ())) w
  | 0, s, _, _ => by simp [sameI]
  | m + 1, s, h1, h2 => by
    have tu := Tryd.underlying5
    rw [List.range'_succ, List.forIn_cons]
    simp only [Sem.run_bind, part_i (show s < X.length by omega), part_i (show s < Y.length by omega), Result.andThen_ok]
    rw [show (9999 : Nat) = 9998 + 1 from rfl, run_equalIn_int _ _ _ _ _ _ _ tu]
    simp only [Result.andThen_ok]
    rw [sameI]
    have ih := eq_loopI (X := X) (Y := Y) w m (s + 1) (by omega) (by omega)
    generalize X.getD s 0 = a at *
    generalize Y.getD s 0 = b at *
    by_cases e : a = b
    · subst e
      simp only [beq_self_eq_true, Bool.not_true, Bool.false_eq_true, if_false, Sem.run_pure, Result.andThen_ok, Bool.true_and]
      exact ih
    · have ne : (a == b) = false := beq_eq_false_iff_ne.2 e
      simp only [ne, Bool.not_false, if_true, Sem.run_pure, Result.andThen_ok, Bool.false_and, Bool.false_eq_true, if_false]
theorem sameI_iff {X Y : List Int} : ∀ (m s : Nat), sameI X Y s m = true ↔ ∀ i, s ≤ i → i < s + m → X.getD i 0 = Y.getD i 0
  | 0, s => by simp [sameI]; intro i h1 h2; omega
  | m + 1, s => by
    rw [sameI, Bool.and_eq_true, sameI_iff m (s + 1)]
    constructor
    · rintro ⟨h1, h2⟩ i h3 h4
      by_cases e : i = s
      · subst e; exact eq_of_beq h1
      · exact h2 i (by omega) (by omega)
    · intro h
      exact ⟨by rw [h s (Nat.le_refl _) (by omega)]; exact beq_self_eq_true _, fun i h1 h2 => h i (by omega) (by omega)⟩
theorem sameI_eq {X Y : List Int} {n : Nat} (hx : X.length = n) (hy : Y.length = n) : sameI X Y 0 n = decide (X = Y) := by
  have h := sameI_iff (X := X) (Y := Y) n 0
  by_cases e : X = Y
  · subst e
    rw [decide_eq_true rfl]
    exact h.2 fun _ _ _ => rfl
  · rw [decide_eq_false e]
    apply Bool.eq_false_iff.2
    intro ht
    exact e (extB (by rw [hx, hy]) fun t h1 => h.1 ht t (Nat.zero_le _) (by omega))
/-- '==' of two addresses. -/
theorem eq_adr {X Y : List Int} (hx : X.length = 20) (hy : Y.length = 20) (w : World) : (Op.equalIn 10000 23 (.agg (X.map (Value.int .u8)).toArray) (.agg (Y.map (Value.int .u8)).toArray)).run Tryd.prog w = .ok (decide (X = Y)) w := by
  rw [show (10000 : Nat) = 9999 + 1 from rfl, Op.equalIn]
  have tz : (sizeOf 5).run Tryd.prog w = .ok 1 w := by have := Tryd.sizeOf5; simp [go_sem, this]
  simp only [Sem.run_bind, run_underlying Tryd.underlying23, Result.andThen_ok, tz]
  simp only [Std.Legacy.Range.forIn_eq_forIn_range', Std.Legacy.Range.size, Nat.sub_zero, Nat.add_sub_cancel, Nat.div_one]
  have h := eq_loopI (X := X) (Y := Y) w 20 0 (by omega) (by omega)
  rw [h, sameI_eq hx hy]
  by_cases e : X = Y <;> simp [e]
/-- '==' of two digests. -/
theorem eq_hsh {X Y : List Int} (hx : X.length = 32) (hy : Y.length = 32) (w : World) : (Op.equalIn 10000 36 (.agg (X.map (Value.int .u8)).toArray) (.agg (Y.map (Value.int .u8)).toArray)).run Tryd.prog w = .ok (decide (X = Y)) w := by
  rw [show (10000 : Nat) = 9999 + 1 from rfl, Op.equalIn]
  have tz : (sizeOf 5).run Tryd.prog w = .ok 1 w := by have := Tryd.sizeOf5; simp [go_sem, this]
  simp only [Sem.run_bind, run_underlying Tryd.underlying36, Result.andThen_ok, tz]
  simp only [Std.Legacy.Range.forIn_eq_forIn_range', Std.Legacy.Range.size, Nat.sub_zero, Nat.add_sub_cancel, Nat.div_one]
  have h := eq_loopI (X := X) (Y := Y) w 32 0 (by omega) (by omega)
  rw [h, sameI_eq hx hy]
  by_cases e : X = Y <;> simp [e]
theorem there_newH {W : World} {cs : Array Value} {t : TypeId} {n : Nat} (hn : n = cs.size) : (W.alloc (.cells cs t)).there W.heap.size 0 n := by
  subst hn
  intro j hj
  rw [Nat.zero_add, World.cell?_alloc_mark, World.frozen?_alloc_mark]
  refine ⟨by simp [hj], ?_⟩
  simp
/-- A store of a whole array into a block just made; the world behind it under a name. -/
theorem wpList_put_new {ops : Array Oper} {rest : List Oper} {op : Oper} {a : Act} {w : World} {Q : Exit → Act → World → Prop} {M : Array Value} {t : TypeId} (hgd : op.guard = none) (ty : TypeId) (x y : Operand) (ho : op.op = .store ty x y) (N : List Value)
    (hx : a.eval x = .pointer (some ⟨w.heap.size, 0, none⟩)) (hy : a.eval y = .agg N.toArray) (hM : M.size = N.length) (hi : (Tryd.prog.info? ty).map (·.size) = some N.length) (h1 : N.toArray.all (·.oneCell') = true)
    (h : ∀ W', Below w.heap.size w W' → W'.rangeAt w.heap.size 0 N → wpList Tryd.prog ops Q rest (a.put op.dst undef) W') : wpList Tryd.prog ops Q (op :: rest) a (w.alloc (.cells M t)) := by
  have tr : (w.alloc (.cells M t)).there w.heap.size 0 N.length := there_newH hM.symm
  refine wpList_store_mid hgd ty x y ho w.heap.size 0 N.toArray hx hy (by simpa using tr) (by simpa using hi) h1 ?_
  have L := laidH ((Below.refl w.heap.size w).alloc (Nat.le_refl _) (.cells M t)) (Nat.le_refl _) tr
  exact h _ L.1 L.2
/-- A text's bytes in a block that may be written. -/
def Fz (W : World) (g n : Nat) (f : Nat → UInt8) : Prop := ∀ i, i < n → W.cell? ⟨g, i, none⟩ = some (.int .u8 ((f i).toNat : Int)) ∧ W.frozen? ⟨g, i, none⟩ = false
theorem Fz.keep {W W' : World} {g n : Nat} {f : Nat → UInt8} (h : Fz W g n f) (hb : Below W.heap.size W W') : Fz W' g n f := fun i hi => by
  have lt : g < W.heap.size := World.block_lt_of_cell? W _ (h i hi).1
  exact ⟨by rw [hb.cell (p := ⟨g, i, none⟩) lt]; exact (h i hi).1, by rw [hb.frozen (p := ⟨g, i, none⟩) lt]; exact (h i hi).2⟩
theorem Fz.put {W : World} {g n i : Nat} {f f' : Nat → UInt8} {x : Int} {u : UInt8} (h : Fz W g n f) (hi : i < n) (hx : x = (u.toNat : Int)) (hf : ∀ j, j < n → f' j = if j = i then u else f j) : Fz (W.setCell ⟨g, i, none⟩ (.int .u8 x)) g n f' := fun j hj => by
  refine ⟨?_, by rw [World.frozen?_setCell]; exact (h j hj).2⟩
  rw [hf j hj]
  by_cases e : j = i
  · subst e
    rw [World.cell?_setCell_same' _ _ _ (by rw [(h _ hj).1]; rfl), if_pos rfl, hx]
  · rw [World.cell?_setCell_other _ _ _ _ (fun x => e (by cases x; rfl)), if_neg e]; exact (h j hj).1
theorem Fz.same {W : World} {g n : Nat} {f f' : Nat → UInt8} (h : Fz W g n f) (hf : ∀ j, j < n → f' j = f j) : Fz W g n f' := fun j hj => by rw [hf j hj]; exact h j hj
/-- The bytes as a text again. -/
theorem Fz.text {W : World} {g n cap : Nat} {f : Nat → UInt8} {T : List UInt8} (h : Fz W g n f) (hl : T.length = n) (hf : ∀ j, j < n → f j = T.getD j 0) : (convert 30 9 (.slice (some ⟨g, 0, none⟩) n cap)).run Tryd.prog W = .ok (.string ⟨T.toArray⟩) W := by
  have r := run_convert_bytes_back (P := Tryd.prog) W 30 9 5 ⟨g, 0, none⟩ cap T Tryd.underlying30 Tryd.underlying5 Tryd.underlying9 (fun j hj => by
    rw [Addr.add_mid, Nat.zero_add, (h j (by omega)).1, hf j (by omega), List.getD, List.getElem?_eq_getElem hj]; rfl)
  rw [hl] at r
  exact r
/-- A text turned into bytes of its own. -/
theorem Fz.of (T : List UInt8) (w : World) : ∃ cap W, (convert 9 30 (.string ⟨T.toArray⟩)).run Tryd.prog w = .ok (.slice (some ⟨w.heap.size, 0, none⟩) T.length cap) W ∧ T.length ≤ cap ∧ Below w.heap.size w W ∧ Fz W w.heap.size T.length (fun j => T.getD j 0) := by
  obtain ⟨cp, R, h1, h2, h3⟩ := conv_text T
  obtain ⟨b, _, c, f⟩ := h3 w
  exact ⟨cp w, R w, h1 w, h2 w, b, fun i hi => ⟨c i hi, f i hi⟩⟩
theorem hnum_any (v : Int) (w : World) : Calls Tryd.prog 11 #[.int .i64 v] w fun e w' => e = .returned (.int .i64 v) ∧ Below w.heap.size w w' := by
  go_enter Tryd.func11, Tryd.ntmps11
  go_wp2
  simp [bodyPost, results, Tryd.results11, go_sem]
  exact Below.refl _ _
end Go.Proofs.YtidchaaahgnabaaDoor
