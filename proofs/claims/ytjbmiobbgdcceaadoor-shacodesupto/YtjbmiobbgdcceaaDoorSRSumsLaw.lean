import Derived.Test.YtjbmiobbgdcceaaDoorSRWhole
import Derived.Test.YtjbmiobbgdcceaaDoorSSums
import Derived.Test.YtjbmiobbgdcceaaDoorSEqH
/- ShaSums. -/
namespace Go.Proofs.YtjbmiobbgdcceaaDoor
open Go.RowKit Go.Sort

theorem quiet_load_midS {P : Program} {C : World → Prop} {a : Act} {o : Oper} {K : Act → Prop} (ty : TypeId) (x : Operand) (ho : o.op = .load ty x)
    (b f : Nat) (hx : a.eval x = .pointer (some ⟨b, f, none⟩)) (cs : List Value) (d : TypeDesc) (hS : ∀ w, C w → w.rangeAt b f cs)
    (hu : P.underlying ty = some d) (hd : d.isRow = true) (hi : (P.info? ty).map (·.size) = some cs.length) (h : K (a.put o.dst (.agg cs.toArray))) : o.quiet P a C K :=
  ⟨.agg cs.toArray, fun w hw => by
    unfold Oper.quietAt execOp
    simp only [ho, hx, Instr.loadAt, Instr.sureAddr, Sem.run_bind, Sem.run_pure, Result.andThen_ok, run_loadVar_mid w b f ty cs d (hS w hw) hu hd hi]
    exact ⟨rfl, rfl⟩, h⟩
/-- A part turned. -/
def fp (q : Part) : Part := { q with X := flipB q.X }
def flQ (QS : List Part) (i : Nat) : List Part := (QS.take i).map fp ++ QS.drop i
theorem flQ_0 (QS : List Part) : flQ QS 0 = QS := by simp [flQ]
theorem flQ_b (QS : List Part) (i : Nat) : (flQ QS i).map (·.b) = QS.map (·.b) := by
  rw [flQ, List.map_append, List.map_map, show ((·.b) ∘ fp : Part → Nat) = (·.b) from rfl, ← List.map_append, List.take_append_drop]
theorem flQ_at {QS : List Part} {i : Nat} (h : i < QS.length) : (flQ QS i).getD i .none = QS.getD i .none ∧ flQ QS (i + 1) = (flQ QS i).set i (fp (QS.getD i .none)) := by
  have l1 : ((QS.take i).map fp).length = i := by rw [List.length_map, List.length_take]; omega
  have e1 : QS.drop i = QS.getD i .none :: QS.drop (i + 1) := by rw [List.drop_eq_getElem_cons h, List.getD, List.getElem?_eq_getElem h]; rfl
  have e2 : QS.take (i + 1) = QS.take i ++ [QS.getD i .none] := by rw [List.take_add_one, List.getElem?_eq_getElem h, List.getD, List.getElem?_eq_getElem h]; rfl
  constructor
  · rw [flQ, List.getD, List.getElem?_append_right (by omega), l1, Nat.sub_self, e1]; rfl
  · rw [flQ, flQ, List.set_append_right _ _ (by omega), l1, Nat.sub_self, e1, e2]
    simp
theorem catX_flip (QS : List Part) : (catX (QS.map fp)).length = (catX QS).length := by
  induction QS with
  | nil => rfl
  | cons q QS ih =>
    have e : ∀ (p : Part) (l : List Part), catX (p :: l) = p.X ++ catX l := fun p l => by simp [catX]
    rw [List.map_cons, e, e, List.length_append, List.length_append, ih]
    simp [fp, flipB_len]
theorem catX_same {PS QS : List Part} (h : QS.map (·.X) = PS.map (·.X)) : catX QS = catX PS := by
  rw [catX, catX, List.flatMap_def, List.flatMap_def, h]

/-- The parts as they stand in the loop that turns them. -/
def Tn (w W : World) (g : Nat) (QS : List Part) : Prop := Below w.heap.size w W ∧ Prts W g 0 QS ∧ (∀ q ∈ QS, Lnt w.heap.size W (some g) q) ∧ (QS.map (·.b)).Nodup
theorem Tn.keep {w W W' : World} {g : Nat} {QS : List Part} (h : Tn w W g QS) (hb : Below W.heap.size W W') : Tn w W' g QS := by
  refine ⟨h.1.trans (hb.mono h.1.size), fun i hi => ?_, fun q hq => ?_, h.2.2.2⟩
  · obtain ⟨h1, h2, h3, h4⟩ := h.2.1 i hi
    exact ⟨cell_keep hb h1, h2, h3, h4.keep hb⟩
  · obtain ⟨a1, a2, a3, a4, a5, a6, a7⟩ := h.2.2.1 q hq
    exact ⟨a1.same (hb.block _ a6), a2, a3, a4, a5, Nat.lt_of_lt_of_le a6 hb.size, a7⟩
theorem nodup_ne {QS : List Part} {i j : Nat} (h : (QS.map (·.b)).Nodup) (hi : i < QS.length) (hj : j < QS.length) (ne : j ≠ i) : (QS.getD j .none).b ≠ (QS.getD i .none).b := by
  rw [List.getD, List.getD, List.getElem?_eq_getElem hi, List.getElem?_eq_getElem hj]
  simp only [Option.getD_some]
  intro e
  have hp := List.pairwise_iff_getElem.1 h
  rcases Nat.lt_or_gt_of_ne ne with c | c
  · exact hp j i (by simpa using hj) (by simpa using hi) c (by simpa using e)
  · exact hp i j (by simpa using hi) (by simpa using hj) c (by simpa using e.symm)
theorem Tn.turned {w W W' : World} {g i : Nat} {QS : List Part} (h : Tn w W g QS) (hi : i < QS.length) (ho : Off (QS.getD i .none).b W W') (hG : Gb W' (QS.getD i .none).b (flipB (QS.getD i .none).X ++ List.replicate 70 165)) : Tn w W' g (QS.set i (fp (QS.getD i .none))) := by
  obtain ⟨q, kq⟩ : ∃ q, q = QS.getD i .none := ⟨_, rfl⟩
  rw [← kq] at ho hG ⊢
  have qm : q ∈ QS := by rw [kq, List.getD, List.getElem?_eq_getElem hi]; exact List.getElem_mem hi
  obtain ⟨a1, a2, a3, a4, a5, a6, a7⟩ := h.2.2.1 q qm
  have gb : g ≠ q.b := fun e => a7 (by rw [e])
  have getn : ∀ j, j < QS.length → (QS.set i (fp q)).getD j .none = if j = i then fp q else QS.getD j .none := fun j hj => by
    by_cases e : j = i
    · subst e; rw [if_pos rfl, List.getD, List.getElem?_set_self hj]; rfl
    · rw [if_neg e, List.getD, List.getElem?_set_ne (Ne.symm e), ← List.getD]
  have sz := ho.size
  refine ⟨h.1.trans (ho.below h.1.size a5), fun j hj => ?_, fun p hp => ?_, ?_⟩
  · rw [List.length_set] at hj
    obtain ⟨h1, h2, h3, h4⟩ := h.2.1 j hj
    rw [getn j hj]
    by_cases e : j = i
    · subst e
      rw [if_pos rfl]
      rw [← kq] at h1 h2 h3
      refine ⟨?_, .inr ?_, by show (flipB q.X).length ≤ q.c; rw [flipB_len]; omega, ?_⟩
      · have h1' := ho.cell (p := ⟨g, 0 + j, none⟩) gb h1
        rw [h1']
        show some (Value.slice q.a q.X.length q.c) = some (.slice q.a (flipB q.X).length q.c)
        rw [flipB_len]
      · show q.a = some ⟨q.b, q.o, none⟩
        rw [a4]; exact a3
      · show Byo W' q.b q.o (flipB q.X)
        rw [a4]; exact hG.front
    · rw [if_neg e]
      refine ⟨ho.cell (p := ⟨g, 0 + j, none⟩) gb h1, h2, h3, fun k hk => ho.cell ?_ (h4 k hk)⟩
      have := nodup_ne h.2.2.2 hi hj e
      rw [← kq] at this
      exact this
  · obtain ⟨j, hj, rfl⟩ := List.mem_iff_getElem.1 hp
    rw [List.length_set] at hj
    have e0 : (QS.set i (fp q))[j] = (QS.set i (fp q)).getD j .none := by rw [List.getD, List.getElem?_eq_getElem (by rw [List.length_set]; exact hj)]; rfl
    rw [e0, getn j hj]
    by_cases e : j = i
    · rw [if_pos e]
      exact ⟨hG, by show (flipB q.X).length + 70 ≤ q.c; rw [flipB_len]; exact a2, a3, a4, a5, Nat.lt_of_lt_of_le a6 sz, a7⟩
    · rw [if_neg e]
      have jm : QS.getD j .none ∈ QS := by rw [List.getD, List.getElem?_eq_getElem hj]; exact List.getElem_mem hj
      obtain ⟨b1, b2, b3, b4, b5, b6, b7⟩ := h.2.2.1 _ jm
      have nb := nodup_ne h.2.2.2 hi hj e
      rw [← kq] at nb
      exact ⟨b1.same (ho.block _ b6 nb), b2, b3, b4, b5, Nat.lt_of_lt_of_le b6 sz, b7⟩
  · have : (QS.set i (fp q)).map (·.b) = QS.map (·.b) := by
      rw [List.map_set]
      show (QS.map (·.b)).set i q.b = _
      apply List.ext_getElem?
      intro j
      by_cases e : i = j
      · subst e
        rw [List.getElem?_set_self (by simpa using hi), List.getElem?_map, List.getElem?_eq_getElem hi, kq, List.getD, List.getElem?_eq_getElem hi]; rfl
      · rw [List.getElem?_set_ne e]
    rw [this]; exact h.2.2.2

theorem hash_new {W : World} {t : TypeId} {N : List Value} (hN : N.length = 32) : (W.alloc (.cells #[.int .u8 0, .int .u8 0, .int .u8 0, .int .u8 0, .int .u8 0, .int .u8 0, .int .u8 0, .int .u8 0, .int .u8 0, .int .u8 0, .int .u8 0, .int .u8 0, .int .u8 0, .int .u8 0, .int .u8 0, .int .u8 0, .int .u8 0, .int .u8 0, .int .u8 0, .int .u8 0, .int .u8 0, .int .u8 0, .int .u8 0, .int .u8 0, .int .u8 0, .int .u8 0, .int .u8 0, .int .u8 0, .int .u8 0, .int .u8 0, .int .u8 0, .int .u8 0] t)).there W.heap.size 0 N.toArray.size := by
  have h : N.toArray.size = 32 := by simp [hN]
  rw [h]; exact (Hsh.zeros t rfl).there
theorem hash_put {W : World} {t : TypeId} {N : List Value} (hN : N.length = 32) : Below W.heap.size W ((W.alloc (.cells #[.int .u8 0, .int .u8 0, .int .u8 0, .int .u8 0, .int .u8 0, .int .u8 0, .int .u8 0, .int .u8 0, .int .u8 0, .int .u8 0, .int .u8 0, .int .u8 0, .int .u8 0, .int .u8 0, .int .u8 0, .int .u8 0, .int .u8 0, .int .u8 0, .int .u8 0, .int .u8 0, .int .u8 0, .int .u8 0, .int .u8 0, .int .u8 0, .int .u8 0, .int .u8 0, .int .u8 0, .int .u8 0, .int .u8 0, .int .u8 0, .int .u8 0, .int .u8 0] t)).setCells W.heap.size 0 N) ∧ ((W.alloc (.cells #[.int .u8 0, .int .u8 0, .int .u8 0, .int .u8 0, .int .u8 0, .int .u8 0, .int .u8 0, .int .u8 0, .int .u8 0, .int .u8 0, .int .u8 0, .int .u8 0, .int .u8 0, .int .u8 0, .int .u8 0, .int .u8 0, .int .u8 0, .int .u8 0, .int .u8 0, .int .u8 0, .int .u8 0, .int .u8 0, .int .u8 0, .int .u8 0, .int .u8 0, .int .u8 0, .int .u8 0, .int .u8 0, .int .u8 0, .int .u8 0, .int .u8 0, .int .u8 0] t)).setCells W.heap.size 0 N).rangeAt W.heap.size 0 N :=
  ⟨below_setCells (Nat.le_refl _) _ 0 _ ((Below.refl _ _).alloc (Nat.le_refl _) _), World.rangeAt_setCells_same _ _ _ _ (by simpa using hash_new (t := t) hN)⟩

end Go.Proofs.YtjbmiobbgdcceaaDoor
