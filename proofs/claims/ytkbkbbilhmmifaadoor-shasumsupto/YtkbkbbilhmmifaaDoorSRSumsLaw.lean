import Derived.Test.YtkbkbbilhmmifaaDoorSRWhole
import Derived.Test.YtkbkbbilhmmifaaDoorSSums
import Derived.Test.YtkbkbbilhmmifaaDoorSEqH
/- ShaSums. -/
namespace Go.Proofs.YtkbkbbilhmmifaaDoor
open Go.RowKit Go.Sort

theorem quiet_load_midS {P : Program} {C : World → Prop} {a : Act} {o : Oper} {K : Act → Prop} (ty : TypeId) (x : Operand) (ho : o.op = .load ty x)
    (b f : Nat) (hx : a.eval x = .pointer (some ⟨b, f, none⟩)) (cs : List Value) (d : TypeDesc) (hS : ∀ w, C w → w.rangeAt b f cs)
    (hu : P.underlying ty = some d) (hd : d.isRow = true) (hi : (P.info? ty).map (·.size) = some cs.length) (h : K (a.put o.dst (.agg cs.toArray))) : o.quiet P a C K :=
  ⟨.agg cs.toArray, fun w hw => by
    unfold Oper.quietAt execOp
    simp only [ho, hx, Instr.loadAt, Instr.sureAddr, Sem.run_bind, Sem.run_pure, Result.andThen_ok, run_loadVar_mid w b f ty cs d (hS w hw) hu hd hi]
    exact ⟨rfl, rfl⟩, h⟩
/-- A part turned. -/
def fp (q : Part) : Part := { q with X := flipB q.X }
def flQ (QS : List Part) (i : Nat) : List Part := (QS.take i).map fp ++ QS.drop i
theorem flQ_len {QS : List Part} {i : Nat} (h : i ≤ QS.length) : (flQ QS i).length = QS.length := by simp [flQ]; omega
theorem flQ_all (QS : List Part) : flQ QS QS.length = QS.map fp := by simp [flQ]
theorem flQ_0 (QS : List Part) : flQ QS 0 = QS := by simp [flQ]
theorem flQ_b (QS : List Part) (i : Nat) : (flQ QS i).map (·.b) = QS.map (·.b) := by
  rw [flQ, List.map_append, List.map_map, show ((·.b) ∘ fp : Part → Nat) = (·.b) from rfl, ← List.map_append, List.take_append_drop]
theorem flQ_at {QS : List Part} {i : Nat} (h : i < QS.length) : (flQ QS i).getD i .none = QS.getD i .none ∧ flQ QS (i + 1) = (flQ QS i).set i (fp (QS.getD i .none)) := by
  have l1 : ((QS.take i).map fp).length = i := by rw [List.length_map, List.length_take]; omega
  have e1 : QS.drop i = QS.getD i .none :: QS.drop (i + 1) := by rw [List.drop_eq_getElem_cons h, List.getD, List.getElem?_eq_getElem h]; rfl
  have e2 : QS.take (i + 1) = QS.take i ++ [QS.getD i .none] := by rw [List.take_add_one, List.getElem?_eq_getElem h, List.getD, List.getElem?_eq_getElem h]; rfl
  constructor
  · rw [flQ, List.getD, List.getElem?_append_right (by omega), l1, Nat.sub_self, e1]; rfl
  · rw [flQ, flQ, List.set_append_right _ _ (by omega), l1, Nat.sub_self, e1, e2]
    simp
theorem catX_flip (QS : List Part) : (catX (QS.map fp)).length = (catX QS).length := by
  induction QS with
  | nil => rfl
  | cons q QS ih =>
    have e : ∀ (p : Part) (l : List Part), catX (p :: l) = p.X ++ catX l := fun p l => by simp [catX]
    rw [List.map_cons, e, e, List.length_append, List.length_append, ih]
    simp [fp, flipB_len]
theorem catX_same {PS QS : List Part} (h : QS.map (·.X) = PS.map (·.X)) : catX QS = catX PS := by
  rw [catX, catX, List.flatMap_def, List.flatMap_def, h]

/-- The parts as they stand in the loop that turns them. -/
def Tn (w W : World) (g : Nat) (QS : List Part) : Prop := Below w.heap.size w W ∧ Prts W g 0 QS ∧ (∀ q ∈ QS, Lnt w.heap.size W (some g) q) ∧ (QS.map (·.b)).Nodup
theorem Tn.keep {w W W' : World} {g : Nat} {QS : List Part} (h : Tn w W g QS) (hb : Below W.heap.size W W') : Tn w W' g QS := by
  refine ⟨h.1.trans (hb.mono h.1.size), fun i hi => ?_, fun q hq => ?_, h.2.2.2⟩
  · obtain ⟨h1, h2, h3, h4⟩ := h.2.1 i hi
    exact ⟨cell_keep hb h1, h2, h3, h4.keep hb⟩
  · obtain ⟨a1, a2, a3, a4, a5, a6, a7⟩ := h.2.2.1 q hq
    exact ⟨a1.same (hb.block _ a6), a2, a3, a4, a5, Nat.lt_of_lt_of_le a6 hb.size, a7⟩
theorem nodup_ne {QS : List Part} {i j : Nat} (h : (QS.map (·.b)).Nodup) (hi : i < QS.length) (hj : j < QS.length) (ne : j ≠ i) : (QS.getD j .none).b ≠ (QS.getD i .none).b := by
  rw [List.getD, List.getD, List.getElem?_eq_getElem hi, List.getElem?_eq_getElem hj]
  simp only [Option.getD_some]
  intro e
  have hp := List.pairwise_iff_getElem.1 h
  rcases Nat.lt_or_gt_of_ne ne with c | c
  · exact hp j i (by simpa using hj) (by simpa using hi) c (by simpa using e)
  · exact hp i j (by simpa using hi) (by simpa using hj) c (by simpa using e.symm)
theorem Tn.turned {w W W' : World} {g i : Nat} {QS : List Part} (h : Tn w W g QS) (hi : i < QS.length) (ho : Off (QS.getD i .none).b W W') (hG : Gb W' (QS.getD i .none).b (flipB (QS.getD i .none).X ++ List.replicate 70 165)) : Tn w W' g (QS.set i (fp (QS.getD i .none))) := by
  obtain ⟨q, kq⟩ : ∃ q, q = QS.getD i .none := ⟨_, rfl⟩
  rw [← kq] at ho hG ⊢
  have qm : q ∈ QS := by rw [kq, List.getD, List.getElem?_eq_getElem hi]; exact List.getElem_mem hi
  obtain ⟨a1, a2, a3, a4, a5, a6, a7⟩ := h.2.2.1 q qm
  have gb : g ≠ q.b := fun e => a7 (by rw [e])
  have getn : ∀ j, j < QS.length → (QS.set i (fp q)).getD j .none = if j = i then fp q else QS.getD j .none := fun j hj => by
    by_cases e : j = i
    · subst e; rw [if_pos rfl, List.getD, List.getElem?_set_self hj]; rfl
    · rw [if_neg e, List.getD, List.getElem?_set_ne (Ne.symm e), ← List.getD]
  have sz := ho.size
  refine ⟨h.1.trans (ho.below h.1.size a5), fun j hj => ?_, fun p hp => ?_, ?_⟩
  · rw [List.length_set] at hj
    obtain ⟨h1, h2, h3, h4⟩ := h.2.1 j hj
    rw [getn j hj]
    by_cases e : j = i
    · subst e
      rw [if_pos rfl]
      rw [← kq] at h1 h2 h3
      refine ⟨?_, .inr ?_, by show (flipB q.X).length ≤ q.c; rw [flipB_len]; omega, ?_⟩
      · have h1' := ho.cell (p := ⟨g, 0 + j, none⟩) gb h1
        rw [h1']
        show some (Value.slice q.a q.X.length q.c) = some (.slice q.a (flipB q.X).length q.c)
        rw [flipB_len]
      · show q.a = some ⟨q.b, q.o, none⟩
        rw [a4]; exact a3
      · show Byo W' q.b q.o (flipB q.X)
        rw [a4]; exact hG.front
    · rw [if_neg e]
      refine ⟨ho.cell (p := ⟨g, 0 + j, none⟩) gb h1, h2, h3, fun k hk => ho.cell ?_ (h4 k hk)⟩
      have := nodup_ne h.2.2.2 hi hj e
      rw [← kq] at this
      exact this
  · obtain ⟨j, hj, rfl⟩ := List.mem_iff_getElem.1 hp
    rw [List.length_set] at hj
    have e0 : (QS.set i (fp q))[j] = (QS.set i (fp q)).getD j .none := by rw [List.getD, List.getElem?_eq_getElem (by rw [List.length_set]; exact hj)]; rfl
    rw [e0, getn j hj]
    by_cases e : j = i
    · rw [if_pos e]
      exact ⟨hG, by show (flipB q.X).length + 70 ≤ q.c; rw [flipB_len]; exact a2, a3, a4, a5, Nat.lt_of_lt_of_le a6 sz, a7⟩
    · rw [if_neg e]
      have jm : QS.getD j .none ∈ QS := by rw [List.getD, List.getElem?_eq_getElem hj]; exact List.getElem_mem hj
      obtain ⟨b1, b2, b3, b4, b5, b6, b7⟩ := h.2.2.1 _ jm
      have nb := nodup_ne h.2.2.2 hi hj e
      rw [← kq] at nb
      exact ⟨b1.same (ho.block _ b6 nb), b2, b3, b4, b5, Nat.lt_of_lt_of_le b6 sz, b7⟩
  · have : (QS.set i (fp q)).map (·.b) = QS.map (·.b) := by
      rw [List.map_set]
      show (QS.map (·.b)).set i q.b = _
      apply List.ext_getElem?
      intro j
      by_cases e : i = j
      · subst e
        rw [List.getElem?_set_self (by simpa using hi), List.getElem?_map, List.getElem?_eq_getElem hi, kq, List.getD, List.getElem?_eq_getElem hi]; rfl
      · rw [List.getElem?_set_ne e]
    rw [this]; exact h.2.2.2

theorem hash_new {W : World} {t : TypeId} {N : List Value} (hN : N.length = 32) : (W.alloc (.cells #[.int .u8 0, .int .u8 0, .int .u8 0, .int .u8 0, .int .u8 0, .int .u8 0, .int .u8 0, .int .u8 0, .int .u8 0, .int .u8 0, .int .u8 0, .int .u8 0, .int .u8 0, .int .u8 0, .int .u8 0, .int .u8 0, .int .u8 0, .int .u8 0, .int .u8 0, .int .u8 0, .int .u8 0, .int .u8 0, .int .u8 0, .int .u8 0, .int .u8 0, .int .u8 0, .int .u8 0, .int .u8 0, .int .u8 0, .int .u8 0, .int .u8 0, .int .u8 0] t)).there W.heap.size 0 N.toArray.size := by
  have h : N.toArray.size = 32 := by simp [hN]
  rw [h]; exact (Hsh.zeros t rfl).there
theorem hash_put {W : World} {t : TypeId} {N : List Value} (hN : N.length = 32) : Below W.heap.size W ((W.alloc (.cells #[.int .u8 0, .int .u8 0, .int .u8 0, .int .u8 0, .int .u8 0, .int .u8 0, .int .u8 0, .int .u8 0, .int .u8 0, .int .u8 0, .int .u8 0, .int .u8 0, .int .u8 0, .int .u8 0, .int .u8 0, .int .u8 0, .int .u8 0, .int .u8 0, .int .u8 0, .int .u8 0, .int .u8 0, .int .u8 0, .int .u8 0, .int .u8 0, .int .u8 0, .int .u8 0, .int .u8 0, .int .u8 0, .int .u8 0, .int .u8 0, .int .u8 0, .int .u8 0] t)).setCells W.heap.size 0 N) ∧ ((W.alloc (.cells #[.int .u8 0, .int .u8 0, .int .u8 0, .int .u8 0, .int .u8 0, .int .u8 0, .int .u8 0, .int .u8 0, .int .u8 0, .int .u8 0, .int .u8 0, .int .u8 0, .int .u8 0, .int .u8 0, .int .u8 0, .int .u8 0, .int .u8 0, .int .u8 0, .int .u8 0, .int .u8 0, .int .u8 0, .int .u8 0, .int .u8 0, .int .u8 0, .int .u8 0, .int .u8 0, .int .u8 0, .int .u8 0, .int .u8 0, .int .u8 0, .int .u8 0, .int .u8 0] t)).setCells W.heap.size 0 N).rangeAt W.heap.size 0 N :=
  ⟨below_setCells (Nat.le_refl _) _ 0 _ ((Below.refl _ _).alloc (Nat.le_refl _) _), World.rangeAt_setCells_same _ _ _ _ (by simpa using hash_new (t := t) hN)⟩

set_option maxRecDepth 100000 in
set_option maxHeartbeats 16000000 in
theorem sums_any {a : Option Addr} {bp op cp : Nat} {PS : List Part} (hs : (catX PS).length < 1073730000) (hn : PS.length ≤ 1073730000) (ha : PS = [] ∨ a = some ⟨bp, op, none⟩) (w : World) (hP : Prts w bp op PS) (hf : Wds w 1 0 hN) (hk : Wds w 0 0 kN) :
    Calls Tryd.prog 4 #[.slice a PS.length cp] w fun e w' => e = .returned (.bool true) ∧ Below w.heap.size w w' := by
  have HH : Hid (Prts w bp op PS ∧ (PS = [] ∨ a = some ⟨bp, op, none⟩) ∧ Wds w 1 0 hN ∧ Wds w 0 0 kN ∧ (catX PS).length < 1073730000 ∧ PS.length ≤ 1073730000) := ⟨hP, ha, hf, hk, hs, hn⟩
  have PK : Hid (∀ W, Below w.heap.size w W → Prts W bp op PS) := fun W B i hi => by
    obtain ⟨h1, h2, h3, h4⟩ := HH.out.1 i hi
    exact ⟨by rw [B.cell (p := ⟨bp, op + i, none⟩) (World.block_lt_of_cell? w _ h1)]; exact h1, h2, h3, fun j hj => by rw [B.cell (World.block_lt_of_cell? w _ (h4 j hj))]; exact h4 j hj⟩
  have PX : Hid (∀ p ∈ PS, p.X.length < 1073741000) := fun p hp => by
    have : p.X.length ≤ (catX PS).length := by
      rw [catX]
      obtain ⟨l1, l2, rfl⟩ := List.append_of_mem hp
      simp
      omega
    have := HH.out.2.2.2.2.1
    omega
  have n1 : (PS.length : Int) ≤ 1073730000 := by omega
  clear hP ha hf hk hs hn
  go_enter Tryd.func4, Tryd.ntmps4
  go_wp2_with fail
  refine (parcelR_any (by have := HH.out.2.2.2.2.1; omega) (by have := HH.out.2.2.2.2.2; omega) HH.out.2.1 _ HH.out.1).mono ?_
  rintro e w1 ⟨g, c, rfl, hc, QS, hq, hQ, hx, hb, hR, hg, m1, m2, c1, c2, c3, c4⟩
  have T1 : Hid (Tn w w1 g QS) := ⟨hb, hQ, hR.1, hR.2⟩
  have KQ : Hid (QS.length = PS.length ∧ QS.map (·.X) = PS.map (·.X) ∧ PS.length + 2 ≤ c ∧ catX QS = catX PS) := ⟨hq, hx, hc, catX_same hx⟩
  have WH : Hid (∀ W, Below w1.heap.size w1 W → Calls Tryd.prog 17 #[.slice (some ⟨g, 0, none⟩) PS.length c, .slice a PS.length cp] W fun e w' => e = .returned (.bool true) ∧ Below W.heap.size W w') := fun W hW => by
    have T := T1.out.keep hW
    exact whole_any (by have := HH.out.2.2.2.2.2; omega) hq hx PX.out hc HH.out.2.1 W (PK.out W T.1) T.2.1 (fun q hq => ⟨(T.2.2.1 q hq).1, (T.2.2.1 q hq).2.1, (T.2.2.1 q hq).2.2.1⟩) (cell_keep hW c1) (cell_keep hW c2) (cell_keep hW c3) (cell_keep hW c4)
  have RS : Hid (∀ W, Below w.heap.size w W → Calls Tryd.prog 16 #[.slice a PS.length cp] W fun e w' => e = .returned (.agg (byts (shaL (catX PS))).toArray) ∧ Below W.heap.size W w') := fun W hW => rsum3_any (by have := HH.out.2.2.2.2.1; omega) (by have := HH.out.2.2.2.2.2; omega) HH.out.2.1 W (PK.out W hW)
  have c0 : (PS.length : Int) ≤ (c : Int) := by omega
  clear hc hq hQ hx hb hR hg c1 c2 c3 c4
  go_wp2_with fail
  have s1 := sum_any (PS := QS) (a := some ⟨g, 0, none⟩) (bp := g) (op := 0) (cp := c) (by rw [KQ.out.2.2.2]; have := HH.out.2.2.2.2.1; omega) (by rw [KQ.out.1]; have := HH.out.2.2.2.2.2; omega) (by rw [KQ.out.1]; have := KQ.out.2.2.1; omega) (.inr rfl) w1 T1.out.2.1 (HH.out.2.2.1.keep T1.out.1) (HH.out.2.2.2.1.keep T1.out.1)
  rw [KQ.out.1, KQ.out.2.2.2] at s1
  refine s1.mono ?_
  clear s1
  rintro e w2 ⟨rfl, hb⟩
  have eqh := fun w => eq_hash (X := shaL (catX PS)) (Zs := shaL (catX PS)) (shaL_len _) (shaL_len _) w
  rw [decide_eq_true rfl] at eqh
  have oc := one_byts (shaL (catX PS))
  have lN : (byts (shaL (catX PS))).length = 32 := by rw [byts_len, shaL_len]
  generalize hN : byts (shaL (catX PS)) = N at *
  clear hN
  have LN : Hid (N.length = 32) := lN
  have il : (Tryd.prog.info? 39).map (·.size) = some N.length := by rw [LN.out]; kernel_rfl
  have il3 : (Tryd.prog.info? 39).map (·.size) = some N.toArray.size := by rw [List.size_toArray]; exact il
  have B2 : Hid (Below w1.heap.size w1 w2) := hb
  have F2 : ∀ t, Hid (Below w1.heap.size w1 ((w2.alloc (.cells #[.int .u8 0, .int .u8 0, .int .u8 0, .int .u8 0, .int .u8 0, .int .u8 0, .int .u8 0, .int .u8 0, .int .u8 0, .int .u8 0, .int .u8 0, .int .u8 0, .int .u8 0, .int .u8 0, .int .u8 0, .int .u8 0, .int .u8 0, .int .u8 0, .int .u8 0, .int .u8 0, .int .u8 0, .int .u8 0, .int .u8 0, .int .u8 0, .int .u8 0, .int .u8 0, .int .u8 0, .int .u8 0, .int .u8 0, .int .u8 0, .int .u8 0, .int .u8 0] t)).setCells w2.heap.size 0 N) ∧ ((w2.alloc (.cells #[.int .u8 0, .int .u8 0, .int .u8 0, .int .u8 0, .int .u8 0, .int .u8 0, .int .u8 0, .int .u8 0, .int .u8 0, .int .u8 0, .int .u8 0, .int .u8 0, .int .u8 0, .int .u8 0, .int .u8 0, .int .u8 0, .int .u8 0, .int .u8 0, .int .u8 0, .int .u8 0, .int .u8 0, .int .u8 0, .int .u8 0, .int .u8 0, .int .u8 0, .int .u8 0, .int .u8 0, .int .u8 0, .int .u8 0, .int .u8 0, .int .u8 0, .int .u8 0] t)).setCells w2.heap.size 0 N).rangeAt w2.heap.size 0 N) := fun t => ⟨B2.out.trans ((hash_put LN.out).1.mono B2.out.size), (hash_put LN.out).2⟩
  have th := fun t => hash_new (W := w2) (t := t) LN.out
  clear hb lN
  go_wp2_with ((with_reducible refine wpList_store_at (ty := 39) w2.heap.size 0 N.toArray (th _) il3 oc ?_ ?_ ?_); rfl; rfl; refine wpList_world (fun W => Below w1.heap.size w1 W ∧ W.rangeAt w2.heap.size 0 N) (F2 _).out ?_; clear F2 th; rintro W ⟨hB, r4⟩)
  have W0 : Hid (Below w.heap.size w W) := T1.out.1.trans (hB.mono T1.out.1.size)
  have W1 : Hid (Below w1.heap.size w1 W) := hB
  have ldY : ∀ w', (∃ p : Regrown, w' = grow (redrawn W p.d) p.os) → w'.rangeAt w2.heap.size 0 N := by rintro w' ⟨p, rfl⟩; exact range_kept r4 (below_regrown W p.d p.os)
  have C1 : ∀ d os, Below w.heap.size w (grow (redrawn W d) os) := fun d os => W0.out.trans ((below_regrown W d os).mono W0.out.size)
  have C2 : ∀ d os, Below w1.heap.size w1 (grow (redrawn W d) os) := fun d os => W1.out.trans ((below_regrown W d os).mono W1.out.size)
  generalize w2.heap.size = b4 at *
  clear hB r4
  simp only [Act.put]
  refine wp_region_quiet_below (by kernel_rfl) (by kernel_rfl) ?_
  repeat
    first
      | go_big_quiet_skip
      | (go_big_quiet_want; go_big_quiet_op; go_big_quiet_on)
      | (go_big_quiet_want; refine quiet_load_midS 39 _ rfl b4 0 rfl N _ ldY Tryd.underlying39 rfl il ?_; simp only [Act.put, List.setIfInBounds_toArray, List.set_cons_succ, List.set_cons_zero]; go_big_quiet_on)
      | (go_big_quiet_want
         go_big_quiet_op
         apply Exists.intro
         refine ⟨fun p => ?_, ?_⟩
         · (first | (go_at_call 16; with_reducible exact Calls.regrown_of (RS.out (grow (redrawn W p.d) p.os) (C1 p.d p.os))) | (go_at_call 17; with_reducible exact Calls.regrown_of (WH.out (grow (redrawn W p.d) p.os) (C2 p.d p.os))))
         go_big_quiet_on)
  refine wpQuiet_nil ?_
  rintro w3 ⟨p, rfl⟩
  have hb := below_regrown W p.d p.os
  generalize grow (redrawn W p.d) p.os = w3 at *
  have T3 : Hid (Tn w w3 g QS) := T1.out.keep (W1.out.trans (hb.mono W1.out.size))
  have QX : Hid (∀ q ∈ QS, q.X.length < 1073741824) := fun q hq => by
    have : q.X.length ≤ (catX QS).length := by
      rw [catX]
      obtain ⟨l1, l2, rfl⟩ := List.append_of_mem hq
      simp
      omega
    have h2 := HH.out.2.2.2.2.1
    rw [KQ.out.2.2.2] at this
    omega
  clear hb ldY C1 C2 W0 W1 T1 RS WH B2 eqh
  go_wp2_with fail
  go_loopg [5] PS.length (fun k iv wr => ∃ i : Nat, k = PS.length - i ∧ i ≤ PS.length ∧ iv = .int .i64 i ∧ Tn w wr g (flQ QS i))
  case atStart => exact ⟨0, rfl, Nat.zero_le _, rfl, by rw [flQ_0]; exact T3.out⟩
  case round =>
    obtain ⟨i, hk, hi, rfl, hT⟩ := hrel
    have HK : Hid (gk = PS.length - i) := hk
    have HF : Hid (Tn w wr g (flQ QS i)) := hT
    clear hk hT
    by_cases h8 : i = PS.length
    · subst h8
      go_wp2_with fail
      have eF : flQ QS PS.length = QS.map fp := by rw [flQ, ← KQ.out.1, List.take_length, List.drop_length, List.append_nil]
      have TF := HF.out
      rw [eF] at TF
      have lM : (QS.map fp).length = PS.length := by rw [List.length_map, KQ.out.1]
      have lX : (catX (QS.map fp)).length < 1073730000 := by rw [catX_flip, KQ.out.2.2.2]; exact HH.out.2.2.2.2.1
      have s1 := sum_any (PS := QS.map fp) (a := some ⟨g, 0, none⟩) (bp := g) (op := 0) (cp := c) (by omega) (by rw [lM]; have := HH.out.2.2.2.2.2; omega) (by rw [lM]; have := KQ.out.2.2.1; omega) (.inr rfl) wr TF.2.1 (HH.out.2.2.1.keep TF.1) (HH.out.2.2.2.1.keep TF.1)
      have RS : Hid (∀ W, Below wr.heap.size wr W → Calls Tryd.prog 16 #[.slice (some ⟨g, 0, none⟩) PS.length c] W fun e w' => e = .returned (.agg (byts (shaL (catX (QS.map fp)))).toArray) ∧ Below W.heap.size W w') := fun W hW => by
        have h := rsum3_any (PS := QS.map fp) (a := some ⟨g, 0, none⟩) (bp := g) (op := 0) (cp := c) (by omega) (by rw [lM]; have := HH.out.2.2.2.2.2; omega) (.inr rfl) W (TF.keep hW).2.1
        rw [lM] at h
        exact h
      rw [lM] at s1
      have W0 : Hid (Below w.heap.size w wr) := TF.1
      refine s1.mono ?_
      clear s1 TF eF lM lX HF
      rintro e w6 ⟨rfl, hb⟩
      have eqh := fun w => eq_hash (X := shaL (catX (QS.map fp))) (Zs := shaL (catX (QS.map fp))) (shaL_len _) (shaL_len _) w
      rw [decide_eq_true rfl] at eqh
      have om := one_byts (shaL (catX (QS.map fp)))
      have lM : (byts (shaL (catX (QS.map fp)))).length = 32 := by rw [byts_len, shaL_len]
      generalize hM : byts (shaL (catX (QS.map fp))) = M at *
      clear hM
      have LM : Hid (M.length = 32) := lM
      have im : (Tryd.prog.info? 39).map (·.size) = some M.length := by rw [LM.out]; kernel_rfl
      have im3 : (Tryd.prog.info? 39).map (·.size) = some M.toArray.size := by rw [List.size_toArray]; exact im
      have B6 : Hid (Below wr.heap.size wr w6) := hb
      have F6 : ∀ t, Hid (Below wr.heap.size wr ((w6.alloc (.cells #[.int .u8 0, .int .u8 0, .int .u8 0, .int .u8 0, .int .u8 0, .int .u8 0, .int .u8 0, .int .u8 0, .int .u8 0, .int .u8 0, .int .u8 0, .int .u8 0, .int .u8 0, .int .u8 0, .int .u8 0, .int .u8 0, .int .u8 0, .int .u8 0, .int .u8 0, .int .u8 0, .int .u8 0, .int .u8 0, .int .u8 0, .int .u8 0, .int .u8 0, .int .u8 0, .int .u8 0, .int .u8 0, .int .u8 0, .int .u8 0, .int .u8 0, .int .u8 0] t)).setCells w6.heap.size 0 M) ∧ ((w6.alloc (.cells #[.int .u8 0, .int .u8 0, .int .u8 0, .int .u8 0, .int .u8 0, .int .u8 0, .int .u8 0, .int .u8 0, .int .u8 0, .int .u8 0, .int .u8 0, .int .u8 0, .int .u8 0, .int .u8 0, .int .u8 0, .int .u8 0, .int .u8 0, .int .u8 0, .int .u8 0, .int .u8 0, .int .u8 0, .int .u8 0, .int .u8 0, .int .u8 0, .int .u8 0, .int .u8 0, .int .u8 0, .int .u8 0, .int .u8 0, .int .u8 0, .int .u8 0, .int .u8 0] t)).setCells w6.heap.size 0 M).rangeAt w6.heap.size 0 M) := fun t => ⟨B6.out.trans ((hash_put LM.out).1.mono B6.out.size), (hash_put LM.out).2⟩
      have th := fun t => hash_new (W := w6) (t := t) LM.out
      clear hb lM
      go_wp2_with ((with_reducible refine wpList_store_at (ty := 39) w6.heap.size 0 M.toArray (th _) im3 om ?_ ?_ ?_); rfl; rfl; refine wpList_world (fun W => Below wr.heap.size wr W ∧ W.rangeAt w6.heap.size 0 M) (F6 _).out ?_; clear F6 th; rintro W ⟨hB, r4⟩)
      have W1 : Hid (Below wr.heap.size wr W) := hB
      have ldY : ∀ w', (∃ p : Regrown, w' = grow (redrawn W p.d) p.os) → w'.rangeAt w6.heap.size 0 M := by rintro w' ⟨p, rfl⟩; exact range_kept r4 (below_regrown W p.d p.os)
      have C2 : ∀ d os, Below wr.heap.size wr (grow (redrawn W d) os) := fun d os => W1.out.trans ((below_regrown W d os).mono W1.out.size)
      generalize w6.heap.size = b6 at *
      clear hB r4
      simp only [Act.put]
      refine wp_region_quiet_below (by kernel_rfl) (by kernel_rfl) ?_
      repeat
        first
          | go_big_quiet_skip
          | (go_big_quiet_want; go_big_quiet_op; go_big_quiet_on)
          | (go_big_quiet_want; refine quiet_load_midS 39 _ rfl b6 0 rfl M _ ldY Tryd.underlying39 rfl im ?_; simp only [Act.put, List.setIfInBounds_toArray, List.set_cons_succ, List.set_cons_zero]; go_big_quiet_on)
          | (go_big_quiet_want
             go_big_quiet_op
             apply Exists.intro
             refine ⟨fun p => ?_, ?_⟩
             · (go_at_call 16; with_reducible exact Calls.regrown_of (RS.out (grow (redrawn W p.d) p.os) (C2 p.d p.os)))
             go_big_quiet_on)
      refine wpQuiet_nil ?_
      rintro w7 ⟨p, rfl⟩
      have B7 : Hid (Below w.heap.size w (grow (redrawn W p.d) p.os)) := W0.out.trans ((C2 p.d p.os).mono W0.out.size)
      generalize grow (redrawn W p.d) p.os = w7 at *
      clear ldY C2
      go_wp2
      simp [bodyPost, results, Tryd.results4, go_sem]
      exact B7.out
    · have hlt : i < PS.length := by omega
      have hlt' : (i : Int) < (PS.length : Int) := by omega
      have hltq : i < QS.length := by rw [KQ.out.1]; exact hlt
      have lf : i < (flQ QS i).length := by have := congrArg List.length (flQ_b QS i); simp only [List.length_map] at this; omega
      obtain ⟨f1, f2⟩ := flQ_at hltq
      have q1 := (HF.out.2.1 i lf).1
      rw [f1] at q1
      have qm : QS.getD i .none ∈ QS := by rw [List.getD, List.getElem?_eq_getElem hltq]; exact List.getElem_mem hltq
      have qn : QS.getD i .none ∈ flQ QS i := by rw [← f1, List.getD, List.getElem?_eq_getElem lf]; exact List.getElem_mem lf
      have qL := HF.out.2.2.1 _ qn
      have NX : Hid (∀ W', Off (QS.getD i .none).b wr W' → Gb W' (QS.getD i .none).b (flipB (QS.getD i .none).X ++ List.replicate 70 165) → Tn w W' g (flQ QS (i + 1))) := fun W' ho hG => by
        rw [f2, ← f1]
        exact HF.out.turned lf (by rw [f1]; exact ho) (by rw [f1]; exact hG)
      have TC := turn_any (c := (QS.getD i .none).c) (QX.out _ qm) wr qL.1
      have q2 := qL.2.2.1
      rw [Part.val] at q1
      clear f1 f2 qm qn qL lf hltq
      generalize QS.getD i .none = q at *
      obtain ⟨qa, qb, qo, qc, X⟩ := q
      simp only at q2 q1 TC NX
      subst q2
      rw [Nat.zero_add] at q1
      go_wp2_with fail
      refine TC.mono ?_
      clear TC
      rintro e w4 ⟨rfl, hG, ho⟩
      have N4 : Hid (Tn w w4 g (flQ QS (i + 1))) := NX.out _ ho hG
      clear hG ho NX q1
      go_wp2
      go_roundg (PS.length - (i + 1))
      case measure => have := HK.out; omega
      case rel => exact ⟨i + 1, rfl, by omega, by go_num, N4.out⟩
end Go.Proofs.YtkbkbbilhmmifaaDoor
