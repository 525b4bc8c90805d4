import Derived.Test.YtkbdpkgfnbfgmaaDoorRowB
import Derived.Test.YtkbdpkgfnbfgmaaDoorRef1
import Derived.Test.YtkbdpkgfnbfgmaaDoorHold
import Derived.Laws.Cover3
import Derived.Great.Walk
namespace Go.Proofs.YtkbdpkgfnbfgmaaDoor
open Go.RowKit Go.Sort

theorem rangeBox {W : World} {M : List Value} {t : TypeId} : (W.alloc (.cells M.toArray t)).rangeAt W.heap.size 0 M := fun j v hv => by
  rw [Nat.zero_add, World.cell?_alloc_mark]
  simpa using hv
theorem range_part {W : World} {b o : Nat} {M : List Value} (h : W.rangeAt b o M) (k : Nat) : W.rangeAt b (o + k) (M.drop k) := fun j v hv => by
  rw [List.getElem?_drop] at hv
  have := h (k + j) v hv
  rwa [← Nat.add_assoc] at this
theorem range_keep {W W' : World} {n b o : Nat} {M : List Value} (h : W.rangeAt b o M) (hb : Below n W W') (hl : b < n) : W'.rangeAt b o M := fun j v hv => by
  rw [hb.cell (p := ⟨b, o + j, none⟩) hl]; exact h j v hv
theorem there_new {W : World} {b : Nat} {cs : Array Value} {t : TypeId} (e : b = W.heap.size) {n : Nat} (hn : n = cs.size) : (W.alloc (.cells cs t)).there b 0 n := by
  subst e hn
  intro j hj
  rw [Nat.zero_add, World.cell?_alloc_mark, World.frozen?_alloc_mark]
  refine ⟨by simp [hj], ?_⟩
  simp
theorem wpList_worldA {P : Program} {ops : Array Oper} {Q : Exit → Act → World → Prop} {l : List Oper} {a : Act} {w : World} (I : World → Prop) (h : I w) (k : ∀ W, I W → wpList P ops Q l a W) : wpList P ops Q l a w := k w h
theorem laid_in {w W : World} {n b : Nat} {D : List Value} (B : Below n w W) (hb : n ≤ b) (ht : W.there b 0 D.length) : Below n w (W.setCells b 0 D) ∧ (W.setCells b 0 D).rangeAt b 0 D := ⟨below_setCells hb D 0 W B, World.rangeAt_setCells_same _ _ _ _ ht⟩
set_option maxRecDepth 100000 in
set_option maxHeartbeats 4000000 in
theorem last20_any {M : List Value} (k : M.length = 32) (hc : ∀ v ∈ M, v.oneCell' = true) (w : World) :
    Calls Tryd.prog 12 #[.agg M.toArray] w fun e w' => e = .returned (.agg (M.drop 12).toArray) ∧ Below w.heap.size w w' := by
  obtain ⟨D, eD⟩ : ∃ D, D = M.drop 12 := ⟨_, rfl⟩
  rw [← eD]
  have kD : D.length = 20 := by rw [eD, List.length_drop, k]
  have oc : D.toArray.all (·.oneCell') = true := all_oneCell_toArray fun v hv => hc v (by rw [eD] at hv; exact List.mem_of_mem_drop hv)
  have ra : ∀ o, ((w.alloc (.cells M.toArray 26)).alloc o).rangeAt w.heap.size 12 D := fun o => by
    have h := range_part (rangeBox (W := w) (M := M) (t := 26)) 12
    rw [Nat.zero_add, ← eD] at h
    exact World.rangeAt_alloc h o
  have sz : D.toArray.size = 20 := by simp [kD]
  have KD : Hid (D.length = 20) := kD
  clear kD eD hc k
  have hat : ∀ w1, (Instr.arrayAt 23 (.slice (some ⟨w.heap.size, 12, none⟩) 20 20)).run Tryd.prog w1 = .ok (.pointer (some ⟨w.heap.size, 12, none⟩)) w1 := fun w1 => run_arrayAt w1 23 _ 20 _ 20 _ Tryd.underlying23 (Nat.le_refl _)
  go_enter Tryd.func12, Tryd.ntmps12
  go_wp2_with (first | refine wpList_load_mid rfl 23 _ rfl w.heap.size 12 rfl D _ (ra _) Tryd.underlying23 rfl (by rw [KD.out]; kernel_rfl) ?_ | ((refine wpList_store_mid rfl 23 _ _ rfl (w.heap.size + 1) 0 D.toArray rfl rfl (there_new (by simp) (by rw [sz]; rfl)) (by rw [sz]; kernel_rfl) oc ?_); (refine wpList_worldA (fun W => Below w.heap.size w W ∧ W.rangeAt (w.heap.size + 1) 0 D) (laid_in (((Below.refl _ _).alloc (Nat.le_refl _) _).alloc (by simp) _) (by omega) (there_new (by simp) (by rw [KD.out]; rfl))) ?_); (rintro W ⟨B, hR⟩)))
  have ld := run_loadVar_mid (P := Tryd.prog) W (w.heap.size + 1) 0 23 D _ hR Tryd.underlying23 rfl (by rw [KD.out]; kernel_rfl)
  refine bodyPost_ret (v := .agg D.toArray) ?_ rfl ⟨rfl, B⟩
  simp [results, Tryd.results12, Act.put, asAddr, ld]

theorem Bts.cells_putA {W : World} {b b' : Nat} {l : List Int} (h : Bts W b l) (ne : b' ≠ b) (vs : List Value) (o : Nat) : Bts (W.setCells b' o vs) b l := by
  induction vs generalizing W o with
  | nil => exact h
  | cons v r ih => exact ih (h.other ne v) (o + 1)
theorem Bts.of_range {W : World} {b : Nat} {l : List Int} (h : W.rangeAt b 0 (l.map (Value.int .u8))) (hf : Loose W b l.length) : Bts W b l := by
  refine ⟨fun i hi => ?_, hf⟩
  have := h i (.int .u8 (l.getD i 0)) (by rw [List.getElem?_map, List.getElem?_eq_getElem hi]; simp [List.getD, hi])
  rwa [Nat.zero_add] at this
theorem Bts.storedA {W : World} {b : Nat} {l L : List Int} (h : Bts W b l) (e : L.length = l.length) : Bts (W.setCells b 0 (L.map (Value.int .u8))) b L := by
  refine Bts.of_range (World.rangeAt_setCells_same _ _ _ _ (by rw [List.length_map]; exact h.there e.symm)) ?_
  rw [e]
  have hl := h.2
  generalize L.map (Value.int .u8) = vs
  generalize (0 : Nat) = o
  clear h e
  induction vs generalizing W o with
  | nil => exact hl
  | cons v r ih => exact ih (hl.set _ _) (o + 1)

set_option maxRecDepth 100000 in
set_option maxHeartbeats 4000000 in
theorem rlast_walk {A : List Int} {pv : Value} (hA : A.length = 32) (w : World) (SC : Hid (∀ W, Below w.heap.size w W → Calls Tryd.prog 36 #[pv] W fun e w' => e = .returned (.agg (A.map (Value.int .u8)).toArray) ∧ Below W.heap.size W w')) :
    Calls Tryd.prog 21 #[pv] w fun e w' => e = .returned (.agg ((A.drop 12).map (Value.int .u8)).toArray) ∧ Below w.heap.size w w' := by
  go_enter Tryd.func21, Tryd.ntmps21
  go_wp2_with fail
  refine calls_world (fun W => Below w.heap.size w W ∧ Bts W w.heap.size (List.replicate 20 0)) ⟨(Below.refl _ _).alloc (Nat.le_refl _) _, Bts.new (List.replicate 20 0) _ rfl⟩ ?_
  rintro W ⟨B, hR⟩
  with_reducible refine (SC.out _ B).mono ?_
  rintro e w1 ⟨rfl, hb⟩
  replace B := B.trans (hb.mono B.size)
  replace hR := hR.keep (by simp) hb
  clear hb W SC
  obtain ⟨M, eM⟩ : ∃ M, M = A.map (Value.int .u8) := ⟨_, rfl⟩
  rw [← eM]
  have sz : M.toArray.size = 32 := by rw [eM]; simp [hA]
  have oc : M.toArray.all (·.oneCell') = true := by rw [eM]; exact one_cells A
  have nr : w1.heap.size ≠ w.heap.size := Nat.ne_of_gt (hR.1.lt (by simp))
  have FF : ∀ t, Hid (Below w.heap.size w ((w1.alloc (.cells ((List.replicate 32 (0 : Int)).map (Value.int .u8)).toArray t)).setCells w1.heap.size 0 M) ∧ Bts ((w1.alloc (.cells ((List.replicate 32 (0 : Int)).map (Value.int .u8)).toArray t)).setCells w1.heap.size 0 M) w.heap.size (List.replicate 20 0) ∧ Bts ((w1.alloc (.cells ((List.replicate 32 (0 : Int)).map (Value.int .u8)).toArray t)).setCells w1.heap.size 0 M) w1.heap.size A) := fun t => ⟨below_setCells B.size M 0 _ (B.alloc B.size _), (hR.alloc (by simp) _).cells_putA nr _ _, by rw [eM]; exact (Bts.new (List.replicate 32 0) t rfl).storedA (by simp [hA])⟩
  have gb := B.size
  clear B hR eM
  go_wp2_with ((refine wpList_store_mid rfl 26 _ _ rfl w1.heap.size 0 M.toArray rfl rfl (there_new rfl (by rw [sz]; rfl)) (by rw [sz]; kernel_rfl) oc ?_); (refine wpList_worldA (fun W => Below w.heap.size w W ∧ Bts W w.heap.size (List.replicate 20 0) ∧ Bts W w1.heap.size A) (FF _).out ?_); (rintro W ⟨B, hR, hH⟩); (clear FF oc sz))
  have l1 : w1.heap.size < W.heap.size := hH.1.lt (by rw [hA]; decide)
  refine wp_world (fun V => Below w.heap.size w V ∧ Bts V w.heap.size (List.replicate 20 0) ∧ Bts V w1.heap.size A ∧ Bts V W.heap.size (List.replicate 20 0)) ⟨B.alloc B.size _, hR.alloc (by simp) _, hH.alloc (by rw [hA]; decide) _, Bts.new (List.replicate 20 0) _ rfl⟩ ?_
  have c1 : W.heap.size ≠ w1.heap.size := by omega
  have c2 : W.heap.size ≠ w.heap.size := by omega
  have o1 : w.heap.size ≤ W.heap.size := by omega
  clear B hR hH l1 gb
  rintro V ⟨B, hR, hH, hN⟩
  generalize W.heap.size = ba at *
  generalize w1.heap.size = bh at *
  clear W w1
  have AA : Hid (A.length = 32) := hA
  go_loopg [5] 20 (fun k iv wr => ∃ (i : Nat) (L : List Int), k = 20 - i ∧ i ≤ 20 ∧ iv = .int .i64 i ∧ L.length = 20 ∧ (∀ t, t < i → L.getD t 0 = A.getD (12 + t) 0) ∧ Below w.heap.size w wr ∧ Bts wr w.heap.size (List.replicate 20 0) ∧ Bts wr bh A ∧ Bts wr ba L)
  case atStart => exact ⟨0, _, rfl, by decide, rfl, by simp, fun t h => absurd h (Nat.not_lt_zero _), B, hR, hH, hN⟩
  case round =>
    clear B hR hH hN
    obtain ⟨i, L, hk, hi, rfl, hL, ev, B, hR, hH, hN⟩ := hrel
    have EV : Hid (∀ t, t < i → L.getD t 0 = A.getD (12 + t) 0) := ev
    have HK : Hid (gk = 20 - i) := hk
    clear ev hk
    by_cases h8 : i = 20
    · subst h8
      have eL : L = A.drop 12 := extB (by rw [hL, List.length_drop, AA.out]) fun t ht => by rw [EV.out t (by omega)]; simp [List.getD, List.getElem?_drop]
      have EL : Hid (L = A.drop 12) := eL
      have rb := hN.1.range
      have sz : ((L.map (Value.int .u8)).toArray).size = 20 := by simp [hL]
      have tr := hR.there (k := ((L.map (Value.int .u8)).toArray).size) (by rw [sz]; rfl)
      have oc := one_cells L
      clear eL EV hA
      generalize hM : L.map (Value.int .u8) = N at *
      have HM : Hid (N.length = 20) := by rw [← hM, List.length_map]; exact hL
      go_wp2_with (first | refine wpList_load_mid rfl 23 _ rfl ba 0 rfl N _ rb Tryd.underlying23 rfl (by rw [HM.out]; kernel_rfl) ?_ | refine wpList_store_mid rfl 23 _ _ rfl w.heap.size 0 _ rfl rfl tr (by rw [sz]; kernel_rfl) oc ?_)
      have ld := run_loadVar_mid (P := Tryd.prog) (wr.setCells w.heap.size 0 N) w.heap.size 0 23 N _ (World.rangeAt_setCells_same _ _ _ _ (by simpa using tr)) Tryd.underlying23 rfl (by rw [HM.out]; kernel_rfl)
      refine bodyPost_ret (v := .agg N.toArray) ?_ rfl ⟨by rw [← hM, EL.out], below_setCells (Nat.le_refl _) N 0 wr B⟩
      simp [results, Tryd.results21, Act.put, asAddr, ld]
    · have hi' : (i : Int) < 20 := by omega
      have e1 : (12 + (i : Int)).toNat = 12 + i := by omega
      have gx := hH.1 (12 + i) (by rw [AA.out]; omega)
      have gb := hN.1 i (by omega)
      have fb := hN.2 i (by omega)
      clear hA
      generalize hx : A.getD (12 + i) 0 = x at *
      have HX : Hid (A.getD (12 + i) 0 = x) := hx
      clear hx
      go_wp2
      go_roundg (20 - (i + 1))
      case measure => have := HK.out; omega
      case rel =>
        refine ⟨i + 1, L.set i x, rfl, by omega, by go_num, by rw [List.length_set]; exact hL, fun t h1 => ?_, B.setCell o1 _, hR.other c2 _, hH.other c1 _, hN.set i (by omega) _⟩
        by_cases e : t = i
        · subst e; rw [setB_eq (by omega), HX.out]
        · rw [setB_ne e]; exact EV.out t (by omega)
end Go.Proofs.YtkbdpkgfnbfgmaaDoor

namespace Go.Proofs.YtkbdpkgfnbfgmaaDoor
open Go.RowKit Go.Sort

/-- Are two rows of bytes the same, from s on, m of them? -/
def sameJ (X Y : List Int) : Nat → Nat → Bool
  | _, 0 => true
  | s, m + 1 => X.getD s 0 == Y.getD s 0 && sameJ X Y (s + 1) m
theorem part_j {X : List Int} {i : Nat} (h : i < X.length) (w : World) : (part 5 (X.map (Value.int .u8)).toArray (i * 1)).run Tryd.prog w = .ok (.int .u8 (X.getD i 0)) w := by
  have ta := Tryd.isAgg5

  rw [Nat.mul_one]
  simp [Go.part, go_sem, ta, h]
theorem eq_loopJ {X Y : List Int} (w : World) : ∀ (m s : Nat), s + m ≤ X.length → s + m ≤ Y.length →
    (forIn (m := Sem) (List.range' s m) ((none : Option Bool), ()) fun i _ => do
      let x ← part 5 (X.map (Value.int .u8)).toArray (i * 1)
      let y ← part 5 (Y.map (Value.int .u8)).toArray (i * 1)
      let b ← Op.equalIn 9999 5 x y
      if (!b) = true then pure (ForInStep.done (some false, ())) else pure (ForInStep.yield (none, ()))).run Tryd.prog w = .ok (if sameJ X Y s m = true then (none, ()) else (some false, ())) w
  | 0, s, _, _ => by simp [sameJ]
  | m + 1, s, h1, h2 => by
    have tu := Tryd.underlying5
    rw [List.range'_succ, List.forIn_cons]
    simp only [Sem.run_bind, part_j (show s < X.length by omega), part_j (show s < Y.length by omega), Result.andThen_ok]
    rw [show (9999 : Nat) = 9998 + 1 from rfl, run_equalIn_int _ _ _ _ _ _ _ tu]
    simp only [Result.andThen_ok]
    rw [sameJ]
    have ih := eq_loopJ (X := X) (Y := Y) w m (s + 1) (by omega) (by omega)
    generalize X.getD s 0 = a at *
    generalize Y.getD s 0 = b at *
    by_cases e : a = b
    · subst e
      simp only [beq_self_eq_true, Bool.not_true, Bool.false_eq_true, if_false, Sem.run_pure, Result.andThen_ok, Bool.true_and]
      exact ih
    · have ne : (a == b) = false := beq_eq_false_iff_ne.2 e
      simp only [ne, Bool.not_false, if_true, Sem.run_pure, Result.andThen_ok, Bool.false_and, Bool.false_eq_true, if_false]
theorem sameJ_iff {X Y : List Int} : ∀ (m s : Nat), sameJ X Y s m = true ↔ ∀ i, s ≤ i → i < s + m → X.getD i 0 = Y.getD i 0
  | 0, s => by simp [sameJ]; intro i h1 h2; omega
  | m + 1, s => by
    rw [sameJ, Bool.and_eq_true, sameJ_iff m (s + 1)]
    constructor
    · rintro ⟨h1, h2⟩ i h3 h4
      by_cases e : i = s
      · subst e; exact eq_of_beq h1
      · exact h2 i (by omega) (by omega)
    · intro h
      exact ⟨by rw [h s (Nat.le_refl _) (by omega)]; exact beq_self_eq_true _, fun i h1 h2 => h i (by omega) (by omega)⟩
theorem sameJ_eq {X Y : List Int} {n : Nat} (hx : X.length = n) (hy : Y.length = n) : sameJ X Y 0 n = decide (X = Y) := by
  have h := sameJ_iff (X := X) (Y := Y) n 0
  by_cases e : X = Y
  · subst e
    rw [decide_eq_true rfl]
    exact h.2 fun _ _ _ => rfl
  · rw [decide_eq_false e]
    apply Bool.eq_false_iff.2
    intro ht
    exact e (extB (by rw [hx, hy]) fun t h1 => h.1 ht t (Nat.zero_le _) (by omega))
/-- '==' of two addresses. -/
theorem eq_adrJ {X Y : List Int} (hx : X.length = 20) (hy : Y.length = 20) (w : World) : (Op.equalIn 10000 23 (.agg (X.map (Value.int .u8)).toArray) (.agg (Y.map (Value.int .u8)).toArray)).run Tryd.prog w = .ok (decide (X = Y)) w := by
  rw [show (10000 : Nat) = 9999 + 1 from rfl, Op.equalIn]
  have tz : (sizeOf 5).run Tryd.prog w = .ok 1 w := by have := Tryd.sizeOf5; simp [go_sem, this]
  simp only [Sem.run_bind, run_underlying Tryd.underlying23, Result.andThen_ok, tz]
  simp only [Std.Legacy.Range.forIn_eq_forIn_range', Std.Legacy.Range.size, Nat.sub_zero, Nat.add_sub_cancel, Nat.div_one]
  have h := eq_loopJ (X := X) (Y := Y) w 20 0 (by omega) (by omega)
  rw [h, sameJ_eq hx hy]
  by_cases e : X = Y <;> simp [e]
end Go.Proofs.YtkbdpkgfnbfgmaaDoor
