import Derived.Test.YtkmkkcnlafbboaaMods
import Derived.Test.YtkmkkcnlafbboaaLen
import Derived.Test.YtkmkkcnlafbboaaShl
import Derived.Test.YtkmkkcnlafbboaaRefShl
import Derived.Test.YtkmkkcnlafbboaaRefAddSub
import Derived.Test.YtkmkkcnlafbboaaQPut
/- Layer 15: Chain of both. -/
namespace Go.Proofs.Ytkmkkcnlafbboaa
open Go.RowKit Go.Sort
/-- A number's cells in a block. -/
def NmT (W : World) (b : Nat) (n : Int) : Prop := W.cell? ⟨b, 0, none⟩ = some (.int .u64 (l0 n)) ∧ W.cell? ⟨b, 1, none⟩ = some (.int .u64 (l1 n)) ∧ W.cell? ⟨b, 2, none⟩ = some (.int .u64 (l2 n)) ∧ W.cell? ⟨b, 3, none⟩ = some (.int .u64 (l3 n))
theorem keepT {W w1 : World} {p : Addr} {v : Value} (hb : Below W.heap.size W w1) (h : W.cell? p = some v) : w1.cell? p = some v := by
  rw [hb.cell (World.block_lt_of_cell? W _ h)]; exact h
theorem NmT.keep {W w1 : World} {b : Nat} {n : Int} (h : NmT W b n) (hb : Below W.heap.size W w1) : NmT w1 b n := ⟨keepT hb h.1, keepT hb h.2.1, keepT hb h.2.2.1, keepT hb h.2.2.2⟩
theorem NmT.lt {W : World} {b : Nat} {n : Int} (h : NmT W b n) : b < W.heap.size := World.block_lt_of_cell? W _ h.1
theorem NmT.new (W : World) (n : Int) (t : TypeId) : NmT (W.alloc (.cells #[.int .u64 (l0 n), .int .u64 (l1 n), .int .u64 (l2 n), .int .u64 (l3 n)] t)) W.heap.size n := by
  refine ⟨?_, ?_, ?_, ?_⟩ <;> simp [go_sem]
def putT (W : World) (b : Nat) (n : Int) : World := (((W.setCell ⟨b, 0, none⟩ (.int .u64 (l0 n))).setCell ⟨b, 1, none⟩ (.int .u64 (l1 n))).setCell ⟨b, 2, none⟩ (.int .u64 (l2 n))).setCell ⟨b, 3, none⟩ (.int .u64 (l3 n))
theorem Blank.putT {W : World} {b : Nat} (h : Blank W b) (n : Int) : NmT (Go.Proofs.Ytkmkkcnlafbboaa.putT W b n) b n := by
  obtain ⟨a0, a1, a2, a3⟩ := h.1.all4
  unfold Go.Proofs.Ytkmkkcnlafbboaa.putT
  refine ⟨?_, ?_, ?_, ?_⟩ <;> simp [go_sem, a0, a1, a2, a3]
theorem NmT.set {W : World} {b b' o : Nat} {n : Int} (h : NmT W b n) (ne : b' ≠ b) (v : Value) : NmT (W.setCell ⟨b', o, none⟩ v) b n := by
  have e : ∀ k, (W.setCell ⟨b', o, none⟩ v).cell? ⟨b, k, none⟩ = W.cell? ⟨b, k, none⟩ := fun k => by simp [go_sem]
  exact ⟨by rw [e]; exact h.1, by rw [e]; exact h.2.1, by rw [e]; exact h.2.2.1, by rw [e]; exact h.2.2.2⟩
theorem NmT.putT {W : World} {b b' : Nat} {m n : Int} (h : NmT W b m) (ne : b' ≠ b) : NmT (Go.Proofs.Ytkmkkcnlafbboaa.putT W b' n) b m := by
  unfold Go.Proofs.Ytkmkkcnlafbboaa.putT
  exact (((h.set ne _).set ne _).set ne _).set ne _
theorem below_putT {W w : World} {n b : Nat} {m : Int} (h : Below n w W) (hb : n ≤ b) : Below n w (putT W b m) := by
  unfold putT
  exact (((h.setCell hb _).setCell hb _).setCell hb _).setCell hb _
theorem NmT.grown {W : World} {b : Nat} {n : Int} (h : NmT W b n) : ∀ d os, NmT (grow (redrawn W d) os) b n := fun d os => h.keep (below_regrown W d os)
set_option maxRecDepth 100000 in
set_option maxHeartbeats 4000000 in
theorem chain_near {n : Int} {q : Bool} (hq : n = 27 ∨ n = 28) (hn : Num n) (e : q = !decide (n = 27)) (w : World) :
    Calls Try.prog 4 #[.agg #[.int .u64 (l0 n), .int .u64 (l1 n), .int .u64 (l2 n), .int .u64 (l3 n)]] w fun e w' => e = .returned (.tuple #[.int .u64 0, .bool false, .bool q, .int .i64 0]) ∧ Below w.heap.size w w' := by
  have F27 : Hid (∀ w, Calls Try.prog 7 #[.int .u64 27] w fun e w' => e = .returned (.agg #[.int .u64 (l0 27), .int .u64 (l1 27), .int .u64 (l2 27), .int .u64 (l3 27)]) ∧ Below w.heap.size w w') := fun w => from_any ⟨by decide, by decide⟩ w
  have F28 : Hid (∀ w, Calls Try.prog 7 #[.int .u64 28] w fun e w' => e = .returned (.agg #[.int .u64 (l0 28), .int .u64 (l1 28), .int .u64 (l2 28), .int .u64 (l3 28)]) ∧ Below w.heap.size w w') := fun w => from_any ⟨by decide, by decide⟩ w
  have E1 := eq_num hn (show Num 27 from ⟨by decide, by decide⟩)
  have E2 := eq_num hn (show Num 28 from ⟨by decide, by decide⟩)
  have D1 : decide (n = 27) = !q := by rw [e]; simp
  have D2 : decide (n = 28) = q := by rw [e]; rcases hq with rfl | rfl <;> decide
  rw [D1] at E1
  rw [D2] at E2
  clear D1 D2 e hq hn
  go_enter Try.func4, Try.ntmps4
  go_wp2_with fail
  refine wp_world (fun W => Below w.heap.size w W ∧ NmT W w.heap.size n) ⟨(Below.refl _ _).alloc (Nat.le_refl _) _, NmT.new w n _⟩ ?_
  rintro W ⟨B, hN⟩
  cases q
  all_goals
    have g0 := fun d os => (hN.grown d os).1
    have g1 := fun d os => (hN.grown d os).2.1
    have g2 := fun d os => (hN.grown d os).2.2.1
    have g3 := fun d os => (hN.grown d os).2.2.2
    refine wp_region_quiet_below (by kernel_rfl) (by kernel_rfl) ?_
    repeat
      first
        | go_big_quiet_skip
        | (go_big_quiet_want; go_big_quiet_op; go_big_quiet_on)
        | (go_big_quiet_want
           go_big_quiet_op
           apply Exists.intro
           refine ⟨fun p => ?_, ?_⟩
           · (first | (go_at_call 7; with_reducible exact Calls.regrown_of (F27.out _)) | (go_at_call 7; with_reducible exact Calls.regrown_of (F28.out _)))
           go_big_quiet_on)
    refine wpQuiet_nil ?_
    rintro w2 ⟨qq, rfl⟩
    replace B := B.trans ((below_regrown W qq.d qq.os).mono B.size)
    replace hN := hN.grown qq.d qq.os
    generalize grow (redrawn W qq.d) qq.os = W2 at *
    clear g0 g1 g2 g3
    go_wp2_with fail
    have g0 := fun d os => (hN.grown d os).1
    have g1 := fun d os => (hN.grown d os).2.1
    have g2 := fun d os => (hN.grown d os).2.2.1
    have g3 := fun d os => (hN.grown d os).2.2.2
    refine wp_region_quiet_below (by kernel_rfl) (by kernel_rfl) ?_
    repeat
      first
        | go_big_quiet_skip
        | (go_big_quiet_want; go_big_quiet_op; go_big_quiet_on)
        | (go_big_quiet_want
           go_big_quiet_op
           apply Exists.intro
           refine ⟨fun p => ?_, ?_⟩
           · (first | (go_at_call 7; with_reducible exact Calls.regrown_of (F27.out _)) | (go_at_call 7; with_reducible exact Calls.regrown_of (F28.out _)))
           go_big_quiet_on)
    refine wpQuiet_nil ?_
    rintro w2 ⟨qq, rfl⟩
    replace B := B.trans ((below_regrown W2 qq.d qq.os).mono B.size)
    replace hN := hN.grown qq.d qq.os
    generalize grow (redrawn W2 qq.d) qq.os = W3 at *
    clear g0 g1 g2 g3
    go_wp2
    simp [bodyPost, results, Try.results4, go_sem]
    exact B
set_option maxRecDepth 100000 in
set_option maxHeartbeats 4000000 in
theorem chain_far {n d bo s v e ob : Int} {R : Value} (h27 : n ≠ 27) (h28 : n ≠ 28) (hn : Num n)
    (SB : Hid (∀ w, Calls Try.prog 8 #[.agg #[.int .u64 (l0 n), .int .u64 (l1 n), .int .u64 (l2 n), .int .u64 (l3 n)], .agg #[.int .u64 (l0 35), .int .u64 (l1 35), .int .u64 (l2 35), .int .u64 (l3 35)]] w fun e w' => e = .returned (.tuple #[.agg #[.int .u64 (l0 d), .int .u64 (l1 d), .int .u64 (l2 d), .int .u64 (l3 d)], .int .u64 bo]) ∧ Below w.heap.size w w'))
    (SH : Hid (∀ w, Calls Try.prog 10 #[.agg #[.int .u64 (l0 d), .int .u64 (l1 d), .int .u64 (l2 d), .int .u64 (l3 d)], .int .i64 1] w fun e w' => e = .returned (.agg #[.int .u64 (l0 s), .int .u64 (l1 s), .int .u64 (l2 s), .int .u64 (l3 s)]) ∧ Below w.heap.size w w'))
    (SM : Hid (∀ w, Calls Try.prog 9 #[.agg #[.int .u64 (l0 s), .int .u64 (l1 s), .int .u64 (l2 s), .int .u64 (l3 s)]] w fun e' w' => e' = .returned (.tuple #[.int .u64 v, .int .i64 e]) ∧ Below w.heap.size w w'))
    (BI : Hid (∀ w, Calls Try.prog 11 #[.agg #[.int .u64 (l0 d), .int .u64 (l1 d), .int .u64 (l2 d), .int .u64 (l3 d)], .int .i64 0] w fun e w' => e = .returned (.int .i64 ob) ∧ Below w.heap.size w w'))
    {b1 b2 b3 b4 b5 : Bool} (k1 : (bo != 0) = b1) (k2 : (e != 0) = b2) (k3 : (v == 0) = b3) (k4 : decide (v > 9223372036854775807) = b4) (k5 : (ob == 1) = b5)
    (hR : R = if b1 || b2 || b3 || b4 then .tuple #[.int .u64 0, .bool false, .bool false, .int .i64 154] else .tuple #[.int .u64 v, .bool true, .bool b5, .int .i64 0]) (w : World) :
    Calls Try.prog 4 #[.agg #[.int .u64 (l0 n), .int .u64 (l1 n), .int .u64 (l2 n), .int .u64 (l3 n)]] w fun e w' => e = .returned R ∧ Below w.heap.size w w' := by
  have F27 : Hid (∀ w, Calls Try.prog 7 #[.int .u64 27] w fun e w' => e = .returned (.agg #[.int .u64 (l0 27), .int .u64 (l1 27), .int .u64 (l2 27), .int .u64 (l3 27)]) ∧ Below w.heap.size w w') := fun w => from_any ⟨by decide, by decide⟩ w
  have F28 : Hid (∀ w, Calls Try.prog 7 #[.int .u64 28] w fun e w' => e = .returned (.agg #[.int .u64 (l0 28), .int .u64 (l1 28), .int .u64 (l2 28), .int .u64 (l3 28)]) ∧ Below w.heap.size w w') := fun w => from_any ⟨by decide, by decide⟩ w
  have F35 : Hid (∀ w, Calls Try.prog 7 #[.int .u64 35] w fun e w' => e = .returned (.agg #[.int .u64 (l0 35), .int .u64 (l1 35), .int .u64 (l2 35), .int .u64 (l3 35)]) ∧ Below w.heap.size w w') := fun w => from_any ⟨by decide, by decide⟩ w
  have E1 := eq_num hn (show Num 27 from ⟨by decide, by decide⟩)
  have E2 := eq_num hn (show Num 28 from ⟨by decide, by decide⟩)
  rw [decide_eq_false h27] at E1
  rw [decide_eq_false h28] at E2
  have HR := hR
  have HR' : Hid (R = if b1 || b2 || b3 || b4 then .tuple #[.int .u64 0, .bool false, .bool false, .int .i64 154] else .tuple #[.int .u64 v, .bool true, .bool b5, .int .i64 0]) := hR
  clear HR hR h27 h28 hn
  go_enter Try.func4, Try.ntmps4
  go_wp2_with fail
  refine wp_world (fun W => Below w.heap.size w W ∧ NmT W w.heap.size n) ⟨(Below.refl _ _).alloc (Nat.le_refl _) _, NmT.new w n _⟩ ?_
  rintro W ⟨B, hN⟩
  have g0 := fun d os => (hN.grown d os).1
  have g1 := fun d os => (hN.grown d os).2.1
  have g2 := fun d os => (hN.grown d os).2.2.1
  have g3 := fun d os => (hN.grown d os).2.2.2
  refine wp_region_quiet_below (by kernel_rfl) (by kernel_rfl) ?_
  repeat
    first
      | go_big_quiet_skip
      | (go_big_quiet_want; go_big_quiet_op; go_big_quiet_on)
      | (go_big_quiet_want
         go_big_quiet_op
         apply Exists.intro
         refine ⟨fun p => ?_, ?_⟩
         · (first | (go_at_call 7; with_reducible exact Calls.regrown_of (F27.out _)) | (go_at_call 7; with_reducible exact Calls.regrown_of (F28.out _)) | (go_at_call 7; with_reducible exact Calls.regrown_of (F35.out _)))
         go_big_quiet_on)
  refine wpQuiet_nil ?_
  rintro w2 ⟨qq, rfl⟩
  replace B := B.trans ((below_regrown W qq.d qq.os).mono B.size)
  replace hN := hN.grown qq.d qq.os
  generalize grow (redrawn W qq.d) qq.os = W2 at *
  clear g0 g1 g2 g3
  go_wp2_with fail
  refine put_tail (A := ?AA1) 6 (fun V kk => putT V kk d) (by kernel_rfl) (by kernel_rfl) rfl rfl rfl (alloc_num _ _ _) (fun V V0 h0 h1 => below_putT (alloc_below h0 h1) h0.size) (fun V hV => ?HH1) (fun V V0 h0 h1 => ?EE1) (fun V0 V w1 h0 h1 h2 => ?TT1)
  case HH1 =>
    have g0 := fun d os => ((hN.keep hV).grown d os).1
    have g1 := fun d os => ((hN.keep hV).grown d os).2.1
    have g2 := fun d os => ((hN.keep hV).grown d os).2.2.1
    have g3 := fun d os => ((hN.keep hV).grown d os).2.2.2
    unfold Gr
    simp only [List.take_succ_cons, List.take_zero]
    repeat
      first
        | go_big_quiet_skip
        | (go_big_quiet_want; go_big_quiet_op; go_big_quiet_on)
        | (go_big_quiet_want
           go_big_quiet_op
           apply Exists.intro
           refine ⟨fun p => ?_, ?_⟩
           · (first | (go_at_call 7; with_reducible exact Calls.regrown_of (F27.out _)) | (go_at_call 7; with_reducible exact Calls.regrown_of (F28.out _)) | (go_at_call 7; with_reducible exact Calls.regrown_of (F35.out _)) | (go_at_call 8; with_reducible exact Calls.regrown_of (SB.out _)))
           go_big_quiet_on)
    refine wpQuiet_nil ?_
    exact rfl
  case EE1 =>
    obtain ⟨c0, c1, c2, c3⟩ := ((Blank.new rfl).keep h1).1.all4
    obtain ⟨f0, f1, f2, f3⟩ := ((Blank.new rfl).keep h1).2.all4
    unfold putT
    simp [execOp, Act.put, Act.eval, go_sem, c0, c1, c2, c3, f0, f1, f2, f3]
  case TT1 =>
    have hD := (((Blank.new rfl).keep h1).putT d).keep h2
    have hb := alloc_below h0 h1
    have gn : w.heap.size ≤ V0.heap.size := Nat.le_trans B.size h0.size
    have B1 := below_putT (m := d) (B.trans (hb.mono B.size)) gn
    replace B := B1.trans (h2.mono B1.size)
    clear hb h0 h1 h2 B1 gn hN
    generalize V0.heap.size = bz at *
    clear V V0
    simp only [List.drop_succ_cons, List.drop_zero, Act.put, List.setIfInBounds_toArray, List.set_cons_zero, List.set_cons_succ]
    obtain ⟨c0, c1, c2, c3⟩ := hD
    go_wp2_with fail
    with_reducible refine (SH.out _).mono ?_
    rintro e1 w3 ⟨rfl, hb⟩
    go_wp2_with fail
    with_reducible refine (SM.out _).mono ?_
    rintro e2 w4 ⟨rfl, hb2⟩
    replace hb := hb.trans (hb2.mono hb.size)
    replace B := B.trans (hb.mono B.size)
    replace c0 := keepT hb c0; replace c1 := keepT hb c1; replace c2 := keepT hb c2; replace c3 := keepT hb c3
    clear hb hb2
    cases b1
    · cases b2
      · cases b3
        · cases b4
          · go_wp2_with fail
            with_reducible refine (BI.out _).mono ?_
            rintro e3 w5 ⟨rfl, hb⟩
            replace B := B.trans (hb.mono B.size)
            go_wp2
            simp [bodyPost, results, Try.results4, go_sem, HR'.out]
            exact B
          all_goals (go_wp2; simp [bodyPost, results, Try.results4, go_sem, HR'.out]; exact B)
        all_goals (go_wp2; simp [bodyPost, results, Try.results4, go_sem, HR'.out]; exact B)
      all_goals (go_wp2; simp [bodyPost, results, Try.results4, go_sem, HR'.out]; exact B)
    all_goals (go_wp2; simp [bodyPost, results, Try.results4, go_sem, HR'.out]; exact B)
end Go.Proofs.Ytkmkkcnlafbboaa
