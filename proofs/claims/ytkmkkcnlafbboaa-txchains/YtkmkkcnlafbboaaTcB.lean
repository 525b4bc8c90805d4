import Derived.Test.YtkmkkcnlafbboaaTcA
/- Layer 15: the document's Chain. -/
namespace Go.Proofs.Ytkmkkcnlafbboaa
open Go.RowKit Go.Sort
theorem lit4 (k : Int) (h0 : 0 ≤ k) (h1 : k < 100) : l0 k = k ∧ l1 k = 0 ∧ l2 k = 0 ∧ l3 k = 0 := by
  unfold l0 l1 l2 l3
  refine ⟨?_, ?_, ?_, ?_⟩ <;> omega
theorem eqT {n : Int} (hn : Num n) (k : Int) (h0 : 0 ≤ k) (h1 : k < 100) (w : World) : (Op.equalIn 10000 24 (.agg #[.int .u64 (l0 n), .int .u64 (l1 n), .int .u64 (l2 n), .int .u64 (l3 n)]) (.agg #[.int .u64 k, .int .u64 0, .int .u64 0, .int .u64 0])).run Try.prog w = .ok (decide (n = k)) w := by
  have h := eq_num hn (show Num k from ⟨h0, by omega⟩) w
  obtain ⟨a, b, c, d⟩ := lit4 k h0 h1
  rw [a, b, c, d] at h
  exact h
set_option maxRecDepth 100000 in
set_option maxHeartbeats 4000000 in
theorem rchain_near {n : Int} {q : Bool} (hq : n = 27 ∨ n = 28) (hn : Num n) (e : q = !decide (n = 27)) (w : World) :
    Calls Try.prog 5 #[.agg #[.int .u64 (l0 n), .int .u64 (l1 n), .int .u64 (l2 n), .int .u64 (l3 n)]] w fun e w' => e = .returned (.tuple #[.int .u64 0, .bool false, .bool q, .int .i64 0]) ∧ Below w.heap.size w w' := by
  have E1 := eqT hn 27 (by decide) (by decide)
  have E2 := eqT hn 28 (by decide) (by decide)
  have D1 : decide (n = 27) = !q := by rw [e]; simp
  have D2 : decide (n = 28) = q := by rw [e]; rcases hq with rfl | rfl <;> decide
  rw [D1] at E1
  rw [D2] at E2
  clear D1 D2 e hq hn
  go_enter Try.func5, Try.ntmps5
  cases q
  all_goals
    go_wp2
    simp [bodyPost, results, Try.results5, go_sem]
    exact (Below.refl _ _).alloc (Nat.le_refl _) _
set_option maxRecDepth 100000 in
set_option maxHeartbeats 4000000 in
theorem rchain_far {n d bo s v e : Int} {R : Value} (h27 : n ≠ 27) (h28 : n ≠ 28) (hn : Num n)
    (SB : Hid (∀ w, Calls Try.prog 12 #[.agg #[.int .u64 (l0 n), .int .u64 (l1 n), .int .u64 (l2 n), .int .u64 (l3 n)], .agg #[.int .u64 35, .int .u64 0, .int .u64 0, .int .u64 0]] w fun e w' => e = .returned (.tuple #[.agg #[.int .u64 (l0 d), .int .u64 (l1 d), .int .u64 (l2 d), .int .u64 (l3 d)], .int .u64 bo]) ∧ Below w.heap.size w w'))
    (SH : Hid (∀ w, Calls Try.prog 14 #[.agg #[.int .u64 (l0 d), .int .u64 (l1 d), .int .u64 (l2 d), .int .u64 (l3 d)], .int .i64 1] w fun e w' => e = .returned (.agg #[.int .u64 (l0 s), .int .u64 (l1 s), .int .u64 (l2 s), .int .u64 (l3 s)]) ∧ Below w.heap.size w w'))
    (SM : Hid (∀ w, Calls Try.prog 13 #[.agg #[.int .u64 (l0 s), .int .u64 (l1 s), .int .u64 (l2 s), .int .u64 (l3 s)]] w fun e' w' => e' = .returned (.tuple #[.int .u64 v, .int .i64 e]) ∧ Below w.heap.size w w'))
    {b1 b2 b3 b4 b5 : Bool} (k1 : (bo == 1) = b1) (k2 : (e != 0) = b2) (k3 : decide (v < 1) = b3) (k4 : decide (v > 9223372036854775807) = b4) (l0d : 0 ≤ l0 d) (k5 : (l0 d % 2 == 1) = b5)
    (hR : R = if b1 || b2 || b3 || b4 then .tuple #[.int .u64 0, .bool false, .bool false, .int .i64 154] else .tuple #[.int .u64 v, .bool true, .bool b5, .int .i64 0]) (w : World) :
    Calls Try.prog 5 #[.agg #[.int .u64 (l0 n), .int .u64 (l1 n), .int .u64 (l2 n), .int .u64 (l3 n)]] w fun e w' => e = .returned R ∧ Below w.heap.size w w' := by
  have E1 := eqT hn 27 (by decide) (by decide)
  have E2 := eqT hn 28 (by decide) (by decide)
  rw [decide_eq_false h27] at E1
  rw [decide_eq_false h28] at E2
  have HR : Hid (R = if b1 || b2 || b3 || b4 then .tuple #[.int .u64 0, .bool false, .bool false, .int .i64 154] else .tuple #[.int .u64 v, .bool true, .bool b5, .int .i64 0]) := hR
  clear hR h27 h28 hn
  go_enter Try.func5, Try.ntmps5
  have BA : ∀ ob, Below w.heap.size w (w.alloc ob) := fun ob => (Below.refl _ _).alloc (Nat.le_refl _) ob
  go_wp2_with fail
  with_reducible refine (SB.out _).mono ?_
  rintro e1 w3 ⟨rfl, hb⟩
  have B := (BA _).trans (hb.mono (BA _).size)
  clear hb BA
  cases b1
  · go_wp2_with fail
    refine calls_world (fun W => Below w.heap.size w W ∧ NmT W w3.heap.size d) ⟨?_, ?_⟩ ?_
    · repeat (first | with_reducible exact B | with_reducible refine Below.setCell ?_ B.size _ | with_reducible refine Below.alloc ?_ B.size _)
    · refine ⟨?_, ?_, ?_, ?_⟩ <;> simp [go_sem]
    rintro W4 ⟨B4, hD⟩
    clear B
    with_reducible refine (SH.out _).mono ?_
    rintro e1 w5 ⟨rfl, hb⟩
    go_wp2_with fail
    with_reducible refine (SM.out _).mono ?_
    rintro e2 w6 ⟨rfl, hb2⟩
    replace hb := hb.trans (hb2.mono hb.size)
    replace B4 := B4.trans (hb.mono B4.size)
    clear hb hb2 hD
    cases b2
    · cases b3
      · cases b4
        all_goals (go_wp2; simp [bodyPost, results, Try.results5, go_sem, HR.out]; exact B4)
      all_goals (go_wp2; simp [bodyPost, results, Try.results5, go_sem, HR.out]; exact B4)
    all_goals (go_wp2; simp [bodyPost, results, Try.results5, go_sem, HR.out]; exact B4)
  · go_wp2
    simp [bodyPost, results, Try.results5, go_sem, HR.out]
    repeat (first | with_reducible exact B | with_reducible refine Below.setCell ?_ B.size _ | with_reducible refine Below.alloc ?_ B.size _)
theorem tnum_any (v : Int) (w : World) : Calls Try.prog 6 #[.int .i64 v] w fun e w' => e = .returned (.int .i64 v) ∧ Below w.heap.size w w' := by
  go_enter Try.func6, Try.ntmps6
  go_wp2
  simp [bodyPost, results, Try.results6, go_sem]
  repeat (first | with_reducible exact Below.refl _ _ | with_reducible refine Below.drew ?_ | with_reducible refine Below.alloc ?_ (by first | omega | (simp; done) | (simp; omega)) _)
theorem smallsT {n : Int} (hn : Num n) : ∃ v e : Int, 0 ≤ v ∧ (∀ w, Calls Try.prog 9 #[.agg #[.int .u64 (l0 n), .int .u64 (l1 n), .int .u64 (l2 n), .int .u64 (l3 n)]] w fun e' w' => e' = .returned (.tuple #[.int .u64 v, .int .i64 e]) ∧ Below w.heap.size w w') ∧ (∀ w, Calls Try.prog 13 #[.agg #[.int .u64 (l0 n), .int .u64 (l1 n), .int .u64 (l2 n), .int .u64 (l3 n)]] w fun e' w' => e' = .returned (.tuple #[.int .u64 v, .int .i64 e]) ∧ Below w.heap.size w w') := by
  rcases one_limb hn with ⟨e, h⟩ | ⟨e, h⟩
  · refine ⟨l0 n, 0, (l0_word n).1, fun w => ?_, fun w => ?_⟩
    · have wl := l0_word n
      have := small_walk (t := true) (fun w => by have := eq_num hn (show Num (l0 n) from ⟨wl.1, by have := wl.2; omega⟩) w; rw [decide_eq_true e] at this; exact this) w
      rw [if_pos rfl] at this; exact this
    · have := rsmall_limbs (x0 := l0 n) (x1 := l1 n) (x2 := l2 n) (x3 := l3 n) w
      rw [if_pos h] at this; exact this
  · refine ⟨0, 11, by decide, fun w => ?_, fun w => ?_⟩
    · have wl := l0_word n
      have := small_walk (t := false) (fun w => eq_no hn ⟨wl.1, by have := wl.2; omega⟩ e w) w
      rw [if_neg (by decide)] at this; exact this
    · have := rsmall_limbs (x0 := l0 n) (x1 := l1 n) (x2 := l2 n) (x3 := l3 n) w
      rw [if_neg h] at this; exact this
/-- Both answer the same. -/
theorem chain_both {n : Int} (hn : Num n) : ∃ (c : Int) (a b : Bool) (e : Int), (∀ w, Calls Try.prog 4 #[.agg #[.int .u64 (l0 n), .int .u64 (l1 n), .int .u64 (l2 n), .int .u64 (l3 n)]] w fun e' w' => e' = .returned (.tuple #[.int .u64 c, .bool a, .bool b, .int .i64 e]) ∧ Below w.heap.size w w') ∧ (∀ w, Calls Try.prog 5 #[.agg #[.int .u64 (l0 n), .int .u64 (l1 n), .int .u64 (l2 n), .int .u64 (l3 n)]] w fun e' w' => e' = .returned (.tuple #[.int .u64 c, .bool a, .bool b, .int .i64 e]) ∧ Below w.heap.size w w') := by
  by_cases h : n = 27 ∨ n = 28
  · exact ⟨0, false, !decide (n = 27), 0, fun w => chain_near h hn rfl w, fun w => rchain_near h hn rfl w⟩
  have h27 : n ≠ 27 := fun x => h (.inl x)
  have h28 : n ≠ 28 := fun x => h (.inr x)
  have n35 : Num 35 := ⟨by decide, by decide⟩
  have nd : Num (difN n 35) := by unfold difN; constructor <;> omega
  have ns : Num (shrN (difN n 35) 1) := by
    have := nd.1
    have := nd.2
    unfold shrN
    rw [if_neg (by decide), if_neg (by decide)]
    unfold downN
    simp
    constructor <;> omega
  obtain ⟨v, e, v0, S1, S2⟩ := smallsT ns
  have bb : bitN (difN n 35) 0 = l0 (difN n 35) % 2 := by
    unfold bitN l0
    rw [if_neg (by decide)]
    have : (difN n 35) / 2 ^ (0 : Int).toNat = difN n 35 := by simp
    rw [this]
    omega
  have d0 := l0_word (difN n 35)
  have K := fun {R : Value} hR => chain_far (R := R) (b1 := (borN n 35 != 0)) (b2 := (e != 0)) (b3 := (v == 0)) (b4 := decide (v > 9223372036854775807)) (b5 := (bitN (difN n 35) 0 == 1)) h27 h28 hn (fun w => sub_any hn n35 w) (fun w => shr_any nd w) (fun w => S1 w) (fun w => bit_any nd w) rfl rfl rfl rfl rfl hR
  have SR := fun w => rsub_any hn n35 w
  obtain ⟨z0, z1, z2, z3⟩ := lit4 35 (by decide) (by decide)
  rw [z0, z1, z2, z3] at SR
  have k1 : (borN n 35 == 1) = (borN n 35 != 0) := by unfold borN; split <;> decide
  have k3 : decide (v < 1) = (v == 0) := by
    by_cases q : v = 0
    · rw [q]; decide
    · rw [beq_false_of_ne q]; exact decide_eq_false (by omega)
  have K2 := fun {R : Value} hR => rchain_far (R := R) (b1 := (borN n 35 != 0)) (b2 := (e != 0)) (b3 := (v == 0)) (b4 := decide (v > 9223372036854775807)) (b5 := (bitN (difN n 35) 0 == 1)) h27 h28 hn SR (fun w => rshr_any nd w) (fun w => S2 w) k1 rfl k3 rfl d0.1 (by rw [bb]) hR
  by_cases hb : ((borN n 35 != 0) || (e != 0) || (v == 0) || decide (v > 9223372036854775807)) = true
  · exact ⟨0, false, false, 154, K (by rw [if_pos hb]), K2 (by rw [if_pos hb])⟩
  · exact ⟨v, true, _, 0, K (by rw [if_neg hb]), K2 (by rw [if_neg hb])⟩
set_option maxRecDepth 100000 in
set_option maxHeartbeats 4000000 in
theorem chains_any {n : Int} (hn : Num n) (w : World) :
    Calls Try.prog 3 #[.agg #[.int .u64 (l0 n), .int .u64 (l1 n), .int .u64 (l2 n), .int .u64 (l3 n)]] w fun e w' => e = .returned (.bool true) ∧ Below w.heap.size w w' := by
  obtain ⟨c, a, b, e, P, R⟩ := chain_both hn
  have HP : Hid (∀ w, Calls Try.prog 4 #[.agg #[.int .u64 (l0 n), .int .u64 (l1 n), .int .u64 (l2 n), .int .u64 (l3 n)]] w fun e' w' => e' = .returned (.tuple #[.int .u64 c, .bool a, .bool b, .int .i64 e]) ∧ Below w.heap.size w w') := P
  have HR : Hid (∀ w, Calls Try.prog 5 #[.agg #[.int .u64 (l0 n), .int .u64 (l1 n), .int .u64 (l2 n), .int .u64 (l3 n)]] w fun e' w' => e' = .returned (.tuple #[.int .u64 c, .bool a, .bool b, .int .i64 e]) ∧ Below w.heap.size w w') := R
  clear P R hn
  have BA : ∀ ob, Below w.heap.size w (w.alloc ob) := fun ob => (Below.refl _ _).alloc (Nat.le_refl _) ob
  have CN := NmT.new w n
  go_enter Try.func3, Try.ntmps3
  go_wp2_with fail
  with_reducible refine (HP.out _).mono ?_
  rintro e1 w3 ⟨rfl, hb⟩
  obtain ⟨c0, c1, c2, c3⟩ := (CN _).keep hb
  have B := (BA _).trans (hb.mono (BA _).size)
  clear hb BA CN
  go_wp2_with fail
  with_reducible refine (HR.out _).mono ?_
  rintro e1 w4 ⟨rfl, hb⟩
  replace B := B.trans (hb.mono B.size)
  clear hb c0 c1 c2 c3
  go_wp2_with fail
  with_reducible refine (tnum_any _ _).mono ?_
  rintro e1 w5 ⟨rfl, hb⟩
  replace B := B.trans (hb.mono B.size)
  go_wp2
  simp [bodyPost, results, Try.results3, go_sem]
  exact B
end Go.Proofs.Ytkmkkcnlafbboaa
