import Derived.Test.YtllfmlgnemkklaaDoorAdd
namespace Go.Proofs.YtllfmlgnemkklaaDoor
open Go.RowKit

theorem eq_any (a0 a1 a2 a3 b0 b1 b2 b3 : Int) (w : World) : (Op.equalIn 10000 24 (.agg #[.int .u64 a0, .int .u64 a1, .int .u64 a2, .int .u64 a3]) (.agg #[.int .u64 b0, .int .u64 b1, .int .u64 b2, .int .u64 b3])).run Tryd.prog w = .ok (a0 == b0 && (a1 == b1 && (a2 == b2 && a3 == b3))) w := by
  have tu := Tryd.underlying22
  have ta := Tryd.isAgg22
  have tz := Tryd.sizeOf22
  rw [show (10000 : Nat) = 9999 + 1 from rfl, Op.equalIn]
  simp only [Sem.run_bind, run_underlying Tryd.underlying24, Result.andThen_ok]
  simp only [Std.Legacy.Range.forIn_eq_forIn_range', Std.Legacy.Range.size, Nat.sub_zero, Nat.add_sub_cancel, Nat.div_one, List.range'_succ, List.range'_zero, List.forIn_cons, List.forIn_nil]
  go_simp
  by_cases h1 : a0 = b0 <;> by_cases h2 : a1 = b1 <;> by_cases h3 : a2 = b2 <;> by_cases h4 : a3 = b3 <;> simp [h1, h2, h3, h4]

theorem eq_num {n m : Int} (hn : Num n) (hm : Num m) (w : World) : (Op.equalIn 10000 24 (.agg #[.int .u64 (l0 n), .int .u64 (l1 n), .int .u64 (l2 n), .int .u64 (l3 n)]) (.agg #[.int .u64 (l0 m), .int .u64 (l1 m), .int .u64 (l2 m), .int .u64 (l3 m)])).run Tryd.prog w = .ok (decide (n = m)) w := by
  rw [eq_any]
  congr 1
  by_cases h : n = m
  · subst h; simp
  · have : ¬ (l0 n = l0 m ∧ l1 n = l1 m ∧ l2 n = l2 m ∧ l3 n = l3 m) := fun ⟨a, b, c, d⟩ => h (num_inj hn hm a b c d)
    simp [h]
    intro a b c d
    exact this ⟨a, b, c, d⟩
theorem eq_yes {n : Int} (w : World) : (Op.equalIn 10000 24 (.agg #[.int .u64 (l0 n), .int .u64 (l1 n), .int .u64 (l2 n), .int .u64 (l3 n)]) (.agg #[.int .u64 (l0 n), .int .u64 (l1 n), .int .u64 (l2 n), .int .u64 (l3 n)])).run Tryd.prog w = .ok true w := by
  rw [eq_any]; simp
theorem eq_no {n m : Int} (hn : Num n) (hm : Num m) (h : n ≠ m) (w : World) : (Op.equalIn 10000 24 (.agg #[.int .u64 (l0 n), .int .u64 (l1 n), .int .u64 (l2 n), .int .u64 (l3 n)]) (.agg #[.int .u64 (l0 m), .int .u64 (l1 m), .int .u64 (l2 m), .int .u64 (l3 m)])).run Tryd.prog w = .ok false w := by
  rw [eq_num hn hm]; simp [h]

set_option maxHeartbeats 400000 in
theorem cmp_any {n m : Int} (hn : Num n) (hm : Num m) (w : World) :
    Calls Tryd.prog 50 #[.agg #[.int .u64 (l0 n), .int .u64 (l1 n), .int .u64 (l2 n), .int .u64 (l3 n)], .agg #[.int .u64 (l0 m), .int .u64 (l1 m), .int .u64 (l2 m), .int .u64 (l3 m)]] w fun e w' => e = .returned (.int .i64 (cmpN n m)) ∧ Below w.heap.size w w' := by
  by_cases h : n = m
  · subst h
    have he := eq_yes (n := n)
    rw [show cmpN n n = 0 by simp [cmpN]]
    go_enter Tryd.func50, Tryd.ntmps50
    go_wp2
    go_ret
    refine ⟨rfl, ?_⟩
    repeat (first | with_reducible exact Below.refl _ _ | with_reducible refine Below.drew ?_ | with_reducible refine Below.alloc ?_ (by first | omega | (simp; done) | (simp; omega)) _)
  · have he := eq_no hn hm h
    by_cases hlt : n < m
    · rw [show cmpN n m = -1 by simp [cmpN, h, hlt]]
      have hb : borN n m = 1 := by simp [borN, hlt]
      go_enter Tryd.func50, Tryd.ntmps50
      go_wp2_with (go_at_call 49; refine (sub_any hn hm _).mono ?_; rintro e w' ⟨rfl, hw⟩)
      have hz := hw.size
      simp at hz
      go_ret
      refine ⟨rfl, ?_⟩
      repeat (first | with_reducible exact Below.refl _ _ | with_reducible refine Below.drew ?_ | with_reducible refine Below.alloc ?_ (by first | omega | (simp; done) | (simp; omega)) _ | with_reducible refine Below.trans ?_ (Below.mono hw (by first | omega | (simp; done) | (simp; omega))))
    · rw [show cmpN n m = 1 by simp [cmpN, h, hlt]]
      have hb : borN n m = 0 := by simp [borN, hlt]
      go_enter Tryd.func50, Tryd.ntmps50
      go_wp2_with (go_at_call 49; refine (sub_any hn hm _).mono ?_; rintro e w' ⟨rfl, hw⟩)
      have hz := hw.size
      simp at hz
      go_ret
      refine ⟨rfl, ?_⟩
      repeat (first | with_reducible exact Below.refl _ _ | with_reducible refine Below.drew ?_ | with_reducible refine Below.alloc ?_ (by first | omega | (simp; done) | (simp; omega)) _ | with_reducible refine Below.trans ?_ (Below.mono hw (by first | omega | (simp; done) | (simp; omega))))

end Go.Proofs.YtllfmlgnemkklaaDoor
