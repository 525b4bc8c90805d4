import Derived.Test.YtmegdnalpaddmaaRefCmp
import Derived.Test.YtmegdnalpaddmaaHold
import Derived.Test.YtmegdnalpaddmaaQTail
import Derived.Deep.RegionWith
import Derived.Test.YtmegdnalpaddmaaRefDivs
import Derived.Test.YtmegdnalpaddmaaDivs
namespace Go.Proofs.Ytmegdnalpaddmaa
open Go.RowKit Go.Sort

/-- Is the number of one limb? -/
theorem one_limb {n : Int} (hn : Num n) : (n = l0 n ∧ l1 n = 0 ∧ l2 n = 0 ∧ l3 n = 0) ∨ (n ≠ l0 n ∧ ¬ (l1 n = 0 ∧ l2 n = 0 ∧ l3 n = 0)) := by
  have e := num_l hn
  unfold num at e
  obtain ⟨_, _⟩ := l0_word n; obtain ⟨_, _⟩ := l1_word n; obtain ⟨_, _⟩ := l2_word n; obtain ⟨_, _⟩ := l3_word n
  by_cases c : n = l0 n
  · exact .inl ⟨c, by omega, by omega, by omega⟩
  · exact .inr ⟨c, by omega⟩

theorem small_walk {n : Int} {t : Bool} (he : ∀ w, (Op.equalIn 10000 24 (.agg #[.int .u64 (l0 n), .int .u64 (l1 n), .int .u64 (l2 n), .int .u64 (l3 n)]) (.agg #[.int .u64 (l0 (l0 n)), .int .u64 (l1 (l0 n)), .int .u64 (l2 (l0 n)), .int .u64 (l3 (l0 n))])).run Try.prog w = .ok t w) (w : World) :
    Calls Try.prog 29 #[.agg #[.int .u64 (l0 n), .int .u64 (l1 n), .int .u64 (l2 n), .int .u64 (l3 n)]] w fun e w' => e = .returned (if t = true then .tuple #[.int .u64 (l0 n), .int .i64 0] else .tuple #[.int .u64 0, .int .i64 11]) ∧ Below w.heap.size w w' := by
  have wl := l0_word n
  cases t
  · rw [if_neg (by decide)]
    go_enter Try.func29, Try.ntmps29
    go_wp2_with fail
    refine wp_world (fun W => Below w.heap.size w W ∧ Hold W w.heap.size n) ⟨?_, ?_⟩ ?_
    · repeat (first | with_reducible exact Below.refl _ _ | with_reducible refine Below.alloc ?_ (by first | omega | (simp; done) | (simp; omega)) _)
    · have := Hold.new w n 24
      (try simp at this)
      exact this
    rintro W ⟨B, hX⟩
    have ghX := hX.grown
    refine wp_region_quiet_below (by kernel_rfl) (by kernel_rfl) ?_
    repeat
      first
        | go_big_quiet_skip
        | (go_big_quiet_want; go_big_quiet_op; go_big_quiet_on)
        | (go_big_quiet_want
           go_big_quiet_op
           apply Exists.intro
           refine ⟨fun p => ?_, ?_⟩
           · (first | (go_at_call 25; exact Calls.regrown_of (from_any wl _)))
           go_big_quiet_on)
    refine wpQuiet_nil ?_
    rintro w1 ⟨p, rfl⟩
    have hb := below_regrown W p.d p.os
    generalize grow (redrawn W p.d) p.os = w1 at *
    replace B := B.trans (hb.mono B.size)
    replace hX := hX.keep hb
    clear hb W ghX
    have ghX := hX.cells
    go_wp2
    repeat (go_region; go_wp2)
    simp [bodyPost, results, Try.results29, go_sem]
    repeat (first | with_reducible exact B | with_reducible refine Below.drew ?_)
  · rw [if_pos rfl]
    go_enter Try.func29, Try.ntmps29
    go_wp2_with fail
    refine wp_world (fun W => Below w.heap.size w W ∧ Hold W w.heap.size n) ⟨?_, ?_⟩ ?_
    · repeat (first | with_reducible exact Below.refl _ _ | with_reducible refine Below.alloc ?_ (by first | omega | (simp; done) | (simp; omega)) _)
    · have := Hold.new w n 24
      (try simp at this)
      exact this
    rintro W ⟨B, hX⟩
    have ghX := hX.grown
    refine wp_region_quiet_below (by kernel_rfl) (by kernel_rfl) ?_
    repeat
      first
        | go_big_quiet_skip
        | (go_big_quiet_want; go_big_quiet_op; go_big_quiet_on)
        | (go_big_quiet_want
           go_big_quiet_op
           apply Exists.intro
           refine ⟨fun p => ?_, ?_⟩
           · (first | (go_at_call 25; exact Calls.regrown_of (from_any wl _)))
           go_big_quiet_on)
    refine wpQuiet_nil ?_
    rintro w1 ⟨p, rfl⟩
    have hb := below_regrown W p.d p.os
    generalize grow (redrawn W p.d) p.os = w1 at *
    replace B := B.trans (hb.mono B.size)
    replace hX := hX.keep hb
    clear hb W ghX
    have ghX := hX.cells
    go_wp2
    repeat (go_region; go_wp2)
    simp [bodyPost, results, Try.results29, go_sem]
    repeat (first | with_reducible exact B | with_reducible refine Below.drew ?_)

set_option maxHeartbeats 1000000 in
theorem rsmall_limbs {x0 x1 x2 x3 : Int} (w : World) :
    Calls Try.prog 36 #[.agg #[.int .u64 x0, .int .u64 x1, .int .u64 x2, .int .u64 x3]] w fun e w' => e = .returned (if x1 = 0 ∧ x2 = 0 ∧ x3 = 0 then .tuple #[.int .u64 x0, .int .i64 0] else .tuple #[.int .u64 0, .int .i64 11]) ∧ Below w.heap.size w w' := by
  by_cases h1 : x1 = 0
  · by_cases h2 : x2 = 0
    · by_cases h3 : x3 = 0
      · subst h1 h2 h3
        rw [if_pos ⟨rfl, rfl, rfl⟩]
        go_enter Try.func36, Try.ntmps36
        go_wp2
        repeat (go_region; go_wp2)
        simp [bodyPost, results, Try.results36, go_sem]
        repeat (first | with_reducible exact Below.refl _ _ | with_reducible refine Below.drew ?_ | with_reducible refine Below.alloc ?_ (by first | omega | (simp; done) | (simp; omega)) _)
      · rw [if_neg (fun h => h3 h.2.2)]
        have b3 : (x3 != 0) = true := by simp [h3]
        subst h1 h2
        go_enter Try.func36, Try.ntmps36
        go_wp2
        repeat (go_region; go_wp2)
        simp [bodyPost, results, Try.results36, go_sem]
        repeat (first | with_reducible exact Below.refl _ _ | with_reducible refine Below.drew ?_ | with_reducible refine Below.alloc ?_ (by first | omega | (simp; done) | (simp; omega)) _)
    · rw [if_neg (fun h => h2 h.2.1)]
      have b2 : (x2 != 0) = true := by simp [h2]
      subst h1
      go_enter Try.func36, Try.ntmps36
      go_wp2
      repeat (go_region; go_wp2)
      simp [bodyPost, results, Try.results36, go_sem]
      repeat (first | with_reducible exact Below.refl _ _ | with_reducible refine Below.drew ?_ | with_reducible refine Below.alloc ?_ (by first | omega | (simp; done) | (simp; omega)) _)
  · rw [if_neg (fun h => h1 h.1)]
    have b1 : (x1 != 0) = true := by simp [h1]
    go_enter Try.func36, Try.ntmps36
    go_wp2
    repeat (go_region; go_wp2)
    simp [bodyPost, results, Try.results36, go_sem]
    repeat (first | with_reducible exact Below.refl _ _ | with_reducible refine Below.drew ?_ | with_reducible refine Below.alloc ?_ (by first | omega | (simp; done) | (simp; omega)) _)

theorem smalls {n : Int} (hn : Num n) : ∃ v e : Int, (∀ w, Calls Try.prog 29 #[.agg #[.int .u64 (l0 n), .int .u64 (l1 n), .int .u64 (l2 n), .int .u64 (l3 n)]] w fun e' w' => e' = .returned (.tuple #[.int .u64 v, .int .i64 e]) ∧ Below w.heap.size w w') ∧ (∀ w, Calls Try.prog 36 #[.agg #[.int .u64 (l0 n), .int .u64 (l1 n), .int .u64 (l2 n), .int .u64 (l3 n)]] w fun e' w' => e' = .returned (.tuple #[.int .u64 v, .int .i64 e]) ∧ Below w.heap.size w w') := by
  rcases one_limb hn with ⟨e, h⟩ | ⟨e, h⟩
  · refine ⟨l0 n, 0, fun w => ?_, fun w => ?_⟩
    · have wl := l0_word n
      have := small_walk (t := true) (fun w => by have := eq_num hn (show Num (l0 n) from ⟨wl.1, by have := wl.2; omega⟩) w; rw [decide_eq_true e] at this; exact this) w
      rw [if_pos rfl] at this; exact this
    · have := rsmall_limbs (x0 := l0 n) (x1 := l1 n) (x2 := l2 n) (x3 := l3 n) w
      rw [if_pos h] at this; exact this
  · refine ⟨0, 11, fun w => ?_, fun w => ?_⟩
    · have wl := l0_word n
      have := small_walk (t := false) (fun w => eq_no hn ⟨wl.1, by have := wl.2; omega⟩ e w) w
      rw [if_neg (by decide)] at this; exact this
    · have := rsmall_limbs (x0 := l0 n) (x1 := l1 n) (x2 := l2 n) (x3 := l3 n) w
      rw [if_neg h] at this; exact this

end Go.Proofs.Ytmegdnalpaddmaa

namespace Go.Proofs.Ytmegdnalpaddmaa
open Go.RowKit Go.Sort

end Go.Proofs.Ytmegdnalpaddmaa
