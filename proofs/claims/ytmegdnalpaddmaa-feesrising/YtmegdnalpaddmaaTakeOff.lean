import Derived.Test.YtmegdnalpaddmaaSets
import Derived.Test.YtmegdnalpaddmaaLeaf
import Derived.LoopN
import Derived.BigRegion
namespace Go.Proofs.Ytmegdnalpaddmaa
open Go.RowKit

set_option maxHeartbeats 2000000 in
theorem takeOff_1 {u0 u1 d0 q : Int} (hu0 : Word u0) (hu1 : Word u1) (hd0 : Word d0) (hq : Word q) {bu bd o ku kd : Nat} (ne : bu ≠ bd) (w : World) (cu0 : w.cell? ⟨bu, o, none⟩ = some (.int .u64 u0)) (cu1 : w.cell? ⟨bu, o + 1, none⟩ = some (.int .u64 u1)) (cd0 : w.cell? ⟨bd, 0, none⟩ = some (.int .u64 d0)) (fu0 : w.frozen? ⟨bu, o, none⟩ = false) (fu1 : w.frozen? ⟨bu, o + 1, none⟩ = false) :
    Calls Try.prog 59 #[.slice (some ⟨bu, o, none⟩) 2 ku, .slice (some ⟨bd, 0, none⟩) 1 kd, .int .u64 q] w fun e w' => e = .returned (.int .u64 (takeL [u0, u1] [d0] q 0 0).2) ∧ Sets bu o (takeL [u0, u1] [d0] q 0 0).1 w w' := by
  have z : Word 0 := ⟨by decide, by decide⟩
  have ne' := Ne.symm ne
  have M0 : Hid (∀ w, Calls Try.prog 39 #[.int .u64 d0, .int .u64 q, .int .u64 0, .int .u64 0] w fun e w' => e = .returned (.tuple #[.int .u64 (maH d0 q 0 0), .int .u64 (maL d0 q 0 0)]) ∧ w' = w) := mulAdd_any hd0 hq z z
  have wl0 := maL_word d0 q 0 0
  have wh0 := maH_word hd0 hq z z
  have s0 := sub64 hu0 wl0 (by decide : (0 : Int) ≤ 0 ∧ (0 : Int) ≤ 1)
  have sb0 := subB_bit u0 (maL d0 q 0 0) 0
  have s1 := sub64 hu1 wh0 sb0
  clear z wl0 wh0 sb0
  go_enter Try.func59, Try.ntmps59
  go_wp2
  refine wp_loop_rounds 2 ?_
  rw [rounds_succ]
  go_wp2_with (go_at_call 39; refine (M0.out _).mono ?_; rintro e w' ⟨rfl, rfl⟩)
  rw [rounds_succ]
  go_wp2
  go_ret
  exact ⟨rfl, ((((Sets.start bu o _).snoc cu0 _ (o) rfl)).snoc cu1 _ (o + 1) rfl)⟩

set_option maxHeartbeats 2000000 in
theorem giveBack_1 {u0 u1 d0 : Int} (hu0 : Word u0) (hu1 : Word u1) (hd0 : Word d0) {bu bd o ku kd : Nat} (ne : bu ≠ bd) (w : World) (cu0 : w.cell? ⟨bu, o, none⟩ = some (.int .u64 u0)) (cu1 : w.cell? ⟨bu, o + 1, none⟩ = some (.int .u64 u1)) (cd0 : w.cell? ⟨bd, 0, none⟩ = some (.int .u64 d0)) (fu0 : w.frozen? ⟨bu, o, none⟩ = false) (fu1 : w.frozen? ⟨bu, o + 1, none⟩ = false) :
    Calls Try.prog 60 #[.slice (some ⟨bu, o, none⟩) 2 ku, .slice (some ⟨bd, 0, none⟩) 1 kd] w fun e w' => e = .returned (.int .u64 (giveL [u0, u1] [d0] 0).2) ∧ Sets bu o (giveL [u0, u1] [d0] 0).1 w w' := by
  have z : Word 0 := ⟨by decide, by decide⟩
  have ne' := Ne.symm ne
  have s0 := add64 hu0 hd0 (by decide : (0 : Int) ≤ 0 ∧ (0 : Int) ≤ 1)
  have sb0 := addC_bit hu0 hd0 (by decide : (0 : Int) ≤ 0 ∧ (0 : Int) ≤ 1)
  have s1 := add64 hu1 z sb0
  clear z sb0
  go_enter Try.func60, Try.ntmps60
  go_wp2
  refine wp_loop_rounds 2 ?_
  rw [rounds_succ]; go_wp2; go_region; go_wp2
  rw [rounds_succ]
  go_wp2
  go_ret
  refine ⟨rfl, ?_⟩
  repeat refine Sets.drew ?_
  exact ((((Sets.start bu o _).snoc cu0 _ (o) rfl)).snoc cu1 _ (o + 1) rfl)

set_option maxHeartbeats 2000000 in
theorem takeOff_2 {u0 u1 u2 d0 d1 q : Int} (hu0 : Word u0) (hu1 : Word u1) (hu2 : Word u2) (hd0 : Word d0) (hd1 : Word d1) (hq : Word q) {bu bd o ku kd : Nat} (ne : bu ≠ bd) (w : World) (cu0 : w.cell? ⟨bu, o, none⟩ = some (.int .u64 u0)) (cu1 : w.cell? ⟨bu, o + 1, none⟩ = some (.int .u64 u1)) (cu2 : w.cell? ⟨bu, o + 2, none⟩ = some (.int .u64 u2)) (cd0 : w.cell? ⟨bd, 0, none⟩ = some (.int .u64 d0)) (cd1 : w.cell? ⟨bd, 1, none⟩ = some (.int .u64 d1)) (fu0 : w.frozen? ⟨bu, o, none⟩ = false) (fu1 : w.frozen? ⟨bu, o + 1, none⟩ = false) (fu2 : w.frozen? ⟨bu, o + 2, none⟩ = false) :
    Calls Try.prog 59 #[.slice (some ⟨bu, o, none⟩) 3 ku, .slice (some ⟨bd, 0, none⟩) 2 kd, .int .u64 q] w fun e w' => e = .returned (.int .u64 (takeL [u0, u1, u2] [d0, d1] q 0 0).2) ∧ Sets bu o (takeL [u0, u1, u2] [d0, d1] q 0 0).1 w w' := by
  have z : Word 0 := ⟨by decide, by decide⟩
  have ne' := Ne.symm ne
  have M0 : Hid (∀ w, Calls Try.prog 39 #[.int .u64 d0, .int .u64 q, .int .u64 0, .int .u64 0] w fun e w' => e = .returned (.tuple #[.int .u64 (maH d0 q 0 0), .int .u64 (maL d0 q 0 0)]) ∧ w' = w) := mulAdd_any hd0 hq z z
  have wl0 := maL_word d0 q 0 0
  have wh0 := maH_word hd0 hq z z
  have s0 := sub64 hu0 wl0 (by decide : (0 : Int) ≤ 0 ∧ (0 : Int) ≤ 1)
  have sb0 := subB_bit u0 (maL d0 q 0 0) 0
  have M1 : Hid (∀ w, Calls Try.prog 39 #[.int .u64 d1, .int .u64 q, .int .u64 (maH d0 q 0 0), .int .u64 0] w fun e w' => e = .returned (.tuple #[.int .u64 (maH d1 q (maH d0 q 0 0) 0), .int .u64 (maL d1 q (maH d0 q 0 0) 0)]) ∧ w' = w) := mulAdd_any hd1 hq wh0 z
  have wl1 := maL_word d1 q (maH d0 q 0 0) 0
  have wh1 := maH_word hd1 hq wh0 z
  have s1 := sub64 hu1 wl1 sb0
  have sb1 := subB_bit u1 (maL d1 q (maH d0 q 0 0) 0) (subB u0 (maL d0 q 0 0) 0)
  have s2 := sub64 hu2 wh1 sb1
  clear z wl0 wh0 sb0 wl1 wh1 sb1
  go_enter Try.func59, Try.ntmps59
  go_wp2
  refine wp_loop_rounds 3 ?_
  rw [rounds_succ]
  go_wp2_with (go_at_call 39; refine (M0.out _).mono ?_; rintro e w' ⟨rfl, rfl⟩)
  rw [rounds_succ]
  go_wp2_with (go_at_call 39; refine (M1.out _).mono ?_; rintro e w' ⟨rfl, rfl⟩)
  rw [rounds_succ]
  go_wp2
  go_ret
  exact ⟨rfl, ((((((Sets.start bu o _).snoc cu0 _ (o) rfl)).snoc cu1 _ (o + 1) rfl)).snoc cu2 _ (o + 2) rfl)⟩

set_option maxHeartbeats 2000000 in
theorem giveBack_2 {u0 u1 u2 d0 d1 : Int} (hu0 : Word u0) (hu1 : Word u1) (hu2 : Word u2) (hd0 : Word d0) (hd1 : Word d1) {bu bd o ku kd : Nat} (ne : bu ≠ bd) (w : World) (cu0 : w.cell? ⟨bu, o, none⟩ = some (.int .u64 u0)) (cu1 : w.cell? ⟨bu, o + 1, none⟩ = some (.int .u64 u1)) (cu2 : w.cell? ⟨bu, o + 2, none⟩ = some (.int .u64 u2)) (cd0 : w.cell? ⟨bd, 0, none⟩ = some (.int .u64 d0)) (cd1 : w.cell? ⟨bd, 1, none⟩ = some (.int .u64 d1)) (fu0 : w.frozen? ⟨bu, o, none⟩ = false) (fu1 : w.frozen? ⟨bu, o + 1, none⟩ = false) (fu2 : w.frozen? ⟨bu, o + 2, none⟩ = false) :
    Calls Try.prog 60 #[.slice (some ⟨bu, o, none⟩) 3 ku, .slice (some ⟨bd, 0, none⟩) 2 kd] w fun e w' => e = .returned (.int .u64 (giveL [u0, u1, u2] [d0, d1] 0).2) ∧ Sets bu o (giveL [u0, u1, u2] [d0, d1] 0).1 w w' := by
  have z : Word 0 := ⟨by decide, by decide⟩
  have ne' := Ne.symm ne
  have s0 := add64 hu0 hd0 (by decide : (0 : Int) ≤ 0 ∧ (0 : Int) ≤ 1)
  have sb0 := addC_bit hu0 hd0 (by decide : (0 : Int) ≤ 0 ∧ (0 : Int) ≤ 1)
  have s1 := add64 hu1 hd1 sb0
  have sb1 := addC_bit hu1 hd1 sb0
  have s2 := add64 hu2 z sb1
  clear z sb0 sb1
  go_enter Try.func60, Try.ntmps60
  go_wp2
  refine wp_loop_rounds 3 ?_
  rw [rounds_succ]; go_wp2; go_region; go_wp2
  rw [rounds_succ]; go_wp2; go_region; go_wp2
  rw [rounds_succ]
  go_wp2
  go_ret
  refine ⟨rfl, ?_⟩
  repeat refine Sets.drew ?_
  exact ((((((Sets.start bu o _).snoc cu0 _ (o) rfl)).snoc cu1 _ (o + 1) rfl)).snoc cu2 _ (o + 2) rfl)

set_option maxHeartbeats 2000000 in
theorem takeOff_3 {u0 u1 u2 u3 d0 d1 d2 q : Int} (hu0 : Word u0) (hu1 : Word u1) (hu2 : Word u2) (hu3 : Word u3) (hd0 : Word d0) (hd1 : Word d1) (hd2 : Word d2) (hq : Word q) {bu bd o ku kd : Nat} (ne : bu ≠ bd) (w : World) (cu0 : w.cell? ⟨bu, o, none⟩ = some (.int .u64 u0)) (cu1 : w.cell? ⟨bu, o + 1, none⟩ = some (.int .u64 u1)) (cu2 : w.cell? ⟨bu, o + 2, none⟩ = some (.int .u64 u2)) (cu3 : w.cell? ⟨bu, o + 3, none⟩ = some (.int .u64 u3)) (cd0 : w.cell? ⟨bd, 0, none⟩ = some (.int .u64 d0)) (cd1 : w.cell? ⟨bd, 1, none⟩ = some (.int .u64 d1)) (cd2 : w.cell? ⟨bd, 2, none⟩ = some (.int .u64 d2)) (fu0 : w.frozen? ⟨bu, o, none⟩ = false) (fu1 : w.frozen? ⟨bu, o + 1, none⟩ = false) (fu2 : w.frozen? ⟨bu, o + 2, none⟩ = false) (fu3 : w.frozen? ⟨bu, o + 3, none⟩ = false) :
    Calls Try.prog 59 #[.slice (some ⟨bu, o, none⟩) 4 ku, .slice (some ⟨bd, 0, none⟩) 3 kd, .int .u64 q] w fun e w' => e = .returned (.int .u64 (takeL [u0, u1, u2, u3] [d0, d1, d2] q 0 0).2) ∧ Sets bu o (takeL [u0, u1, u2, u3] [d0, d1, d2] q 0 0).1 w w' := by
  have z : Word 0 := ⟨by decide, by decide⟩
  have ne' := Ne.symm ne
  have M0 : Hid (∀ w, Calls Try.prog 39 #[.int .u64 d0, .int .u64 q, .int .u64 0, .int .u64 0] w fun e w' => e = .returned (.tuple #[.int .u64 (maH d0 q 0 0), .int .u64 (maL d0 q 0 0)]) ∧ w' = w) := mulAdd_any hd0 hq z z
  have wl0 := maL_word d0 q 0 0
  have wh0 := maH_word hd0 hq z z
  have s0 := sub64 hu0 wl0 (by decide : (0 : Int) ≤ 0 ∧ (0 : Int) ≤ 1)
  have sb0 := subB_bit u0 (maL d0 q 0 0) 0
  have M1 : Hid (∀ w, Calls Try.prog 39 #[.int .u64 d1, .int .u64 q, .int .u64 (maH d0 q 0 0), .int .u64 0] w fun e w' => e = .returned (.tuple #[.int .u64 (maH d1 q (maH d0 q 0 0) 0), .int .u64 (maL d1 q (maH d0 q 0 0) 0)]) ∧ w' = w) := mulAdd_any hd1 hq wh0 z
  have wl1 := maL_word d1 q (maH d0 q 0 0) 0
  have wh1 := maH_word hd1 hq wh0 z
  have s1 := sub64 hu1 wl1 sb0
  have sb1 := subB_bit u1 (maL d1 q (maH d0 q 0 0) 0) (subB u0 (maL d0 q 0 0) 0)
  have M2 : Hid (∀ w, Calls Try.prog 39 #[.int .u64 d2, .int .u64 q, .int .u64 (maH d1 q (maH d0 q 0 0) 0), .int .u64 0] w fun e w' => e = .returned (.tuple #[.int .u64 (maH d2 q (maH d1 q (maH d0 q 0 0) 0) 0), .int .u64 (maL d2 q (maH d1 q (maH d0 q 0 0) 0) 0)]) ∧ w' = w) := mulAdd_any hd2 hq wh1 z
  have wl2 := maL_word d2 q (maH d1 q (maH d0 q 0 0) 0) 0
  have wh2 := maH_word hd2 hq wh1 z
  have s2 := sub64 hu2 wl2 sb1
  have sb2 := subB_bit u2 (maL d2 q (maH d1 q (maH d0 q 0 0) 0) 0) (subB u1 (maL d1 q (maH d0 q 0 0) 0) (subB u0 (maL d0 q 0 0) 0))
  have s3 := sub64 hu3 wh2 sb2
  clear z wl0 wh0 sb0 wl1 wh1 sb1 wl2 wh2 sb2
  go_enter Try.func59, Try.ntmps59
  go_wp2
  refine wp_loop_rounds 4 ?_
  rw [rounds_succ]
  go_wp2_with (go_at_call 39; refine (M0.out _).mono ?_; rintro e w' ⟨rfl, rfl⟩)
  rw [rounds_succ]
  go_wp2_with (go_at_call 39; refine (M1.out _).mono ?_; rintro e w' ⟨rfl, rfl⟩)
  rw [rounds_succ]
  go_wp2_with (go_at_call 39; refine (M2.out _).mono ?_; rintro e w' ⟨rfl, rfl⟩)
  rw [rounds_succ]
  go_wp2
  go_ret
  exact ⟨rfl, ((((((((Sets.start bu o _).snoc cu0 _ (o) rfl)).snoc cu1 _ (o + 1) rfl)).snoc cu2 _ (o + 2) rfl)).snoc cu3 _ (o + 3) rfl)⟩

set_option maxHeartbeats 2000000 in
theorem giveBack_3 {u0 u1 u2 u3 d0 d1 d2 : Int} (hu0 : Word u0) (hu1 : Word u1) (hu2 : Word u2) (hu3 : Word u3) (hd0 : Word d0) (hd1 : Word d1) (hd2 : Word d2) {bu bd o ku kd : Nat} (ne : bu ≠ bd) (w : World) (cu0 : w.cell? ⟨bu, o, none⟩ = some (.int .u64 u0)) (cu1 : w.cell? ⟨bu, o + 1, none⟩ = some (.int .u64 u1)) (cu2 : w.cell? ⟨bu, o + 2, none⟩ = some (.int .u64 u2)) (cu3 : w.cell? ⟨bu, o + 3, none⟩ = some (.int .u64 u3)) (cd0 : w.cell? ⟨bd, 0, none⟩ = some (.int .u64 d0)) (cd1 : w.cell? ⟨bd, 1, none⟩ = some (.int .u64 d1)) (cd2 : w.cell? ⟨bd, 2, none⟩ = some (.int .u64 d2)) (fu0 : w.frozen? ⟨bu, o, none⟩ = false) (fu1 : w.frozen? ⟨bu, o + 1, none⟩ = false) (fu2 : w.frozen? ⟨bu, o + 2, none⟩ = false) (fu3 : w.frozen? ⟨bu, o + 3, none⟩ = false) :
    Calls Try.prog 60 #[.slice (some ⟨bu, o, none⟩) 4 ku, .slice (some ⟨bd, 0, none⟩) 3 kd] w fun e w' => e = .returned (.int .u64 (giveL [u0, u1, u2, u3] [d0, d1, d2] 0).2) ∧ Sets bu o (giveL [u0, u1, u2, u3] [d0, d1, d2] 0).1 w w' := by
  have z : Word 0 := ⟨by decide, by decide⟩
  have ne' := Ne.symm ne
  have s0 := add64 hu0 hd0 (by decide : (0 : Int) ≤ 0 ∧ (0 : Int) ≤ 1)
  have sb0 := addC_bit hu0 hd0 (by decide : (0 : Int) ≤ 0 ∧ (0 : Int) ≤ 1)
  have s1 := add64 hu1 hd1 sb0
  have sb1 := addC_bit hu1 hd1 sb0
  have s2 := add64 hu2 hd2 sb1
  have sb2 := addC_bit hu2 hd2 sb1
  have s3 := add64 hu3 z sb2
  clear z sb0 sb1 sb2
  go_enter Try.func60, Try.ntmps60
  go_wp2
  refine wp_loop_rounds 4 ?_
  rw [rounds_succ]; go_wp2; go_region; go_wp2
  rw [rounds_succ]; go_wp2; go_region; go_wp2
  rw [rounds_succ]; go_wp2; go_region; go_wp2
  rw [rounds_succ]
  go_wp2
  go_ret
  refine ⟨rfl, ?_⟩
  repeat refine Sets.drew ?_
  exact ((((((((Sets.start bu o _).snoc cu0 _ (o) rfl)).snoc cu1 _ (o + 1) rfl)).snoc cu2 _ (o + 2) rfl)).snoc cu3 _ (o + 3) rfl)

set_option maxHeartbeats 2000000 in
theorem takeOff_4 {u0 u1 u2 u3 u4 d0 d1 d2 d3 q : Int} (hu0 : Word u0) (hu1 : Word u1) (hu2 : Word u2) (hu3 : Word u3) (hu4 : Word u4) (hd0 : Word d0) (hd1 : Word d1) (hd2 : Word d2) (hd3 : Word d3) (hq : Word q) {bu bd o ku kd : Nat} (ne : bu ≠ bd) (w : World) (cu0 : w.cell? ⟨bu, o, none⟩ = some (.int .u64 u0)) (cu1 : w.cell? ⟨bu, o + 1, none⟩ = some (.int .u64 u1)) (cu2 : w.cell? ⟨bu, o + 2, none⟩ = some (.int .u64 u2)) (cu3 : w.cell? ⟨bu, o + 3, none⟩ = some (.int .u64 u3)) (cu4 : w.cell? ⟨bu, o + 4, none⟩ = some (.int .u64 u4)) (cd0 : w.cell? ⟨bd, 0, none⟩ = some (.int .u64 d0)) (cd1 : w.cell? ⟨bd, 1, none⟩ = some (.int .u64 d1)) (cd2 : w.cell? ⟨bd, 2, none⟩ = some (.int .u64 d2)) (cd3 : w.cell? ⟨bd, 3, none⟩ = some (.int .u64 d3)) (fu0 : w.frozen? ⟨bu, o, none⟩ = false) (fu1 : w.frozen? ⟨bu, o + 1, none⟩ = false) (fu2 : w.frozen? ⟨bu, o + 2, none⟩ = false) (fu3 : w.frozen? ⟨bu, o + 3, none⟩ = false) (fu4 : w.frozen? ⟨bu, o + 4, none⟩ = false) :
    Calls Try.prog 59 #[.slice (some ⟨bu, o, none⟩) 5 ku, .slice (some ⟨bd, 0, none⟩) 4 kd, .int .u64 q] w fun e w' => e = .returned (.int .u64 (takeL [u0, u1, u2, u3, u4] [d0, d1, d2, d3] q 0 0).2) ∧ Sets bu o (takeL [u0, u1, u2, u3, u4] [d0, d1, d2, d3] q 0 0).1 w w' := by
  have z : Word 0 := ⟨by decide, by decide⟩
  have ne' := Ne.symm ne
  have M0 : Hid (∀ w, Calls Try.prog 39 #[.int .u64 d0, .int .u64 q, .int .u64 0, .int .u64 0] w fun e w' => e = .returned (.tuple #[.int .u64 (maH d0 q 0 0), .int .u64 (maL d0 q 0 0)]) ∧ w' = w) := mulAdd_any hd0 hq z z
  have wl0 := maL_word d0 q 0 0
  have wh0 := maH_word hd0 hq z z
  have s0 := sub64 hu0 wl0 (by decide : (0 : Int) ≤ 0 ∧ (0 : Int) ≤ 1)
  have sb0 := subB_bit u0 (maL d0 q 0 0) 0
  have M1 : Hid (∀ w, Calls Try.prog 39 #[.int .u64 d1, .int .u64 q, .int .u64 (maH d0 q 0 0), .int .u64 0] w fun e w' => e = .returned (.tuple #[.int .u64 (maH d1 q (maH d0 q 0 0) 0), .int .u64 (maL d1 q (maH d0 q 0 0) 0)]) ∧ w' = w) := mulAdd_any hd1 hq wh0 z
  have wl1 := maL_word d1 q (maH d0 q 0 0) 0
  have wh1 := maH_word hd1 hq wh0 z
  have s1 := sub64 hu1 wl1 sb0
  have sb1 := subB_bit u1 (maL d1 q (maH d0 q 0 0) 0) (subB u0 (maL d0 q 0 0) 0)
  have M2 : Hid (∀ w, Calls Try.prog 39 #[.int .u64 d2, .int .u64 q, .int .u64 (maH d1 q (maH d0 q 0 0) 0), .int .u64 0] w fun e w' => e = .returned (.tuple #[.int .u64 (maH d2 q (maH d1 q (maH d0 q 0 0) 0) 0), .int .u64 (maL d2 q (maH d1 q (maH d0 q 0 0) 0) 0)]) ∧ w' = w) := mulAdd_any hd2 hq wh1 z
  have wl2 := maL_word d2 q (maH d1 q (maH d0 q 0 0) 0) 0
  have wh2 := maH_word hd2 hq wh1 z
  have s2 := sub64 hu2 wl2 sb1
  have sb2 := subB_bit u2 (maL d2 q (maH d1 q (maH d0 q 0 0) 0) 0) (subB u1 (maL d1 q (maH d0 q 0 0) 0) (subB u0 (maL d0 q 0 0) 0))
  have M3 : Hid (∀ w, Calls Try.prog 39 #[.int .u64 d3, .int .u64 q, .int .u64 (maH d2 q (maH d1 q (maH d0 q 0 0) 0) 0), .int .u64 0] w fun e w' => e = .returned (.tuple #[.int .u64 (maH d3 q (maH d2 q (maH d1 q (maH d0 q 0 0) 0) 0) 0), .int .u64 (maL d3 q (maH d2 q (maH d1 q (maH d0 q 0 0) 0) 0) 0)]) ∧ w' = w) := mulAdd_any hd3 hq wh2 z
  have wl3 := maL_word d3 q (maH d2 q (maH d1 q (maH d0 q 0 0) 0) 0) 0
  have wh3 := maH_word hd3 hq wh2 z
  have s3 := sub64 hu3 wl3 sb2
  have sb3 := subB_bit u3 (maL d3 q (maH d2 q (maH d1 q (maH d0 q 0 0) 0) 0) 0) (subB u2 (maL d2 q (maH d1 q (maH d0 q 0 0) 0) 0) (subB u1 (maL d1 q (maH d0 q 0 0) 0) (subB u0 (maL d0 q 0 0) 0)))
  have s4 := sub64 hu4 wh3 sb3
  clear z wl0 wh0 sb0 wl1 wh1 sb1 wl2 wh2 sb2 wl3 wh3 sb3
  go_enter Try.func59, Try.ntmps59
  go_wp2
  refine wp_loop_rounds 5 ?_
  rw [rounds_succ]
  go_wp2_with (go_at_call 39; refine (M0.out _).mono ?_; rintro e w' ⟨rfl, rfl⟩)
  rw [rounds_succ]
  go_wp2_with (go_at_call 39; refine (M1.out _).mono ?_; rintro e w' ⟨rfl, rfl⟩)
  rw [rounds_succ]
  go_wp2_with (go_at_call 39; refine (M2.out _).mono ?_; rintro e w' ⟨rfl, rfl⟩)
  rw [rounds_succ]
  go_wp2_with (go_at_call 39; refine (M3.out _).mono ?_; rintro e w' ⟨rfl, rfl⟩)
  rw [rounds_succ]
  go_wp2
  go_ret
  exact ⟨rfl, ((((((((((Sets.start bu o _).snoc cu0 _ (o) rfl)).snoc cu1 _ (o + 1) rfl)).snoc cu2 _ (o + 2) rfl)).snoc cu3 _ (o + 3) rfl)).snoc cu4 _ (o + 4) rfl)⟩

set_option maxHeartbeats 2000000 in
theorem giveBack_4 {u0 u1 u2 u3 u4 d0 d1 d2 d3 : Int} (hu0 : Word u0) (hu1 : Word u1) (hu2 : Word u2) (hu3 : Word u3) (hu4 : Word u4) (hd0 : Word d0) (hd1 : Word d1) (hd2 : Word d2) (hd3 : Word d3) {bu bd o ku kd : Nat} (ne : bu ≠ bd) (w : World) (cu0 : w.cell? ⟨bu, o, none⟩ = some (.int .u64 u0)) (cu1 : w.cell? ⟨bu, o + 1, none⟩ = some (.int .u64 u1)) (cu2 : w.cell? ⟨bu, o + 2, none⟩ = some (.int .u64 u2)) (cu3 : w.cell? ⟨bu, o + 3, none⟩ = some (.int .u64 u3)) (cu4 : w.cell? ⟨bu, o + 4, none⟩ = some (.int .u64 u4)) (cd0 : w.cell? ⟨bd, 0, none⟩ = some (.int .u64 d0)) (cd1 : w.cell? ⟨bd, 1, none⟩ = some (.int .u64 d1)) (cd2 : w.cell? ⟨bd, 2, none⟩ = some (.int .u64 d2)) (cd3 : w.cell? ⟨bd, 3, none⟩ = some (.int .u64 d3)) (fu0 : w.frozen? ⟨bu, o, none⟩ = false) (fu1 : w.frozen? ⟨bu, o + 1, none⟩ = false) (fu2 : w.frozen? ⟨bu, o + 2, none⟩ = false) (fu3 : w.frozen? ⟨bu, o + 3, none⟩ = false) (fu4 : w.frozen? ⟨bu, o + 4, none⟩ = false) :
    Calls Try.prog 60 #[.slice (some ⟨bu, o, none⟩) 5 ku, .slice (some ⟨bd, 0, none⟩) 4 kd] w fun e w' => e = .returned (.int .u64 (giveL [u0, u1, u2, u3, u4] [d0, d1, d2, d3] 0).2) ∧ Sets bu o (giveL [u0, u1, u2, u3, u4] [d0, d1, d2, d3] 0).1 w w' := by
  have z : Word 0 := ⟨by decide, by decide⟩
  have ne' := Ne.symm ne
  have s0 := add64 hu0 hd0 (by decide : (0 : Int) ≤ 0 ∧ (0 : Int) ≤ 1)
  have sb0 := addC_bit hu0 hd0 (by decide : (0 : Int) ≤ 0 ∧ (0 : Int) ≤ 1)
  have s1 := add64 hu1 hd1 sb0
  have sb1 := addC_bit hu1 hd1 sb0
  have s2 := add64 hu2 hd2 sb1
  have sb2 := addC_bit hu2 hd2 sb1
  have s3 := add64 hu3 hd3 sb2
  have sb3 := addC_bit hu3 hd3 sb2
  have s4 := add64 hu4 z sb3
  clear z sb0 sb1 sb2 sb3
  go_enter Try.func60, Try.ntmps60
  go_wp2
  refine wp_loop_rounds 5 ?_
  rw [rounds_succ]; go_wp2; go_region; go_wp2
  rw [rounds_succ]; go_wp2; go_region; go_wp2
  rw [rounds_succ]; go_wp2; go_region; go_wp2
  rw [rounds_succ]; go_wp2; go_region; go_wp2
  rw [rounds_succ]
  go_wp2
  go_ret
  refine ⟨rfl, ?_⟩
  repeat refine Sets.drew ?_
  exact ((((((((((Sets.start bu o _).snoc cu0 _ (o) rfl)).snoc cu1 _ (o + 1) rfl)).snoc cu2 _ (o + 2) rfl)).snoc cu3 _ (o + 3) rfl)).snoc cu4 _ (o + 4) rfl)

end Go.Proofs.Ytmegdnalpaddmaa
