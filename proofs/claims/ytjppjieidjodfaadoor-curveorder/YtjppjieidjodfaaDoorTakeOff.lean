import Derived.Test.YtjppjieidjodfaaDoorSets
import Derived.Test.YtjppjieidjodfaaDoorLeaf
import Derived.LoopN
import Derived.BigRegion
import Derived.Test.YtjppjieidjodfaaDoorNum
namespace Go.Proofs.YtjppjieidjodfaaDoor
open Go.RowKit

set_option maxHeartbeats 2000000 in
theorem takeOff_1 {u0 u1 d0 q : Int} (hu0 : Word u0) (hu1 : Word u1) (hd0 : Word d0) (hq : Word q) {bu bd o ku kd : Nat} (ne : bu ≠ bd) (w : World) (cu0 : w.cell? ⟨bu, o, none⟩ = some (.int .u64 u0)) (cu1 : w.cell? ⟨bu, o + 1, none⟩ = some (.int .u64 u1)) (cd0 : w.cell? ⟨bd, 0, none⟩ = some (.int .u64 d0)) (fu0 : w.frozen? ⟨bu, o, none⟩ = false) (fu1 : w.frozen? ⟨bu, o + 1, none⟩ = false) :
    Calls Tryd.prog 111 #[.slice (some ⟨bu, o, none⟩) 2 ku, .slice (some ⟨bd, 0, none⟩) 1 kd, .int .u64 q] w fun e w' => e = .returned (.int .u64 (takeL [u0, u1] [d0] q 0 0).2) ∧ Sets bu o (takeL [u0, u1] [d0] q 0 0).1 w w' := by
  have z : Word 0 := ⟨by decide, by decide⟩
  have ne' := Ne.symm ne
  have M0 : Hid (∀ w, Calls Tryd.prog 104 #[.int .u64 d0, .int .u64 q, .int .u64 0, .int .u64 0] w fun e w' => e = .returned (.tuple #[.int .u64 (maH d0 q 0 0), .int .u64 (maL d0 q 0 0)]) ∧ w' = w) := mulAdd_any hd0 hq z z
  have wl0 := maL_word d0 q 0 0
  have wh0 := maH_word hd0 hq z z
  have s0 := sub64 hu0 wl0 (by decide : (0 : Int) ≤ 0 ∧ (0 : Int) ≤ 1)
  have sb0 := subB_bit u0 (maL d0 q 0 0) 0
  have s1 := sub64 hu1 wh0 sb0
  clear z wl0 wh0 sb0
  go_enter Tryd.func111, Tryd.ntmps111
  go_wp2
  refine wp_loop_rounds 2 ?_
  rw [rounds_succ]
  go_wp2_with (go_at_call 104; refine (M0.out _).mono ?_; rintro e w' ⟨rfl, rfl⟩)
  rw [rounds_succ]
  go_wp2
  go_ret
  exact ⟨rfl, ((((Sets.start bu o _).snoc cu0 _ (o) rfl)).snoc cu1 _ (o + 1) rfl)⟩

set_option maxHeartbeats 2000000 in
theorem giveBack_1 {u0 u1 d0 : Int} (hu0 : Word u0) (hu1 : Word u1) (hd0 : Word d0) {bu bd o ku kd : Nat} (ne : bu ≠ bd) (w : World) (cu0 : w.cell? ⟨bu, o, none⟩ = some (.int .u64 u0)) (cu1 : w.cell? ⟨bu, o + 1, none⟩ = some (.int .u64 u1)) (cd0 : w.cell? ⟨bd, 0, none⟩ = some (.int .u64 d0)) (fu0 : w.frozen? ⟨bu, o, none⟩ = false) (fu1 : w.frozen? ⟨bu, o + 1, none⟩ = false) :
    Calls Tryd.prog 112 #[.slice (some ⟨bu, o, none⟩) 2 ku, .slice (some ⟨bd, 0, none⟩) 1 kd] w fun e w' => e = .returned (.int .u64 (giveL [u0, u1] [d0] 0).2) ∧ Sets bu o (giveL [u0, u1] [d0] 0).1 w w' := by
  have z : Word 0 := ⟨by decide, by decide⟩
  have ne' := Ne.symm ne
  have s0 := add64 hu0 hd0 (by decide : (0 : Int) ≤ 0 ∧ (0 : Int) ≤ 1)
  have sb0 := addC_bit hu0 hd0 (by decide : (0 : Int) ≤ 0 ∧ (0 : Int) ≤ 1)
  have s1 := add64 hu1 z sb0
  clear z sb0
  go_enter Tryd.func112, Tryd.ntmps112
  go_wp2
  refine wp_loop_rounds 2 ?_
  rw [rounds_succ]; go_wp2; go_region; go_wp2
  rw [rounds_succ]
  go_wp2
  go_ret
  refine ⟨rfl, ?_⟩
  repeat refine Sets.drew ?_
  exact ((((Sets.start bu o _).snoc cu0 _ (o) rfl)).snoc cu1 _ (o + 1) rfl)

set_option maxHeartbeats 2000000 in
theorem takeOff_2 {u0 u1 u2 d0 d1 q : Int} (hu0 : Word u0) (hu1 : Word u1) (hu2 : Word u2) (hd0 : Word d0) (hd1 : Word d1) (hq : Word q) {bu bd o ku kd : Nat} (ne : bu ≠ bd) (w : World) (cu0 : w.cell? ⟨bu, o, none⟩ = some (.int .u64 u0)) (cu1 : w.cell? ⟨bu, o + 1, none⟩ = some (.int .u64 u1)) (cu2 : w.cell? ⟨bu, o + 2, none⟩ = some (.int .u64 u2)) (cd0 : w.cell? ⟨bd, 0, none⟩ = some (.int .u64 d0)) (cd1 : w.cell? ⟨bd, 1, none⟩ = some (.int .u64 d1)) (fu0 : w.frozen? ⟨bu, o, none⟩ = false) (fu1 : w.frozen? ⟨bu, o + 1, none⟩ = false) (fu2 : w.frozen? ⟨bu, o + 2, none⟩ = false) :
    Calls Tryd.prog 111 #[.slice (some ⟨bu, o, none⟩) 3 ku, .slice (some ⟨bd, 0, none⟩) 2 kd, .int .u64 q] w fun e w' => e = .returned (.int .u64 (takeL [u0, u1, u2] [d0, d1] q 0 0).2) ∧ Sets bu o (takeL [u0, u1, u2] [d0, d1] q 0 0).1 w w' := by
  have z : Word 0 := ⟨by decide, by decide⟩
  have ne' := Ne.symm ne
  have M0 : Hid (∀ w, Calls Tryd.prog 104 #[.int .u64 d0, .int .u64 q, .int .u64 0, .int .u64 0] w fun e w' => e = .returned (.tuple #[.int .u64 (maH d0 q 0 0), .int .u64 (maL d0 q 0 0)]) ∧ w' = w) := mulAdd_any hd0 hq z z
  have wl0 := maL_word d0 q 0 0
  have wh0 := maH_word hd0 hq z z
  have s0 := sub64 hu0 wl0 (by decide : (0 : Int) ≤ 0 ∧ (0 : Int) ≤ 1)
  have sb0 := subB_bit u0 (maL d0 q 0 0) 0
  have M1 : Hid (∀ w, Calls Tryd.prog 104 #[.int .u64 d1, .int .u64 q, .int .u64 (maH d0 q 0 0), .int .u64 0] w fun e w' => e = .returned (.tuple #[.int .u64 (maH d1 q (maH d0 q 0 0) 0), .int .u64 (maL d1 q (maH d0 q 0 0) 0)]) ∧ w' = w) := mulAdd_any hd1 hq wh0 z
  have wl1 := maL_word d1 q (maH d0 q 0 0) 0
  have wh1 := maH_word hd1 hq wh0 z
  have s1 := sub64 hu1 wl1 sb0
  have sb1 := subB_bit u1 (maL d1 q (maH d0 q 0 0) 0) (subB u0 (maL d0 q 0 0) 0)
  have s2 := sub64 hu2 wh1 sb1
  clear z wl0 wh0 sb0 wl1 wh1 sb1
  go_enter Tryd.func111, Tryd.ntmps111
  go_wp2
  refine wp_loop_rounds 3 ?_
  rw [rounds_succ]
  go_wp2_with (go_at_call 104; refine (M0.out _).mono ?_; rintro e w' ⟨rfl, rfl⟩)
  rw [rounds_succ]
  go_wp2_with (go_at_call 104; refine (M1.out _).mono ?_; rintro e w' ⟨rfl, rfl⟩)
  rw [rounds_succ]
  go_wp2
  go_ret
  exact ⟨rfl, ((((((Sets.start bu o _).snoc cu0 _ (o) rfl)).snoc cu1 _ (o + 1) rfl)).snoc cu2 _ (o + 2) rfl)⟩

set_option maxHeartbeats 2000000 in
theorem giveBack_2 {u0 u1 u2 d0 d1 : Int} (hu0 : Word u0) (hu1 : Word u1) (hu2 : Word u2) (hd0 : Word d0) (hd1 : Word d1) {bu bd o ku kd : Nat} (ne : bu ≠ bd) (w : World) (cu0 : w.cell? ⟨bu, o, none⟩ = some (.int .u64 u0)) (cu1 : w.cell? ⟨bu, o + 1, none⟩ = some (.int .u64 u1)) (cu2 : w.cell? ⟨bu, o + 2, none⟩ = some (.int .u64 u2)) (cd0 : w.cell? ⟨bd, 0, none⟩ = some (.int .u64 d0)) (cd1 : w.cell? ⟨bd, 1, none⟩ = some (.int .u64 d1)) (fu0 : w.frozen? ⟨bu, o, none⟩ = false) (fu1 : w.frozen? ⟨bu, o + 1, none⟩ = false) (fu2 : w.frozen? ⟨bu, o + 2, none⟩ = false) :
    Calls Tryd.prog 112 #[.slice (some ⟨bu, o, none⟩) 3 ku, .slice (some ⟨bd, 0, none⟩) 2 kd] w fun e w' => e = .returned (.int .u64 (giveL [u0, u1, u2] [d0, d1] 0).2) ∧ Sets bu o (giveL [u0, u1, u2] [d0, d1] 0).1 w w' := by
  have z : Word 0 := ⟨by decide, by decide⟩
  have ne' := Ne.symm ne
  have s0 := add64 hu0 hd0 (by decide : (0 : Int) ≤ 0 ∧ (0 : Int) ≤ 1)
  have sb0 := addC_bit hu0 hd0 (by decide : (0 : Int) ≤ 0 ∧ (0 : Int) ≤ 1)
  have s1 := add64 hu1 hd1 sb0
  have sb1 := addC_bit hu1 hd1 sb0
  have s2 := add64 hu2 z sb1
  clear z sb0 sb1
  go_enter Tryd.func112, Tryd.ntmps112
  go_wp2
  refine wp_loop_rounds 3 ?_
  rw [rounds_succ]; go_wp2; go_region; go_wp2
  rw [rounds_succ]; go_wp2; go_region; go_wp2
  rw [rounds_succ]
  go_wp2
  go_ret
  refine ⟨rfl, ?_⟩
  repeat refine Sets.drew ?_
  exact ((((((Sets.start bu o _).snoc cu0 _ (o) rfl)).snoc cu1 _ (o + 1) rfl)).snoc cu2 _ (o + 2) rfl)

set_option maxHeartbeats 2000000 in
theorem takeOff_3 {u0 u1 u2 u3 d0 d1 d2 q : Int} (hu0 : Word u0) (hu1 : Word u1) (hu2 : Word u2) (hu3 : Word u3) (hd0 : Word d0) (hd1 : Word d1) (hd2 : Word d2) (hq : Word q) {bu bd o ku kd : Nat} (ne : bu ≠ bd) (w : World) (cu0 : w.cell? ⟨bu, o, none⟩ = some (.int .u64 u0)) (cu1 : w.cell? ⟨bu, o + 1, none⟩ = some (.int .u64 u1)) (cu2 : w.cell? ⟨bu, o + 2, none⟩ = some (.int .u64 u2)) (cu3 : w.cell? ⟨bu, o + 3, none⟩ = some (.int .u64 u3)) (cd0 : w.cell? ⟨bd, 0, none⟩ = some (.int .u64 d0)) (cd1 : w.cell? ⟨bd, 1, none⟩ = some (.int .u64 d1)) (cd2 : w.cell? ⟨bd, 2, none⟩ = some (.int .u64 d2)) (fu0 : w.frozen? ⟨bu, o, none⟩ = false) (fu1 : w.frozen? ⟨bu, o + 1, none⟩ = false) (fu2 : w.frozen? ⟨bu, o + 2, none⟩ = false) (fu3 : w.frozen? ⟨bu, o + 3, none⟩ = false) :
    Calls Tryd.prog 111 #[.slice (some ⟨bu, o, none⟩) 4 ku, .slice (some ⟨bd, 0, none⟩) 3 kd, .int .u64 q] w fun e w' => e = .returned (.int .u64 (takeL [u0, u1, u2, u3] [d0, d1, d2] q 0 0).2) ∧ Sets bu o (takeL [u0, u1, u2, u3] [d0, d1, d2] q 0 0).1 w w' := by
  have z : Word 0 := ⟨by decide, by decide⟩
  have ne' := Ne.symm ne
  have M0 : Hid (∀ w, Calls Tryd.prog 104 #[.int .u64 d0, .int .u64 q, .int .u64 0, .int .u64 0] w fun e w' => e = .returned (.tuple #[.int .u64 (maH d0 q 0 0), .int .u64 (maL d0 q 0 0)]) ∧ w' = w) := mulAdd_any hd0 hq z z
  have wl0 := maL_word d0 q 0 0
  have wh0 := maH_word hd0 hq z z
  have s0 := sub64 hu0 wl0 (by decide : (0 : Int) ≤ 0 ∧ (0 : Int) ≤ 1)
  have sb0 := subB_bit u0 (maL d0 q 0 0) 0
  have M1 : Hid (∀ w, Calls Tryd.prog 104 #[.int .u64 d1, .int .u64 q, .int .u64 (maH d0 q 0 0), .int .u64 0] w fun e w' => e = .returned (.tuple #[.int .u64 (maH d1 q (maH d0 q 0 0) 0), .int .u64 (maL d1 q (maH d0 q 0 0) 0)]) ∧ w' = w) := mulAdd_any hd1 hq wh0 z
  have wl1 := maL_word d1 q (maH d0 q 0 0) 0
  have wh1 := maH_word hd1 hq wh0 z
  have s1 := sub64 hu1 wl1 sb0
  have sb1 := subB_bit u1 (maL d1 q (maH d0 q 0 0) 0) (subB u0 (maL d0 q 0 0) 0)
  have M2 : Hid (∀ w, Calls Tryd.prog 104 #[.int .u64 d2, .int .u64 q, .int .u64 (maH d1 q (maH d0 q 0 0) 0), .int .u64 0] w fun e w' => e = .returned (.tuple #[.int .u64 (maH d2 q (maH d1 q (maH d0 q 0 0) 0) 0), .int .u64 (maL d2 q (maH d1 q (maH d0 q 0 0) 0) 0)]) ∧ w' = w) := mulAdd_any hd2 hq wh1 z
  have wl2 := maL_word d2 q (maH d1 q (maH d0 q 0 0) 0) 0
  have wh2 := maH_word hd2 hq wh1 z
  have s2 := sub64 hu2 wl2 sb1
  have sb2 := subB_bit u2 (maL d2 q (maH d1 q (maH d0 q 0 0) 0) 0) (subB u1 (maL d1 q (maH d0 q 0 0) 0) (subB u0 (maL d0 q 0 0) 0))
  have s3 := sub64 hu3 wh2 sb2
  clear z wl0 wh0 sb0 wl1 wh1 sb1 wl2 wh2 sb2
  go_enter Tryd.func111, Tryd.ntmps111
  go_wp2
  refine wp_loop_rounds 4 ?_
  rw [rounds_succ]
  go_wp2_with (go_at_call 104; refine (M0.out _).mono ?_; rintro e w' ⟨rfl, rfl⟩)
  rw [rounds_succ]
  go_wp2_with (go_at_call 104; refine (M1.out _).mono ?_; rintro e w' ⟨rfl, rfl⟩)
  rw [rounds_succ]
  go_wp2_with (go_at_call 104; refine (M2.out _).mono ?_; rintro e w' ⟨rfl, rfl⟩)
  rw [rounds_succ]
  go_wp2
  go_ret
  exact ⟨rfl, ((((((((Sets.start bu o _).snoc cu0 _ (o) rfl)).snoc cu1 _ (o + 1) rfl)).snoc cu2 _ (o + 2) rfl)).snoc cu3 _ (o + 3) rfl)⟩

set_option maxHeartbeats 2000000 in
theorem giveBack_3 {u0 u1 u2 u3 d0 d1 d2 : Int} (hu0 : Word u0) (hu1 : Word u1) (hu2 : Word u2) (hu3 : Word u3) (hd0 : Word d0) (hd1 : Word d1) (hd2 : Word d2) {bu bd o ku kd : Nat} (ne : bu ≠ bd) (w : World) (cu0 : w.cell? ⟨bu, o, none⟩ = some (.int .u64 u0)) (cu1 : w.cell? ⟨bu, o + 1, none⟩ = some (.int .u64 u1)) (cu2 : w.cell? ⟨bu, o + 2, none⟩ = some (.int .u64 u2)) (cu3 : w.cell? ⟨bu, o + 3, none⟩ = some (.int .u64 u3)) (cd0 : w.cell? ⟨bd, 0, none⟩ = some (.int .u64 d0)) (cd1 : w.cell? ⟨bd, 1, none⟩ = some (.int .u64 d1)) (cd2 : w.cell? ⟨bd, 2, none⟩ = some (.int .u64 d2)) (fu0 : w.frozen? ⟨bu, o, none⟩ = false) (fu1 : w.frozen? ⟨bu, o + 1, none⟩ = false) (fu2 : w.frozen? ⟨bu, o + 2, none⟩ = false) (fu3 : w.frozen? ⟨bu, o + 3, none⟩ = false) :
    Calls Tryd.prog 112 #[.slice (some ⟨bu, o, none⟩) 4 ku, .slice (some ⟨bd, 0, none⟩) 3 kd] w fun e w' => e = .returned (.int .u64 (giveL [u0, u1, u2, u3] [d0, d1, d2] 0).2) ∧ Sets bu o (giveL [u0, u1, u2, u3] [d0, d1, d2] 0).1 w w' := by
  have z : Word 0 := ⟨by decide, by decide⟩
  have ne' := Ne.symm ne
  have s0 := add64 hu0 hd0 (by decide : (0 : Int) ≤ 0 ∧ (0 : Int) ≤ 1)
  have sb0 := addC_bit hu0 hd0 (by decide : (0 : Int) ≤ 0 ∧ (0 : Int) ≤ 1)
  have s1 := add64 hu1 hd1 sb0
  have sb1 := addC_bit hu1 hd1 sb0
  have s2 := add64 hu2 hd2 sb1
  have sb2 := addC_bit hu2 hd2 sb1
  have s3 := add64 hu3 z sb2
  clear z sb0 sb1 sb2
  go_enter Tryd.func112, Tryd.ntmps112
  go_wp2
  refine wp_loop_rounds 4 ?_
  rw [rounds_succ]; go_wp2; go_region; go_wp2
  rw [rounds_succ]; go_wp2; go_region; go_wp2
  rw [rounds_succ]; go_wp2; go_region; go_wp2
  rw [rounds_succ]
  go_wp2
  go_ret
  refine ⟨rfl, ?_⟩
  repeat refine Sets.drew ?_
  exact ((((((((Sets.start bu o _).snoc cu0 _ (o) rfl)).snoc cu1 _ (o + 1) rfl)).snoc cu2 _ (o + 2) rfl)).snoc cu3 _ (o + 3) rfl)

set_option maxHeartbeats 2000000 in
theorem takeOff_4 {u0 u1 u2 u3 u4 d0 d1 d2 d3 q : Int} (hu0 : Word u0) (hu1 : Word u1) (hu2 : Word u2) (hu3 : Word u3) (hu4 : Word u4) (hd0 : Word d0) (hd1 : Word d1) (hd2 : Word d2) (hd3 : Word d3) (hq : Word q) {bu bd o ku kd : Nat} (ne : bu ≠ bd) (w : World) (cu0 : w.cell? ⟨bu, o, none⟩ = some (.int .u64 u0)) (cu1 : w.cell? ⟨bu, o + 1, none⟩ = some (.int .u64 u1)) (cu2 : w.cell? ⟨bu, o + 2, none⟩ = some (.int .u64 u2)) (cu3 : w.cell? ⟨bu, o + 3, none⟩ = some (.int .u64 u3)) (cu4 : w.cell? ⟨bu, o + 4, none⟩ = some (.int .u64 u4)) (cd0 : w.cell? ⟨bd, 0, none⟩ = some (.int .u64 d0)) (cd1 : w.cell? ⟨bd, 1, none⟩ = some (.int .u64 d1)) (cd2 : w.cell? ⟨bd, 2, none⟩ = some (.int .u64 d2)) (cd3 : w.cell? ⟨bd, 3, none⟩ = some (.int .u64 d3)) (fu0 : w.frozen? ⟨bu, o, none⟩ = false) (fu1 : w.frozen? ⟨bu, o + 1, none⟩ = false) (fu2 : w.frozen? ⟨bu, o + 2, none⟩ = false) (fu3 : w.frozen? ⟨bu, o + 3, none⟩ = false) (fu4 : w.frozen? ⟨bu, o + 4, none⟩ = false) :
    Calls Tryd.prog 111 #[.slice (some ⟨bu, o, none⟩) 5 ku, .slice (some ⟨bd, 0, none⟩) 4 kd, .int .u64 q] w fun e w' => e = .returned (.int .u64 (takeL [u0, u1, u2, u3, u4] [d0, d1, d2, d3] q 0 0).2) ∧ Sets bu o (takeL [u0, u1, u2, u3, u4] [d0, d1, d2, d3] q 0 0).1 w w' := by
  have z : Word 0 := ⟨by decide, by decide⟩
  have ne' := Ne.symm ne
  have M0 : Hid (∀ w, Calls Tryd.prog 104 #[.int .u64 d0, .int .u64 q, .int .u64 0, .int .u64 0] w fun e w' => e = .returned (.tuple #[.int .u64 (maH d0 q 0 0), .int .u64 (maL d0 q 0 0)]) ∧ w' = w) := mulAdd_any hd0 hq z z
  have wl0 := maL_word d0 q 0 0
  have wh0 := maH_word hd0 hq z z
  have s0 := sub64 hu0 wl0 (by decide : (0 : Int) ≤ 0 ∧ (0 : Int) ≤ 1)
  have sb0 := subB_bit u0 (maL d0 q 0 0) 0
  have M1 : Hid (∀ w, Calls Tryd.prog 104 #[.int .u64 d1, .int .u64 q, .int .u64 (maH d0 q 0 0), .int .u64 0] w fun e w' => e = .returned (.tuple #[.int .u64 (maH d1 q (maH d0 q 0 0) 0), .int .u64 (maL d1 q (maH d0 q 0 0) 0)]) ∧ w' = w) := mulAdd_any hd1 hq wh0 z
  have wl1 := maL_word d1 q (maH d0 q 0 0) 0
  have wh1 := maH_word hd1 hq wh0 z
  have s1 := sub64 hu1 wl1 sb0
  have sb1 := subB_bit u1 (maL d1 q (maH d0 q 0 0) 0) (subB u0 (maL d0 q 0 0) 0)
  have M2 : Hid (∀ w, Calls Tryd.prog 104 #[.int .u64 d2, .int .u64 q, .int .u64 (maH d1 q (maH d0 q 0 0) 0), .int .u64 0] w fun e w' => e = .returned (.tuple #[.int .u64 (maH d2 q (maH d1 q (maH d0 q 0 0) 0) 0), .int .u64 (maL d2 q (maH d1 q (maH d0 q 0 0) 0) 0)]) ∧ w' = w) := mulAdd_any hd2 hq wh1 z
  have wl2 := maL_word d2 q (maH d1 q (maH d0 q 0 0) 0) 0
  have wh2 := maH_word hd2 hq wh1 z
  have s2 := sub64 hu2 wl2 sb1
  have sb2 := subB_bit u2 (maL d2 q (maH d1 q (maH d0 q 0 0) 0) 0) (subB u1 (maL d1 q (maH d0 q 0 0) 0) (subB u0 (maL d0 q 0 0) 0))
  have M3 : Hid (∀ w, Calls Tryd.prog 104 #[.int .u64 d3, .int .u64 q, .int .u64 (maH d2 q (maH d1 q (maH d0 q 0 0) 0) 0), .int .u64 0] w fun e w' => e = .returned (.tuple #[.int .u64 (maH d3 q (maH d2 q (maH d1 q (maH d0 q 0 0) 0) 0) 0), .int .u64 (maL d3 q (maH d2 q (maH d1 q (maH d0 q 0 0) 0) 0) 0)]) ∧ w' = w) := mulAdd_any hd3 hq wh2 z
  have wl3 := maL_word d3 q (maH d2 q (maH d1 q (maH d0 q 0 0) 0) 0) 0
  have wh3 := maH_word hd3 hq wh2 z
  have s3 := sub64 hu3 wl3 sb2
  have sb3 := subB_bit u3 (maL d3 q (maH d2 q (maH d1 q (maH d0 q 0 0) 0) 0) 0) (subB u2 (maL d2 q (maH d1 q (maH d0 q 0 0) 0) 0) (subB u1 (maL d1 q (maH d0 q 0 0) 0) (subB u0 (maL d0 q 0 0) 0)))
  have s4 := sub64 hu4 wh3 sb3
  clear z wl0 wh0 sb0 wl1 wh1 sb1 wl2 wh2 sb2 wl3 wh3 sb3
  go_enter Tryd.func111, Tryd.ntmps111
  go_wp2
  refine wp_loop_rounds 5 ?_
  rw [rounds_succ]
  go_wp2_with (go_at_call 104; refine (M0.out _).mono ?_; rintro e w' ⟨rfl, rfl⟩)
  rw [rounds_succ]
  go_wp2_with (go_at_call 104; refine (M1.out _).mono ?_; rintro e w' ⟨rfl, rfl⟩)
  rw [rounds_succ]
  go_wp2_with (go_at_call 104; refine (M2.out _).mono ?_; rintro e w' ⟨rfl, rfl⟩)
  rw [rounds_succ]
  go_wp2_with (go_at_call 104; refine (M3.out _).mono ?_; rintro e w' ⟨rfl, rfl⟩)
  rw [rounds_succ]
  go_wp2
  go_ret
  exact ⟨rfl, ((((((((((Sets.start bu o _).snoc cu0 _ (o) rfl)).snoc cu1 _ (o + 1) rfl)).snoc cu2 _ (o + 2) rfl)).snoc cu3 _ (o + 3) rfl)).snoc cu4 _ (o + 4) rfl)⟩

set_option maxHeartbeats 2000000 in
theorem giveBack_4 {u0 u1 u2 u3 u4 d0 d1 d2 d3 : Int} (hu0 : Word u0) (hu1 : Word u1) (hu2 : Word u2) (hu3 : Word u3) (hu4 : Word u4) (hd0 : Word d0) (hd1 : Word d1) (hd2 : Word d2) (hd3 : Word d3) {bu bd o ku kd : Nat} (ne : bu ≠ bd) (w : World) (cu0 : w.cell? ⟨bu, o, none⟩ = some (.int .u64 u0)) (cu1 : w.cell? ⟨bu, o + 1, none⟩ = some (.int .u64 u1)) (cu2 : w.cell? ⟨bu, o + 2, none⟩ = some (.int .u64 u2)) (cu3 : w.cell? ⟨bu, o + 3, none⟩ = some (.int .u64 u3)) (cu4 : w.cell? ⟨bu, o + 4, none⟩ = some (.int .u64 u4)) (cd0 : w.cell? ⟨bd, 0, none⟩ = some (.int .u64 d0)) (cd1 : w.cell? ⟨bd, 1, none⟩ = some (.int .u64 d1)) (cd2 : w.cell? ⟨bd, 2, none⟩ = some (.int .u64 d2)) (cd3 : w.cell? ⟨bd, 3, none⟩ = some (.int .u64 d3)) (fu0 : w.frozen? ⟨bu, o, none⟩ = false) (fu1 : w.frozen? ⟨bu, o + 1, none⟩ = false) (fu2 : w.frozen? ⟨bu, o + 2, none⟩ = false) (fu3 : w.frozen? ⟨bu, o + 3, none⟩ = false) (fu4 : w.frozen? ⟨bu, o + 4, none⟩ = false) :
    Calls Tryd.prog 112 #[.slice (some ⟨bu, o, none⟩) 5 ku, .slice (some ⟨bd, 0, none⟩) 4 kd] w fun e w' => e = .returned (.int .u64 (giveL [u0, u1, u2, u3, u4] [d0, d1, d2, d3] 0).2) ∧ Sets bu o (giveL [u0, u1, u2, u3, u4] [d0, d1, d2, d3] 0).1 w w' := by
  have z : Word 0 := ⟨by decide, by decide⟩
  have ne' := Ne.symm ne
  have s0 := add64 hu0 hd0 (by decide : (0 : Int) ≤ 0 ∧ (0 : Int) ≤ 1)
  have sb0 := addC_bit hu0 hd0 (by decide : (0 : Int) ≤ 0 ∧ (0 : Int) ≤ 1)
  have s1 := add64 hu1 hd1 sb0
  have sb1 := addC_bit hu1 hd1 sb0
  have s2 := add64 hu2 hd2 sb1
  have sb2 := addC_bit hu2 hd2 sb1
  have s3 := add64 hu3 hd3 sb2
  have sb3 := addC_bit hu3 hd3 sb2
  have s4 := add64 hu4 z sb3
  clear z sb0 sb1 sb2 sb3
  go_enter Tryd.func112, Tryd.ntmps112
  go_wp2
  refine wp_loop_rounds 5 ?_
  rw [rounds_succ]; go_wp2; go_region; go_wp2
  rw [rounds_succ]; go_wp2; go_region; go_wp2
  rw [rounds_succ]; go_wp2; go_region; go_wp2
  rw [rounds_succ]; go_wp2; go_region; go_wp2
  rw [rounds_succ]
  go_wp2
  go_ret
  refine ⟨rfl, ?_⟩
  repeat refine Sets.drew ?_
  exact ((((((((((Sets.start bu o _).snoc cu0 _ (o) rfl)).snoc cu1 _ (o + 1) rfl)).snoc cu2 _ (o + 2) rfl)).snoc cu3 _ (o + 3) rfl)).snoc cu4 _ (o + 4) rfl)

end Go.Proofs.YtjppjieidjodfaaDoor

/- One digit of a long division, guessed from the top half of the divisor (32-bit halves). -/
namespace Go.Proofs.YtjppjieidjodfaaDoor

/-- What holds of the guess q and its rest r, at every round. -/
structure Guess (un u y y1 y0 q r : Int) : Prop where
  q0 : 0 ≤ q
  q1 : q ≤ 4294967297
  r0 : 0 ≤ r
  r1 : r < 4294967296
  e : q * y1 + r = un
  hi : un * 4294967296 + u < (q + 1) * y

structure Halves (un u y y1 y0 : Int) : Prop where
  e : y = y1 * 4294967296 + y0
  a0 : 0 ≤ y0
  a1 : y0 < 4294967296
  b0 : 2147483648 ≤ y1
  b1 : y1 < 4294967296
  n0 : 0 ≤ un
  n1 : un < y
  u0 : 0 ≤ u
  u1 : u < 4294967296

theorem Guess.first {un u y y1 y0 : Int} (H : Halves un u y y1 y0) : Guess un u y y1 y0 (un / y1) (un - un / y1 * y1) := by
  obtain ⟨e, a0, a1, b0, b1, n0, n1, u0, u1⟩ := H
  have d := Int.emod_add_mul_ediv un y1
  have m0 := Int.emod_nonneg un (show y1 ≠ 0 by omega)
  have m1 := Int.emod_lt_of_pos un (show 0 < y1 by omega)
  have q0 : 0 ≤ un / y1 := Int.ediv_nonneg n0 (by omega)
  have q1 : un / y1 < 4294967298 := Int.ediv_lt_of_lt_mul (by omega) (by omega)
  generalize un / y1 = q at *
  generalize un % y1 = m at *
  rw [Int.mul_comm] at d
  generalize hp : q * y1 = p at *
  refine ⟨q0, by omega, by omega, by omega, by rw [hp]; omega, ?_⟩
  rw [e, Int.mul_add, ← Int.mul_assoc, Int.add_mul, hp, Int.one_mul]
  have : 0 ≤ (q + 1) * y0 := Int.mul_nonneg (by omega) a0
  omega

/-- The test: the guess is too great just if it fails. -/
theorem Guess.test {un u y y1 y0 q r : Int} (H : Halves un u y y1 y0) (G : Guess un u y y1 y0 q r) : (q * y0 ≤ 4294967296 * r + u → q * y ≤ un * 4294967296 + u) ∧ (4294967296 * r + u < q * y0 → un * 4294967296 + u < q * y) := by
  obtain ⟨e, a0, a1, b0, b1, n0, n1, u0, u1⟩ := H
  obtain ⟨q0, q1, r0, r1, g, hi⟩ := G
  rw [e, Int.mul_add, ← Int.mul_assoc]
  generalize q * y1 = p at *
  generalize q * y0 = s at *
  omega

/-- One lower. -/
theorem Guess.down {un u y y1 y0 q r : Int} (H : Halves un u y y1 y0) (G : Guess un u y y1 y0 q r) (t : 4294967296 ≤ q ∨ 4294967296 * r + u < q * y0) :
    0 < q ∧ q - 1 ≤ 4294967296 ∧ (q - 1) * y1 + (r + y1) = un ∧ un * 4294967296 + u < (q - 1 + 1) * y := by
  have T := (G.test H).2
  obtain ⟨e, a0, a1, b0, b1, n0, n1, u0, u1⟩ := H
  obtain ⟨q0, q1, r0, r1, g, hi⟩ := G
  have hq : 0 < q := by
    rcases t with t | t
    · omega
    · rcases Int.lt_or_eq_of_le q0 with h | h
      · exact h
      · rw [← h] at t; omega
  refine ⟨hq, by omega, ?_, ?_⟩
  · rw [Int.sub_mul, Int.one_mul]; omega
  · rw [Int.sub_add_cancel]
    rcases t with t | t
    · have : 4294967296 * y ≤ q * y := Int.mul_le_mul_of_nonneg_right t (by omega)
      omega
    · exact T t

/-- The guess is the digit. -/
theorem digit_of {U y q : Int} (_hy : 0 < y) (h0 : q * y ≤ U) (h1 : U < (q + 1) * y) : U / y = q ∧ U % y = U - q * y := by
  have h := (Int.ediv_emod_unique (a := U) (b := y) (r := U - q * y) (q := q) (by omega)).2 ⟨by rw [Int.mul_comm y q]; omega, by omega, by rw [Int.add_mul, Int.one_mul] at h1; omega⟩
  exact h

/-- Out of the loop by its test. -/
theorem Guess.out {un u y y1 y0 q r : Int} (H : Halves un u y y1 y0) (G : Guess un u y y1 y0 q r) (t : q * y0 ≤ 4294967296 * r + u) : (un * 4294967296 + u) / y = q ∧ (un * 4294967296 + u) % y = un * 4294967296 + u - q * y :=
  digit_of (by obtain ⟨e, a0, a1, b0, b1, n0, n1, u0, u1⟩ := H; omega) ((G.test H).1 t) G.hi

/-- Out of the loop by the rest's size. -/
theorem Guess.leave {un u y y1 y0 q r : Int} (H : Halves un u y y1 y0) (G : Guess un u y y1 y0 q r) (t : 4294967296 ≤ q ∨ 4294967296 * r + u < q * y0) (h : 4294967296 ≤ r + y1) :
    (un * 4294967296 + u) / y = q - 1 ∧ (un * 4294967296 + u) % y = un * 4294967296 + u - (q - 1) * y := by
  obtain ⟨d0, d1, d2, d3⟩ := G.down H t
  obtain ⟨e, a0, a1, b0, b1, n0, n1, u0, u1⟩ := H
  refine digit_of (by omega) ?_ d3
  have s : (q - 1) * y0 ≤ 4294967296 * y0 := Int.mul_le_mul_of_nonneg_right d1 a0
  rw [e, Int.mul_add, ← Int.mul_assoc]
  generalize (q - 1) * y1 = p at *
  generalize (q - 1) * y0 = v at *
  omega

theorem Guess.next {un u y y1 y0 q r : Int} (H : Halves un u y y1 y0) (G : Guess un u y y1 y0 q r) (t : 4294967296 ≤ q ∨ 4294967296 * r + u < q * y0) (h : r + y1 < 4294967296) : Guess un u y y1 y0 (q - 1) (r + y1) := by
  obtain ⟨d0, d1, d2, d3⟩ := G.down H t
  obtain ⟨e, a0, a1, b0, b1, n0, n1, u0, u1⟩ := H
  exact ⟨by omega, by omega, by have := G.r0; omega, h, d2, d3⟩

/-- The two digits together. -/
theorem two_digits {hi u1 u0 y q v : Int} (hy : 0 < y) (h1 : (hi * 4294967296 + u1) / y = q) (h2 : (hi * 4294967296 + u1) % y = v) :
    (hi * 18446744073709551616 + (u1 * 4294967296 + u0)) / y = q * 4294967296 + (v * 4294967296 + u0) / y ∧ (hi * 18446744073709551616 + (u1 * 4294967296 + u0)) % y = (v * 4294967296 + u0) % y := by
  have d := Int.emod_add_mul_ediv (hi * 4294967296 + u1) y
  rw [h1, h2] at d
  have e : hi * 18446744073709551616 + (u1 * 4294967296 + u0) = (v * 4294967296 + u0) + y * (q * 4294967296) := by
    rw [← Int.mul_assoc]
    generalize y * q = p at *
    omega
  rw [e]
  refine ⟨?_, Int.add_mul_emod_self_left _ _ _⟩
  rw [Int.add_mul_ediv_left _ _ (by omega)]
  omega

end Go.Proofs.YtjppjieidjodfaaDoor
