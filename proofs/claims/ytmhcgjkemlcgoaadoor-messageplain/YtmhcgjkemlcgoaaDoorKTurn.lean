import Derived.Test.YtmhcgjkemlcgoaaDoorKBase
namespace Go.Proofs.YtmhcgjkemlcgoaaDoor.K
open Go.RowKit Go.Sort

theorem and63 {k : Nat} (h : k < 64) : bits .and .u64 (k : Int) 63 = k := by
  rw [show (63 : Int) = ((63 : Nat) : Int) by rfl, u64_and_nat _ _ (by omega) (by omega), show (63 : Nat) = 2 ^ 6 - 1 by rfl, Nat.and_two_pow_sub_one_eq_mod, Nat.mod_eq_of_lt (by omega)]

set_option maxHeartbeats 1000000 in
theorem rotl_any (x : BitVec 64) {k : Nat} (hk : k < 64) (w : World) :
    Calls Tryd.prog 56 #[.int .u64 (V x), .int .i64 k] w fun e w' => e = .returned (.int .u64 (V (x.rotateLeft k))) ∧ w' = w := by
  have a := and63 hk
  have r := V_rot x hk
  have b0 : (k : Int) < 64 := by omega
  have e1 : (64 - (k : Int)).toNat = 64 - k := by omega
  go_enter Tryd.func56, Tryd.ntmps56
  go_wp2
  go_ret
  exact ⟨rfl, rfl⟩

theorem rotl_b (x : BitVec 64) {k : Nat} (hk : k < 64) (w : World) :
    Calls Tryd.prog 56 #[.int .u64 (V x), .int .i64 k] w fun e w' => e = .returned (.int .u64 (V (x.rotateLeft k))) ∧ Below w.heap.size w w' :=
  (rotl_any x hk w).mono fun _ _ ⟨h1, h2⟩ => ⟨h1, by rw [h2]; exact Below.refl _ _⟩

theorem rot0 (x : BitVec 64) : x.rotateLeft 0 = x := by
  have h : x >>> 64 = 0#64 := by
    apply BitVec.eq_of_toNat_eq
    have := x.isLt
    rw [BitVec.toNat_ushiftRight, Nat.shiftRight_eq_div_pow, Nat.div_eq_of_lt this]
    rfl
  simp [BitVec.rotateLeft_def, h]

set_option maxHeartbeats 1000000 in
theorem rot_any (x : BitVec 64) {k : Nat} (hk : k < 64) (w : World) :
    Calls Tryd.prog 53 #[.int .u64 (V x), .int .i64 k] w fun e w' => e = .returned (.int .u64 (V (x.rotateLeft k))) ∧ w' = w := by
  have r := V_rot x hk
  have b0 : (k : Int) < 64 := by omega
  have e1 : (64 - (k : Int)).toNat = 64 - k := by omega
  go_enter Tryd.func53, Tryd.ntmps53
  by_cases h0 : k = 0
  · subst h0
    go_wp2
    go_ret
    exact ⟨by rw [rot0]; rfl, rfl⟩
  · have h1 : ¬ ((k : Int) = 0) := by omega
    go_wp2
    go_ret
    exact ⟨rfl, rfl⟩

set_option maxHeartbeats 1000000 in
theorem at_any (x y : Nat) (hx : x < 100) (hy : y < 100) (w : World) :
    Calls Tryd.prog 52 #[.int .i64 x, .int .i64 y] w fun e w' => e = .returned (.int .i64 ((x % 5 + 5 * (y % 5) : Nat) : Int)) ∧ w' = w := by
  have b0 : (x : Int) < 100 := by omega
  have b1 : (y : Int) < 100 := by omega
  go_enter Tryd.func52, Tryd.ntmps52
  go_wp2
  go_ret
  exact ⟨by simp, rfl⟩

set_option maxHeartbeats 1000000 in
theorem turn_any {b i k : Nat} {x : BitVec 64} (d : BitVec 64) (hi : i < 25) (hk : k < 64) (w : World) (hx : w.cell? ⟨b, i, none⟩ = some (.int .u64 (V x))) (ht : w.cell? ⟨6, i, none⟩ = some (.int .i64 k)) :
    Calls Tryd.prog 58 #[.pointer (some ⟨b, 0, none⟩), .int .i64 i, .int .u64 (V d)] w fun e w' => e = .returned (.int .u64 (V ((x ^^^ d).rotateLeft k))) ∧ Below w.heap.size w w' := by
  have vx := V_xor x d
  have b0 : (i : Int) < 25 := by omega
  go_enter Tryd.func58, Tryd.ntmps58
  go_wp2
  have gx := fun d os => cell_regrown hx d os
  have gt := fun d os => cell_regrown ht d os
  refine wp_region_quiet_below (by kernel_rfl) (by kernel_rfl) ?_
  repeat
    first
      | go_big_quiet_skip
      | (go_big_quiet_want; go_big_quiet_op; go_big_quiet_on)
      | (go_big_quiet_want
         go_big_quiet_op
         apply Exists.intro
         refine ⟨fun p => ?_, ?_⟩
         · (go_at_call 56; exact Calls.regrown_of (rotl_b (x ^^^ d) hk _))
         go_big_quiet_on)
  refine wpQuiet_nil ?_
  rintro w1 ⟨p, rfl⟩
  have hb := below_regrown w p.d p.os
  generalize grow (redrawn w p.d) p.os = w1 at *
  go_wp2
  go_ret
  exact ⟨rfl, hb⟩

end Go.Proofs.YtmhcgjkemlcgoaaDoor.K

namespace Go.Proofs.YtmhcgjkemlcgoaaDoor.K
open Go.RowKit Go.Sort

set_option maxHeartbeats 1000000 in
theorem bend_any {b y : Nat} {L : List (BitVec 64)} (p q r s t : BitVec 64) (hy : y + 4 < L.length) (hl : L.length ≤ 25) (w : World) (hL : Lns w b L) (hf : Loose w b L.length) :
    Calls Tryd.prog 57 #[.pointer (some ⟨b, 0, none⟩), .int .i64 y, .int .u64 (V p), .int .u64 (V q), .int .u64 (V r), .int .u64 (V s), .int .u64 (V t)] w fun e w' => e = .returned (.tuple #[]) ∧
      Lns w' b (((((L.set y (p ^^^ (~~~q &&& r))).set (y + 1) (q ^^^ (~~~r &&& s))).set (y + 2) (r ^^^ (~~~s &&& t))).set (y + 3) (s ^^^ (~~~t &&& p))).set (y + 4) (t ^^^ (~~~p &&& q))) ∧ Loose w' b L.length ∧ Off b w w' := by
  have n0 := V_not' q; have m0 := V_not q; have a0 := V_and (~~~q) r; have x0 := V_xor p (~~~q &&& r)
  have n1 := V_not' r; have m1 := V_not r; have a1 := V_and (~~~r) s; have x1 := V_xor q (~~~r &&& s)
  have n2 := V_not' s; have m2 := V_not s; have a2 := V_and (~~~s) t; have x2 := V_xor r (~~~s &&& t)
  have n3 := V_not' t; have m3 := V_not t; have a3 := V_and (~~~t) p; have x3 := V_xor s (~~~t &&& p)
  have n4 := V_not' p; have m4 := V_not p; have a4 := V_and (~~~p) q; have x4 := V_xor t (~~~p &&& q)
  have b0 : (y : Int) < 25 := by omega
  have g0 := hL y (by omega); have g1 := hL (y + 1) (by omega); have g2 := hL (y + 2) (by omega); have g3 := hL (y + 3) (by omega); have g4 := hL (y + 4) (by omega)
  have f0 := hf y (by omega); have f1 := hf (y + 1) (by omega); have f2 := hf (y + 2) (by omega); have f3 := hf (y + 3) (by omega); have f4 := hf (y + 4) (by omega)
  go_enter Tryd.func57, Tryd.ntmps57
  go_wp2
  all_goals go_end0
  all_goals refine ⟨rfl, ?_, ((((hf.set _ _).set _ _).set _ _).set _ _).set _ _, (((((Off.refl b w).setCell _).setCell _).setCell _).setCell _).setCell _⟩
  all_goals refine ((((hL.set y (by omega) _).set (y + 1) ?_ _).set (y + 2) ?_ _).set (y + 3) ?_ _).set (y + 4) ?_ _
  all_goals simp only [List.length_set]
  all_goals omega

end Go.Proofs.YtmhcgjkemlcgoaaDoor.K
