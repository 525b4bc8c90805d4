import Derived.Test.YtncpjgpioajbeaaGreatDoorSRRoots
import Derived.Test.YtncpjgpioajbeaaGreatDoorSComp
/- The document's turned and word; what the words of a block are. -/
namespace Go.Proofs.YtncpjgpioajbeaaGreatDoor.S
open Go.RowKit Go.Sort

theorem turned_any (x : BitVec 32) {n : Nat} {n' : Int} (e : n' = (n : Int)) (h0 : 0 < n) (hn : n < 32) (w : World) :
    Calls Tryz.prog 167 #[.int .u32 (U x), .int .u64 n'] w fun e w' => e = .returned (.int .u32 (U (rotr x n))) ∧ Below w.heap.size w w' := by
  subst e
  have v1 := U_shr x n
  have v2 := U_shl' x (32 - n)
  have v3 : bits .or .u32 (U (x >>> n)) (U (x <<< (32 - n))) = U (rotr x n) := U_or _ _
  have e1 : ((n : Int)).toNat = n := by omega
  have e2 : (32 - (n : Int)).toNat = 32 - n := by omega
  have b0 : (0 : Int) < (n : Int) := by omega
  have b1 : (n : Int) < 32 := by omega
  go_enter Tryz.func167, Tryz.ntmps167
  go_wp2
  simp [bodyPost, results, Tryz.results167, go_sem, v2]
  exact Below.refl _ _

/-- The t-th word of a block. -/
def wordAt (B : List (BitVec 8)) (t : Nat) : BitVec 32 := wide (B.getD (4 * t) 0) <<< 24 ||| wide (B.getD (4 * t + 1) 0) <<< 16 ||| wide (B.getD (4 * t + 2) 0) <<< 8 ||| wide (B.getD (4 * t + 3) 0)
def partW (B : List (BitVec 8)) (t : Nat) : Nat → BitVec 32
  | 0 => 0
  | m + 1 => partW B t m <<< 8 ||| wide (B.getD (4 * t + m) 0)
theorem partW_4 (B : List (BitVec 8)) (t : Nat) : partW B t 4 = wordAt B t := by
  simp only [partW, wordAt, Nat.add_zero, BitVec.shiftLeft_or_distrib, ← BitVec.shiftLeft_add]
  rw [show (0 : BitVec 32) <<< (8 + 8 + 8 + 8) = 0#32 from by decide, BitVec.zero_or]
theorem puts_part (B : List (BitVec 8)) (t : Nat) (ht : t < 16) : ∀ n, n ≤ 64 → (puts B n).getD t 0 = partW B t (min (n - 4 * t) 4)
  | 0, _ => by
    rw [show min (0 - 4 * t) 4 = 0 by omega, partW, puts]
    simp only [List.getD, List.getElem?_replicate]
    split <;> rfl
  | n + 1, h => by
    have ih := puts_part B t ht n (by omega)
    rw [puts, putW]
    by_cases c : n / 4 = t
    · rw [c, List.getD, List.getElem?_set_self (by rw [puts_len]; omega), Option.getD_some, ih, show min (n + 1 - 4 * t) 4 = min (n - 4 * t) 4 + 1 by omega, partW, show 4 * t + min (n - 4 * t) 4 = n by omega]
    · rw [List.getD, List.getElem?_set_ne c, ← List.getD, ih, show min (n + 1 - 4 * t) 4 = min (n - 4 * t) 4 by omega]
theorem exts_stay (L : List (BitVec 32)) {t : Nat} : ∀ {n m : Nat}, n ≤ m → t < 16 + n → (exts L m).getD t 0 = (exts L n).getD t 0
  | n, 0, h, _ => by rw [show n = 0 by omega]
  | n, m + 1, h, ht => by
    by_cases c : n = m + 1
    · rw [c]
    · rw [exts, List.getD, List.getElem?_set_ne (by omega), ← List.getD]
      exact exts_stay L (by omega) ht
theorem spread_word (B : List (BitVec 8)) {t : Nat} (ht : t < 16) : (spreadL B).getD t 0 = wordAt B t := by
  rw [spreadL, exts_stay (puts B 64) (n := 0) (by omega) (by omega), exts, puts_part B t ht 64 (by omega), show min (64 - 4 * t) 4 = 4 by omega, partW_4]
theorem spread_next (B : List (BitVec 8)) {t : Nat} (h1 : 16 ≤ t) (h2 : t < 64) : (spreadL B).getD t 0 = nextW (spreadL B) t := by
  obtain ⟨n, rfl⟩ : ∃ n, t = 16 + n := ⟨t - 16, by omega⟩
  have e : ∀ i, i < 16 + n → (spreadL B).getD i 0 = (exts (puts B 64) n).getD i 0 := fun i hi => exts_stay _ (by omega) hi
  have e2 : (spreadL B).getD (16 + n) 0 = (exts (puts B 64) (n + 1)).getD (16 + n) 0 := exts_stay _ (by omega) (by omega)
  rw [e2, exts, List.getD, List.getElem?_set_self (by rw [exts_len, puts_len]; omega), Option.getD_some]
  unfold nextW
  rw [e _ (by omega), e _ (by omega), e _ (by omega), e _ (by omega)]

set_option maxRecDepth 100000 in
set_option maxHeartbeats 4000000 in
theorem word_any {bd od cd t : Nat} {B : List (BitVec 8)} (hl : B.length = 64) (ht : t < 16) (w : World) (hB : Byo w bd od B) :
    Calls Tryz.prog 173 #[.slice (some ⟨bd, od, none⟩) 64 cd, .int .i64 (4 * (t : Int))] w fun e w' => e = .returned (.int .u32 (U (wordAt B t))) ∧ Below w.heap.size w w' := by
  have c0 := hB (4 * t) (by omega)
  have c1 := hB (4 * t + 1) (by omega)
  have c2 := hB (4 * t + 2) (by omega)
  have c3 := hB (4 * t + 3) (by omega)
  obtain ⟨x, ex⟩ : ∃ x : Nat, x = 4 * t := ⟨_, rfl⟩
  have e4 : 4 * (t : Int) = (x : Int) := by omega
  rw [e4]
  unfold wordAt
  rw [← ex] at c0 c1 c2 c3 ⊢
  generalize B.getD x 0 = b0 at *
  generalize B.getD (x + 1) 0 = b1 at *
  generalize B.getD (x + 2) 0 = b2 at *
  generalize B.getD (x + 3) 0 = b3 at *
  have x1 : (x : Int) < 61 := by omega
  have u0 := U_wide b0; have u1 := U_wide b1; have u2 := U_wide b2; have u3 := U_wide b3
  rw [u0] at c0; rw [u1] at c1; rw [u2] at c2; rw [u3] at c3
  clear u0 u1 u2 u3 e4 ex ht hl hB
  generalize wide b0 = a0 at *; generalize wide b1 = a1 at *; generalize wide b2 = a2 at *; generalize wide b3 = a3 at *
  go_enter Tryz.func173, Tryz.ntmps173
  have r1 := U_or (a0 <<< 24) (a1 <<< 16)
  have r2 := U_or (a0 <<< 24 ||| a1 <<< 16) (a2 <<< 8)
  have r3 := U_or (a0 <<< 24 ||| a1 <<< 16 ||| a2 <<< 8) a3
  have e1 : ((x : Int) + 1).toNat = x + 1 := by omega
  have e2 : ((x : Int) + 2).toNat = x + 2 := by omega
  have e3 : ((x : Int) + 3).toNat = x + 3 := by omega
  have m0 : U a0 % 4294967296 = U a0 := Int.emod_eq_of_lt (U_lo _) (U_hi _)
  have m1 : U a1 % 4294967296 = U a1 := Int.emod_eq_of_lt (U_lo _) (U_hi _)
  have m2 : U a2 % 4294967296 = U a2 := Int.emod_eq_of_lt (U_lo _) (U_hi _)
  have m3 : U a3 % 4294967296 = U a3 := Int.emod_eq_of_lt (U_lo _) (U_hi _)
  go_wp2_with fail
  refine region_tail 29 (by kernel_rfl) (by kernel_rfl) ?_
  simp only [List.take_succ_cons, List.take_zero, List.drop_succ_cons, List.drop_zero]
  repeat (first | go_big_quiet_skip | (go_big_quiet_want; go_big_quiet_op; go_big_quiet_on))
  refine wpQuiet_nil ?_
  go_wp2
  simp [bodyPost, results, Tryz.results173, go_sem]
  exact ⟨by rw [show U a0 * (16777216 : Int) % (4294967296 : Int) = U (a0 <<< 24) from U_shl' a0 24, show U a1 * (65536 : Int) % (4294967296 : Int) = U (a1 <<< 16) from U_shl' a1 16, show U a2 * (256 : Int) % (4294967296 : Int) = U (a2 <<< 8) from U_shl' a2 8, r1, r2, r3], (Below.refl _ _).drew⟩
end Go.Proofs.YtncpjgpioajbeaaGreatDoor.S
