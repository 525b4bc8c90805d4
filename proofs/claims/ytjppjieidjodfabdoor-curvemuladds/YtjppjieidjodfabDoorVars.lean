import Derived.Test.YtjppjieidjodfabDoorRow
import Derived.Test.YtjppjieidjodfabDoorAdd
import Derived.Test.YtjppjieidjodfabDoorMul
import Derived.Test.YtjppjieidjodfabDoorOut
import Derived.Test.YtjppjieidjodfabDoorRingNum
import Derived.Test.YtjppjieidjodfabDoorLen
namespace Go.Proofs.YtjppjieidjodfabDoor
open Go.RowKit

theorem Blank.new {W : World} {b : Nat} {t : TypeId} (e : b = W.heap.size) : Blank (W.alloc (.cells #[.int .u64 0, .int .u64 0, .int .u64 0, .int .u64 0] t)) b := by
  subst e; exact ⟨Row.new W [0, 0, 0, 0] t, Loose.new _ _ _ _⟩
theorem Blank.set4 {W : World} {b b' : Nat} (h : Blank W b) (ne : b' ≠ b) (v0 v1 v2 v3 : Value) : Blank ((((W.setCell ⟨b', 0, none⟩ v0).setCell ⟨b', 1, none⟩ v1).setCell ⟨b', 2, none⟩ v2).setCell ⟨b', 3, none⟩ v3) b :=
  (((h.set ne v0).set ne v1).set ne v2).set ne v3
/-- Block b holds the number n and may be written. -/
def Var (W : World) (b : Nat) (n : Int) : Prop := Hold W b n ∧ Loose W b 4
theorem Var.keep {W w1 : World} {b : Nat} {n : Int} (h : Var W b n) (hb : Below W.heap.size W w1) : Var w1 b n := ⟨h.1.keep hb, h.2.keep hb (h.1.row.lt (by simp))⟩
theorem Var.alloc {W : World} {b : Nat} {n : Int} (h : Var W b n) (o : Obj) : Var (W.alloc o) b n := h.keep ((Below.refl _ _).alloc (Nat.le_refl _) o)
theorem Var.new {W : World} {b : Nat} {n : Int} {t : TypeId} (e : b = W.heap.size) : Var (W.alloc (.cells #[.int .u64 (l0 n), .int .u64 (l1 n), .int .u64 (l2 n), .int .u64 (l3 n)] t)) b n := by
  subst e; exact ⟨Hold.new W n t, Loose.new _ _ _ _⟩
theorem Var.sets {W : World} {b : Nat} {n : Int} (h : Var W b n) (k : Int) : Var ((((W.setCell ⟨b, 0, none⟩ (.int .u64 (l0 k))).setCell ⟨b, 1, none⟩ (.int .u64 (l1 k))).setCell ⟨b, 2, none⟩ (.int .u64 (l2 k))).setCell ⟨b, 3, none⟩ (.int .u64 (l3 k))) b k :=
  ⟨Hold.sets4 h.1.has, (((h.2.set _ _).set _ _).set _ _).set _ _⟩
theorem Var.set4 {W : World} {b b' : Nat} {n : Int} (h : Var W b n) (ne : b' ≠ b) (v0 v1 v2 v3 : Value) : Var ((((W.setCell ⟨b', 0, none⟩ v0).setCell ⟨b', 1, none⟩ v1).setCell ⟨b', 2, none⟩ v2).setCell ⟨b', 3, none⟩ v3) b n :=
  ⟨h.1.set4 ne v0 v1 v2 v3, (((h.2.set _ _).set _ _).set _ _).set _ _⟩
end Go.Proofs.YtjppjieidjodfabDoor

/- Powers, bit by bit of the exponent. -/
namespace Go.Proofs.YtjppjieidjodfabDoor

/-- n to the power of e modulo 2^256. -/
def expN (n e : Int) : Int := n ^ e.toNat % 115792089237316195423570985008687907853269984665640564039457584007913129639936

theorem expN_Num (n e : Int) : Num (expN n e) := by
  unfold expN Num
  generalize n ^ e.toNat = p
  omega
theorem expN_zero (n : Int) : expN n 0 = 1 := by
  unfold expN; simp
theorem expN_twice (n : Int) {e : Int} (h : 0 ≤ e) : loN (expN n e) (expN n e) = expN n (2 * e) := by
  unfold loN expN
  rw [← Int.mul_emod, show (2 * e).toNat = e.toNat + e.toNat by omega, Int.pow_add]
theorem expN_next (n : Int) {e : Int} (h : 0 ≤ e) : loN (expN n e) n = expN n (e + 1) := by
  unfold loN expN
  rw [mod_mul, show (e + 1).toNat = e.toNat + 1 by omega, Int.pow_succ]

theorem half_bit (m : Int) (j : Nat) : m / 2 ^ j = 2 * (m / 2 ^ (j + 1)) + m / 2 ^ j % 2 := by
  have e : m / 2 ^ (j + 1) = m / 2 ^ j / 2 := by rw [Int.pow_succ, ← Int.ediv_ediv_of_nonneg (Int.le_of_lt (Int.pow_pos (by decide)))]
  rw [e]
  omega

theorem lenN_bound {m : Int} (hm : Num m) : ∃ j : Nat, lenN m = j ∧ j ≤ 256 ∧ m < 2 ^ j ∧ m / 2 ^ j = 0 := by
  obtain ⟨m0, m1⟩ := hm
  by_cases h : m = 0
  · subst h; exact ⟨0, by unfold lenN; simp, by omega, by decide, by decide⟩
  · have hn : m.toNat ≠ 0 := by omega
    have a : Nat.log2 m.toNat < 256 := (Nat.log2_lt hn).2 (by
      have : (2 : Nat) ^ 256 = 115792089237316195423570985008687907853269984665640564039457584007913129639936 := by decide
      omega)
    have b : m.toNat < 2 ^ (Nat.log2 m.toNat + 1) := (Nat.log2_lt hn).1 (Nat.lt_succ_self _)
    have c : m < 2 ^ (Nat.log2 m.toNat + 1) := by
      have : ((m.toNat : Nat) : Int) < ((2 ^ (Nat.log2 m.toNat + 1) : Nat) : Int) := by exact_mod_cast b
      rw [Int.toNat_of_nonneg m0] at this
      simpa using this
    refine ⟨Nat.log2 m.toNat + 1, ?_, by omega, c, Int.ediv_eq_zero_of_lt m0 c⟩
    unfold lenN
    rw [if_neg h]
    rfl

theorem bitN_eq (m : Int) {j : Nat} (h : j < 256) : bitN m j = m / 2 ^ j % 2 := by
  unfold bitN
  rw [if_neg (by omega), Int.toNat_natCast]

end Go.Proofs.YtjppjieidjodfabDoor
