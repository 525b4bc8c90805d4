import Derived.Test.YtjppjieidjodfabDoorLen
import Derived.Test.YtjppjieidjodfabDoorCOps
import Derived.Test.YtjppjieidjodfabDoorQAlloc
/- The bits of a number that is moved. -/
namespace Go.Proofs.YtjppjieidjodfabDoor

theorem pow_pos' (k : Nat) : (0 : Int) < 2 ^ k := Int.pow_pos (by decide)
theorem shlN_Num {n : Int} (hn : Num n) (k : Int) : Num (shlN n k) := by
  unfold shlN
  split
  · exact ⟨by decide, by decide⟩
  · split
    · exact downN_Num hn
    · exact upN_Num n k

/-- The bit i of n times 2^k, modulo 2^256. -/
theorem up_bit {n : Int} (k i : Nat) (hi : i ≤ 255) : n * 2 ^ k % 115792089237316195423570985008687907853269984665640564039457584007913129639936 / 2 ^ i % 2 = if i < k then 0 else n / 2 ^ (i - k) % 2 := by
  have e : (115792089237316195423570985008687907853269984665640564039457584007913129639936 : Int) = 2 ^ i * (2 * 2 ^ (255 - i)) := by
    rw [← Int.pow_succ', ← Int.pow_add, show i + (255 - i + 1) = 256 by omega]; decide
  have hp := pow_pos' i
  have d := Int.emod_add_mul_ediv (n * 2 ^ k) 115792089237316195423570985008687907853269984665640564039457584007913129639936
  generalize n * 2 ^ k % 115792089237316195423570985008687907853269984665640564039457584007913129639936 = r at *
  generalize n * 2 ^ k / 115792089237316195423570985008687907853269984665640564039457584007913129639936 = t at *
  have h1 : n * 2 ^ k / 2 ^ i % 2 = r / 2 ^ i % 2 := by
    rw [← d, e, Int.mul_assoc, Int.add_mul_ediv_left _ _ (by omega), Int.mul_assoc]
    omega
  rw [← h1]
  split
  · rename_i h
    have e2 : n * 2 ^ k = 2 ^ i * (2 * (n * 2 ^ (k - i - 1))) := by
      rw [show (2 : Int) ^ k = 2 ^ i * 2 * 2 ^ (k - i - 1) by rw [← Int.pow_succ, ← Int.pow_add]; congr 1; omega, Int.mul_assoc (2 ^ i), Int.mul_left_comm n (2 ^ i), Int.mul_left_comm n 2]
    rw [e2, Int.mul_ediv_cancel_left _ (by omega)]
    omega
  · rename_i h
    conv => lhs; rw [show i = k + (i - k) by omega, Int.pow_add, Int.mul_comm n, ← Int.ediv_ediv_of_nonneg (Int.le_of_lt (pow_pos' k)), Int.mul_ediv_cancel_left _ (by have := pow_pos' k; omega)]

theorem shl_bit {n k : Int} (hn : Num n) (k0 : -255 ≤ k) (k1 : k ≤ 255) (i : Nat) (hi : i ≤ 255) : bitN n (i - k) = shlN n k / 2 ^ i % 2 := by
  unfold shlN bitN
  rw [if_neg (show ¬ (k ≤ -256 ∨ 256 ≤ k) by omega)]
  by_cases h : k < 0
  · rw [if_pos h]
    unfold downN
    rw [Int.ediv_ediv_of_nonneg (Int.le_of_lt (pow_pos' _)), ← Int.pow_add]
    split
    · rename_i h2
      have h3 : 256 ≤ (-k).toNat + i := by omega
      rw [Int.ediv_eq_zero_of_lt hn.1]
      · rfl
      · have : (2 : Int) ^ 256 ≤ 2 ^ ((-k).toNat + i) := by
          rw [show (-k).toNat + i = 256 + ((-k).toNat + i - 256) by omega, Int.pow_add]
          have := pow_pos' ((-k).toNat + i - 256)
          have := Int.mul_le_mul_of_nonneg_left (show (1 : Int) ≤ 2 ^ ((-k).toNat + i - 256) by omega) (show (0 : Int) ≤ 2 ^ 256 by decide)
          omega
        have e : (2 : Int) ^ 256 = 115792089237316195423570985008687907853269984665640564039457584007913129639936 := by decide
        have := hn.2
        omega
    · rw [show ((i : Int) - k).toNat = (-k).toNat + i by omega]
  · rw [if_neg h]
    unfold upN
    rw [up_bit k.toNat i hi]
    by_cases h2 : i < k.toNat
    · rw [if_pos h2, if_pos (by omega)]
    · rw [if_neg h2, if_neg (by omega), show ((i : Int) - k).toNat = i - k.toNat by omega]

theorem mod_succ (Y : Int) (j : Nat) : Y % 2 ^ (j + 1) = Y % 2 ^ j + Y / 2 ^ j % 2 * 2 ^ j := by
  have p := pow_pos' j
  have d1 := Int.emod_add_mul_ediv Y (2 ^ j)
  have d2 := Int.emod_add_mul_ediv (Y / 2 ^ j) 2
  have m0 := Int.emod_nonneg Y (show (2 : Int) ^ j ≠ 0 by omega)
  have m1 := Int.emod_lt_of_pos Y p
  have hb : 0 ≤ Y / 2 ^ j % 2 ∧ Y / 2 ^ j % 2 ≤ 1 := by omega
  rw [Int.pow_succ]
  refine ((Int.ediv_emod_unique (a := Y) (b := 2 ^ j * 2) (r := Y % 2 ^ j + Y / 2 ^ j % 2 * 2 ^ j) (q := Y / 2 ^ j / 2) (by omega)).2 ⟨?_, ?_, ?_⟩).2
  · generalize Y / 2 ^ j / 2 = c at *
    generalize Y / 2 ^ j % 2 = b at *
    rw [← d2, Int.mul_add] at d1
    rw [Int.mul_comm b, Int.mul_assoc]
    omega
  · have := Int.mul_nonneg hb.1 (Int.le_of_lt p); omega
  · have := Int.mul_le_mul_of_nonneg_right hb.2 (Int.le_of_lt p); omega

theorem mod_all {Y : Int} (h : Num Y) : Y % 2 ^ 256 = Y := Int.emod_eq_of_lt h.1 (by have := h.2; rw [show (2 : Int) ^ 256 = 115792089237316195423570985008687907853269984665640564039457584007913129639936 by decide]; exact this)
theorem mod_Num {Y : Int} (h : Num Y) (j : Nat) : Num (Y % 2 ^ j) ∧ Y % 2 ^ j < 2 ^ j := by
  have p := pow_pos' j
  have m0 := Int.emod_nonneg Y (show (2 : Int) ^ j ≠ 0 by omega)
  have m1 := Int.emod_lt_of_pos Y p
  refine ⟨⟨m0, ?_⟩, m1⟩
  have d := Int.emod_add_mul_ediv Y (2 ^ j)
  have q : 0 ≤ 2 ^ j * (Y / 2 ^ j) := Int.mul_nonneg (by omega) (Int.ediv_nonneg h.1 (by omega))
  have := h.2
  omega

end Go.Proofs.YtjppjieidjodfabDoor

namespace Go.Proofs.YtjppjieidjodfabDoor
open Go.RowKit Go.Sort

theorem lwnum_any (v : Int) (w : World) : Calls Tryd.prog 11 #[.int .i64 v] w fun e w' => e = .returned (.int .i64 v) ∧ Below w.heap.size w w' := by
  go_enter Tryd.func11, Tryd.ntmps11
  go_wp2
  simp [bodyPost, results, Tryd.results11, go_sem]
  exact Below.refl _ _
def dX : Int := 89565891926547004231252920425935692360644145829622209833684329913297188986597
def dY : Int := 12158399299693830322967808612713398636155367887041628176798871954788371653930
theorem g_pt : EC.gJ.pt = ptOf gX gY false := by
  rw [EC.gJ_pt]; show EC.Pt.a _ _ = EC.Pt.a (EC.fp gX) (EC.fp gY)
  rw [show EC.gJ.x = EC.fp gX by decide +kernel, show EC.gJ.y = EC.fp gY by decide +kernel]
theorem d_pt : ptOf dX dY false = (ptOf gX gY false).add (ptOf gX gY false) := by
  rw [← g_pt, ← EC.jd_pt EC.gJ_on]
  exact (EC.pt_of (u := EC.fp dX) (v := EC.fp dY) (by decide +kernel) (by decide +kernel) (by decide +kernel)).symm
theorem d_valid : Vd dX dY false := ⟨⟨by decide, by decide⟩, ⟨by decide, by decide⟩, by rw [d_pt]; exact EC.Pt.on g_valid.on g_valid.on⟩
theorem d_limbs : l0 dX = 12370272968204394213 ∧ l1 dX = 6662950628856118439 ∧ l2 dX = 3478257130916576472 ∧ l3 dX = 14268669794154544493 := by decide
theorem none_not : ¬ Vd 0 0 false := fun h => absurd h.2.2 (by show ¬ EC.fp 0 * EC.fp 0 = EC.fp 0 * EC.fp 0 * EC.fp 0 + 7; decide +kernel)

end Go.Proofs.YtjppjieidjodfabDoor

namespace Go.Proofs.YtjppjieidjodfabDoor
open Go.RowKit Go.Sort

def put9 (W : World) (b : Nat) (x y : Int) (i : Bool) : World := (((((((((W.setCell ⟨b, 0, none⟩ (.int .u64 (l0 x))).setCell ⟨b, 1, none⟩ (.int .u64 (l1 x))).setCell ⟨b, 2, none⟩ (.int .u64 (l2 x))).setCell ⟨b, 3, none⟩ (.int .u64 (l3 x))).setCell ⟨b, 4, none⟩ (.int .u64 (l0 y))).setCell ⟨b, 5, none⟩ (.int .u64 (l1 y))).setCell ⟨b, 6, none⟩ (.int .u64 (l2 y))).setCell ⟨b, 7, none⟩ (.int .u64 (l3 y))).setCell ⟨b, 8, none⟩ (.bool i))
theorem Bk9.put9 {W : World} {b : Nat} (h : Bk9 W b) (x y : Int) (i : Bool) : Pnt (Go.Proofs.YtjppjieidjodfabDoor.put9 W b x y i) b x y i := by
  obtain ⟨a0, a1, a2, a3, a4, a5, a6, a7, a8⟩ := h.cells
  intro k hk
  have hk' : k < 9 := by simpa using hk
  have hc : k = 0 ∨ k = 1 ∨ k = 2 ∨ k = 3 ∨ k = 4 ∨ k = 5 ∨ k = 6 ∨ k = 7 ∨ k = 8 := by omega
  unfold Go.Proofs.YtjppjieidjodfabDoor.put9
  rcases hc with rfl | rfl | rfl | rfl | rfl | rfl | rfl | rfl | rfl <;> simp [go_sem, a0, a1, a2, a3, a4, a5, a6, a7, a8]
theorem Pnt.put9 {W : World} {b b' : Nat} {x y x' y' : Int} {i j : Bool} (h : Pnt W b x y i) (ne : b' ≠ b) : Pnt (Go.Proofs.YtjppjieidjodfabDoor.put9 W b' x' y' j) b x y i := by
  unfold Go.Proofs.YtjppjieidjodfabDoor.put9
  exact Cl.set (Cl.set (Cl.set (Cl.set (Cl.set (Cl.set (Cl.set (Cl.set (Cl.set (h) ne _) ne _) ne _) ne _) ne _) ne _) ne _) ne _) ne _
theorem Mds.put9 {W : World} {b' : Nat} {x' y' : Int} {j : Bool} (h : Mds W) (ne : b' ≠ 1) : Mds (Go.Proofs.YtjppjieidjodfabDoor.put9 W b' x' y' j) := by
  unfold Go.Proofs.YtjppjieidjodfabDoor.put9
  exact (((((((((h.set ne _).set ne _).set ne _).set ne _).set ne _).set ne _).set ne _).set ne _).set ne _)
theorem below_put9 {W w : World} {n b : Nat} {x' y' : Int} {j : Bool} (h : Below n w W) (hb : n ≤ b) : Below n w (put9 W b x' y' j) := by
  unfold put9
  exact (((((((((h.setCell hb _).setCell hb _).setCell hb _).setCell hb _).setCell hb _).setCell hb _).setCell hb _).setCell hb _).setCell hb _)

end Go.Proofs.YtjppjieidjodfabDoor
