import Derived.Test.YtfpiopjlcjckeabDoorFPrime
import Derived.Test.YtfpiopjlcjckeabDoorFExp
/- The two moduli as primes, over the integers. -/
namespace Go.Proofs.YtfpiopjlcjckeabDoor

def Prm (m : Int) : Prop := ∃ M : Nat, NT.Prime M ∧ m = (M : Int)
theorem prm_p : Prm pN := ⟨_, NT.prime_115792089237316195423570985008687907853269984665640564039457584007908834671663, rfl⟩
theorem prm_n : Prm nN := ⟨_, NT.prime_115792089237316195423570985008687907852837564279074904382605163141518161494337, rfl⟩

theorem Prm.pos {m : Int} (h : Prm m) : 1 < m := by
  obtain ⟨M, hM, rfl⟩ := h
  have := hM.1
  omega
theorem Prm.dvd {m a b : Int} (h : Prm m) (hd : m ∣ a * b) : m ∣ a ∨ m ∣ b := by
  obtain ⟨M, hM, rfl⟩ := h
  have h1 : M ∣ a.natAbs * b.natAbs := by
    have := Int.natAbs_dvd_natAbs.2 hd
    rwa [Int.natAbs_natCast, Int.natAbs_mul] at this
  rcases NT.prime_mul hM h1 with h2 | h2
  · exact .inl (Int.natAbs_dvd_natAbs.1 (by rwa [Int.natAbs_natCast]))
  · exact .inr (Int.natAbs_dvd_natAbs.1 (by rwa [Int.natAbs_natCast]))
theorem Prm.zero {m a b : Int} (h : Prm m) (hd : a * b % m = 0) : a % m = 0 ∨ b % m = 0 := by
  rcases h.dvd (Int.dvd_of_emod_eq_zero hd) with h1 | h1
  · exact .inl (Int.emod_eq_zero_of_dvd h1)
  · exact .inr (Int.emod_eq_zero_of_dvd h1)
theorem Prm.cancel {m a b c : Int} (h : Prm m) (ha : a % m ≠ 0) (e : a * b % m = a * c % m) : b % m = c % m := by
  have h1 : a * (b - c) % m = 0 := by
    rw [Int.mul_sub, Int.sub_emod, e, Int.sub_self, Int.zero_emod]
  rcases h.zero h1 with h2 | h2
  · exact absurd h2 ha
  · exact Int.emod_eq_emod_iff_emod_sub_eq_zero.2 h2
/-- Fermat. -/
theorem Prm.fermat {m x : Int} (h : Prm m) (x0 : 0 ≤ x) (hx : x % m ≠ 0) : x ^ (m - 1).toNat % m = 1 := by
  obtain ⟨M, hM, rfl⟩ := h
  obtain ⟨X, rfl⟩ := Int.eq_ofNat_of_zero_le x0
  have h1 : ¬ M ∣ X := fun hd => hx (Int.emod_eq_zero_of_dvd (Int.natCast_dvd_natCast.2 hd))
  have h2 := NT.fermat hM h1
  have h3 : ((M : Int) - 1).toNat = M - 1 := by have := hM.1; omega
  rw [h3]
  exact_mod_cast congrArg (Nat.cast (R := Int)) h2
/-- What squares to 1 is 1 or its opposite. -/
theorem Prm.one {m y : Int} (h : Prm m) (y0 : 0 ≤ y) (y1 : y < m) (e : y * y % m = 1) : y = 1 ∨ y = m - 1 := by
  have hp := h.pos
  have h1 : (y - 1) * (y + 1) % m = 0 := by
    have e1 : (y - 1) * (y + 1) = y * y - 1 := by rw [Int.sub_mul, Int.mul_add]; omega
    rw [e1, Int.sub_emod, e, Int.emod_eq_of_lt (by decide) hp]; simp
  rcases h.zero h1 with h2 | h2
  · left
    by_cases z : y = 0
    · subst z
      simp at e
    · rw [Int.emod_eq_of_lt (by omega) (by omega)] at h2; omega
  · right
    by_cases z : y = m - 1
    · exact z
    · rw [Int.emod_eq_of_lt (by omega) (by omega)] at h2; omega

theorem powN_mul (m x : Int) {a b : Int} (ha : 0 ≤ a) (hb : 0 ≤ b) : modN m (powN m x a * powN m x b) = powN m x (a + b) := by
  unfold modN powN
  rw [← Int.mul_emod, show (a + b).toNat = a.toNat + b.toNat by omega, Int.pow_add]
theorem powN_times (m x y e : Int) : powN m (x * y) e = modN m (powN m x e * powN m y e) := by
  unfold modN powN
  rw [← Int.mul_emod, Int.mul_pow]
theorem powN_mod {m : Int} (x e : Int) : powN m (modN m x) e = powN m x e := by
  unfold modN powN
  generalize e.toNat = n
  induction n with
  | zero => rw [Int.pow_zero, Int.pow_zero]
  | succ n ih => rw [Int.pow_succ, Int.pow_succ, Int.mul_emod, ih, Int.emod_emod_of_dvd _ (Int.dvd_refl m), ← Int.mul_emod]
theorem powN_pow (m x : Int) {a b : Int} (ha : 0 ≤ a) (hb : 0 ≤ b) : powN m (powN m x a) b = powN m x (a * b) := by
  have := powN_mod (m := m) (x ^ a.toNat) b
  unfold modN at this
  unfold powN at this ⊢
  rw [this, ← Int.pow_mul, Int.toNat_mul ha hb]
theorem powN_one {m x : Int} : powN m x 1 = modN m x := by unfold powN modN; rw [show (1 : Int).toNat = 1 from rfl, Int.pow_succ, Int.pow_zero, Int.one_mul]
theorem powN_none {m x e : Int} (h : modN m x = 0) (he : 0 < e) : powN m x e = 0 := by
  rw [← powN_mod, h]
  unfold powN
  rw [Int.zero_pow (by omega)]; simp
theorem powN_fermat {m x : Int} (h : Prm m) (x0 : 0 ≤ x) (hx : modN m x ≠ 0) : powN m x (m - 1) = 1 := h.fermat x0 hx
theorem modN_mod {m : Int} (x : Int) : modN m (modN m x) = modN m x := Int.emod_emod_of_dvd _ (Int.dvd_refl m)
theorem modN_mul_l {m : Int} (x y : Int) : modN m (modN m x * y) = modN m (x * y) := by
  unfold modN; rw [Int.mul_emod, Int.emod_emod_of_dvd _ (Int.dvd_refl m), ← Int.mul_emod]
theorem modN_mul_r {m : Int} (x y : Int) : modN m (x * modN m y) = modN m (x * y) := by
  unfold modN; rw [Int.mul_emod, Int.emod_emod_of_dvd _ (Int.dvd_refl m), ← Int.mul_emod]
theorem modN_add_l {m : Int} (x y : Int) : modN m (modN m x + y) = modN m (x + y) := by
  unfold modN; rw [Int.add_emod, Int.emod_emod_of_dvd _ (Int.dvd_refl m), ← Int.add_emod]
theorem modN_add_r {m : Int} (x y : Int) : modN m (x + modN m y) = modN m (x + y) := by
  unfold modN; rw [Int.add_emod, Int.emod_emod_of_dvd _ (Int.dvd_refl m), ← Int.add_emod]
theorem modN_of_lt {m x : Int} (h0 : 0 ≤ x) (h1 : x < m) : modN m x = x := Int.emod_eq_of_lt h0 h1
end Go.Proofs.YtfpiopjlcjckeabDoor
