import Derived.Test.YtncpjgpioajbeaaGreatDoorCOrd
/- Points of three numbers, and the base point's order. -/
namespace Go.Proofs.YtncpjgpioajbeaaGreatDoor.EC

/-- Points as three numbers. -/
structure J where
  x : F
  y : F
  z : F
def J.pt (t : J) : Pt := EC.pt t.x t.y t.z
def J.o : J := ⟨0, 0, 0⟩
def jd (t : J) : J := if t.z = 0 then t else ⟨dx t.x t.y, dy t.x t.y, dz t.y t.z⟩
def ja (t u : J) : J :=
  if t.z = 0 then u else if u.z = 0 then t else
  if run t.x t.z u.x u.z = 0 then (if rise t.y t.z u.y u.z = 0 then jd t else J.o) else
    ⟨ax t.x u.z (run t.x t.z u.x u.z) (rise t.y t.z u.y u.z), ay t.x t.y u.z (run t.x t.z u.x u.z) (rise t.y t.z u.y u.z), az t.z u.z (run t.x t.z u.x u.z)⟩

theorem J.pt_o : J.o.pt = .o := EC.pt_o rfl
theorem jd_pt {t : J} (h : On t.pt) : (jd t).pt = t.pt.add t.pt := by
  unfold jd
  by_cases hz : t.z = 0
  · rw [if_pos hz]
    have e : t.pt = .o := EC.pt_o hz
    rw [e]; rfl
  · rw [if_neg hz]; exact pt_dbl two hz h
theorem ja_pt {t u : J} (h : On t.pt) (h' : On u.pt) : (ja t u).pt = t.pt.add u.pt := by
  unfold ja
  by_cases hz : t.z = 0
  · rw [if_pos hz]
    have e : t.pt = .o := EC.pt_o hz
    rw [e]; rfl
  · rw [if_neg hz]
    by_cases hu : u.z = 0
    · rw [if_pos hu]
      have e : u.pt = .o := EC.pt_o hu
      rw [e, add_o]
    · rw [if_neg hu]
      obtain ⟨a, b, c⟩ := pt_add two hz hu h h'
      by_cases hr : run t.x t.z u.x u.z = 0
      · rw [if_pos hr]
        by_cases hs : rise t.y t.z u.y u.z = 0
        · rw [if_pos hs, jd_pt h]
          have e : u.pt = t.pt := b hr hs
          rw [e]
        · rw [if_neg hs, J.pt_o]; exact (c hr hs).symm
      · rw [if_neg hr]; exact a hr

def jm : Nat → Nat → J → J
  | 0, _, _ => J.o
  | f + 1, k, t => if k % 2 = 1 then ja (jd (jm f (k / 2) t)) t else jd (jm f (k / 2) t)
theorem jm_pt {t : J} (h : On t.pt) : ∀ f k, k < 2 ^ f → (jm f k t).pt = smul k t.pt
  | 0, k, hk => by
    have : k = 0 := by rw [Nat.pow_zero] at hk; omega
    subst this; exact J.pt_o
  | f + 1, k, hk => by
    have ih := jm_pt h f (k / 2) (by rw [Nat.pow_succ] at hk; omega)
    have hon : On (jm f (k / 2) t).pt := by rw [ih]; exact smul_on h _
    have e2 : (jd (jm f (k / 2) t)).pt = smul (k / 2 + k / 2) t.pt := by rw [jd_pt hon, ih, smul_add h]
    unfold jm
    split
    · next ho =>
      rw [ja_pt (by rw [e2]; exact smul_on h _) h, e2]
      conv => rhs; rw [show k = k / 2 + k / 2 + 1 by omega]
      rfl
    · next ho =>
      rw [e2]; congr 1; omega

def gJ : J := ⟨55066263022277343669578718895168534326250603453777594175500187360389116729240, 32670510020758816978083085130507043184471273380659243275938904335757337482424, 1⟩
theorem gJ_z : gJ.z ≠ 0 := by decide +kernel
theorem gJ_on' : gJ.y * gJ.y = gJ.x * gJ.x * gJ.x + 7 := by decide +kernel
theorem gJ_pt : gJ.pt = .a gJ.x gJ.y := by
  have e : gJ.z = 1 := rfl
  refine pt_of gJ_z ?_ ?_
  · rw [e]; grind -lia -linarith
  · rw [e]; grind -lia -linarith
theorem gJ_on : On gJ.pt := by rw [gJ_pt]; exact gJ_on'
theorem ng_zero : (jm 256 115792089237316195423570985008687907852837564279074904382605163141518161494337 gJ).z = 0 := by decide +kernel

/-- A cube, by Fermat. -/
theorem cube_one {p x a e : Nat} (hp : NT.Prime p) (he : p - 1 = 3 * e) (hx : ¬ p ∣ x) (ha : x * x * x % p = a % p) : a ^ e % p = 1 := by
  have h := NT.fermat hp hx
  rw [he, Nat.pow_mul] at h
  rw [Nat.pow_mod, ← ha, ← Nat.pow_mod, show x * x * x = x ^ 3 by rw [Nat.pow_succ, Nat.pow_succ, Nat.pow_succ, Nat.pow_zero, Nat.one_mul]]
  exact h
theorem pm_seven : NT.pm 115792089237316195423570985008687907853269984665640564039457584007908834671663 256 115792089237316195423570985008687907853269984665640564039457584007908834671656 38597363079105398474523661669562635951089994888546854679819194669302944890554 ≠ 1 := by decide +kernel
theorem sev_sum : ((115792089237316195423570985008687907853269984665640564039457584007908834671656 : F) + 7) = 0 := by decide +kernel
theorem sev_val : (115792089237316195423570985008687907853269984665640564039457584007908834671656 : F).val = 115792089237316195423570985008687907853269984665640564039457584007908834671656 := by decide +kernel
theorem no_two_p : NoTwo := by
  intro x h
  have hx : x * x * x = (115792089237316195423570985008687907853269984665640564039457584007908834671656 : F) := by
    have := sev_sum
    generalize (115792089237316195423570985008687907853269984665640564039457584007908834671656 : F) = a at *
    grind -lia -linarith
  have hv : x.val * x.val * x.val % 115792089237316195423570985008687907853269984665640564039457584007908834671663 = 115792089237316195423570985008687907853269984665640564039457584007908834671656 % 115792089237316195423570985008687907853269984665640564039457584007908834671663 := by
    have e1 := congrArg Fin.val hx
    rw [sev_val, Fin.val_mul, Fin.val_mul, Nat.mod_mul_mod] at e1
    rw [e1]
  have hn : ¬ 115792089237316195423570985008687907853269984665640564039457584007908834671663 ∣ x.val := by
    intro ⟨q, hq⟩
    have h0 : x.val = 0 := by
      have := x.isLt
      rcases Nat.eq_zero_or_pos q with h0 | h0
      · rw [hq, h0, Nat.mul_zero]
      · omega
    rw [h0] at hv
    exact absurd hv (by decide +kernel)
  have c := cube_one (e := 38597363079105398474523661669562635951089994888546854679819194669302944890554) NT.prime_115792089237316195423570985008687907853269984665640564039457584007908834671663 (by decide +kernel) hn hv
  exact pm_seven ((NT.pm_eq _ _ _ _ (by decide +kernel)).trans c)

theorem low_ord {n i k q : Nat} {g : Pt} (hg : On g) (h0 : g ≠ .o) (hn : smul n g = .o) (e : k * i = n * q + 1) : smul k g ≠ .o := by
  intro hk
  have a := smul_mul hg k i
  rw [hk, smul_o, e, smul_add hg, smul_mul hg, hn, smul_o, smul_one] at a
  exact h0 a
theorem inv_n {x : Int} (x0 : 0 ≤ x) (h : modN nN x ≠ 0) : modN nN (x * invN nN x) = 1 := by
  have e := powN_fermat prm_n x0 h
  unfold invN
  rw [Int.mul_comm, powN_next nN x (by decide), show nN - 2 + 1 = nN - 1 by decide]; exact e
theorem nat_inv {k n : Nat} {i : Int} (i0 : 0 ≤ i) (h : (k : Int) * i % (n : Int) = 1) : ∃ j q, k * j = n * q + 1 := by
  obtain ⟨j, rfl⟩ := Int.eq_ofNat_of_zero_le i0
  refine ⟨j, k * j / n, ?_⟩
  have e : ((k * j % n : Nat) : Int) = 1 := by rw [Int.natCast_emod, Int.natCast_mul]; exact h
  have := Nat.div_add_mod (k * j) n
  omega
theorem nN_is : nN = ((115792089237316195423570985008687907852837564279074904382605163141518161494337 : Nat) : Int) := rfl
theorem base_g : Base 115792089237316195423570985008687907852837564279074904382605163141518161494337 gJ.pt where
  on := gJ_on
  ord := by
    rw [← jm_pt gJ_on 256 _ (by decide +kernel)]
    exact EC.pt_o ng_zero
  low := by
    intro k h0 hk
    have hm : modN nN (k : Int) = (k : Int) := modN_of_lt (by omega) (by rw [nN_is]; omega)
    have e := inv_n (x := (k : Int)) (by omega) (by rw [hm]; omega)
    unfold modN at e
    rw [nN_is] at e
    obtain ⟨j, q, hj⟩ := nat_inv (powN_lt fit_n _ _).1 e
    refine low_ord gJ_on ?_ ?_ hj
    · rw [gJ_pt]; intro h; cases h
    · rw [← jm_pt gJ_on 256 _ (by decide +kernel)]
      exact EC.pt_o ng_zero
  odd := by decide +kernel
  big := by decide +kernel
/-- n times any point is the identity. -/
theorem ord_all {p : Pt} (hp : On p) : smul 115792089237316195423570985008687907852837564279074904382605163141518161494337 p = .o := base_g.zero no_two_p hp

end Go.Proofs.YtncpjgpioajbeaaGreatDoor.EC
