import Derived.Test.YtfpiopjlcjckeaaDoorFInverts
import Derived.Test.YtfpiopjlcjckeaaDoorFInverts0
namespace Go.Proofs.YtfpiopjlcjckeaaDoor
open Go.RowKit Go.Sort

theorem Kind.prm {k m c : Int} (h : Kind k m c) : Prm m := by
  have e := h.ee
  have em := h.em
  unfold kE at e
  unfold kM at em
  by_cases h0 : k = 0
  · rw [if_pos h0] at em; rw [← em]; exact prm_p
  · rw [if_neg h0] at em e
    by_cases h1 : k = 1
    · rw [if_pos h1] at em; rw [← em]; exact prm_n
    · rw [if_neg h1] at e; omega
theorem inv_mul {m c x : Int} (hf : Fit m c) (hp : Prm m) (x0 : 0 ≤ x) (hx : modN m x ≠ 0) : modN m (x * invN m x) = 1 := by
  have h1 := hf.low
  have e := powN_next m x (e := m - 2) (by omega)
  rw [show m - 2 + 1 = m - 1 by omega, powN_fermat hp x0 hx, Int.mul_comm] at e
  exact e
theorem inv_some {m c x : Int} (hf : Fit m c) (hp : Prm m) (x0 : 0 ≤ x) (hx : modN m x ≠ 0) : modN m (invN m x) ≠ 0 := by
  intro h
  have e := inv_mul hf hp x0 hx
  rw [← modN_mul_r, h, Int.mul_zero] at e
  exact absurd e (by unfold modN; simp)
theorem inv_inv {m c x : Int} (hf : Fit m c) (hp : Prm m) (x0 : 0 ≤ x) (hx : modN m x ≠ 0) : invN m (invN m x) = modN m x := by
  have hy := inv_some hf hp x0 hx
  have y0 : 0 ≤ invN m x := (powN_lt hf x (m - 2)).1
  have e1 := inv_mul hf hp x0 hx
  have e2 := inv_mul hf hp y0 hy
  rw [Int.mul_comm] at e1
  have e3 := hp.cancel (a := invN m x) hy (show invN m x * invN m (invN m x) % m = invN m x * x % m from e2.trans e1.symm)
  obtain ⟨z0, z1⟩ : 0 ≤ invN m (invN m x) ∧ invN m (invN m x) < m := powN_lt hf (invN m x) (m - 2)
  rw [Int.emod_eq_of_lt z0 z1] at e3
  exact e3
theorem shr_one {n : Int} : shrN n 1 = n / 2 := by
  unfold shrN downN
  rw [if_neg (by decide), if_neg (by decide)]
  rfl

theorem finverts_any {v x a : Int} (hx : Num x) (ha : Num a) (w : World) (hm : Mds w) :
    Calls Tryd.prog 6 #[.int .i64 v, .agg #[.int .u64 (l0 x), .int .u64 (l1 x), .int .u64 (l2 x), .int .u64 (l3 x)], .agg #[.int .u64 (l0 a), .int .u64 (l1 a), .int .u64 (l2 a), .int .u64 (l3 a)]] w fun e w' => e = .returned (.bool true) ∧ Below w.heap.size w w' := by
  obtain ⟨k, m, c, K, hk⟩ := fkind_kind v
  have hf := K.fit
  have hp := K.prm
  have low := hf.low
  have n0 : Num 0 := ⟨by decide, by decide⟩
  have n1 : Num 1 := ⟨by decide, by decide⟩
  have R : ∀ w, Mds w → Calls Tryd.prog 20 #[.int .i64 k, .agg #[.int .u64 0, .int .u64 0, .int .u64 0, .int .u64 0], .agg #[.int .u64 (l0 x), .int .u64 (l1 x), .int .u64 (l2 x), .int .u64 (l3 x)]] w fun e w' => e = .returned (.tuple #[.agg #[.int .u64 (l0 (modN m x)), .int .u64 (l1 (modN m x)), .int .u64 (l2 (modN m x)), .int .u64 (l3 (modN m x))], .int .i64 0]) ∧ Below w.heap.size w w' := fun w h => by
    have := Reduce_good K n0 hx w h
    obtain ⟨z0, z1, z2, z3⟩ := zero_limbs
    rw [wide_zero, z0, z1, z2, z3] at this
    exact this
  by_cases hz : modN m x = 0
  · rw [hz] at R
    exact finverts_none hk (fun w h => Modulus_good K w h) R (fun w h => Inverse_zero K hx hz w h) w hm
  · have ny : Num (invN m x) := powN_Num hf x (m - 2)
    have hl : difN m 1 = m - 1 := by have := hf.num.2; unfold difN; omega
    have nl : Num (m - 1) := ⟨by omega, by have := hf.num.2; omega⟩
    have nh : Num (a / 2) := ⟨by have := ha.1; omega, by have := ha.2; omega⟩
    have hr : difN a (a / 2) = a - a / 2 ∧ borN a (a / 2) = 0 := by
      obtain ⟨a0, a1⟩ := ha
      exact ⟨by unfold difN; omega, by unfold borN; rw [if_neg (by omega)]⟩
    have nr : Num (a - a / 2) := by obtain ⟨a0, a1⟩ := ha; exact ⟨by omega, by omega⟩
    refine finverts_some (m := m) (r := modN m x) (y := invN m x) (ls := m - 1) (hf := a / 2) (rs := a - a / 2) (pv := powN m x (a / 2)) (qv := powN m x (a - a / 2)) (wv := powN m x a) (z1 := borN m 1) hk (fun w h => Modulus_good K w h) R (fun w h => Inverse_good K hx hz w h) ?_ (from_any ⟨by decide, by decide⟩) ?_ ?_ ?_ ?_ ?_ (fun w h => Exp_good K hx nh w h) (fun w h => Exp_good K hx nr w h) (fun w h => Exp_good K hx ha w h) ?_ hz (modN_Num hf x) w hm
    · intro w h
      have := Inverse_good K ny (inv_some hf hp hx.1 hz) w h
      rw [inv_inv hf hp hx.1 hz] at this
      exact this
    · intro w; have := sub_any hf.num n1 w; rw [hl] at this; exact this
    · intro w h; have := Exp_good K hx nl w h; rw [powN_fermat hp hx.1 hz] at this; exact this
    · intro w b h hs; have := smul_any K hx ny w h hs; rw [inv_mul hf hp hx.1 hz] at this; exact this
    · intro w; have := shr_any (k := 1) ha w; rw [shr_one] at this; exact this
    · intro w; have := sub_any ha nh w; rw [hr.1, hr.2] at this; exact this
    · intro w b h hs
      have := smul_any K (powN_Num hf x (a / 2)) (powN_Num hf x (a - a / 2)) w h hs
      rw [powN_mul m x nh.1 nr.1, show a / 2 + (a - a / 2) = a by omega] at this
      exact this
end Go.Proofs.YtfpiopjlcjckeaaDoor
