import Derived.Test.YtnokgnhcnhfkpaaDoorUtB
import Derived.Test.YtnokgnhcnhfkpaaDoorRowB
/- Text of the program. -/
namespace Go.Proofs.YtnokgnhcnhfkpaaDoor
open Go.RowKit Go.Sort

/-- Of 95 digits the last k are those of x. -/
def Fld (x : Int) (k : Nat) (l : List Int) : Prop := l.length = 95 ∧ ∀ p, p < k → l.getD (94 - p) 0 = 48 + x / 10 ^ p % 10
theorem Fld.next {x : Int} {k : Nat} {l : List Int} (h : Fld x k l) (hk : k < 95) {i : Nat} (hi : i = 94 - k) {v : Int} (hv : v = 48 + x / 10 ^ k % 10) : Fld x (k + 1) (l.set i v) := by
  subst hi hv
  refine ⟨by rw [List.length_set]; exact h.1, fun p hp => ?_⟩
  by_cases e : p = k
  · subst e; exact setB_eq (by rw [h.1]; omega) _
  · rw [setB_ne (by omega)]; exact h.2 p (by omega)
/-- A digit of a chunk is the number's. -/
theorem chunk_digit (y : Int) {i : Nat} (h : i < 19) : y % 10 ^ 19 / 10 ^ i % 10 = y / 10 ^ i % 10 := by
  have e : (10 : Int) ^ 19 = 10 ^ i * (10 ^ (18 - i) * 10) := by
    rw [← Int.pow_succ, ← Int.pow_add]
    congr 1; omega
  have p := pow_pos10 i
  generalize (10 : Int) ^ i = a at *
  generalize (10 : Int) ^ (18 - i) = b at *
  rw [e]
  have h1 : y / (a * (b * 10)) = y / a / (b * 10) := (Int.ediv_ediv_of_nonneg (by omega)).symm
  have h2 := Int.mul_ediv_add_emod y (a * (b * 10))
  have h3 : y / a = b * 10 * (y / (a * (b * 10))) + y % (a * (b * 10)) / a := by
    have e2 : a * (b * 10) * (y / (a * (b * 10))) = a * (b * 10 * (y / (a * (b * 10)))) := Int.mul_assoc _ _ _
    have : y = y % (a * (b * 10)) + a * (b * 10 * (y / (a * (b * 10)))) := by omega
    conv => lhs; rw [this]
    rw [Int.add_mul_ediv_left _ _ (by omega)]
    omega
  rw [h3]
  generalize y % (a * (b * 10)) / a = u
  generalize y / (a * (b * 10)) = v
  rw [show b * 10 * v = 10 * (b * v) by rw [Int.mul_comm b 10, Int.mul_assoc]]
  omega
theorem div_pow (x : Int) (m n : Nat) : x / 10 ^ m / 10 ^ n = x / 10 ^ (m + n) := by
  rw [Int.pow_add, Int.ediv_ediv_of_nonneg (by have := pow_pos10 m; omega)]
/-- The zeros ahead. -/
theorem Fld.ahead {x : Int} {k f : Nat} {l : List Int} (h : Fld x 95 l) (hk : IsLen x k) (hf : f < 95 - k) : l.getD f 0 = 48 := by
  have := h.2 (94 - f) (by omega)
  rw [show 94 - (94 - f) = f by omega, div_le (show k ≤ 94 - f by omega) hk.2.1] at this
  rw [this]; decide
theorem Fld.first {x : Int} {k : Nat} {l : List Int} (hx : 0 ≤ x) (h : Fld x 95 l) (hk : IsLen x k) (h1 : 1 < k) (h2 : k ≤ 78) : l.getD (95 - k) 0 ≠ 48 := by
  have := h.2 (k - 1) (by omega)
  rw [show 94 - (k - 1) = 95 - k by omega] at this
  rw [this]
  rcases hk.2.2 with h3 | h3
  · omega
  · have h4 := hk.2.1
    have p := pow_pos10 (k - 1)
    have h5 : 0 ≤ x / 10 ^ (k - 1) := Int.ediv_nonneg hx (by omega)
    rw [show k = (k - 1) + 1 by omega, Int.pow_succ, ← Int.ediv_ediv_of_nonneg (by omega)] at h4
    omega
theorem Fld.cells {x : Int} {k j : Nat} {l : List Int} (h : Fld x 95 l) (h1 : 1 ≤ k) (h2 : k ≤ 78) (hj : j < k) : l.getD (95 - k + j) 0 = (((tx x k).getD j 0).toNat : Int) := by
  have := h.2 (k - 1 - j) (by omega)
  rw [show 94 - (k - 1 - j) = 95 - k + j by omega] at this
  rw [this, tx_get x hj, db_nat (dig_low _ _).1 (dig_low _ _).2]
theorem wpList_alloc0 {P : Program} {ops : Array Oper} {rest : List Oper} {o : Oper} {a : Act} {w : World} {Q : Exit → Act → World → Prop} (hg : o.guard = none) (ty : TypeId) (ho : o.op = .alloc ty) (cs : Array Value)
    (hz : ∀ w, (zeroValue ty).run P w = .ok (.agg cs) w) (h : wpList P ops Q rest (a.put o.dst (.pointer (some ⟨w.heap.size, 0, none⟩))) (w.alloc (.cells cs ty))) : wpList P ops Q (o :: rest) a w := by
  refine wpList_plain hg fun K hK => ?_
  unfold Oper.wp execOp
  simp only [ho, Instr.alloc, Sem.run_bind, hz, newVar, newRow, Result.andThen_ok, run_newObj_alloc, Sem.run_pure, Value.cells]
  exact hK _ _ h
theorem zero_val {P : Program} {ty : TypeId} {v : Value} (h : (P.info? ty).map (·.zero) = some (some v)) (w : World) : (zeroValue ty).run P w = .ok v w := by
  cases hq : P.info? ty with
  | none => rw [hq] at h; cases h
  | some i =>
    rw [hq] at h
    simp only [Option.map_some, Option.some.injEq] at h
    simp [zeroValue, typeInfo, hq, h]
theorem zero95 : ∃ l : List Int, Hid (l.length = 95) ∧ ∀ w, (zeroValue 43).run Tryd.prog w = .ok (.agg (l.map (Value.int .u8)).toArray) w :=
  ⟨List.replicate 95 0, List.length_replicate, zero_val (by kernel_rfl)⟩
end Go.Proofs.YtnokgnhcnhfkpaaDoor
