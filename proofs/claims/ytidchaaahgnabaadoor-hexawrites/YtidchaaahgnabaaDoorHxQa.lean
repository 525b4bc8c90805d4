import Derived.Test.YtidchaaahgnabaaDoorHxT
import Derived.Test.YtidchaaahgnabaaDoorLen
import Derived.Laws.Bits64b
/- Layer 8: Quantity of the program. -/
namespace Go.Proofs.YtidchaaahgnabaaDoor
open Go.RowKit Go.Sort
/-- The place of the highest digit that is written. -/
def hiD (n : Int) : Nat := ((lenN n - 1) / 4).toNat
theorem lenN_nonneg (n : Int) : 0 ≤ lenN n := by unfold lenN; split <;> omega
set_option maxHeartbeats 4000000 in
theorem highest_any {n : Int} (hn : Num n) (w : World) :
    Calls Tryd.prog 39 #[.agg #[.int .u64 (l0 n), .int .u64 (l1 n), .int .u64 (l2 n), .int .u64 (l3 n)]] w fun e w' => e = .returned (.int .i64 (4 * (hiD n : Int))) ∧ Below w.heap.size w w' := by
  have LE : Hid (∀ w, Calls Tryd.prog 53 #[.agg #[.int .u64 (l0 n), .int .u64 (l1 n), .int .u64 (l2 n), .int .u64 (l3 n)]] w fun e w' => e = .returned (.int .i64 (lenN n)) ∧ Below w.heap.size w w') := fun w => len_any hn w
  have l0' := lenN_nonneg n
  obtain ⟨j, ej, j1, _⟩ := lenN_bound hn
  have l1' : lenN n ≤ 256 := by omega
  have HD : Hid ((lenN n - 1 < 0 → (4 * (hiD n : Int)) = 0) ∧ (0 ≤ lenN n - 1 → 4 * (hiD n : Int) = (lenN n - 1) / 4 * 4)) := by
    unfold hiD
    exact ⟨fun h => by omega, fun h => by omega⟩
  clear ej j1
  generalize lenN n = L at *
  generalize hiD n = k at *
  have BA : ∀ ob, Below w.heap.size w (w.alloc ob) := fun ob => (Below.refl _ _).alloc (Nat.le_refl _) ob
  by_cases hz : L - 1 < 0
  · have e0 := HD.out.1 hz
    obtain rfl : L = 0 := by omega
    rw [e0]
    clear e0 hz l0' l1'
    go_enter Tryd.func39, Tryd.ntmps39
    go_wp2_with fail
    with_reducible refine (LE.out _).mono ?_
    rintro e w1 ⟨rfl, hb⟩
    go_wp2
    simp [bodyPost, results, Tryd.results39, go_sem]
    exact ⟨by decide, (BA _).trans (hb.mono (BA _).size)⟩
  · have e0 := HD.out.2 (by omega)
    rw [e0]
    have h1 : 1 ≤ L := by omega
    have hm : (if L - 1 < 0 then (0 : Int) else L - 1) = L - 1 := if_neg hz
    clear e0 l0'
    go_enter Tryd.func39, Tryd.ntmps39
    go_wp2_with fail
    with_reducible refine (LE.out _).mono ?_
    rintro e w1 ⟨rfl, hb⟩
    go_wp2
    simp [bodyPost, results, Tryd.results39, go_sem]
    exact ⟨by rw [show max (L - 1) 0 = L - 1 by omega], (BA _).trans (hb.mono (BA _).size)⟩
/-- A digit of a number, from the lowest on. -/
def qdg (n : Int) (k : Nat) : Nat := (n / 16 ^ k % 16).toNat
/-- The first i digits that are written. -/
def qtx (n : Int) (i : Nat) : List UInt8 := (List.range i).map fun j => hd (qdg n (hiD n - j))
theorem qtx_snoc (n : Int) (i : Nat) : qtx n (i + 1) = qtx n i ++ [hd (qdg n (hiD n - i))] := by simp [qtx, List.range_succ]
theorem qtx_len (n : Int) (i : Nat) : (qtx n i).length = i := by simp [qtx]
theorem qdg_lt (n : Int) (k : Nat) : qdg n k < 16 := by unfold qdg; omega
theorem hiD_lt {n : Int} (hn : Num n) : hiD n < 64 := by
  obtain ⟨j, ej, j1, _⟩ := lenN_bound hn
  unfold hiD
  omega
theorem at_string64 {s : ByteArray} {k : Nat} (h : k < s.size) (w : World) : (Instr.index 9 (.string s) (.int .u64 (k : Int))).run Tryd.prog w = .ok (.int .u8 ((s.data.toList.getD k 0).toNat : Int)) w := by
  have e := bt_get s k h
  unfold bt at e
  rw [← e]
  simp [run_index_string w 9 s .u64 (k : Int) Tryd.underlying9, h]
theorem dig_at64 {k : Nat} (h : k < 16) (w : World) : (Instr.index 9 (.string ⟨#[48, 49, 50, 51, 52, 53, 54, 55, 56, 57, 97, 98, 99, 100, 101, 102]⟩) (.int .u64 (k : Int))).run Tryd.prog w = .ok (.int .u8 ((hd k).toNat : Int)) w :=
  at_string64 (s := ⟨#[48, 49, 50, 51, 52, 53, 54, 55, 56, 57, 97, 98, 99, 100, 101, 102]⟩) h w
theorem pow16 (d : Nat) : (16 : Int) ^ d = 2 ^ (4 * d) := by
  rw [Int.pow_mul]; rfl
theorem low_dg (M : Int) {t : Nat} (ht : t < 16) : M % 18446744073709551616 / 2 ^ (4 * t) % 16 = M / 2 ^ (4 * t) % 16 := by
  have : t = 0 ∨ t = 1 ∨ t = 2 ∨ t = 3 ∨ t = 4 ∨ t = 5 ∨ t = 6 ∨ t = 7 ∨ t = 8 ∨ t = 9 ∨ t = 10 ∨ t = 11 ∨ t = 12 ∨ t = 13 ∨ t = 14 ∨ t = 15 := by omega
  rcases this with rfl | rfl | rfl | rfl | rfl | rfl | rfl | rfl | rfl | rfl | rfl | rfl | rfl | rfl | rfl | rfl <;> (simp only [Nat.reduceMul, Int.reducePow]; omega)
theorem limb_div (n : Int) {q : Nat} (hq : q < 4) : [l0 n, l1 n, l2 n, l3 n].getD q 0 = n / 2 ^ (64 * q) % 18446744073709551616 := by
  have : q = 0 ∨ q = 1 ∨ q = 2 ∨ q = 3 := by omega
  rcases this with rfl | rfl | rfl | rfl
  · show l0 n = _; unfold l0; simp
  · show l1 n = _; unfold l1; simp only [Nat.reduceMul, Int.reducePow]
  · show l2 n = _; unfold l2; simp only [Nat.reduceMul, Int.reducePow]
  · show l3 n = _; unfold l3; simp only [Nat.reduceMul, Int.reducePow]
/-- The digit out of its limb. -/
theorem limb_dg (n : Int) {d : Nat} (hd : d < 64) : [l0 n, l1 n, l2 n, l3 n].getD (d / 16) 0 / 2 ^ (4 * (d % 16)) % 16 = (qdg n d : Int) := by
  have e : (qdg n d : Int) = n / 2 ^ (4 * d) % 16 := by unfold qdg; rw [pow16]; omega
  have p : (0 : Int) ≤ 2 ^ (64 * (d / 16)) := Int.le_of_lt (Int.pow_pos (by decide))
  rw [e, limb_div n (by omega), low_dg _ (Nat.mod_lt _ (by decide)), Int.ediv_ediv_of_nonneg p, ← Int.pow_add, show 64 * (d / 16) + 4 * (d % 16) = 4 * d by omega]
theorem and15_64 {x : Int} (h0 : 0 ≤ x) (h1 : x < 18446744073709551616) : bits .and .u64 x 15 = x % 16 := by
  obtain ⟨n, rfl⟩ := Int.eq_ofNat_of_zero_le h0
  have h := bits_and_u64_nat n 15 (by omega) (by decide)
  have e : n &&& 15 = n % 16 := Nat.and_two_pow_sub_one_eq_mod n 4
  rw [e] at h
  exact h
end Go.Proofs.YtidchaaahgnabaaDoor
