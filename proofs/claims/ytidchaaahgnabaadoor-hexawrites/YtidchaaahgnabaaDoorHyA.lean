import Derived.Test.YtidchaaahgnabaaDoorHxQb
import Derived.Test.YtidchaaahgnabaaDoorHxD
import Derived.Test.YtidchaaahgnabaaDoorHxRd
import Derived.Test.YtidchaaahgnabaaDoorCmp
/- Layer 8: the digits of a text as a number, there and back. -/
namespace Go.Proofs.YtidchaaahgnabaaDoor
open Go.RowKit Go.Sort
end Go.Proofs.YtidchaaahgnabaaDoor

/- Layer 8: what is read is, in small letters, what is written of it. -/
namespace Go.Proofs.YtidchaaahgnabaaDoor
open Go.RowKit Go.Sort
theorem l0_small {n : Int} (h0 : 0 ≤ n) (h : n < 18446744073709551616) : l0 n = n ∧ l1 n = 0 ∧ l2 n = 0 ∧ l3 n = 0 := by
  unfold l0 l1 l2 l3; omega
end Go.Proofs.YtidchaaahgnabaaDoor

/- Layer 8: Data, HashText, Uint of the program. -/
namespace Go.Proofs.YtidchaaahgnabaaDoor
open Go.RowKit Go.Sort
set_option maxRecDepth 100000 in
theorem hdata_any {a : Option Addr} {g o n c : Nat} {X : List Int} (hX : X.length = n) (hn : n ≤ 16777216) (hb : ∀ i, 0 ≤ X.getD i 0 ∧ X.getD i 0 < 256) (ha : n ≠ 0 → a = some ⟨g, o, none⟩) (w : World) (hc : ∀ i, i < n → w.cell? ⟨g, o + i, none⟩ = some (.int .u8 (X.getD i 0))) :
    Calls Tryd.prog 13 #[.slice a n c] w fun e w' => e = .returned (.tuple #[.string ⟨([48, 120] ++ hexB X).toArray⟩, .int .i64 0]) ∧ Below w.heap.size w w' := by
  have hw := written_any (c := c) hX (by omega) hb ha w hc
  have q1 : ¬ (16777216 : Int) < (n : Int) := by omega
  generalize [48, 120] ++ hexB X = T at *
  clear hX hn hb ha hc
  go_enter Tryd.func13, Tryd.ntmps13
  go_wp2_with ((with_reducible refine hw.mono ?_); rintro e1 w1 ⟨rfl, b1⟩)
  simp [bodyPost, results, Tryd.results13, go_sem]
  exact b1
set_option maxRecDepth 100000 in
theorem hdata_long {a : Option Addr} {n c : Nat} (hn : 16777216 < n) (w : World) :
    Calls Tryd.prog 13 #[.slice a n c] w fun e w' => e = .returned (.tuple #[.string ⟨#[]⟩, .int .i64 2]) ∧ Below w.heap.size w w' := by
  have q1 : (16777216 : Int) < (n : Int) := by omega
  go_enter Tryd.func13, Tryd.ntmps13
  go_wp2
  simp [bodyPost, results, Tryd.results13, go_sem]
  exact Below.refl _ _
set_option maxRecDepth 100000 in
theorem hhash_any {A : List Int} (hA : A.length = 32) (hb : ∀ i, 0 ≤ A.getD i 0 ∧ A.getD i 0 < 256) (w : World) :
    Calls Tryd.prog 22 #[.agg (A.map (Value.int .u8)).toArray] w fun e w' => e = .returned (.string ⟨([48, 120] ++ hexB A).toArray⟩) ∧ Below w.heap.size w w' := by
  obtain ⟨M, HM⟩ : ∃ M, Hid (M = (A.map (Value.int .u8)).toArray) := ⟨_, rfl⟩
  rw [← HM.out]
  have hc : ∀ i, i < 32 → (w.alloc (.cells M 36)).cell? ⟨w.heap.size, 0 + i, none⟩ = some (.int .u8 (A.getD i 0)) := fun i hi => by
    have e : M[i]? = some (.int .u8 (A.getD i 0)) := by
      rw [HM.out, List.getElem?_toArray, List.getElem?_map, List.getElem?_eq_getElem (by omega), List.getD, List.getElem?_eq_getElem (by omega)]; rfl
    simp [go_sem, e]
  have hw := written_any (a := some ⟨w.heap.size, 0, none⟩) (g := w.heap.size) (o := 0) (n := 32) (c := 32) hA (by decide) hb (fun _ => rfl) _ hc
  generalize [48, 120] ++ hexB A = T at *
  clear hc hb HM hA
  go_enter Tryd.func22, Tryd.ntmps22
  go_wp2_with fail
  with_reducible refine hw.mono ?_
  rintro e1 w1 ⟨rfl, b1⟩
  have HB : Hid (Below w.heap.size w w1) := ((Below.refl _ _).alloc (Nat.le_refl _) _).trans (b1.mono (by simp))
  clear b1 hw
  go_wp2
  simp [bodyPost, results, Tryd.results22, go_sem]
  exact HB.out
set_option maxRecDepth 100000 in
theorem huint_any {u : Int} (hu : Word u) (w : World) :
    Calls Tryd.prog 19 #[.int .u64 u] w fun e w' => e = .returned (.string ⟨([48, 120] ++ qtx u (hiD u + 1)).toArray⟩) ∧ Below w.heap.size w w' := by
  have C1 := from_any hu w
  have C2 : Hid (∀ w, Calls Tryd.prog 17 #[.agg #[.int .u64 (l0 u), .int .u64 (l1 u), .int .u64 (l2 u), .int .u64 (l3 u)]] w fun e w' => e = .returned (.string ⟨([48, 120] ++ qtx u (hiD u + 1)).toArray⟩) ∧ Below w.heap.size w w') := fun w => quant_any ⟨hu.1, by have := hu.2; omega⟩ w
  generalize [48, 120] ++ qtx u (hiD u + 1) = T at *
  clear hu
  go_enter Tryd.func19, Tryd.ntmps19
  go_wp2_with fail
  with_reducible refine C1.mono ?_
  rintro e1 w1 ⟨rfl, b1⟩
  go_wp2_with fail
  with_reducible refine (C2.out _).mono ?_
  rintro e1 w2 ⟨rfl, b2⟩
  have HB : Hid (Below w.heap.size w w2) := b1.trans (b2.mono b1.size)
  clear b1 b2 C1 C2
  go_wp2
  simp [bodyPost, results, Tryd.results19, go_sem]
  exact HB.out
end Go.Proofs.YtidchaaahgnabaaDoor

/- Layer 8: what is written is read back: the texts. -/
namespace Go.Proofs.YtidchaaahgnabaaDoor
open Go.RowKit Go.Sort
theorem qdg_high {n : Int} (hn : Num n) {d : Nat} (h : hiD n < d) : qdg n d = 0 := by
  obtain ⟨j, ej, _, lt, _⟩ := lenN_bound hn
  have hj : j ≤ 4 * d := by unfold hiD at h; omega
  have p : (2 : Int) ^ j ≤ 2 ^ (4 * d) := by
    have := Nat.pow_le_pow_right (show 0 < 2 by decide) hj
    exact_mod_cast this
  unfold qdg
  rw [pow16, Int.ediv_eq_zero_of_lt hn.1 (by omega)]
  rfl
theorem qdg_top {n : Int} (hn : Num n) : hiD n = 0 ∨ qdg n (hiD n) ≠ 0 := by
  by_cases h0 : hiD n = 0
  · exact .inl h0
  right
  obtain ⟨j, ej, _, lt, _⟩ := lenN_bound hn
  have n0 : n ≠ 0 := fun e => by
    apply h0
    unfold hiD lenN
    rw [if_pos e]; decide
  obtain ⟨m, em⟩ := Int.eq_ofNat_of_zero_le hn.1
  have m0 : m ≠ 0 := by omega
  have lg : lenN n = (Nat.log2 m : Int) + 1 := by unfold lenN; rw [if_neg n0, em]; rfl
  have lo := Nat.log2_self_le m0
  obtain ⟨k, ek⟩ : ∃ k, k = hiD n := ⟨_, rfl⟩
  rw [← ek]
  have k1 : 4 * k ≤ Nat.log2 m := by rw [ek]; unfold hiD; omega
  have k2 : j ≤ 4 * k + 4 := by rw [ek]; unfold hiD; omega
  have a1 : 2 ^ (4 * k) ≤ m := Nat.le_trans (Nat.pow_le_pow_right (by decide) k1) lo
  have a2 : m < 2 ^ (4 * k + 4) := by
    have h1 : m < 2 ^ j := by rw [em] at lt; exact_mod_cast lt
    exact Nat.lt_of_lt_of_le h1 (Nat.pow_le_pow_right (by decide) k2)
  have b1 : 1 ≤ m / 2 ^ (4 * k) := (Nat.one_le_div_iff (Nat.pow_pos (by decide))).2 a1
  have b2 : m / 2 ^ (4 * k) < 16 := Nat.div_lt_of_lt_mul (by rw [Nat.pow_add] at a2; exact a2)
  have e : n / 16 ^ k = ((m / 2 ^ (4 * k) : Nat) : Int) := by rw [pow16, em]; push_cast; rfl
  unfold qdg
  rw [e]
  omega
end Go.Proofs.YtidchaaahgnabaaDoor
