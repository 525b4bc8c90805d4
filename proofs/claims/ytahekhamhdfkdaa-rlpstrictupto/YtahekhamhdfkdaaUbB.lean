import Derived.Test.YtahekhamhdfkdaaUbA
import Derived.Test.YtahekhamhdfkdaaShiftNum
import Derived.Deep.LoopGhost
/- Layer 1: the document's Bytes. -/
namespace Go.Proofs.Ytahekhamhdfkdaa
open Go.RowKit

end Go.Proofs.Ytahekhamhdfkdaa

/- Layer 1: slices.Clone, Bytes. -/
namespace Go.Proofs.Ytahekhamhdfkdaa
open Go.RowKit Go.Sort

theorem heap_newU (W : World) (o : Obj) : (W.alloc o).heap[W.heap.size]? = some o := by
  show (W.heap.push o)[W.heap.size]? = some o
  simp
theorem src_bz {W : World} {b o : Nat} {X : List Int} (h : Bz W b o X) (j : Nat) (u : Value) (hu : (X.map (Value.int .u8))[j]? = some u) : W.cell? ((⟨b, o, none⟩ : Addr).add j) = some u := by
  rw [List.getElem?_map] at hu
  obtain ⟨x, hx, rfl⟩ := Option.map_eq_some_iff.1 hu
  have hj : j < X.length := (List.getElem?_eq_some_iff.1 hx).1
  rw [Addr.add_mid, h j hj]
  simp [List.getD, hx]
theorem own_mt (B : Nat) (W : World) (hB : B ≤ W.heap.size) : OwnB B (W.alloc (.cells #[] 5)) (.slice (some ⟨W.heap.size, 0, none⟩) 0 0) [] :=
  ⟨rfl, .inr ⟨W.heap.size, 0, _, rfl, hB, heap_newU _ _, Nat.le_refl _, by unfold maxLen; omega, rfl, rfl⟩⟩
theorem sl_some (w : World) (a : Addr) (n c : Nat) : (binOp .eql 22 (.slice (some a) n c) (.slice none 0 0)).run Try.prog w = .ok (.bool false) w := by kernel_rfl
end Go.Proofs.Ytahekhamhdfkdaa

/- Layer 7: isBare, readLength (RlHd on u256's base). -/
namespace Go.Proofs.Ytahekhamhdfkdaa
open Go.RowKit

def bareB (A : List Int) : Bool := decide (A.length = 1) && decide (A.getD 0 0 < 128)
set_option maxRecDepth 100000 in
theorem bare_any {A : List Int} {ao : Option Addr} {b o c : Nat} (ha : Az ao b o A) (w : World) (h : Bz w b o A) :
    Calls Try.prog 49 #[.slice ao A.length c] w fun e w' => e = .returned (.bool (bareB A)) ∧ w' = w := by
  unfold bareB
  by_cases h1 : A.length = 1
  · have ea : ao = some ⟨b, o, none⟩ := by
      rcases ha with rfl | e
      · simp at h1
      · exact e
    subst ea
    have g := h 0 (by omega)
    rw [Nat.add_zero] at g
    have e1 : decide (A.length = 1) = true := decide_eq_true h1
    rw [e1]
    generalize A.getD 0 0 = x at *
    rw [h1]
    clear h1 e1 ha h
    go_enter Try.func49, Try.ntmps49
    go_wp2
    go_ret
    exact ⟨by simp, rfl⟩
  · have e1 : decide (A.length = 1) = false := decide_eq_false h1
    have h2 : ¬ ((A.length : Int) = 1) := by omega
    rw [e1]
    generalize A.length = n at *
    clear h1 e1 ha h
    go_enter Try.func49, Try.ntmps49
    go_wp2
    go_ret
    exact ⟨by simp, rfl⟩
/-- The number of the first k bytes, the highest first. -/
def lenQ (A : List Int) : Nat → Int
  | 0 => 0
  | k + 1 => lenQ A k * 256 + A.getD k 0
theorem lenQ_bound {A : List Int} (hA : Byts A) : ∀ k, 0 ≤ lenQ A k ∧ lenQ A k < 256 ^ k
  | 0 => by simp [lenQ]
  | k + 1 => by
    obtain ⟨a, b⟩ := lenQ_bound hA k
    obtain ⟨c, d⟩ := hA k
    unfold lenQ
    rw [Int.pow_succ]
    omega

theorem rl_end {A : List Int} {ao : Option Addr} {c n : Nat} (hn : A.length < n) (w : World) :
    Calls Try.prog 48 #[.slice ao A.length c, .int .i64 n] w fun e w' => e = .returned (.tuple #[.int .u64 0, .int .i64 70]) ∧ w' = w := by
  have h2 : (A.length : Int) < (n : Int) := by omega
  generalize A.length = m at *
  clear hn
  go_enter Try.func48, Try.ntmps48
  go_wp2
  simp [bodyPost, results, Try.results48, go_sem]
theorem or8 {l x : Int} (p0 : 0 ≤ l) (p1 : l < 72057594037927936) (x0 : 0 ≤ x) (x1 : x < 256) : bits .or .u64 (l * 256) x = l * 256 + x := by
  obtain ⟨l, rfl⟩ := Int.eq_ofNat_of_zero_le p0
  obtain ⟨x, rfl⟩ := Int.eq_ofNat_of_zero_le x0
  have := or_sum 8 l x (by omega) (by omega) (by omega)
  rw [show ((l : Int) * 256) = ((2 ^ 8 * l : Nat) : Int) by omega, this]
  omega
theorem lenQ_seven {A : List Int} (hA : Byts A) {i : Nat} (hi : i ≤ 7) : lenQ A i < 72057594037927936 := by
  have h := (lenQ_bound hA i).2
  have : i = 0 ∨ i = 1 ∨ i = 2 ∨ i = 3 ∨ i = 4 ∨ i = 5 ∨ i = 6 ∨ i = 7 := by omega
  rcases this with rfl | rfl | rfl | rfl | rfl | rfl | rfl | rfl <;> omega
set_option maxHeartbeats 2000000 in
theorem rl_any {A : List Int} {b o c n : Nat} (hA : Byts A) (n0 : 1 ≤ n) (n8 : n ≤ 8) (hn : n ≤ A.length) (hc : A.length ≤ c) (w : World) (h : Bz w b o A) :
    Calls Try.prog 48 #[.slice (some ⟨b, o, none⟩) A.length c, .int .i64 n] w fun e w' => e = .returned (.tuple #[.int .u64 (if A.getD 0 0 = 0 ∨ lenQ A n ≤ 55 then 0 else lenQ A n), .int .i64 (if A.getD 0 0 = 0 ∨ lenQ A n ≤ 55 then 72 else 0)]) ∧ w' = w := by
  have h2 : ¬ ((A.length : Int) < (n : Int)) := by omega
  have h3 : (n : Int) ≤ (c : Int) := by omega
  have h4 : (0 : Int) < (A.length : Int) := by omega
  have n8' : (n : Int) ≤ 8 := by omega
  have HB : Hid (Bz w b o A ∧ n ≤ A.length ∧ Byts A ∧ n ≤ 8) := ⟨h, hn, hA, n8⟩
  have g0 := h 0 (by omega)
  rw [Nat.add_zero] at g0
  obtain ⟨m, em⟩ : ∃ m, m = A.length := ⟨_, rfl⟩
  rw [← em] at h2 h4 ⊢
  clear h hA em hc hn n0 n8
  obtain ⟨z, ez⟩ : ∃ z, z = A.getD 0 0 := ⟨_, rfl⟩
  rw [← ez] at g0 ⊢
  clear ez
  obtain ⟨L, eL⟩ : ∃ L, L = lenQ A n := ⟨_, rfl⟩
  rw [← eL]
  have HL : Hid (lenQ A n = L) := eL.symm
  clear eL
  have three : (z = 0 ∧ (z = 0 ∨ L ≤ 55)) ∨ (z ≠ 0 ∧ L ≤ 55 ∧ (z = 0 ∨ L ≤ 55)) ∨ (z ≠ 0 ∧ ¬ L ≤ 55 ∧ ¬ (z = 0 ∨ L ≤ 55)) := by omega
  rcases three with ⟨c1, c3⟩ | ⟨c1, c2, c3⟩ | ⟨c1, c2, c3⟩
  all_goals first | rw [if_pos c3, if_pos c3] | rw [if_neg c3, if_neg c3]
  all_goals clear c3
  all_goals (first | (have cb1 : (z == 0) = true := by simpa using c1) | (have cb1 : (z == 0) = false := by simpa using c1))
  all_goals (first | (have cb2 : decide (L ≤ 55) = true := decide_eq_true c2) | (have cb2 : decide (L ≤ 55) = false := decide_eq_false c2) | skip)
  all_goals (
   go_enter Try.func48, Try.ntmps48
   go_wp2_with fail
   go_loopg [6, 8, 17] n (fun k lv bv iv wr => ∃ i : Nat, k = n - i ∧ i ≤ n ∧ iv = .int .i64 (i : Int) ∧ lv = .int .u64 (lenQ A i) ∧ w = wr)
   case atStart => exact ⟨0, rfl, Nat.zero_le _, rfl, rfl, rfl⟩
   case round =>
    obtain ⟨i, hk, hi, rfl, rfl, rfl⟩ := hrel
    by_cases h8 : i = n
    · subst h8
      rw [HL.out]
      go_wp2
      simp [bodyPost, results, Try.results48, go_sem]
    · have hlt : (i : Int) < (n : Int) := by omega
      have g := HB.out.1 i (by have := HB.out.2.1; omega)
      have p0 := (lenQ_bound HB.out.2.2.1 i).1
      have p1 := lenQ_seven HB.out.2.2.1 (i := i) (by have := HB.out.2.2.2; omega)
      obtain ⟨x0, x1⟩ := HB.out.2.2.1 i
      have EL : Hid (lenQ A (i + 1) = lenQ A i * 256 + A.getD i 0) := rfl
      generalize lenQ A i = l at *
      generalize A.getD i 0 = x at *
      have ob := or8 p0 p1 x0 x1
      have HK : Hid (gk = n - i) := hk
      clear hk c1 cb1
      (try clear cb2)
      (try clear c2)
      go_wp2_with fail
      go_roundg (n - (i + 1))
      case measure => have := HK.out; omega
      case rel => exact ⟨i + 1, rfl, by omega, rfl, by rw [EL.out], rfl⟩)
end Go.Proofs.Ytahekhamhdfkdaa
