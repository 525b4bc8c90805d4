import Derived.Test.YtidchaaahgnabaaDoorHyA
import Derived.Test.YtidchaaahgnabaaDoorHxT
/- Layer 8: what is read is, in small letters, what is written of it. -/
namespace Go.Proofs.YtidchaaahgnabaaDoor
open Go.RowKit Go.Sort
theorem hexB_at1 {X : List Int} (hb : ∀ i, 0 ≤ X.getD i 0 ∧ X.getD i 0 < 256) {j : Nat} (hj : j < 2 * X.length) : ∃ k, k < 16 ∧ (hexB X).getD j 0 = hd k := by
  obtain ⟨a, b⟩ := hexB_at X (j / 2) (by omega)
  have c := hb (j / 2)
  by_cases e : j % 2 = 0
  · rw [show 2 * (j / 2) = j by omega] at a
    exact ⟨_, by omega, a⟩
  · rw [show 2 * (j / 2) + 1 = j by omega] at b
    exact ⟨_, by omega, b⟩
theorem front_at {L : List UInt8} {j : Nat} (h : 2 ≤ j) : ([48, 120] ++ L).getD j 0 = L.getD (j - 2) 0 := by
  rw [List.getD, List.getElem?_append_right (by exact h)]; rfl
theorem front_low {L : List UInt8} {j : Nat} (h : j < 2) : ([48, 120] ++ L).getD j 0 = ([48, 120] : List UInt8).getD j 0 := by
  rw [List.getD, List.getElem?_append_left (by exact h)]; rfl
/-- What is read as a quantity of at most m digits: the error, the number. -/
noncomputable def pqE (m : Nat) (s : ByteArray) : Int := open Classical in if okP s ∧ (tl s).size ≠ 0 then (if 1 < (tl s).size ∧ bt (tl s) 0 = 48 then 82 else if (tl s).size ≤ m then 0 else 83) else 80
noncomputable def pqN (m : Nat) (s : ByteArray) : Int := open Classical in if pqE m s = 0 then dN (tl s) (tl s).size else 0
theorem pqE_zero {m : Nat} {s : ByteArray} : pqE m s = 0 ↔ okP s ∧ (tl s).size ≠ 0 ∧ ¬ (1 < (tl s).size ∧ bt (tl s) 0 = 48) ∧ (tl s).size ≤ m := by
  unfold pqE
  by_cases h : okP s ∧ (tl s).size ≠ 0
  · rw [if_pos h]
    by_cases k : 1 < (tl s).size ∧ bt (tl s) 0 = 48
    · rw [if_pos k]; exact ⟨fun x => (by cases x), fun x => absurd k x.2.2.1⟩
    · rw [if_neg k]
      by_cases l : (tl s).size ≤ m
      · rw [if_pos l]; exact ⟨fun _ => ⟨h.1, h.2, k, l⟩, fun _ => rfl⟩
      · rw [if_neg l]; exact ⟨fun x => (by cases x), fun x => absurd x.2.2.2 l⟩
  · rw [if_neg h]; exact ⟨fun x => (by cases x), fun x => absurd ⟨x.1, x.2.1⟩ h⟩
theorem pqN_num {m : Nat} (hm : m ≤ 64) (s : ByteArray) : Num (pqN m s) ∧ pqN m s < 16 ^ m := by
  unfold pqN
  split
  · rename_i e
    obtain ⟨h1, _, _, h4⟩ := pqE_zero.1 e
    refine ⟨dN_num h1.2.2 (by omega), Int.lt_of_lt_of_le (dN_low h1.2.2 _ (Nat.le_refl _)).2 ?_⟩
    have := Nat.pow_le_pow_right (show 0 < 16 by decide) h4
    exact_mod_cast this
  · exact ⟨⟨by decide, by decide⟩, Int.pow_pos (by decide)⟩
theorem quan_all {s : ByteArray} (hs : s.size < 140737488355328) {m : Nat} (m1 : 1 ≤ m) (m2 : m ≤ 64) (w : World) :
    Calls Tryd.prog 44 #[.string s, .int .i64 m] w fun r w' => r = .returned (.tuple #[.agg #[.int .u64 (l0 (pqN m s)), .int .u64 (l1 (pqN m s)), .int .u64 (l2 (pqN m s)), .int .u64 (l3 (pqN m s))], .int .i64 (pqE m s)]) ∧ Below w.heap.size w w' := by
  by_cases e : pqE m s = 0
  · obtain ⟨h1, h2, h3, h4⟩ := pqE_zero.1 e
    have en : pqN m s = dN (tl s) (tl s).size := by unfold pqN; rw [if_pos e]
    rw [e, en, ← qs_lim h1.2.2 (by omega)]
    exact quan_ok hs h1 h2 h3 h4 m2 w
  · have en : pqN m s = 0 := by unfold pqN; rw [if_neg e]
    rw [en]
    by_cases h : okP s
    · by_cases h0 : (tl s).size = 0
      · have : pqE m s = 80 := by unfold pqE; rw [if_neg (fun x => x.2 h0)]
        rw [this]; exact quan_none hs h h0 w
      · by_cases hz : 1 < (tl s).size ∧ bt (tl s) 0 = 48
        · have : pqE m s = 82 := by unfold pqE; rw [if_pos ⟨h, h0⟩, if_pos hz]
          rw [this]; exact quan_zero hs h hz.1 hz.2 w
        · by_cases hw : (tl s).size ≤ m
          · exact absurd (pqE_zero.2 ⟨h, h0, hz, hw⟩) e
          · have : pqE m s = 83 := by unfold pqE; rw [if_pos ⟨h, h0⟩, if_neg hz, if_neg hw]
            rw [this]; exact quan_wide hs h (by omega) m1 (fun x => hz ⟨by omega, x⟩) w
    · have : pqE m s = 80 := by unfold pqE; rw [if_neg (fun x => h x.1)]
      rw [this]; exact quan_no hs h w
theorem pquan_all {s : ByteArray} (hs : s.size < 140737488355328) (w : World) :
    Calls Tryd.prog 27 #[.string s] w fun r w' => r = .returned (.tuple #[.agg #[.int .u64 (l0 (pqN 64 s)), .int .u64 (l1 (pqN 64 s)), .int .u64 (l2 (pqN 64 s)), .int .u64 (l3 (pqN 64 s))], .int .i64 (pqE 64 s)]) ∧ Below w.heap.size w w' :=
  pq_any (fun w => quan_all hs (by decide) (by decide) w) w
theorem l0_small {n : Int} (h0 : 0 ≤ n) (h : n < 18446744073709551616) : l0 n = n ∧ l1 n = 0 ∧ l2 n = 0 ∧ l3 n = 0 := by
  unfold l0 l1 l2 l3; omega
theorem puint_all {s : ByteArray} (hs : s.size < 140737488355328) (w : World) :
    Calls Tryd.prog 29 #[.string s] w fun r w' => r = .returned (.tuple #[.int .u64 (pqN 16 s), .int .i64 (pqE 16 s)]) ∧ Below w.heap.size w w' := by
  obtain ⟨a, b⟩ := pqN_num (m := 16) (by decide) s
  have e := (l0_small a.1 (by rw [show (18446744073709551616 : Int) = 16 ^ 16 by decide]; exact b)).1
  have h := pu_any (fun w => quan_all hs (m := 16) (by decide) (by decide) w) w
  rw [e] at h
  exact h
end Go.Proofs.YtidchaaahgnabaaDoor
