import Derived.Test.YtdkfpakghpbofaaRsE
/- Layer 7: readHead of any bytes. -/
namespace Go.Proofs.Ytdkfpakghpbofaa
open Go.RowKit Go.Sort

/-- What a head that fits is answered as. -/
def fin7 (A : List Int) (l : Bool) (s h : Nat) : Bool × Nat × Nat × Int := if A.length < s + h then (false, 0, 0, 70) else if l = false ∧ bareB ((A.drop s).take h) = true then (false, 0, 0, 71) else (l, s, h, 0)
/-- The head of any bytes: whether a list, its own bytes, how many it holds, the error. -/
def hdP (A : List Int) : Bool × Nat × Nat × Int :=
  if A.length = 0 then (false, 0, 0, 70)
  else if A.getD 0 0 < 128 then (false, 0, 1, 0)
  else if A.getD 0 0 % 64 ≤ 55 then fin7 A (decide (192 ≤ A.getD 0 0)) 1 (A.getD 0 0 % 64).toNat
  else if A.length - 1 < (A.getD 0 0 % 64).toNat - 55 then (false, 0, 0, 70)
  else if (A.drop 1).getD 0 0 = 0 ∨ lenQ (A.drop 1) ((A.getD 0 0 % 64).toNat - 55) ≤ 55 then (false, 0, 0, 72)
  else fin7 A (decide (192 ≤ A.getD 0 0)) (1 + ((A.getD 0 0 % 64).toNat - 55)) (lenQ (A.drop 1) ((A.getD 0 0 % 64).toNat - 55)).toNat
theorem byts_dropR {l : List Int} (h : Byts l) (k : Nat) : Byts (l.drop k) := fun i => by
  have := h (k + i)
  simpa [List.getD, List.getElem?_drop] using this
theorem bare_long {X : List Int} (h : X.length ≠ 1) : bareB X = false := by
  unfold bareB
  rw [decide_eq_false h]; rfl
theorem rh_all {A : List Int} {a : Option Addr} {b o c : Nat} (hA : Byts A) (hl : A.length ≤ 16777216) (hc : A.length ≤ c) (ha : Az a b o A) (w : World) (h : Bz w b o A) :
    Calls Try.prog 19 #[.slice a A.length c] w fun e w' => e = .returned (.tuple #[.agg #[.bool (hdP A).1, .int .i64 ((hdP A).2.1 : Int), .int .i64 ((hdP A).2.2.1 : Int)], .int .i64 (hdP A).2.2.2]) ∧ Below w.heap.size w w' := by
  have hm : Lim A.length := by unfold Lim; omega
  by_cases k0 : A.length = 0
  · have e : hdP A = (false, 0, 0, 70) := by unfold hdP; rw [if_pos k0]
    rw [e, k0]
    exact rh_empty w
  obtain rfl := ha.cons (by omega)
  have hf := hA 0
  obtain ⟨f, ef⟩ : ∃ f, f = A.getD 0 0 := ⟨_, rfl⟩
  rw [← ef] at hf
  by_cases k1 : f < 128
  · have e : hdP A = (false, 0, 1, 0) := by unfold hdP; rw [if_neg k0, ← ef, if_pos k1]
    rw [e]
    exact rh_low (by omega) (by rw [← ef]; exact k1) w h
  have t0 : f.tmod 64 = f % 64 := Int.tmod_eq_emod_of_nonneg (by omega)
  obtain ⟨q, eq⟩ : ∃ q : Nat, q = (f % 64).toNat := ⟨_, rfl⟩
  have eq' : f % 64 = (q : Int) := by omega
  have t1 : f.tmod 64 = (q : Int) := by rw [t0, eq']
  by_cases k2 : f % 64 ≤ 55
  · have e : hdP A = fin7 A (decide (192 ≤ f)) 1 q := by unfold hdP; rw [if_neg k0, ← ef, if_neg k1, if_pos k2, ← eq]
    have hq : q ≤ 55 := by omega
    rw [e]
    by_cases k3 : A.length < 1 + q
    · have e2 : fin7 A (decide (192 ≤ f)) 1 q = (false, 0, 0, 70) := by unfold fin7; rw [if_pos k3]
      rw [e2]
      exact rh_over ef (by omega) (by omega) t1 hq (by omega) (by omega) w h
    by_cases k4 : 192 ≤ f
    · have e2 : fin7 A (decide (192 ≤ f)) 1 q = (true, 1, q, 0) := by unfold fin7; rw [if_neg k3, decide_eq_true k4, if_neg (by simp)]
      rw [e2]
      exact rh_list ef (by omega) (by omega) k4 t1 hq (by omega) hm w h
    by_cases k5 : bareB ((A.drop 1).take q) = true
    · have e2 : fin7 A (decide (192 ≤ f)) 1 q = (false, 0, 0, 71) := by unfold fin7; rw [if_neg k3, decide_eq_false k4, if_pos ⟨rfl, k5⟩]
      rw [e2]
      exact rh_bare ef (by omega) (by omega) (by omega) t1 hq (by omega) hc hm k5 w h
    · have e2 : fin7 A (decide (192 ≤ f)) 1 q = (false, 1, q, 0) := by unfold fin7; rw [if_neg k3, decide_eq_false k4, if_neg (fun x => k5 x.2)]
      rw [e2]
      exact rh_text ef (by omega) (by omega) (by omega) t1 hq (by omega) hc hm (by simpa using k5) w h
  obtain ⟨n, en⟩ : ∃ n : Nat, n = q - 55 := ⟨_, rfl⟩
  have t2 : f.tmod 64 = 55 + (n : Int) := by rw [t1]; omega
  have n0 : 1 ≤ n := by omega
  have n8 : n ≤ 8 := by omega
  have cell := h 0 (by omega)
  rw [Nat.add_zero, ← ef] at cell
  have ld : (A.drop 1).length = A.length - 1 := by rw [List.length_drop]
  by_cases k3 : A.length - 1 < n
  · have e : hdP A = (false, 0, 0, 70) := by unfold hdP; rw [if_neg k0, ← ef, if_neg k1, if_neg k2, ← eq, ← en, if_pos k3]
    rw [e]
    by_cases kc : c = 1
    · have ka : A.length = 1 := by omega
      rw [ka, kc]
      refine rhl_err1 (L := 0) (by omega) (by omega) rfl t2 n0 n8 (by decide) w cell (fun w1 _ => ?_)
      have r := rl_end (A := []) (ao := some ⟨b, o, none⟩) (c := 0) (n := n) (by show 0 < n; omega) w1
      exact r.mono fun e w' x => ⟨x.1, by rw [x.2]; exact Below.refl _ _⟩
    · refine rhl_err (L := 0) (by omega) (by omega) rfl t2 n0 n8 (by omega) (by omega) (by decide) w cell (fun w1 _ => ?_)
      have r := rl_end (A := A.drop 1) (ao := some ⟨b, o + 1, none⟩) (c := c - 1) (n := n) (by omega) w1
      rw [ld] at r
      exact r.mono fun e w' x => ⟨x.1, by rw [x.2]; exact Below.refl _ _⟩
  have RL : ∀ w1, Below w.heap.size w w1 → Calls Try.prog 23 #[.slice (some ⟨b, o + 1, none⟩) (A.length - 1) (c - 1), .int .i64 n] w1 fun e w' => e = .returned (.tuple #[.int .u64 (if (A.drop 1).getD 0 0 = 0 ∨ lenQ (A.drop 1) n ≤ 55 then 0 else lenQ (A.drop 1) n), .int .i64 (if (A.drop 1).getD 0 0 = 0 ∨ lenQ (A.drop 1) n ≤ 55 then 72 else 0)]) ∧ Below w1.heap.size w1 w' := fun w1 B => by
    have r := rl_any (c := c - 1) (n := n) (byts_dropR hA 1) n0 n8 (by omega) (by omega) w1 ((h.keep B).drop)
    rw [ld] at r
    exact r.mono fun e w' x => ⟨x.1, by rw [x.2]; exact Below.refl _ _⟩
  have lb := lenQ_bound (byts_dropR hA 1) n
  by_cases k4 : (A.drop 1).getD 0 0 = 0 ∨ lenQ (A.drop 1) n ≤ 55
  · have e : hdP A = (false, 0, 0, 72) := by unfold hdP; rw [if_neg k0, ← ef, if_neg k1, if_neg k2, ← eq, ← en, if_neg k3, if_pos k4]
    rw [e]
    simp only [if_pos k4] at RL
    exact rhl_err (by omega) (by omega) rfl t2 n0 n8 (by omega) (by omega) (by decide) w cell RL
  simp only [if_neg k4] at RL
  obtain ⟨Ln, eL⟩ : ∃ Ln : Nat, Ln = (lenQ (A.drop 1) n).toNat := ⟨_, rfl⟩
  have eL' : lenQ (A.drop 1) n = (Ln : Int) := by omega
  have hL : 55 < Ln := by have : ¬ lenQ (A.drop 1) n ≤ 55 := fun x => k4 (.inr x); omega
  rw [eL'] at RL
  have e : hdP A = fin7 A (decide (192 ≤ f)) (1 + n) Ln := by unfold hdP; rw [if_neg k0, ← ef, if_neg k1, if_neg k2, ← eq, ← en, if_neg k3, if_neg k4, ← eL]
  rw [e]
  by_cases k5 : A.length < 1 + n + Ln
  · have e2 : fin7 A (decide (192 ≤ f)) (1 + n) Ln = (false, 0, 0, 70) := by unfold fin7; rw [if_pos k5]
    rw [e2]
    exact rhl_over (by omega) (by omega) rfl t2 n0 n8 (by omega) hl hc hL k5 w cell RL
  · have e2 : fin7 A (decide (192 ≤ f)) (1 + n) Ln = (decide (192 ≤ f), 1 + n, Ln, 0) := by
      unfold fin7
      rw [if_neg k5, if_neg (fun x => by
        have := bare_long (X := (A.drop (1 + n)).take Ln) (by rw [List.length_take, List.length_drop]; omega)
        rw [this] at x
        exact absurd x.2 (by decide))]
    rw [e2]
    have r := rhl_ok (l := decide (192 ≤ f)) (by omega) (by omega) rfl t2 n0 n8 (by omega) hl hc hL (by omega) w cell RL
    exact r
end Go.Proofs.Ytdkfpakghpbofaa
