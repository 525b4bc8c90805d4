import Derived.Test.YtahekhamhdfkdaaRsD
/- Layer 7: readHead, whatever the bytes. -/
namespace Go.Proofs.Ytahekhamhdfkdaa
open Go.RowKit Go.Sort

set_option maxRecDepth 100000 in
set_option maxHeartbeats 8000000 in
theorem rhl_err {b o n m c : Nat} {f L e0 : Int} {l : Bool} (f0 : 128 ≤ f) (f1 : f < 256) (hl : decide (192 ≤ f) = l) (t1 : f.tmod 64 = 55 + n) (n0 : 1 ≤ n) (n8 : n ≤ 8) (h0 : 1 ≤ m) (hcm : 1 < c) (he : e0 ≠ 0) (w : World) (h : w.cell? ⟨b, o, none⟩ = some (.int .u8 f))
    (RL : Hid (∀ w1, Below w.heap.size w w1 → Calls Try.prog 48 #[.slice (some ⟨b, o + 1, none⟩) (m - 1) (c - 1), .int .i64 n] w1 fun e w' => e = .returned (.tuple #[.int .u64 L, .int .i64 e0]) ∧ Below w1.heap.size w1 w')) :
    Calls Try.prog 32 #[.slice (some ⟨b, o, none⟩) m c] w fun e w' => e = .returned (.tuple #[.agg #[.bool false, .int .i64 0, .int .i64 0], .int .i64 e0]) ∧ Below w.heap.size w w' := by
  have HG : Hid (∀ W, Below w.heap.size w W → W.cell? ⟨b, o, none⟩ = some (.int .u8 f)) := fun W B => keepC B h
  have nc : c ≠ 1 := by omega
  have h1 : ¬ ((m : Int) = 0) := by omega
  have h2 : (0 : Int) < (m : Int) := by omega
  have b1 : ((m : Int) == 0) = false := by simpa using h1
  have c1 : (1 : Int) ≤ (m : Int) := by omega
  have c2 : (1 : Int) ≤ (c : Int) := by omega
  have b2 : decide (f < 128) = false := decide_eq_false (by omega)
  have b3 : decide (55 < (55 : Int) + n) = true := decide_eq_true (by omega)
  have v1 : IntKind.u64.wrap ((55 : Int) + n - 55) = n := by rw [IntKind.wrap_u64]; omega
  have v2 : wrap64 (n : Int) = n := by unfold wrap64; omega
  have v4 : IntKind.u64.wrap ((55 : Int) + n) = 55 + n := by rw [IntKind.wrap_u64]; omega
  have b6 : (e0 == 0) = false := beq_false_of_ne he
  have b7 : (e0 != 0) = true := bne_iff_ne.2 he
  clear h n0 n8
  go_enter Try.func32, Try.ntmps32
  refine wp_seq_k fun K h => ?_
  have H : Hid _ := h
  clear h
  go_wp2_with fail
  refine H.out _ _ ?_
  clear H K
  refine wp_world (fun W => Below w.heap.size w W ∧ Hb W w.heap.size false 0 0 ∧ Fr3 W w.heap.size) ⟨(Below.refl _ _).alloc (Nat.le_refl _) _, Hb.new, Fr3.new⟩ ?_
  rintro W ⟨B, hR, hF⟩
  refine wp_seq_k fun K h => ?_
  have H : Hid _ := h
  clear h
  go_wp2_with fail
  refine H.out _ _ ?_
  clear H K
  refine wp_seq_k fun K h => ?_
  have H : Hid _ := h
  clear h
  have g := HG.out W B
  go_wp2_with fail
  refine H.out _ _ ?_
  clear H K
  clear g
  refine wp_seq_k fun K h => ?_
  have H : Hid _ := h
  clear h
  go_wp2_with fail
  refine H.out _ _ ?_
  clear H K
  refine wp_seq_k fun K h => ?_
  have H : Hid _ := h
  clear h
  go_wp2_with fail
  refine H.out _ _ ?_
  clear H K
  refine wp_world (fun V => Below w.heap.size w V ∧ Hb V w.heap.size false 0 0 ∧ Fr3 V w.heap.size) ⟨B.alloc B.size _, hR.keep ((Below.refl _ _).alloc (Nat.le_refl _) _), hF.keep hR.lt ((Below.refl _ _).alloc (Nat.le_refl _) _)⟩ ?_
  clear B hR hF
  rintro V ⟨B, hR, hF⟩
  generalize W.heap.size = bh at *
  clear W b2
  refine wp_seq_k fun K h => ?_
  have H : Hid _ := h
  clear h
  go_wp2_with fail
  refine H.out _ _ ?_
  clear H K
  refine wp_seq_k fun K h => ?_
  have H : Hid _ := h
  clear h
  go_wp2_with fail
  with_reducible refine (RL.out V B).mono ?_
  rintro e w1 ⟨rfl, hb⟩
  replace B := B.trans (hb.mono B.size)
  replace hF := hF.keep hR.lt hb
  replace hR := hR.keep hb
  clear hb RL
  obtain ⟨r0, r1, r2⟩ := id hR
  obtain ⟨z0, z1, z2⟩ := id hF
  have o3 : w.heap.size ≤ w.heap.size := Nat.le_refl _
  go_wp2
  all_goals simp [bodyPost, results, Try.results32, go_sem, *]
  all_goals repeat (first | with_reducible exact B | with_reducible refine Below.setCell ?_ o3 _)
set_option maxRecDepth 100000 in
set_option maxHeartbeats 8000000 in
theorem rhl_err1 {b o n : Nat} {f L e0 : Int} {l : Bool} (f0 : 128 ≤ f) (f1 : f < 256) (hl : decide (192 ≤ f) = l) (t1 : f.tmod 64 = 55 + n) (n0 : 1 ≤ n) (n8 : n ≤ 8)  (he : e0 ≠ 0) (w : World) (h : w.cell? ⟨b, o, none⟩ = some (.int .u8 f))
    (RL : Hid (∀ w1, Below w.heap.size w w1 → Calls Try.prog 48 #[.slice (some ⟨b, o, none⟩) 0 0, .int .i64 n] w1 fun e w' => e = .returned (.tuple #[.int .u64 L, .int .i64 e0]) ∧ Below w1.heap.size w1 w')) :
    Calls Try.prog 32 #[.slice (some ⟨b, o, none⟩) 1 1] w fun e w' => e = .returned (.tuple #[.agg #[.bool false, .int .i64 0, .int .i64 0], .int .i64 e0]) ∧ Below w.heap.size w w' := by
  have HG : Hid (∀ W, Below w.heap.size w W → W.cell? ⟨b, o, none⟩ = some (.int .u8 f)) := fun W B => keepC B h
  have b2 : decide (f < 128) = false := decide_eq_false (by omega)
  have b3 : decide (55 < (55 : Int) + n) = true := decide_eq_true (by omega)
  have v1 : IntKind.u64.wrap ((55 : Int) + n - 55) = n := by rw [IntKind.wrap_u64]; omega
  have v2 : wrap64 (n : Int) = n := by unfold wrap64; omega
  have v4 : IntKind.u64.wrap ((55 : Int) + n) = 55 + n := by rw [IntKind.wrap_u64]; omega
  have b6 : (e0 == 0) = false := beq_false_of_ne he
  have b7 : (e0 != 0) = true := bne_iff_ne.2 he
  clear h n0 n8
  go_enter Try.func32, Try.ntmps32
  refine wp_seq_k fun K h => ?_
  have H : Hid _ := h
  clear h
  go_wp2_with fail
  refine H.out _ _ ?_
  clear H K
  refine wp_world (fun W => Below w.heap.size w W ∧ Hb W w.heap.size false 0 0 ∧ Fr3 W w.heap.size) ⟨(Below.refl _ _).alloc (Nat.le_refl _) _, Hb.new, Fr3.new⟩ ?_
  rintro W ⟨B, hR, hF⟩
  refine wp_seq_k fun K h => ?_
  have H : Hid _ := h
  clear h
  go_wp2_with fail
  refine H.out _ _ ?_
  clear H K
  refine wp_seq_k fun K h => ?_
  have H : Hid _ := h
  clear h
  have g := HG.out W B
  go_wp2_with fail
  refine H.out _ _ ?_
  clear H K
  clear g
  refine wp_seq_k fun K h => ?_
  have H : Hid _ := h
  clear h
  go_wp2_with fail
  refine H.out _ _ ?_
  clear H K
  refine wp_seq_k fun K h => ?_
  have H : Hid _ := h
  clear h
  go_wp2_with fail
  refine H.out _ _ ?_
  clear H K
  refine wp_world (fun V => Below w.heap.size w V ∧ Hb V w.heap.size false 0 0 ∧ Fr3 V w.heap.size) ⟨B.alloc B.size _, hR.keep ((Below.refl _ _).alloc (Nat.le_refl _) _), hF.keep hR.lt ((Below.refl _ _).alloc (Nat.le_refl _) _)⟩ ?_
  clear B hR hF
  rintro V ⟨B, hR, hF⟩
  generalize W.heap.size = bh at *
  clear W b2
  refine wp_seq_k fun K h => ?_
  have H : Hid _ := h
  clear h
  go_wp2_with fail
  refine H.out _ _ ?_
  clear H K
  refine wp_seq_k fun K h => ?_
  have H : Hid _ := h
  clear h
  go_wp2_with fail
  with_reducible refine (RL.out V B).mono ?_
  rintro e w1 ⟨rfl, hb⟩
  replace B := B.trans (hb.mono B.size)
  replace hF := hF.keep hR.lt hb
  replace hR := hR.keep hb
  clear hb RL
  obtain ⟨r0, r1, r2⟩ := id hR
  obtain ⟨z0, z1, z2⟩ := id hF
  have o3 : w.heap.size ≤ w.heap.size := Nat.le_refl _
  go_wp2
  all_goals simp [bodyPost, results, Try.results32, go_sem, *]
  all_goals repeat (first | with_reducible exact B | with_reducible refine Below.setCell ?_ o3 _)
end Go.Proofs.Ytahekhamhdfkdaa

/- Layer 7: readHead of any bytes. -/
namespace Go.Proofs.Ytahekhamhdfkdaa
open Go.RowKit Go.Sort

/-- What a head that fits is answered as. -/
def fin7 (A : List Int) (l : Bool) (s h : Nat) : Bool × Nat × Nat × Int := if A.length < s + h then (false, 0, 0, 70) else if l = false ∧ bareB ((A.drop s).take h) = true then (false, 0, 0, 71) else (l, s, h, 0)
/-- The head of any bytes: whether a list, its own bytes, how many it holds, the error. -/
def hdP (A : List Int) : Bool × Nat × Nat × Int :=
  if A.length = 0 then (false, 0, 0, 70)
  else if A.getD 0 0 < 128 then (false, 0, 1, 0)
  else if A.getD 0 0 % 64 ≤ 55 then fin7 A (decide (192 ≤ A.getD 0 0)) 1 (A.getD 0 0 % 64).toNat
  else if A.length - 1 < (A.getD 0 0 % 64).toNat - 55 then (false, 0, 0, 70)
  else if (A.drop 1).getD 0 0 = 0 ∨ lenQ (A.drop 1) ((A.getD 0 0 % 64).toNat - 55) ≤ 55 then (false, 0, 0, 72)
  else fin7 A (decide (192 ≤ A.getD 0 0)) (1 + ((A.getD 0 0 % 64).toNat - 55)) (lenQ (A.drop 1) ((A.getD 0 0 % 64).toNat - 55)).toNat
theorem byts_dropR {l : List Int} (h : Byts l) (k : Nat) : Byts (l.drop k) := fun i => by
  have := h (k + i)
  simpa [List.getD, List.getElem?_drop] using this
theorem bare_long {X : List Int} (h : X.length ≠ 1) : bareB X = false := by
  unfold bareB
  rw [decide_eq_false h]; rfl
theorem rh_all {A : List Int} {a : Option Addr} {b o c : Nat} (hA : Byts A) (hl : A.length ≤ 16777216) (hc : A.length ≤ c) (ha : Az a b o A) (w : World) (h : Bz w b o A) :
    Calls Try.prog 32 #[.slice a A.length c] w fun e w' => e = .returned (.tuple #[.agg #[.bool (hdP A).1, .int .i64 ((hdP A).2.1 : Int), .int .i64 ((hdP A).2.2.1 : Int)], .int .i64 (hdP A).2.2.2]) ∧ Below w.heap.size w w' := by
  have hm : Lim A.length := by unfold Lim; omega
  by_cases k0 : A.length = 0
  · have e : hdP A = (false, 0, 0, 70) := by unfold hdP; rw [if_pos k0]
    rw [e, k0]
    exact rh_empty w
  obtain rfl := ha.cons (by omega)
  have hf := hA 0
  obtain ⟨f, ef⟩ : ∃ f, f = A.getD 0 0 := ⟨_, rfl⟩
  rw [← ef] at hf
  by_cases k1 : f < 128
  · have e : hdP A = (false, 0, 1, 0) := by unfold hdP; rw [if_neg k0, ← ef, if_pos k1]
    rw [e]
    exact rh_low (by omega) (by rw [← ef]; exact k1) w h
  have t0 : f.tmod 64 = f % 64 := Int.tmod_eq_emod_of_nonneg (by omega)
  obtain ⟨q, eq⟩ : ∃ q : Nat, q = (f % 64).toNat := ⟨_, rfl⟩
  have eq' : f % 64 = (q : Int) := by omega
  have t1 : f.tmod 64 = (q : Int) := by rw [t0, eq']
  by_cases k2 : f % 64 ≤ 55
  · have e : hdP A = fin7 A (decide (192 ≤ f)) 1 q := by unfold hdP; rw [if_neg k0, ← ef, if_neg k1, if_pos k2, ← eq]
    have hq : q ≤ 55 := by omega
    rw [e]
    by_cases k3 : A.length < 1 + q
    · have e2 : fin7 A (decide (192 ≤ f)) 1 q = (false, 0, 0, 70) := by unfold fin7; rw [if_pos k3]
      rw [e2]
      exact rh_over ef (by omega) (by omega) t1 hq (by omega) (by omega) w h
    by_cases k4 : 192 ≤ f
    · have e2 : fin7 A (decide (192 ≤ f)) 1 q = (true, 1, q, 0) := by unfold fin7; rw [if_neg k3, decide_eq_true k4, if_neg (by simp)]
      rw [e2]
      exact rh_list ef (by omega) (by omega) k4 t1 hq (by omega) hm w h
    by_cases k5 : bareB ((A.drop 1).take q) = true
    · have e2 : fin7 A (decide (192 ≤ f)) 1 q = (false, 0, 0, 71) := by unfold fin7; rw [if_neg k3, decide_eq_false k4, if_pos ⟨rfl, k5⟩]
      rw [e2]
      exact rh_bare ef (by omega) (by omega) (by omega) t1 hq (by omega) hc hm k5 w h
    · have e2 : fin7 A (decide (192 ≤ f)) 1 q = (false, 1, q, 0) := by unfold fin7; rw [if_neg k3, decide_eq_false k4, if_neg (fun x => k5 x.2)]
      rw [e2]
      exact rh_text ef (by omega) (by omega) (by omega) t1 hq (by omega) hc hm (by simpa using k5) w h
  obtain ⟨n, en⟩ : ∃ n : Nat, n = q - 55 := ⟨_, rfl⟩
  have t2 : f.tmod 64 = 55 + (n : Int) := by rw [t1]; omega
  have n0 : 1 ≤ n := by omega
  have n8 : n ≤ 8 := by omega
  have cell := h 0 (by omega)
  rw [Nat.add_zero, ← ef] at cell
  have ld : (A.drop 1).length = A.length - 1 := by rw [List.length_drop]
  by_cases k3 : A.length - 1 < n
  · have e : hdP A = (false, 0, 0, 70) := by unfold hdP; rw [if_neg k0, ← ef, if_neg k1, if_neg k2, ← eq, ← en, if_pos k3]
    rw [e]
    by_cases kc : c = 1
    · have ka : A.length = 1 := by omega
      rw [ka, kc]
      refine rhl_err1 (L := 0) (by omega) (by omega) rfl t2 n0 n8 (by decide) w cell (fun w1 _ => ?_)
      have r := rl_end (A := []) (ao := some ⟨b, o, none⟩) (c := 0) (n := n) (by show 0 < n; omega) w1
      exact r.mono fun e w' x => ⟨x.1, by rw [x.2]; exact Below.refl _ _⟩
    · refine rhl_err (L := 0) (by omega) (by omega) rfl t2 n0 n8 (by omega) (by omega) (by decide) w cell (fun w1 _ => ?_)
      have r := rl_end (A := A.drop 1) (ao := some ⟨b, o + 1, none⟩) (c := c - 1) (n := n) (by omega) w1
      rw [ld] at r
      exact r.mono fun e w' x => ⟨x.1, by rw [x.2]; exact Below.refl _ _⟩
  have RL : ∀ w1, Below w.heap.size w w1 → Calls Try.prog 48 #[.slice (some ⟨b, o + 1, none⟩) (A.length - 1) (c - 1), .int .i64 n] w1 fun e w' => e = .returned (.tuple #[.int .u64 (if (A.drop 1).getD 0 0 = 0 ∨ lenQ (A.drop 1) n ≤ 55 then 0 else lenQ (A.drop 1) n), .int .i64 (if (A.drop 1).getD 0 0 = 0 ∨ lenQ (A.drop 1) n ≤ 55 then 72 else 0)]) ∧ Below w1.heap.size w1 w' := fun w1 B => by
    have r := rl_any (c := c - 1) (n := n) (byts_dropR hA 1) n0 n8 (by omega) (by omega) w1 ((h.keep B).drop)
    rw [ld] at r
    exact r.mono fun e w' x => ⟨x.1, by rw [x.2]; exact Below.refl _ _⟩
  have lb := lenQ_bound (byts_dropR hA 1) n
  by_cases k4 : (A.drop 1).getD 0 0 = 0 ∨ lenQ (A.drop 1) n ≤ 55
  · have e : hdP A = (false, 0, 0, 72) := by unfold hdP; rw [if_neg k0, ← ef, if_neg k1, if_neg k2, ← eq, ← en, if_neg k3, if_pos k4]
    rw [e]
    simp only [if_pos k4] at RL
    exact rhl_err (by omega) (by omega) rfl t2 n0 n8 (by omega) (by omega) (by decide) w cell RL
  simp only [if_neg k4] at RL
  obtain ⟨Ln, eL⟩ : ∃ Ln : Nat, Ln = (lenQ (A.drop 1) n).toNat := ⟨_, rfl⟩
  have eL' : lenQ (A.drop 1) n = (Ln : Int) := by omega
  have hL : 55 < Ln := by have : ¬ lenQ (A.drop 1) n ≤ 55 := fun x => k4 (.inr x); omega
  rw [eL'] at RL
  have e : hdP A = fin7 A (decide (192 ≤ f)) (1 + n) Ln := by unfold hdP; rw [if_neg k0, ← ef, if_neg k1, if_neg k2, ← eq, ← en, if_neg k3, if_neg k4, ← eL]
  rw [e]
  by_cases k5 : A.length < 1 + n + Ln
  · have e2 : fin7 A (decide (192 ≤ f)) (1 + n) Ln = (false, 0, 0, 70) := by unfold fin7; rw [if_pos k5]
    rw [e2]
    exact rhl_over (by omega) (by omega) rfl t2 n0 n8 (by omega) hl hc hL k5 w cell RL
  · have e2 : fin7 A (decide (192 ≤ f)) (1 + n) Ln = (decide (192 ≤ f), 1 + n, Ln, 0) := by
      unfold fin7
      rw [if_neg k5, if_neg (fun x => by
        have := bare_long (X := (A.drop (1 + n)).take Ln) (by rw [List.length_take, List.length_drop]; omega)
        rw [this] at x
        exact absurd x.2 (by decide))]
    rw [e2]
    have r := rhl_ok (l := decide (192 ≤ f)) (by omega) (by omega) rfl t2 n0 n8 (by omega) hl hc hL (by omega) w cell RL
    exact r
end Go.Proofs.Ytahekhamhdfkdaa
