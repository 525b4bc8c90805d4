import Derived.Test.YtaefmdofchjofaaRsC
import Derived.Test.YtaefmdofchjofaaUbC
import Derived.Deep.RegionHeld
/- Layer 7: readHead, whatever the bytes. -/
namespace Go.Proofs.Ytaefmdofchjofaa
open Go.RowKit Go.Sort

set_option maxRecDepth 100000 in
set_option maxHeartbeats 8000000 in
theorem rhl_err {b o n m c : Nat} {f L e0 : Int} {l : Bool} (f0 : 128 ≤ f) (f1 : f < 256) (hl : decide (192 ≤ f) = l) (t1 : f.tmod 64 = 55 + n) (n0 : 1 ≤ n) (n8 : n ≤ 8) (h0 : 1 ≤ m) (hcm : 1 < c) (he : e0 ≠ 0) (w : World) (h : w.cell? ⟨b, o, none⟩ = some (.int .u8 f))
    (RL : Hid (∀ w1, Below w.heap.size w w1 → Calls Try.prog 59 #[.slice (some ⟨b, o + 1, none⟩) (m - 1) (c - 1), .int .i64 n] w1 fun e w' => e = .returned (.tuple #[.int .u64 L, .int .i64 e0]) ∧ Below w1.heap.size w1 w')) :
    Calls Try.prog 43 #[.slice (some ⟨b, o, none⟩) m c] w fun e w' => e = .returned (.tuple #[.agg #[.bool false, .int .i64 0, .int .i64 0], .int .i64 e0]) ∧ Below w.heap.size w w' := by
  have HG : Hid (∀ W, Below w.heap.size w W → W.cell? ⟨b, o, none⟩ = some (.int .u8 f)) := fun W B => keepC B h
  have nc : c ≠ 1 := by omega
  have h1 : ¬ ((m : Int) = 0) := by omega
  have h2 : (0 : Int) < (m : Int) := by omega
  have b1 : ((m : Int) == 0) = false := by simpa using h1
  have c1 : (1 : Int) ≤ (m : Int) := by omega
  have c2 : (1 : Int) ≤ (c : Int) := by omega
  have b2 : decide (f < 128) = false := decide_eq_false (by omega)
  have b3 : decide (55 < (55 : Int) + n) = true := decide_eq_true (by omega)
  have v1 : IntKind.u64.wrap ((55 : Int) + n - 55) = n := by rw [IntKind.wrap_u64]; omega
  have v2 : wrap64 (n : Int) = n := by unfold wrap64; omega
  have v4 : IntKind.u64.wrap ((55 : Int) + n) = 55 + n := by rw [IntKind.wrap_u64]; omega
  have b6 : (e0 == 0) = false := beq_false_of_ne he
  have b7 : (e0 != 0) = true := bne_iff_ne.2 he
  clear h n0 n8
  go_enter Try.func43, Try.ntmps43
  refine wp_seq_k fun K h => ?_
  have H : Hid _ := h
  clear h
  go_wp2_with fail
  refine H.out _ _ ?_
  clear H K
  refine wp_world (fun W => Below w.heap.size w W ∧ Hb W w.heap.size false 0 0 ∧ Fr3 W w.heap.size) ⟨(Below.refl _ _).alloc (Nat.le_refl _) _, Hb.new, Fr3.new⟩ ?_
  rintro W ⟨B, hR, hF⟩
  refine wp_seq_k fun K h => ?_
  have H : Hid _ := h
  clear h
  go_wp2_with fail
  refine H.out _ _ ?_
  clear H K
  refine wp_seq_k fun K h => ?_
  have H : Hid _ := h
  clear h
  have g := HG.out W B
  go_wp2_with fail
  refine H.out _ _ ?_
  clear H K
  clear g
  refine wp_seq_k fun K h => ?_
  have H : Hid _ := h
  clear h
  go_wp2_with fail
  refine H.out _ _ ?_
  clear H K
  refine wp_seq_k fun K h => ?_
  have H : Hid _ := h
  clear h
  go_wp2_with fail
  refine H.out _ _ ?_
  clear H K
  refine wp_world (fun V => Below w.heap.size w V ∧ Hb V w.heap.size false 0 0 ∧ Fr3 V w.heap.size) ⟨B.alloc B.size _, hR.keep ((Below.refl _ _).alloc (Nat.le_refl _) _), hF.keep hR.lt ((Below.refl _ _).alloc (Nat.le_refl _) _)⟩ ?_
  clear B hR hF
  rintro V ⟨B, hR, hF⟩
  generalize W.heap.size = bh at *
  clear W b2
  refine wp_seq_k fun K h => ?_
  have H : Hid _ := h
  clear h
  go_wp2_with fail
  refine H.out _ _ ?_
  clear H K
  refine wp_seq_k fun K h => ?_
  have H : Hid _ := h
  clear h
  go_wp2_with fail
  with_reducible refine (RL.out V B).mono ?_
  rintro e w1 ⟨rfl, hb⟩
  replace B := B.trans (hb.mono B.size)
  replace hF := hF.keep hR.lt hb
  replace hR := hR.keep hb
  clear hb RL
  obtain ⟨r0, r1, r2⟩ := id hR
  obtain ⟨z0, z1, z2⟩ := id hF
  have o3 : w.heap.size ≤ w.heap.size := Nat.le_refl _
  go_wp2
  all_goals simp [bodyPost, results, Try.results43, go_sem, *]
  all_goals repeat (first | with_reducible exact B | with_reducible refine Below.setCell ?_ o3 _)
set_option maxRecDepth 100000 in
set_option maxHeartbeats 8000000 in
theorem rhl_err1 {b o n : Nat} {f L e0 : Int} {l : Bool} (f0 : 128 ≤ f) (f1 : f < 256) (hl : decide (192 ≤ f) = l) (t1 : f.tmod 64 = 55 + n) (n0 : 1 ≤ n) (n8 : n ≤ 8)  (he : e0 ≠ 0) (w : World) (h : w.cell? ⟨b, o, none⟩ = some (.int .u8 f))
    (RL : Hid (∀ w1, Below w.heap.size w w1 → Calls Try.prog 59 #[.slice (some ⟨b, o, none⟩) 0 0, .int .i64 n] w1 fun e w' => e = .returned (.tuple #[.int .u64 L, .int .i64 e0]) ∧ Below w1.heap.size w1 w')) :
    Calls Try.prog 43 #[.slice (some ⟨b, o, none⟩) 1 1] w fun e w' => e = .returned (.tuple #[.agg #[.bool false, .int .i64 0, .int .i64 0], .int .i64 e0]) ∧ Below w.heap.size w w' := by
  have HG : Hid (∀ W, Below w.heap.size w W → W.cell? ⟨b, o, none⟩ = some (.int .u8 f)) := fun W B => keepC B h
  have b2 : decide (f < 128) = false := decide_eq_false (by omega)
  have b3 : decide (55 < (55 : Int) + n) = true := decide_eq_true (by omega)
  have v1 : IntKind.u64.wrap ((55 : Int) + n - 55) = n := by rw [IntKind.wrap_u64]; omega
  have v2 : wrap64 (n : Int) = n := by unfold wrap64; omega
  have v4 : IntKind.u64.wrap ((55 : Int) + n) = 55 + n := by rw [IntKind.wrap_u64]; omega
  have b6 : (e0 == 0) = false := beq_false_of_ne he
  have b7 : (e0 != 0) = true := bne_iff_ne.2 he
  clear h n0 n8
  go_enter Try.func43, Try.ntmps43
  refine wp_seq_k fun K h => ?_
  have H : Hid _ := h
  clear h
  go_wp2_with fail
  refine H.out _ _ ?_
  clear H K
  refine wp_world (fun W => Below w.heap.size w W ∧ Hb W w.heap.size false 0 0 ∧ Fr3 W w.heap.size) ⟨(Below.refl _ _).alloc (Nat.le_refl _) _, Hb.new, Fr3.new⟩ ?_
  rintro W ⟨B, hR, hF⟩
  refine wp_seq_k fun K h => ?_
  have H : Hid _ := h
  clear h
  go_wp2_with fail
  refine H.out _ _ ?_
  clear H K
  refine wp_seq_k fun K h => ?_
  have H : Hid _ := h
  clear h
  have g := HG.out W B
  go_wp2_with fail
  refine H.out _ _ ?_
  clear H K
  clear g
  refine wp_seq_k fun K h => ?_
  have H : Hid _ := h
  clear h
  go_wp2_with fail
  refine H.out _ _ ?_
  clear H K
  refine wp_seq_k fun K h => ?_
  have H : Hid _ := h
  clear h
  go_wp2_with fail
  refine H.out _ _ ?_
  clear H K
  refine wp_world (fun V => Below w.heap.size w V ∧ Hb V w.heap.size false 0 0 ∧ Fr3 V w.heap.size) ⟨B.alloc B.size _, hR.keep ((Below.refl _ _).alloc (Nat.le_refl _) _), hF.keep hR.lt ((Below.refl _ _).alloc (Nat.le_refl _) _)⟩ ?_
  clear B hR hF
  rintro V ⟨B, hR, hF⟩
  generalize W.heap.size = bh at *
  clear W b2
  refine wp_seq_k fun K h => ?_
  have H : Hid _ := h
  clear h
  go_wp2_with fail
  refine H.out _ _ ?_
  clear H K
  refine wp_seq_k fun K h => ?_
  have H : Hid _ := h
  clear h
  go_wp2_with fail
  with_reducible refine (RL.out V B).mono ?_
  rintro e w1 ⟨rfl, hb⟩
  replace B := B.trans (hb.mono B.size)
  replace hF := hF.keep hR.lt hb
  replace hR := hR.keep hb
  clear hb RL
  obtain ⟨r0, r1, r2⟩ := id hR
  obtain ⟨z0, z1, z2⟩ := id hF
  have o3 : w.heap.size ≤ w.heap.size := Nat.le_refl _
  go_wp2
  all_goals simp [bodyPost, results, Try.results43, go_sem, *]
  all_goals repeat (first | with_reducible exact B | with_reducible refine Below.setCell ?_ o3 _)
end Go.Proofs.Ytaefmdofchjofaa

/- Layer 7: readHead of any bytes. -/
namespace Go.Proofs.Ytaefmdofchjofaa
open Go.RowKit Go.Sort

/-- What a head that fits is answered as. -/
def fin7 (A : List Int) (l : Bool) (s h : Nat) : Bool × Nat × Nat × Int := if A.length < s + h then (false, 0, 0, 70) else if l = false ∧ bareB ((A.drop s).take h) = true then (false, 0, 0, 71) else (l, s, h, 0)
/-- The head of any bytes: whether a list, its own bytes, how many it holds, the error. -/
def hdP (A : List Int) : Bool × Nat × Nat × Int :=
  if A.length = 0 then (false, 0, 0, 70)
  else if A.getD 0 0 < 128 then (false, 0, 1, 0)
  else if A.getD 0 0 % 64 ≤ 55 then fin7 A (decide (192 ≤ A.getD 0 0)) 1 (A.getD 0 0 % 64).toNat
  else if A.length - 1 < (A.getD 0 0 % 64).toNat - 55 then (false, 0, 0, 70)
  else if (A.drop 1).getD 0 0 = 0 ∨ lenQ (A.drop 1) ((A.getD 0 0 % 64).toNat - 55) ≤ 55 then (false, 0, 0, 72)
  else fin7 A (decide (192 ≤ A.getD 0 0)) (1 + ((A.getD 0 0 % 64).toNat - 55)) (lenQ (A.drop 1) ((A.getD 0 0 % 64).toNat - 55)).toNat
theorem byts_dropR {l : List Int} (h : Byts l) (k : Nat) : Byts (l.drop k) := fun i => by
  have := h (k + i)
  simpa [List.getD, List.getElem?_drop] using this
theorem bare_long {X : List Int} (h : X.length ≠ 1) : bareB X = false := by
  unfold bareB
  rw [decide_eq_false h]; rfl
theorem rh_all {A : List Int} {a : Option Addr} {b o c : Nat} (hA : Byts A) (hl : A.length ≤ 16777216) (hc : A.length ≤ c) (ha : Az a b o A) (w : World) (h : Bz w b o A) :
    Calls Try.prog 43 #[.slice a A.length c] w fun e w' => e = .returned (.tuple #[.agg #[.bool (hdP A).1, .int .i64 ((hdP A).2.1 : Int), .int .i64 ((hdP A).2.2.1 : Int)], .int .i64 (hdP A).2.2.2]) ∧ Below w.heap.size w w' := by
  have hm : Lim A.length := by unfold Lim; omega
  by_cases k0 : A.length = 0
  · have e : hdP A = (false, 0, 0, 70) := by unfold hdP; rw [if_pos k0]
    rw [e, k0]
    exact rh_empty w
  obtain rfl := ha.cons (by omega)
  have hf := hA 0
  obtain ⟨f, ef⟩ : ∃ f, f = A.getD 0 0 := ⟨_, rfl⟩
  rw [← ef] at hf
  by_cases k1 : f < 128
  · have e : hdP A = (false, 0, 1, 0) := by unfold hdP; rw [if_neg k0, ← ef, if_pos k1]
    rw [e]
    exact rh_low (by omega) (by rw [← ef]; exact k1) w h
  have t0 : f.tmod 64 = f % 64 := Int.tmod_eq_emod_of_nonneg (by omega)
  obtain ⟨q, eq⟩ : ∃ q : Nat, q = (f % 64).toNat := ⟨_, rfl⟩
  have eq' : f % 64 = (q : Int) := by omega
  have t1 : f.tmod 64 = (q : Int) := by rw [t0, eq']
  by_cases k2 : f % 64 ≤ 55
  · have e : hdP A = fin7 A (decide (192 ≤ f)) 1 q := by unfold hdP; rw [if_neg k0, ← ef, if_neg k1, if_pos k2, ← eq]
    have hq : q ≤ 55 := by omega
    rw [e]
    by_cases k3 : A.length < 1 + q
    · have e2 : fin7 A (decide (192 ≤ f)) 1 q = (false, 0, 0, 70) := by unfold fin7; rw [if_pos k3]
      rw [e2]
      exact rh_over ef (by omega) (by omega) t1 hq (by omega) (by omega) w h
    by_cases k4 : 192 ≤ f
    · have e2 : fin7 A (decide (192 ≤ f)) 1 q = (true, 1, q, 0) := by unfold fin7; rw [if_neg k3, decide_eq_true k4, if_neg (by simp)]
      rw [e2]
      exact rh_list ef (by omega) (by omega) k4 t1 hq (by omega) hm w h
    by_cases k5 : bareB ((A.drop 1).take q) = true
    · have e2 : fin7 A (decide (192 ≤ f)) 1 q = (false, 0, 0, 71) := by unfold fin7; rw [if_neg k3, decide_eq_false k4, if_pos ⟨rfl, k5⟩]
      rw [e2]
      exact rh_bare ef (by omega) (by omega) (by omega) t1 hq (by omega) hc hm k5 w h
    · have e2 : fin7 A (decide (192 ≤ f)) 1 q = (false, 1, q, 0) := by unfold fin7; rw [if_neg k3, decide_eq_false k4, if_neg (fun x => k5 x.2)]
      rw [e2]
      exact rh_text ef (by omega) (by omega) (by omega) t1 hq (by omega) hc hm (by simpa using k5) w h
  obtain ⟨n, en⟩ : ∃ n : Nat, n = q - 55 := ⟨_, rfl⟩
  have t2 : f.tmod 64 = 55 + (n : Int) := by rw [t1]; omega
  have n0 : 1 ≤ n := by omega
  have n8 : n ≤ 8 := by omega
  have cell := h 0 (by omega)
  rw [Nat.add_zero, ← ef] at cell
  have ld : (A.drop 1).length = A.length - 1 := by rw [List.length_drop]
  by_cases k3 : A.length - 1 < n
  · have e : hdP A = (false, 0, 0, 70) := by unfold hdP; rw [if_neg k0, ← ef, if_neg k1, if_neg k2, ← eq, ← en, if_pos k3]
    rw [e]
    by_cases kc : c = 1
    · have ka : A.length = 1 := by omega
      rw [ka, kc]
      refine rhl_err1 (L := 0) (by omega) (by omega) rfl t2 n0 n8 (by decide) w cell (fun w1 _ => ?_)
      have r := rl_end (A := []) (ao := some ⟨b, o, none⟩) (c := 0) (n := n) (by show 0 < n; omega) w1
      exact r.mono fun e w' x => ⟨x.1, by rw [x.2]; exact Below.refl _ _⟩
    · refine rhl_err (L := 0) (by omega) (by omega) rfl t2 n0 n8 (by omega) (by omega) (by decide) w cell (fun w1 _ => ?_)
      have r := rl_end (A := A.drop 1) (ao := some ⟨b, o + 1, none⟩) (c := c - 1) (n := n) (by omega) w1
      rw [ld] at r
      exact r.mono fun e w' x => ⟨x.1, by rw [x.2]; exact Below.refl _ _⟩
  have RL : ∀ w1, Below w.heap.size w w1 → Calls Try.prog 59 #[.slice (some ⟨b, o + 1, none⟩) (A.length - 1) (c - 1), .int .i64 n] w1 fun e w' => e = .returned (.tuple #[.int .u64 (if (A.drop 1).getD 0 0 = 0 ∨ lenQ (A.drop 1) n ≤ 55 then 0 else lenQ (A.drop 1) n), .int .i64 (if (A.drop 1).getD 0 0 = 0 ∨ lenQ (A.drop 1) n ≤ 55 then 72 else 0)]) ∧ Below w1.heap.size w1 w' := fun w1 B => by
    have r := rl_any (c := c - 1) (n := n) (byts_dropR hA 1) n0 n8 (by omega) (by omega) w1 ((h.keep B).drop)
    rw [ld] at r
    exact r.mono fun e w' x => ⟨x.1, by rw [x.2]; exact Below.refl _ _⟩
  have lb := lenQ_bound (byts_dropR hA 1) n
  by_cases k4 : (A.drop 1).getD 0 0 = 0 ∨ lenQ (A.drop 1) n ≤ 55
  · have e : hdP A = (false, 0, 0, 72) := by unfold hdP; rw [if_neg k0, ← ef, if_neg k1, if_neg k2, ← eq, ← en, if_neg k3, if_pos k4]
    rw [e]
    simp only [if_pos k4] at RL
    exact rhl_err (by omega) (by omega) rfl t2 n0 n8 (by omega) (by omega) (by decide) w cell RL
  simp only [if_neg k4] at RL
  obtain ⟨Ln, eL⟩ : ∃ Ln : Nat, Ln = (lenQ (A.drop 1) n).toNat := ⟨_, rfl⟩
  have eL' : lenQ (A.drop 1) n = (Ln : Int) := by omega
  have hL : 55 < Ln := by have : ¬ lenQ (A.drop 1) n ≤ 55 := fun x => k4 (.inr x); omega
  rw [eL'] at RL
  have e : hdP A = fin7 A (decide (192 ≤ f)) (1 + n) Ln := by unfold hdP; rw [if_neg k0, ← ef, if_neg k1, if_neg k2, ← eq, ← en, if_neg k3, if_neg k4, ← eL]
  rw [e]
  by_cases k5 : A.length < 1 + n + Ln
  · have e2 : fin7 A (decide (192 ≤ f)) (1 + n) Ln = (false, 0, 0, 70) := by unfold fin7; rw [if_pos k5]
    rw [e2]
    exact rhl_over (by omega) (by omega) rfl t2 n0 n8 (by omega) hl hc hL k5 w cell RL
  · have e2 : fin7 A (decide (192 ≤ f)) (1 + n) Ln = (decide (192 ≤ f), 1 + n, Ln, 0) := by
      unfold fin7
      rw [if_neg k5, if_neg (fun x => by
        have := bare_long (X := (A.drop (1 + n)).take Ln) (by rw [List.length_take, List.length_drop]; omega)
        rw [this] at x
        exact absurd x.2 (by decide))]
    rw [e2]
    have r := rhl_ok (l := decide (192 ≤ f)) (by omega) (by omega) rfl t2 n0 n8 (by omega) hl hc hL (by omega) w cell RL
    exact r
end Go.Proofs.Ytaefmdofchjofaa

/- Layer 7: bytes.Clone. -/
namespace Go.Proofs.Ytaefmdofchjofaa
open Go.RowKit Go.Sort
theorem sl_none (w : World) (n c : Nat) : (binOp .eql 29 (.slice none n c) (.slice none 0 0)).run Try.prog w = .ok (.bool true) w := by kernel_rfl
set_option maxRecDepth 100000 in
theorem bclone_nil (n c : Nat) (w : World) : Calls Try.prog 37 #[.slice none n c] w fun e w' => e = .returned (.slice none 0 0) ∧ w' = w := by
  have h := sl_none
  go_enter Try.func37, Try.ntmps37
  go_wp2
  simp [bodyPost, results, Try.results37, go_sem]
end Go.Proofs.Ytaefmdofchjofaa

/- Layer 7: Split. -/
namespace Go.Proofs.Ytaefmdofchjofaa
open Go.RowKit Go.Sort
/-- Where a slice of a slice begins: at the end of its room it stays where it was. -/
def atO (o c p : Nat) : Nat := if c = p then o else o + p
theorem cut_lo {b o n c p : Nat} (h : p ≤ n) (hc : n ≤ c) (w : World) : (Instr.sliceAt 29 (.slice (some ⟨b, o, none⟩) n c) (some (.int .i64 (p : Int))) none none).run Try.prog w = .ok (.slice (some ⟨b, atO o c p, none⟩) (n - p) (c - p)) w := by
  have tu := Try.underlying29
  have tz := Try.sizeOf5
  have h1 : (p : Int) ≤ (n : Int) := by omega
  unfold atO
  by_cases k : c = p
  · have e : n = p := by omega
    subst e k
    simp [Instr.sliceAt, Instr.slice, Instr.sliceBounds, run_underlying tu, run_sliceBound, go_sem, tz, Addr.add]
  · simp [Instr.sliceAt, Instr.slice, Instr.sliceBounds, run_underlying tu, run_sliceBound, go_sem, tz, h1, k, Addr.add]
theorem cut_both {b o n c p q : Nat} (h : p ≤ q) (hc : q ≤ c) (w : World) : (Instr.sliceAt 29 (.slice (some ⟨b, o, none⟩) n c) (some (.int .i64 (p : Int))) (some (.int .i64 (q : Int))) none).run Try.prog w = .ok (.slice (some ⟨b, atO o c p, none⟩) (q - p) (c - p)) w := by
  have tu := Try.underlying29
  have tz := Try.sizeOf5
  have h2 : (q : Int) ≤ (c : Int) := by omega
  unfold atO
  by_cases k : c = p
  · have e : q = p := by omega
    subst e k
    simp [Instr.sliceAt, Instr.slice, Instr.sliceBounds, run_underlying tu, run_sliceBound, go_sem, tz, Addr.add]
  · simp [Instr.sliceAt, Instr.slice, Instr.sliceBounds, run_underlying tu, run_sliceBound, go_sem, tz, h, h2, k, Addr.add]
    try (intro k3; omega)
end Go.Proofs.Ytaefmdofchjofaa

/- Bytes there and back: plain numbers; Get and Strict of any slice. -/
namespace Go.Proofs.Ytaefmdofchjofaa
open Go.RowKit Go.Sort

theorem get_nil (w : World) {a : Option Addr} {c : Nat} : Calls Try.prog 78 #[.slice a 0 c] w fun e w' => e = .returned (.tuple #[.agg #[.int .u64 (l0 0), .int .u64 (l1 0), .int .u64 (l2 0), .int .u64 (l3 0)], .int .i64 0]) ∧ Below w.heap.size w w' := by
  have hb0 := build_zero
  obtain ⟨z0, z1, z2, z3⟩ := zero_limbs
  rw [z0, z1, z2, z3]
  go_enter Try.func78, Try.ntmps78
  go_wp2
  refine wp_loop_rounds 1 ?_
  rw [rounds_succ]; go_wp2
  simp [bodyPost, results, Try.results78, go_sem]
  repeat (first | with_reducible exact Below.refl _ _ | with_reducible refine Below.drew ?_ | with_reducible refine Below.alloc ?_ (by first | omega | (simp; done) | (simp; omega)) _ | with_reducible refine Below.setCell ?_ (by first | omega | (simp; done)) _)
/-- Strict of any slice. -/
theorem strict_az {a : Option Addr} {b o c : Nat} {X : List Int} (hX : Byts X) (hZ : Az a b o X) (w : World) (hz : Bz w b o X) :
    Calls Try.prog 63 #[.slice a X.length c] w fun e w' => e = .returned (.tuple #[.agg #[.int .u64 (l0 (sv X)), .int .u64 (l1 (sv X)), .int .u64 (l2 (sv X)), .int .u64 (l3 (sv X))], .int .i64 (se X)]) ∧ Below w.heap.size w w' := by
  by_cases h : X.length ≤ 32
  · rw [sv, se, if_pos h, if_pos h]
    by_cases h0 : X = []
    · rw [if_neg (by simp [h0]), if_neg (by simp [h0])]
      subst h0
      have GT : Hid (∀ W, Below w.heap.size w W → Calls Try.prog 78 #[.slice a 0 c] W fun e w' => e = .returned (.tuple #[.agg #[.int .u64 (l0 0), .int .u64 (l1 0), .int .u64 (l2 0), .int .u64 (l3 0)], .int .i64 0]) ∧ Below W.heap.size W w') := fun W _ => get_nil W
      exact strict_none w rfl GT
    · have hp : 0 < X.length := List.length_pos_iff.2 h0
      obtain rfl := hZ.cons hp
      have GT : Hid (∀ W, Below w.heap.size w W → Calls Try.prog 78 #[.slice (some ⟨b, o, none⟩) X.length c] W fun e w' => e = .returned (.tuple #[.agg #[.int .u64 (l0 (sufN X X.length)), .int .u64 (l1 (sufN X X.length)), .int .u64 (l2 (sufN X X.length)), .int .u64 (l3 (sufN X X.length))], .int .i64 0]) ∧ Below W.heap.size W w') := fun W B => get_some hX h W (hz.keep B)
      have hc := hz 0 hp
      rw [Nat.add_zero] at hc
      by_cases h1 : X.getD 0 0 = 0
      · rw [if_pos ⟨h0, h1⟩, if_pos ⟨h0, h1⟩]
        obtain ⟨z0, z1, z2, z3⟩ := zero_limbs
        rw [z0, z1, z2, z3]
        rw [h1] at hc
        exact strict_lead w hp hc GT
      · rw [if_neg (fun q => h1 q.2), if_neg (fun q => h1 q.2)]
        exact strict_some w hp h1 hc GT
  · rw [sv, se, if_neg h, if_neg h]
    exact strict_bad w (by decide) (fun W _ => get_long (by omega) W)
end Go.Proofs.Ytaefmdofchjofaa

/- Layer 7: Split of a head that is taken. -/
namespace Go.Proofs.Ytaefmdofchjofaa
open Go.RowKit Go.Sort
theorem wpAnyH_takeD {P : Program} {md : Region.Mode} {ops : Array Oper} {Q : Exit → Act → World → Prop} {S : World → Prop} {i : Nat} {oi : Oper} {v : Value} {fuel : Nat} {listed : Array Bool} {a : Act} {w : World} (d : Nat) (hi : ops[i]? = some oi) (hd : oi.dst = some d)
    (hs : Region.noSelect ops = true) (hf : Region.free md ops listed i = true) (hr : (Region.ready md ops listed).contains i = true)
    (hQ : ∀ c a w, Q (.panic c) (a.put oi.dst v) w → Q (.panic c) a w) (hy : YieldsIf P ops S oi v a) (hS : S w)
    (h : wpAnyH P md ops Q S fuel (listed.setIfInBounds i true) (a.put (some d) v) w) : wpAnyH P md ops Q S (fuel + 1) listed a w :=
  wpAnyH_take hi hs hf hr hQ hy hS (by rw [hd]; exact h)
theorem bz_part {w : World} {b o : Nat} {A : List Int} (h : Bz w b o A) {c p q : Nat} (hq : p + q ≤ A.length) (hc : A.length ≤ c) : Bz w b (atO o c p) ((A.drop p).take q) := by
  unfold atO
  by_cases k : c = p
  · intro i hi
    rw [List.length_take, List.length_drop] at hi
    omega
  · rw [if_neg k]
    intro i hi
    rw [List.length_take, List.length_drop] at hi
    have e : ((A.drop p).take q).getD i 0 = A.getD (p + i) 0 := by
      rw [List.getD, List.getElem?_take, if_pos (by omega), List.getElem?_drop]; rfl
    rw [e, Nat.add_assoc]
    exact h (p + i) (by omega)
end Go.Proofs.Ytaefmdofchjofaa

/- Layer 7: Split of any bytes. -/
namespace Go.Proofs.Ytaefmdofchjofaa
open Go.RowKit Go.Sort
theorem fin7_fits {A : List Int} {l : Bool} {s h : Nat} (e : (fin7 A l s h).2.2.2 = 0) : fin7 A l s h = (l, s, h, 0) ∧ s + h ≤ A.length := by
  unfold fin7 at e ⊢
  by_cases k : A.length < s + h
  · rw [if_pos k] at e; simp at e
  · rw [if_neg k] at e ⊢
    by_cases k2 : l = false ∧ bareB ((A.drop s).take h) = true
    · rw [if_pos k2] at e; simp at e
    · rw [if_neg k2]; exact ⟨rfl, by omega⟩
theorem hdP_fits {A : List Int} (e : (hdP A).2.2.2 = 0) : 1 ≤ A.length ∧ (hdP A).2.1 + (hdP A).2.2.1 ≤ A.length ∧ 1 ≤ (hdP A).2.1 + (hdP A).2.2.1 := by
  unfold hdP at e ⊢
  by_cases k0 : A.length = 0
  · rw [if_pos k0] at e; simp at e
  rw [if_neg k0] at e ⊢
  by_cases k1 : A.getD 0 0 < 128
  · rw [if_pos k1]; simp; omega
  rw [if_neg k1] at e ⊢
  by_cases k2 : A.getD 0 0 % 64 ≤ 55
  · rw [if_pos k2] at e ⊢
    obtain ⟨q, r⟩ := fin7_fits e
    rw [q]; exact ⟨by omega, r, by show 1 ≤ 1 + _; omega⟩
  rw [if_neg k2] at e ⊢
  by_cases k3 : A.length - 1 < (A.getD 0 0 % 64).toNat - 55
  · rw [if_pos k3] at e; simp at e
  rw [if_neg k3] at e ⊢
  by_cases k4 : (A.drop 1).getD 0 0 = 0 ∨ lenQ (A.drop 1) ((A.getD 0 0 % 64).toNat - 55) ≤ 55
  · rw [if_pos k4] at e; simp at e
  rw [if_neg k4] at e ⊢
  obtain ⟨q, r⟩ := fin7_fits e
  rw [q]; exact ⟨by omega, r, by show 1 ≤ 1 + _ + _; omega⟩
end Go.Proofs.Ytaefmdofchjofaa

/- Layer 7: what cut answers, as a function of the bytes. -/
namespace Go.Proofs.Ytaefmdofchjofaa
open Go.RowKit Go.Sort
/-- How many bytes the first item has, head and all. -/
def totP (A : List Int) : Nat := (hdP A).2.1 + (hdP A).2.2.1
theorem totP_fits {A : List Int} (e : (hdP A).2.2.2 = 0) : totP A ≤ A.length ∧ 1 ≤ totP A := ⟨(hdP_fits e).2.1, (hdP_fits e).2.2⟩
end Go.Proofs.Ytaefmdofchjofaa
