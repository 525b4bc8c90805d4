import Derived.Test.YtahekhamhdfkdaaRsE
/- Layer 7: readHead of any bytes. -/
namespace Go.Proofs.Ytahekhamhdfkdaa
open Go.RowKit Go.Sort

/-- What a head that fits is answered as. -/
def fin7 (A : List Int) (l : Bool) (s h : Nat) : Bool × Nat × Nat × Int := if A.length < s + h then (false, 0, 0, 70) else if l = false ∧ bareB ((A.drop s).take h) = true then (false, 0, 0, 71) else (l, s, h, 0)
/-- The head of any bytes: whether a list, its own bytes, how many it holds, the error. -/
def hdP (A : List Int) : Bool × Nat × Nat × Int :=
  if A.length = 0 then (false, 0, 0, 70)
  else if A.getD 0 0 < 128 then (false, 0, 1, 0)
  else if A.getD 0 0 % 64 ≤ 55 then fin7 A (decide (192 ≤ A.getD 0 0)) 1 (A.getD 0 0 % 64).toNat
  else if A.length - 1 < (A.getD 0 0 % 64).toNat - 55 then (false, 0, 0, 70)
  else if (A.drop 1).getD 0 0 = 0 ∨ lenQ (A.drop 1) ((A.getD 0 0 % 64).toNat - 55) ≤ 55 then (false, 0, 0, 72)
  else fin7 A (decide (192 ≤ A.getD 0 0)) (1 + ((A.getD 0 0 % 64).toNat - 55)) (lenQ (A.drop 1) ((A.getD 0 0 % 64).toNat - 55)).toNat
theorem byts_dropR {l : List Int} (h : Byts l) (k : Nat) : Byts (l.drop k) := fun i => by
  have := h (k + i)
  simpa [List.getD, List.getElem?_drop] using this
theorem bare_long {X : List Int} (h : X.length ≠ 1) : bareB X = false := by
  unfold bareB
  rw [decide_eq_false h]; rfl
theorem rh_all {A : List Int} {a : Option Addr} {b o c : Nat} (hA : Byts A) (hl : A.length ≤ 16777216) (hc : A.length ≤ c) (ha : Az a b o A) (w : World) (h : Bz w b o A) :
    Calls Try.prog 32 #[.slice a A.length c] w fun e w' => e = .returned (.tuple #[.agg #[.bool (hdP A).1, .int .i64 ((hdP A).2.1 : Int), .int .i64 ((hdP A).2.2.1 : Int)], .int .i64 (hdP A).2.2.2]) ∧ Below w.heap.size w w' := by
  have hm : Lim A.length := by unfold Lim; omega
  by_cases k0 : A.length = 0
  · have e : hdP A = (false, 0, 0, 70) := by unfold hdP; rw [if_pos k0]
    rw [e, k0]
    exact rh_empty w
  obtain rfl := ha.cons (by omega)
  have hf := hA 0
  obtain ⟨f, ef⟩ : ∃ f, f = A.getD 0 0 := ⟨_, rfl⟩
  rw [← ef] at hf
  by_cases k1 : f < 128
  · have e : hdP A = (false, 0, 1, 0) := by unfold hdP; rw [if_neg k0, ← ef, if_pos k1]
    rw [e]
    exact rh_low (by omega) (by rw [← ef]; exact k1) w h
  have t0 : f.tmod 64 = f % 64 := Int.tmod_eq_emod_of_nonneg (by omega)
  obtain ⟨q, eq⟩ : ∃ q : Nat, q = (f % 64).toNat := ⟨_, rfl⟩
  have eq' : f % 64 = (q : Int) := by omega
  have t1 : f.tmod 64 = (q : Int) := by rw [t0, eq']
  by_cases k2 : f % 64 ≤ 55
  · have e : hdP A = fin7 A (decide (192 ≤ f)) 1 q := by unfold hdP; rw [if_neg k0, ← ef, if_neg k1, if_pos k2, ← eq]
    have hq : q ≤ 55 := by omega
    rw [e]
    by_cases k3 : A.length < 1 + q
    · have e2 : fin7 A (decide (192 ≤ f)) 1 q = (false, 0, 0, 70) := by unfold fin7; rw [if_pos k3]
      rw [e2]
      exact rh_over ef (by omega) (by omega) t1 hq (by omega) (by omega) w h
    by_cases k4 : 192 ≤ f
    · have e2 : fin7 A (decide (192 ≤ f)) 1 q = (true, 1, q, 0) := by unfold fin7; rw [if_neg k3, decide_eq_true k4, if_neg (by simp)]
      rw [e2]
      exact rh_list ef (by omega) (by omega) k4 t1 hq (by omega) hm w h
    by_cases k5 : bareB ((A.drop 1).take q) = true
    · have e2 : fin7 A (decide (192 ≤ f)) 1 q = (false, 0, 0, 71) := by unfold fin7; rw [if_neg k3, decide_eq_false k4, if_pos ⟨rfl, k5⟩]
      rw [e2]
      exact rh_bare ef (by omega) (by omega) (by omega) t1 hq (by omega) hc hm k5 w h
    · have e2 : fin7 A (decide (192 ≤ f)) 1 q = (false, 1, q, 0) := by unfold fin7; rw [if_neg k3, decide_eq_false k4, if_neg (fun x => k5 x.2)]
      rw [e2]
      exact rh_text ef (by omega) (by omega) (by omega) t1 hq (by omega) hc hm (by simpa using k5) w h
  obtain ⟨n, en⟩ : ∃ n : Nat, n = q - 55 := ⟨_, rfl⟩
  have t2 : f.tmod 64 = 55 + (n : Int) := by rw [t1]; omega
  have n0 : 1 ≤ n := by omega
  have n8 : n ≤ 8 := by omega
  have cell := h 0 (by omega)
  rw [Nat.add_zero, ← ef] at cell
  have ld : (A.drop 1).length = A.length - 1 := by rw [List.length_drop]
  by_cases k3 : A.length - 1 < n
  · have e : hdP A = (false, 0, 0, 70) := by unfold hdP; rw [if_neg k0, ← ef, if_neg k1, if_neg k2, ← eq, ← en, if_pos k3]
    rw [e]
    by_cases kc : c = 1
    · have ka : A.length = 1 := by omega
      rw [ka, kc]
      refine rhl_err1 (L := 0) (by omega) (by omega) rfl t2 n0 n8 (by decide) w cell (fun w1 _ => ?_)
      have r := rl_end (A := []) (ao := some ⟨b, o, none⟩) (c := 0) (n := n) (by show 0 < n; omega) w1
      exact r.mono fun e w' x => ⟨x.1, by rw [x.2]; exact Below.refl _ _⟩
    · refine rhl_err (L := 0) (by omega) (by omega) rfl t2 n0 n8 (by omega) (by omega) (by decide) w cell (fun w1 _ => ?_)
      have r := rl_end (A := A.drop 1) (ao := some ⟨b, o + 1, none⟩) (c := c - 1) (n := n) (by omega) w1
      rw [ld] at r
      exact r.mono fun e w' x => ⟨x.1, by rw [x.2]; exact Below.refl _ _⟩
  have RL : ∀ w1, Below w.heap.size w w1 → Calls Try.prog 48 #[.slice (some ⟨b, o + 1, none⟩) (A.length - 1) (c - 1), .int .i64 n] w1 fun e w' => e = .returned (.tuple #[.int .u64 (if (A.drop 1).getD 0 0 = 0 ∨ lenQ (A.drop 1) n ≤ 55 then 0 else lenQ (A.drop 1) n), .int .i64 (if (A.drop 1).getD 0 0 = 0 ∨ lenQ (A.drop 1) n ≤ 55 then 72 else 0)]) ∧ Below w1.heap.size w1 w' := fun w1 B => by
    have r := rl_any (c := c - 1) (n := n) (byts_dropR hA 1) n0 n8 (by omega) (by omega) w1 ((h.keep B).drop)
    rw [ld] at r
    exact r.mono fun e w' x => ⟨x.1, by rw [x.2]; exact Below.refl _ _⟩
  have lb := lenQ_bound (byts_dropR hA 1) n
  by_cases k4 : (A.drop 1).getD 0 0 = 0 ∨ lenQ (A.drop 1) n ≤ 55
  · have e : hdP A = (false, 0, 0, 72) := by unfold hdP; rw [if_neg k0, ← ef, if_neg k1, if_neg k2, ← eq, ← en, if_neg k3, if_pos k4]
    rw [e]
    simp only [if_pos k4] at RL
    exact rhl_err (by omega) (by omega) rfl t2 n0 n8 (by omega) (by omega) (by decide) w cell RL
  simp only [if_neg k4] at RL
  obtain ⟨Ln, eL⟩ : ∃ Ln : Nat, Ln = (lenQ (A.drop 1) n).toNat := ⟨_, rfl⟩
  have eL' : lenQ (A.drop 1) n = (Ln : Int) := by omega
  have hL : 55 < Ln := by have : ¬ lenQ (A.drop 1) n ≤ 55 := fun x => k4 (.inr x); omega
  rw [eL'] at RL
  have e : hdP A = fin7 A (decide (192 ≤ f)) (1 + n) Ln := by unfold hdP; rw [if_neg k0, ← ef, if_neg k1, if_neg k2, ← eq, ← en, if_neg k3, if_neg k4, ← eL]
  rw [e]
  by_cases k5 : A.length < 1 + n + Ln
  · have e2 : fin7 A (decide (192 ≤ f)) (1 + n) Ln = (false, 0, 0, 70) := by unfold fin7; rw [if_pos k5]
    rw [e2]
    exact rhl_over (by omega) (by omega) rfl t2 n0 n8 (by omega) hl hc hL k5 w cell RL
  · have e2 : fin7 A (decide (192 ≤ f)) (1 + n) Ln = (decide (192 ≤ f), 1 + n, Ln, 0) := by
      unfold fin7
      rw [if_neg k5, if_neg (fun x => by
        have := bare_long (X := (A.drop (1 + n)).take Ln) (by rw [List.length_take, List.length_drop]; omega)
        rw [this] at x
        exact absurd x.2 (by decide))]
    rw [e2]
    have r := rhl_ok (l := decide (192 ≤ f)) (by omega) (by omega) rfl t2 n0 n8 (by omega) hl hc hL (by omega) w cell RL
    exact r
end Go.Proofs.Ytahekhamhdfkdaa

/- Layer 7: firstHead. -/
namespace Go.Proofs.Ytahekhamhdfkdaa
open Go.RowKit Go.Sort
set_option maxRecDepth 100000 in
set_option maxHeartbeats 8000000 in
theorem fh_long {a : Option Addr} {m c : Nat} (hm : 16777216 < m) (w : World) :
    Calls Try.prog 37 #[.slice a m c] w fun e w' => e = .returned (.tuple #[.agg #[.bool false, .int .i64 0, .int .i64 0], .int .i64 2]) ∧ Below w.heap.size w w' := by
  have h1 : (16777216 : Int) < (m : Int) := by omega
  go_enter Try.func37, Try.ntmps37
  refine wp_seq_k fun K h => ?_
  have H : Hid _ := h
  clear h
  go_wp2_with fail
  refine H.out _ _ ?_
  clear H K
  refine wp_world (fun W => Below w.heap.size w W ∧ Hb W w.heap.size false 0 0 ∧ Fr3 W w.heap.size) ⟨(Below.refl _ _).alloc (Nat.le_refl _) _, Hb.new, Fr3.new⟩ ?_
  rintro W ⟨B, hR, hF⟩
  obtain ⟨r0, r1, r2⟩ := id hR
  obtain ⟨z0, z1, z2⟩ := id hF
  have o3 : w.heap.size ≤ w.heap.size := Nat.le_refl _
  go_wp2
  all_goals simp [bodyPost, results, Try.results37, go_sem, *]
  all_goals repeat (first | with_reducible exact B | with_reducible refine Below.setCell ?_ o3 _)
set_option maxRecDepth 100000 in
set_option maxHeartbeats 8000000 in
theorem fh_short {a : Option Addr} {m c : Nat} {l : Bool} {s h e0 : Int} (hm : m ≤ 16777216) (w : World)
    (RH : Hid (∀ w1, Below w.heap.size w w1 → Calls Try.prog 32 #[.slice a m c] w1 fun e w' => e = .returned (.tuple #[.agg #[.bool l, .int .i64 s, .int .i64 h], .int .i64 e0]) ∧ Below w1.heap.size w1 w')) :
    Calls Try.prog 37 #[.slice a m c] w fun e w' => e = .returned (.tuple #[.agg #[.bool l, .int .i64 s, .int .i64 h], .int .i64 e0]) ∧ Below w.heap.size w w' := by
  have h1 : ¬ (16777216 : Int) < (m : Int) := by omega
  go_enter Try.func37, Try.ntmps37
  refine wp_seq_k fun K h => ?_
  have H : Hid _ := h
  clear h
  go_wp2_with fail
  refine H.out _ _ ?_
  clear H K
  refine wp_world (fun W => Below w.heap.size w W ∧ Hb W w.heap.size false 0 0 ∧ Fr3 W w.heap.size) ⟨(Below.refl _ _).alloc (Nat.le_refl _) _, Hb.new, Fr3.new⟩ ?_
  rintro W ⟨B, hR, hF⟩
  refine wp_seq_k fun K h => ?_
  have H : Hid _ := h
  clear h
  go_wp2_with fail
  refine H.out _ _ ?_
  clear H K
  go_wp2_with fail
  with_reducible refine (RH.out W B).mono ?_
  rintro e w1 ⟨rfl, hb⟩
  replace B := B.trans (hb.mono B.size)
  replace hF := hF.keep hR.lt hb
  replace hR := hR.keep hb
  clear hb RH
  obtain ⟨r0, r1, r2⟩ := id hR
  obtain ⟨z0, z1, z2⟩ := id hF
  have o3 : w.heap.size ≤ w.heap.size := Nat.le_refl _
  go_wp2
  all_goals simp [bodyPost, results, Try.results37, go_sem, *]
  all_goals repeat (first | with_reducible exact B | with_reducible refine Below.setCell ?_ o3 _)
end Go.Proofs.Ytahekhamhdfkdaa

/- Layer 7: bytes.Clone. -/
namespace Go.Proofs.Ytahekhamhdfkdaa
open Go.RowKit Go.Sort
theorem sl_none (w : World) (n c : Nat) : (binOp .eql 22 (.slice none n c) (.slice none 0 0)).run Try.prog w = .ok (.bool true) w := by kernel_rfl
set_option maxRecDepth 100000 in
theorem bclone_nil (n c : Nat) (w : World) : Calls Try.prog 33 #[.slice none n c] w fun e w' => e = .returned (.slice none 0 0) ∧ w' = w := by
  have h := sl_none
  go_enter Try.func33, Try.ntmps33
  go_wp2
  simp [bodyPost, results, Try.results33, go_sem]
set_option maxRecDepth 100000 in
set_option maxHeartbeats 4000000 in
theorem bclone_any {b o c : Nat} {X : List Int} (hl : X.length < 140737488355000) (w : World) (hz : Bz w b o X) :
    Calls Try.prog 33 #[.slice (some ⟨b, o, none⟩) X.length c] w fun e w' => ∃ v, e = .returned v ∧ OwnB w.heap.size w' v X ∧ v ≠ .slice none 0 0 ∧ Below w.heap.size w w' := by
  obtain ⟨i0, hi, hz0, hz1, hz2⟩ := info_parts info_byte
  have sl := sl_some
  have HA : Hid (X.length < 140737488355000 ∧ Bz w b o X) := ⟨hl, hz⟩
  obtain ⟨n, en⟩ : ∃ n, n = X.length := ⟨_, rfl⟩
  rw [← en]
  have EN : Hid (X.length = n) := en.symm
  clear en hl hz
  go_enter Try.func33, Try.ntmps33
  go_wp2_with (at_builtin; go_loud (refine wpList_append_own_at _ rfl _ _ 22 rfl w.heap.size 5 i0 (.int .u8 0) 1 1 Try.underlying22 hi hz0 hz1 hz2 rfl (by decide) _ 0 [] rfl (own_mt _ _ (Nat.le_refl _)).row ⟨b, o, none⟩ n c (X.map (Value.int .u8)) rfl (by rw [List.length_map, EN.out, Nat.mul_one]) (fun j u hu => src_bz (HA.out.2.keep ((Below.refl _ _).alloc (Nat.le_refl _) _)) j u hu) (fun u hu => by obtain ⟨y, _, rfl⟩ := List.mem_map.1 hu; rfl) (by unfold maxLen; have := HA.out.1; have := EN.out; omega) (by have := HA.out.1; have := EN.out; omega) (by simp) ?_); intro v' w3 hown' hgrow3 hnil3 hblk)
  go_ret
  refine ⟨_, rfl, ?_, ?_, ((Below.refl _ _).alloc (Nat.le_refl _) _).grown hgrow3 (by simp) (fun k hk => by have e : w.heap.size = k := Option.some.inj hk; omega)⟩
  · rw [OwnB, EN.out]
    simpa using hown'
  · intro e
    have q : Value.slice (some ⟨w.heap.size, 0, none⟩) 0 0 = Value.slice none 0 0 := (hnil3.1 e).1
    cases q
end Go.Proofs.Ytahekhamhdfkdaa

/- Layer 7: Split. -/
namespace Go.Proofs.Ytahekhamhdfkdaa
open Go.RowKit Go.Sort
set_option maxRecDepth 100000 in
set_option maxHeartbeats 4000000 in
theorem split_err {a : Option Addr} {m c : Nat} {l : Bool} {s h e0 : Int} (he : e0 ≠ 0) (w : World)
    (FH : Hid (∀ w1, Below w.heap.size w w1 → Calls Try.prog 37 #[.slice a m c] w1 fun e w' => e = .returned (.tuple #[.agg #[.bool l, .int .i64 s, .int .i64 h], .int .i64 e0]) ∧ Below w1.heap.size w1 w')) :
    Calls Try.prog 20 #[.slice a m c] w fun e w' => e = .returned (.tuple #[.bool false, .slice none 0 0, .slice none 0 0, .int .i64 e0]) ∧ Below w.heap.size w w' := by
  have b6 : (e0 == 0) = false := beq_false_of_ne he
  have b7 : (e0 != 0) = true := bne_iff_ne.2 he
  go_enter Try.func20, Try.ntmps20
  go_wp2_with fail
  with_reducible refine (FH.out w (Below.refl _ _)).mono ?_
  rintro e w1 ⟨rfl, B⟩
  clear FH
  go_wp2
  simp [bodyPost, results, Try.results20, go_sem]
  exact B.alloc B.size _
/-- Where a slice of a slice begins: at the end of its room it stays where it was. -/
def atO (o c p : Nat) : Nat := if c = p then o else o + p
theorem cut_both {b o n c p q : Nat} (h : p ≤ q) (hc : q ≤ c) (w : World) : (Instr.sliceAt 22 (.slice (some ⟨b, o, none⟩) n c) (some (.int .i64 (p : Int))) (some (.int .i64 (q : Int))) none).run Try.prog w = .ok (.slice (some ⟨b, atO o c p, none⟩) (q - p) (c - p)) w := by
  have tu := Try.underlying22
  have tz := Try.sizeOf5
  have h2 : (q : Int) ≤ (c : Int) := by omega
  unfold atO
  by_cases k : c = p
  · have e : q = p := by omega
    subst e k
    simp [Instr.sliceAt, Instr.slice, Instr.sliceBounds, run_underlying tu, run_sliceBound, go_sem, tz, Addr.add]
  · simp [Instr.sliceAt, Instr.slice, Instr.sliceBounds, run_underlying tu, run_sliceBound, go_sem, tz, h, h2, k, Addr.add]
    try (intro k3; omega)
end Go.Proofs.Ytahekhamhdfkdaa
