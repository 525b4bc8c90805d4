import Derived.Test.YtahekhamhdfkdaaRsC
/- Layer 7: readHead, whatever the bytes. -/
namespace Go.Proofs.Ytahekhamhdfkdaa
open Go.RowKit Go.Sort

set_option maxRecDepth 100000 in
set_option maxHeartbeats 8000000 in
theorem rhl_err {b o n m c : Nat} {f L e0 : Int} {l : Bool} (f0 : 128 ≤ f) (f1 : f < 256) (hl : decide (192 ≤ f) = l) (t1 : f.tmod 64 = 55 + n) (n0 : 1 ≤ n) (n8 : n ≤ 8) (h0 : 1 ≤ m) (hcm : 1 < c) (he : e0 ≠ 0) (w : World) (h : w.cell? ⟨b, o, none⟩ = some (.int .u8 f))
    (RL : Hid (∀ w1, Below w.heap.size w w1 → Calls Try.prog 48 #[.slice (some ⟨b, o + 1, none⟩) (m - 1) (c - 1), .int .i64 n] w1 fun e w' => e = .returned (.tuple #[.int .u64 L, .int .i64 e0]) ∧ Below w1.heap.size w1 w')) :
    Calls Try.prog 32 #[.slice (some ⟨b, o, none⟩) m c] w fun e w' => e = .returned (.tuple #[.agg #[.bool false, .int .i64 0, .int .i64 0], .int .i64 e0]) ∧ Below w.heap.size w w' := by
  have HG : Hid (∀ W, Below w.heap.size w W → W.cell? ⟨b, o, none⟩ = some (.int .u8 f)) := fun W B => keepC B h
  have nc : c ≠ 1 := by omega
  have h1 : ¬ ((m : Int) = 0) := by omega
  have h2 : (0 : Int) < (m : Int) := by omega
  have b1 : ((m : Int) == 0) = false := by simpa using h1
  have c1 : (1 : Int) ≤ (m : Int) := by omega
  have c2 : (1 : Int) ≤ (c : Int) := by omega
  have b2 : decide (f < 128) = false := decide_eq_false (by omega)
  have b3 : decide (55 < (55 : Int) + n) = true := decide_eq_true (by omega)
  have v1 : IntKind.u64.wrap ((55 : Int) + n - 55) = n := by rw [IntKind.wrap_u64]; omega
  have v2 : wrap64 (n : Int) = n := by unfold wrap64; omega
  have v4 : IntKind.u64.wrap ((55 : Int) + n) = 55 + n := by rw [IntKind.wrap_u64]; omega
  have b6 : (e0 == 0) = false := beq_false_of_ne he
  have b7 : (e0 != 0) = true := bne_iff_ne.2 he
  clear h n0 n8
  go_enter Try.func32, Try.ntmps32
  refine wp_seq_k fun K h => ?_
  have H : Hid _ := h
  clear h
  go_wp2_with fail
  refine H.out _ _ ?_
  clear H K
  refine wp_world (fun W => Below w.heap.size w W ∧ Hb W w.heap.size false 0 0 ∧ Fr3 W w.heap.size) ⟨(Below.refl _ _).alloc (Nat.le_refl _) _, Hb.new, Fr3.new⟩ ?_
  rintro W ⟨B, hR, hF⟩
  refine wp_seq_k fun K h => ?_
  have H : Hid _ := h
  clear h
  go_wp2_with fail
  refine H.out _ _ ?_
  clear H K
  refine wp_seq_k fun K h => ?_
  have H : Hid _ := h
  clear h
  have g := HG.out W B
  go_wp2_with fail
  refine H.out _ _ ?_
  clear H K
  clear g
  refine wp_seq_k fun K h => ?_
  have H : Hid _ := h
  clear h
  go_wp2_with fail
  refine H.out _ _ ?_
  clear H K
  refine wp_seq_k fun K h => ?_
  have H : Hid _ := h
  clear h
  go_wp2_with fail
  refine H.out _ _ ?_
  clear H K
  refine wp_world (fun V => Below w.heap.size w V ∧ Hb V w.heap.size false 0 0 ∧ Fr3 V w.heap.size) ⟨B.alloc B.size _, hR.keep ((Below.refl _ _).alloc (Nat.le_refl _) _), hF.keep hR.lt ((Below.refl _ _).alloc (Nat.le_refl _) _)⟩ ?_
  clear B hR hF
  rintro V ⟨B, hR, hF⟩
  generalize W.heap.size = bh at *
  clear W b2
  refine wp_seq_k fun K h => ?_
  have H : Hid _ := h
  clear h
  go_wp2_with fail
  refine H.out _ _ ?_
  clear H K
  refine wp_seq_k fun K h => ?_
  have H : Hid _ := h
  clear h
  go_wp2_with fail
  with_reducible refine (RL.out V B).mono ?_
  rintro e w1 ⟨rfl, hb⟩
  replace B := B.trans (hb.mono B.size)
  replace hF := hF.keep hR.lt hb
  replace hR := hR.keep hb
  clear hb RL
  obtain ⟨r0, r1, r2⟩ := id hR
  obtain ⟨z0, z1, z2⟩ := id hF
  have o3 : w.heap.size ≤ w.heap.size := Nat.le_refl _
  go_wp2
  all_goals simp [bodyPost, results, Try.results32, go_sem, *]
  all_goals repeat (first | with_reducible exact B | with_reducible refine Below.setCell ?_ o3 _)
set_option maxRecDepth 100000 in
set_option maxHeartbeats 8000000 in
theorem rhl_err1 {b o n : Nat} {f L e0 : Int} {l : Bool} (f0 : 128 ≤ f) (f1 : f < 256) (hl : decide (192 ≤ f) = l) (t1 : f.tmod 64 = 55 + n) (n0 : 1 ≤ n) (n8 : n ≤ 8)  (he : e0 ≠ 0) (w : World) (h : w.cell? ⟨b, o, none⟩ = some (.int .u8 f))
    (RL : Hid (∀ w1, Below w.heap.size w w1 → Calls Try.prog 48 #[.slice (some ⟨b, o, none⟩) 0 0, .int .i64 n] w1 fun e w' => e = .returned (.tuple #[.int .u64 L, .int .i64 e0]) ∧ Below w1.heap.size w1 w')) :
    Calls Try.prog 32 #[.slice (some ⟨b, o, none⟩) 1 1] w fun e w' => e = .returned (.tuple #[.agg #[.bool false, .int .i64 0, .int .i64 0], .int .i64 e0]) ∧ Below w.heap.size w w' := by
  have HG : Hid (∀ W, Below w.heap.size w W → W.cell? ⟨b, o, none⟩ = some (.int .u8 f)) := fun W B => keepC B h
  have b2 : decide (f < 128) = false := decide_eq_false (by omega)
  have b3 : decide (55 < (55 : Int) + n) = true := decide_eq_true (by omega)
  have v1 : IntKind.u64.wrap ((55 : Int) + n - 55) = n := by rw [IntKind.wrap_u64]; omega
  have v2 : wrap64 (n : Int) = n := by unfold wrap64; omega
  have v4 : IntKind.u64.wrap ((55 : Int) + n) = 55 + n := by rw [IntKind.wrap_u64]; omega
  have b6 : (e0 == 0) = false := beq_false_of_ne he
  have b7 : (e0 != 0) = true := bne_iff_ne.2 he
  clear h n0 n8
  go_enter Try.func32, Try.ntmps32
  refine wp_seq_k fun K h => ?_
  have H : Hid _ := h
  clear h
  go_wp2_with fail
  refine H.out _ _ ?_
  clear H K
  refine wp_world (fun W => Below w.heap.size w W ∧ Hb W w.heap.size false 0 0 ∧ Fr3 W w.heap.size) ⟨(Below.refl _ _).alloc (Nat.le_refl _) _, Hb.new, Fr3.new⟩ ?_
  rintro W ⟨B, hR, hF⟩
  refine wp_seq_k fun K h => ?_
  have H : Hid _ := h
  clear h
  go_wp2_with fail
  refine H.out _ _ ?_
  clear H K
  refine wp_seq_k fun K h => ?_
  have H : Hid _ := h
  clear h
  have g := HG.out W B
  go_wp2_with fail
  refine H.out _ _ ?_
  clear H K
  clear g
  refine wp_seq_k fun K h => ?_
  have H : Hid _ := h
  clear h
  go_wp2_with fail
  refine H.out _ _ ?_
  clear H K
  refine wp_seq_k fun K h => ?_
  have H : Hid _ := h
  clear h
  go_wp2_with fail
  refine H.out _ _ ?_
  clear H K
  refine wp_world (fun V => Below w.heap.size w V ∧ Hb V w.heap.size false 0 0 ∧ Fr3 V w.heap.size) ⟨B.alloc B.size _, hR.keep ((Below.refl _ _).alloc (Nat.le_refl _) _), hF.keep hR.lt ((Below.refl _ _).alloc (Nat.le_refl _) _)⟩ ?_
  clear B hR hF
  rintro V ⟨B, hR, hF⟩
  generalize W.heap.size = bh at *
  clear W b2
  refine wp_seq_k fun K h => ?_
  have H : Hid _ := h
  clear h
  go_wp2_with fail
  refine H.out _ _ ?_
  clear H K
  refine wp_seq_k fun K h => ?_
  have H : Hid _ := h
  clear h
  go_wp2_with fail
  with_reducible refine (RL.out V B).mono ?_
  rintro e w1 ⟨rfl, hb⟩
  replace B := B.trans (hb.mono B.size)
  replace hF := hF.keep hR.lt hb
  replace hR := hR.keep hb
  clear hb RL
  obtain ⟨r0, r1, r2⟩ := id hR
  obtain ⟨z0, z1, z2⟩ := id hF
  have o3 : w.heap.size ≤ w.heap.size := Nat.le_refl _
  go_wp2
  all_goals simp [bodyPost, results, Try.results32, go_sem, *]
  all_goals repeat (first | with_reducible exact B | with_reducible refine Below.setCell ?_ o3 _)
end Go.Proofs.Ytahekhamhdfkdaa
