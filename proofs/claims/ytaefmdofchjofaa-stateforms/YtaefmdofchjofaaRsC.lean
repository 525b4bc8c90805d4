import Derived.Test.YtaefmdofchjofaaRsB
/- Layer 7: readHead of long heads. -/
namespace Go.Proofs.Ytaefmdofchjofaa
open Go.RowKit Go.Sort

theorem Hb.new {W : World} {t : TypeId} {l : Bool} {s h : Int} : Hb (W.alloc (.cells #[.bool l, .int .i64 s, .int .i64 h] t)) W.heap.size l s h := ⟨by simp [go_sem], by simp [go_sem], by simp [go_sem]⟩
theorem Fr3.new {W : World} {t : TypeId} {l : Bool} {s h : Int} : Fr3 (W.alloc (.cells #[.bool l, .int .i64 s, .int .i64 h] t)) W.heap.size := ⟨by simp [go_sem], by simp [go_sem], by simp [go_sem]⟩
theorem Hb.size {W : World} {b : Nat} {l : Bool} {s h : Int} (x : Hb W b l s h) (y : Int) : Hb (W.setCell ⟨b, 1, none⟩ (.int .i64 y)) b l y h := ⟨by simp [go_sem, x.1], by simp [go_sem, x.2.1], by simp [go_sem, x.2.2]⟩
theorem Hb.held {W : World} {b : Nat} {l : Bool} {s h : Int} (x : Hb W b l s h) (y : Int) : Hb (W.setCell ⟨b, 2, none⟩ (.int .i64 y)) b l s y := ⟨by simp [go_sem, x.1], by simp [go_sem, x.2.1], by simp [go_sem, x.2.2]⟩
theorem Hb.other {W : World} {b b' i : Nat} {l : Bool} {s h : Int} (x : Hb W b l s h) (ne : b' ≠ b) (v : Value) : Hb (W.setCell ⟨b', i, none⟩ v) b l s h := by
  have hg := heap_setCell_other W ⟨b', i, none⟩ b v (fun e => ne e.symm)
  refine ⟨?_, ?_, ?_⟩
  · rw [← x.1]; simp only [World.cell?, hg]
  · rw [← x.2.1]; simp only [World.cell?, hg]
  · rw [← x.2.2]; simp only [World.cell?, hg]
theorem Fr3.set {W : World} {b : Nat} (x : Fr3 W b) (p : Addr) (v : Value) : Fr3 (W.setCell p v) b := ⟨by rw [World.frozen?_setCell]; exact x.1, by rw [World.frozen?_setCell]; exact x.2.1, by rw [World.frozen?_setCell]; exact x.2.2⟩
theorem Hb.lt {W : World} {b : Nat} {l : Bool} {s h : Int} (x : Hb W b l s h) : b < W.heap.size := World.block_lt_of_cell? W _ x.1
set_option maxRecDepth 100000 in
set_option maxHeartbeats 8000000 in
theorem rhl_over {b o c m n Ln : Nat} {f : Int} {l : Bool} (f0 : 128 ≤ f) (f1 : f < 256) (hl : decide (192 ≤ f) = l) (t1 : f.tmod 64 = 55 + n) (n0 : 1 ≤ n) (n8 : n ≤ 8) (h0 : 1 + n ≤ m) (hm : m ≤ 16777216) (hcm : m ≤ c) (hL : 55 < Ln) (ho : m < 1 + n + Ln) (w : World) (h : w.cell? ⟨b, o, none⟩ = some (.int .u8 f))
    (RL : Hid (∀ w1, Below w.heap.size w w1 → Calls Try.prog 59 #[.slice (some ⟨b, o + 1, none⟩) (m - 1) (c - 1), .int .i64 n] w1 fun e w' => e = .returned (.tuple #[.int .u64 (Ln : Int), .int .i64 0]) ∧ Below w1.heap.size w1 w')) :
    Calls Try.prog 43 #[.slice (some ⟨b, o, none⟩) m c] w fun e w' => e = .returned (.tuple #[.agg #[.bool false, .int .i64 0, .int .i64 0], .int .i64 70]) ∧ Below w.heap.size w w' := by
  have hm' : (m : Int) ≤ 16777216 := by omega
  have HG : Hid (∀ W, Below w.heap.size w W → W.cell? ⟨b, o, none⟩ = some (.int .u8 f)) := fun W B => keepC B h
  have nc : c ≠ 1 := by omega
  have h1 : ¬ ((m : Int) = 0) := by omega
  have h2 : (0 : Int) < (m : Int) := by omega
  have b1 : ((m : Int) == 0) = false := by simpa using h1
  have b2 : decide (f < 128) = false := decide_eq_false (by omega)
  have b3 : decide (55 < (55 : Int) + n) = true := decide_eq_true (by omega)
  have v1 : IntKind.u64.wrap ((55 : Int) + n - 55) = n := by rw [IntKind.wrap_u64]; omega
  have v2 : wrap64 (n : Int) = n := by unfold wrap64; omega
  have v4 : IntKind.u64.wrap ((55 : Int) + n) = 55 + n := by rw [IntKind.wrap_u64]; omega
  have c1 : (1 : Int) ≤ (m : Int) := by omega
  have c2 : (1 : Int) ≤ (c : Int) := by omega
  have n8' : (n : Int) ≤ 8 := by omega
  have hs : (1 : Int) + (n : Int) ≤ (m : Int) := by omega
  have HN : Hid (1 + n ≤ m ∧ m ≤ c ∧ 55 < Ln ∧ n ≤ 8) := ⟨h0, hcm, hL, n8⟩
  clear h n0 n8 h0 hcm h1
  go_enter Try.func43, Try.ntmps43
  refine wp_seq_k fun K h => ?_
  have H : Hid _ := h
  clear h
  go_wp2_with fail
  refine H.out _ _ ?_
  clear H K
  refine wp_world (fun W => Below w.heap.size w W ∧ Hb W w.heap.size false 0 0 ∧ Fr3 W w.heap.size) ⟨(Below.refl _ _).alloc (Nat.le_refl _) _, Hb.new, Fr3.new⟩ ?_
  rintro W ⟨B, hR, hF⟩
  refine wp_seq_k fun K h => ?_
  have H : Hid _ := h
  clear h
  go_wp2_with fail
  refine H.out _ _ ?_
  clear H K
  refine wp_seq_k fun K h => ?_
  have H : Hid _ := h
  clear h
  have g := HG.out W B
  go_wp2_with fail
  refine H.out _ _ ?_
  clear H K
  clear g
  refine wp_seq_k fun K h => ?_
  have H : Hid _ := h
  clear h
  go_wp2_with fail
  refine H.out _ _ ?_
  clear H K
  refine wp_seq_k fun K h => ?_
  have H : Hid _ := h
  clear h
  go_wp2_with fail
  refine H.out _ _ ?_
  clear H K
  refine wp_world (fun V => Below w.heap.size w V ∧ Hb V w.heap.size false 0 0 ∧ Fr3 V w.heap.size ∧ Hb V W.heap.size l 1 0 ∧ Fr3 V W.heap.size) ⟨B.alloc B.size _, hR.keep ((Below.refl _ _).alloc (Nat.le_refl _) _), hF.keep hR.lt ((Below.refl _ _).alloc (Nat.le_refl _) _), by rw [← hl]; exact Hb.new, Fr3.new⟩ ?_
  have nb : w.heap.size < W.heap.size := hR.lt
  clear B hR hF
  rintro V ⟨B, hR, hF, hH, hG⟩
  generalize W.heap.size = bh at *
  clear W b2
  refine wp_seq_k fun K h => ?_
  have H : Hid _ := h
  clear h
  go_wp2_with fail
  refine H.out _ _ ?_
  clear H K
  refine wp_seq_k fun K h => ?_
  have H : Hid _ := h
  clear h
  go_wp2_with fail
  with_reducible refine (RL.out V B).mono ?_
  rintro e w1 ⟨rfl, hb⟩
  replace B := B.trans (hb.mono B.size)
  replace hF := hF.keep hR.lt hb
  replace hG := hG.keep hH.lt hb
  replace hH := hH.keep hb; replace hR := hR.keep hb
  clear hb RL
  obtain ⟨k0, k1, k2⟩ := id hH
  obtain ⟨y0, y1, y2⟩ := id hG
  go_wp2_with fail
  refine H.out _ _ ?_
  clear H K
  refine wp_world (fun V => Below w.heap.size w V ∧ Hb V w.heap.size false 0 0 ∧ Fr3 V w.heap.size ∧ Hb V bh l (1 + n) 0 ∧ Fr3 V bh) ⟨B.setCell (p := ⟨bh, 1, none⟩) (by show w.heap.size ≤ bh; omega) _, hR.other (b' := bh) (by omega) _, hF.set _ _, hH.size _, hG.set _ _⟩ ?_
  clear B hR hF hH hG k0 k1 k2 y0 y1 y2 V
  rintro V ⟨B, hR, hF, hH, hG⟩
  clear w1 b1 b3 v1 v2 v4
  have o3 : w.heap.size ≤ w.heap.size := Nat.le_refl _
  have b4 : decide ((m : Int) - (1 + n) < (Ln : Int)) = true := decide_eq_true (by omega)
  have w1 : wrap64 ((m : Int) - (1 + n)) = (m : Int) - (1 + n) := by unfold wrap64; omega
  have w2 : IntKind.u64.wrap ((m : Int) - (1 + n)) = (m : Int) - (1 + n) := by rw [IntKind.wrap_u64]; omega
  obtain ⟨k0, k1, k2⟩ := id hH
  obtain ⟨r0, r1, r2⟩ := id hR
  obtain ⟨z0, z1, z2⟩ := id hF
  go_wp2
  all_goals simp [bodyPost, results, Try.results43, go_sem, *]
  all_goals repeat (first | with_reducible exact B | with_reducible refine Below.setCell ?_ o3 _)
end Go.Proofs.Ytaefmdofchjofaa

/- Layer 7: readHead of long heads that it takes. -/
namespace Go.Proofs.Ytaefmdofchjofaa
open Go.RowKit Go.Sort

def LimI (x : Int) : Prop := x ≤ 16777216
set_option maxRecDepth 100000 in
set_option maxHeartbeats 8000000 in
theorem rhl_ok {b o c m n Ln : Nat} {f : Int} {l : Bool} (f0 : 128 ≤ f) (f1 : f < 256) (hl : decide (192 ≤ f) = l) (t1 : f.tmod 64 = 55 + n) (n0 : 1 ≤ n) (n8 : n ≤ 8) (h0 : 1 + n ≤ m) (hm : m ≤ 16777216) (hcm : m ≤ c) (hL : 55 < Ln) (ho : 1 + n + Ln ≤ m) (w : World) (h : w.cell? ⟨b, o, none⟩ = some (.int .u8 f))
    (RL : Hid (∀ w1, Below w.heap.size w w1 → Calls Try.prog 59 #[.slice (some ⟨b, o + 1, none⟩) (m - 1) (c - 1), .int .i64 n] w1 fun e w' => e = .returned (.tuple #[.int .u64 (Ln : Int), .int .i64 0]) ∧ Below w1.heap.size w1 w')) :
    Calls Try.prog 43 #[.slice (some ⟨b, o, none⟩) m c] w fun e w' => e = .returned (.tuple #[.agg #[.bool l, .int .i64 (1 + n), .int .i64 Ln], .int .i64 0]) ∧ Below w.heap.size w w' := by
  have hm' : (m : Int) ≤ 16777216 := by omega
  have HG : Hid (∀ W, Below w.heap.size w W → W.cell? ⟨b, o, none⟩ = some (.int .u8 f)) := fun W B => keepC B h
  have nc : c ≠ 1 := by omega
  have h1 : ¬ ((m : Int) = 0) := by omega
  have h2 : (0 : Int) < (m : Int) := by omega
  have b1 : ((m : Int) == 0) = false := by simpa using h1
  have b2 : decide (f < 128) = false := decide_eq_false (by omega)
  have b3 : decide (55 < (55 : Int) + n) = true := decide_eq_true (by omega)
  have v1 : IntKind.u64.wrap ((55 : Int) + n - 55) = n := by rw [IntKind.wrap_u64]; omega
  have v2 : wrap64 (n : Int) = n := by unfold wrap64; omega
  have v4 : IntKind.u64.wrap ((55 : Int) + n) = 55 + n := by rw [IntKind.wrap_u64]; omega
  have c1 : (1 : Int) ≤ (m : Int) := by omega
  have c2 : (1 : Int) ≤ (c : Int) := by omega
  have n8' : (n : Int) ≤ 8 := by omega
  have hs : (1 : Int) + (n : Int) ≤ (m : Int) := by omega
  have HN : Hid (1 + n ≤ m ∧ m ≤ c ∧ 55 < Ln ∧ n ≤ 8) := ⟨h0, hcm, hL, n8⟩
  clear h n0 n8 h0 hcm h1
  go_enter Try.func43, Try.ntmps43
  refine wp_seq_k fun K h => ?_
  have H : Hid _ := h
  clear h
  go_wp2_with fail
  refine H.out _ _ ?_
  clear H K
  refine wp_world (fun W => Below w.heap.size w W ∧ Hb W w.heap.size false 0 0 ∧ Fr3 W w.heap.size) ⟨(Below.refl _ _).alloc (Nat.le_refl _) _, Hb.new, Fr3.new⟩ ?_
  rintro W ⟨B, hR, hF⟩
  refine wp_seq_k fun K h => ?_
  have H : Hid _ := h
  clear h
  go_wp2_with fail
  refine H.out _ _ ?_
  clear H K
  refine wp_seq_k fun K h => ?_
  have H : Hid _ := h
  clear h
  have g := HG.out W B
  go_wp2_with fail
  refine H.out _ _ ?_
  clear H K
  clear g
  refine wp_seq_k fun K h => ?_
  have H : Hid _ := h
  clear h
  go_wp2_with fail
  refine H.out _ _ ?_
  clear H K
  refine wp_seq_k fun K h => ?_
  have H : Hid _ := h
  clear h
  go_wp2_with fail
  refine H.out _ _ ?_
  clear H K
  refine wp_world (fun V => Below w.heap.size w V ∧ Hb V w.heap.size false 0 0 ∧ Fr3 V w.heap.size ∧ Hb V W.heap.size l 1 0 ∧ Fr3 V W.heap.size) ⟨B.alloc B.size _, hR.keep ((Below.refl _ _).alloc (Nat.le_refl _) _), hF.keep hR.lt ((Below.refl _ _).alloc (Nat.le_refl _) _), by rw [← hl]; exact Hb.new, Fr3.new⟩ ?_
  have nb : w.heap.size < W.heap.size := hR.lt
  clear B hR hF
  rintro V ⟨B, hR, hF, hH, hG⟩
  generalize W.heap.size = bh at *
  clear W b2
  refine wp_seq_k fun K h => ?_
  have H : Hid _ := h
  clear h
  go_wp2_with fail
  refine H.out _ _ ?_
  clear H K
  refine wp_seq_k fun K h => ?_
  have H : Hid _ := h
  clear h
  go_wp2_with fail
  with_reducible refine (RL.out V B).mono ?_
  rintro e w1 ⟨rfl, hb⟩
  replace B := B.trans (hb.mono B.size)
  replace hF := hF.keep hR.lt hb
  replace hG := hG.keep hH.lt hb
  replace hH := hH.keep hb; replace hR := hR.keep hb
  clear hb RL
  obtain ⟨k0, k1, k2⟩ := id hH
  obtain ⟨y0, y1, y2⟩ := id hG
  go_wp2_with fail
  refine H.out _ _ ?_
  clear H K
  refine wp_world (fun V => Below w.heap.size w V ∧ Hb V w.heap.size false 0 0 ∧ Fr3 V w.heap.size ∧ Hb V bh l (1 + n) 0 ∧ Fr3 V bh) ⟨B.setCell (p := ⟨bh, 1, none⟩) (by show w.heap.size ≤ bh; omega) _, hR.other (b' := bh) (by omega) _, hF.set _ _, hH.size _, hG.set _ _⟩ ?_
  clear B hR hF hH hG k0 k1 k2 y0 y1 y2 V
  rintro V ⟨B, hR, hF, hH, hG⟩
  clear w1 b1 b3 v1 v2 v4
  have o3 : w.heap.size ≤ w.heap.size := Nat.le_refl _
  have b4 : decide ((m : Int) - (1 + n) < (Ln : Int)) = false := decide_eq_false (by omega)
  have w1 : wrap64 ((m : Int) - (1 + n)) = (m : Int) - (1 + n) := by unfold wrap64; omega
  have w2 : IntKind.u64.wrap ((m : Int) - (1 + n)) = (m : Int) - (1 + n) := by rw [IntKind.wrap_u64]; omega
  obtain ⟨k0, k1, k2⟩ := id hH
  refine wp_seq_k fun K h => ?_
  have H : Hid _ := h
  clear h
  go_wp2_with fail
  refine H.out _ _ ?_
  clear H K
  obtain ⟨y0, y1, y2⟩ := id hG
  have lL : (Ln : Int) ≤ 16777216 := by omega
  have HQ : Hid (1 + n + Ln ≤ c ∧ LimI (1 + n + Ln) ∧ 55 < Ln) := ⟨by have := HN.out; omega, by unfold LimI; omega, hL⟩
  clear b4 w1 w2 c1 c2 n8' hs f0 f1 t1 hL ho hm hm' h2
  refine wp_seq_k fun K h => ?_
  have H : Hid _ := h
  clear h
  go_wp2_with fail
  refine H.out _ _ ?_
  clear H K
  refine wp_world (fun V => Below w.heap.size w V ∧ Hb V w.heap.size false 0 0 ∧ Fr3 V w.heap.size ∧ Hb V bh l (1 + n) Ln) ⟨B.setCell (p := ⟨bh, 2, none⟩) (by show w.heap.size ≤ bh; omega) _, hR.other (b' := bh) (by omega) _, hF.set _ _, hH.held _⟩ ?_
  clear B hR hF hH hG k0 k1 k2 y0 y1 y2 V
  rintro V ⟨B, hR, hF, hH⟩
  have gH0 := fun d os => (hH.keep (below_regrown V d os)).1
  have gH1 := fun d os => (hH.keep (below_regrown V d os)).2.1
  have gH2 := fun d os => (hH.keep (below_regrown V d os)).2.2
  cases l with
  | true =>
    refine wp_seq_k fun K h => ?_
    have H : Hid _ := h
    clear h
    go_wp2_with fail
    refine wp_region_quiet_below (by kernel_rfl) (by kernel_rfl) ?_
    repeat
      first
        | go_big_quiet_skip
        | (go_big_quiet_want; go_big_quiet_op; go_big_quiet_on)
    refine wpQuiet_nil ?_
    rintro w9 ⟨p, rfl⟩
    have hb := below_regrown V p.d p.os
    generalize grow (redrawn V p.d) p.os = w9 at *
    replace B := B.trans (hb.mono B.size)
    replace hF := hF.keep hR.lt hb
    replace hH := hH.keep hb; replace hR := hR.keep hb
    clear hb gH0 gH1 gH2
    go_wp2_with fail
    refine H.out _ _ ?_
    clear H K
    obtain ⟨k0, k1, k2⟩ := hH
    obtain ⟨r0, r1, r2⟩ := hR
    obtain ⟨z0, z1, z2⟩ := hF
    go_wp2
    all_goals simp [bodyPost, results, Try.results43, go_sem, *]
    all_goals repeat (first | with_reducible exact B | with_reducible refine Below.setCell ?_ o3 _)
  | false =>
    have s1 : 1 + n + Ln ≤ c := HQ.out.1
    have s2 : (1 : Int) + (n : Int) + (Ln : Int) ≤ (c : Int) := by omega
    have s3 : (1 : Int) + n ≤ 1 + (n : Int) + (Ln : Int) := by omega
    have s4 : ((1 : Int) + (n : Int) + (Ln : Int)).toNat = 1 + n + Ln := by omega
    have s5 : ((1 : Int) + (n : Int)).toNat = 1 + n := by omega
    have s6 : 1 + n + Ln - (1 + n) = Ln := by omega
    have s7 : c ≠ 1 + n := by have := HQ.out.2.2; omega
    have s8 : ¬ (c = 1 + n) := s7
    have WH : Hid (∀ w, Calls Try.prog 61 #[.agg #[.bool false, .int .i64 (1 + n), .int .i64 Ln]] w fun e w' => e = .returned (.int .i64 (1 + n + Ln)) ∧ Below w.heap.size w w') := fun w => whole_any (by omega) (by have := HQ.out.2.1; unfold LimI at this; omega) w
    have BR : Hid (∀ ao c' w, Calls Try.prog 60 #[.slice ao Ln c'] w fun e w' => e = .returned (.bool false) ∧ Below w.heap.size w w') := fun ao c' w => bare_not (by have := HQ.out.2.2; omega) w
    refine wp_seq_k fun K h => ?_
    have H : Hid _ := h
    clear h
    go_wp2_with fail
    refine wp_region_quiet_below (by kernel_rfl) (by kernel_rfl) ?_
    repeat
      first
        | go_big_quiet_skip
        | (go_big_quiet_want; go_big_quiet_op; go_big_quiet_on)
        | (go_big_quiet_want
           go_big_quiet_op
           apply Exists.intro
           refine ⟨fun p => ?_, ?_⟩
           · (first | (go_at_call 61; with_reducible exact Calls.regrown_of (WH.out _)) | (go_at_call 60; exact Calls.regrown_of (BR.out _ _ _)))
           go_big_quiet_on)
    refine wpQuiet_nil ?_
    rintro w9 ⟨p, rfl⟩
    have hb := below_regrown V p.d p.os
    generalize grow (redrawn V p.d) p.os = w9 at *
    replace B := B.trans (hb.mono B.size)
    replace hF := hF.keep hR.lt hb
    replace hH := hH.keep hb; replace hR := hR.keep hb
    clear hb gH0 gH1 gH2
    go_wp2_with fail
    refine H.out _ _ ?_
    clear H K
    obtain ⟨k0, k1, k2⟩ := hH
    obtain ⟨r0, r1, r2⟩ := hR
    obtain ⟨z0, z1, z2⟩ := hF
    go_wp2
    all_goals simp [bodyPost, results, Try.results43, go_sem, *]
    all_goals repeat (first | with_reducible exact B | with_reducible refine Below.setCell ?_ o3 _)
end Go.Proofs.Ytaefmdofchjofaa
