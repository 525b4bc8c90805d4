import Derived.Test.YtagcbcmbojggkaaDoorFIvV
import Derived.Test.YtagcbcmbojggkaaDoorFCopy
/- FieldInverses: the whole. -/
namespace Go.Proofs.YtagcbcmbojggkaaDoor
open Go.RowKit Go.Sort

theorem getD_app4 {L M : List Int} {i : Nat} (h : i < L.length) : (L ++ M).getD i 0 = L.getD i 0 := by rw [List.getD, List.getD, List.getElem?_append_left h]
theorem list_cells {W : World} {a : Option Addr} {g o : Nat} {L : List Int} (ha : At4 a g o L) (h : Nms W g o L) : (a = some (a.getD ⟨0, 0, none⟩) ∨ (a = none ∧ numsV L = [])) ∧ ∀ j v, (numsV L)[j]? = some v → W.cell? ((a.getD ⟨0, 0, none⟩).add j) = some v := by
  refine ⟨?_, fun j v hj => ?_⟩
  · cases a with
    | none =>
      rcases ha with e | e
      · exact .inr ⟨rfl, by rw [e]; rfl⟩
      · cases e
    | some p => exact .inl rfl
  · have hl : j < L.length * 4 := by have := (List.getElem?_eq_some_iff.1 hj).1; rwa [numsV_len] at this
    rcases ha with e | e
    · rw [e] at hl; simp at hl
    · subst e
      have hq : j / 4 < L.length := by omega
      obtain ⟨c0, c1, c2, c3⟩ := h (j / 4) hq
      obtain ⟨a0, a1, a2, a3⟩ := numsV_at L (j / 4) hq
      show W.cell? ((⟨g, o, none⟩ : Addr).add j) = some v
      rw [Addr.add_lit, ← hj]
      have e : j % 4 = 0 ∨ j % 4 = 1 ∨ j % 4 = 2 ∨ j % 4 = 3 := by omega
      rcases e with e | e | e | e
      · rw [show j = j / 4 * 4 by omega, a0]; exact c0
      · rw [show j = j / 4 * 4 + 1 by omega, a1]; exact c1
      · rw [show j = j / 4 * 4 + 2 by omega, a2]; exact c2
      · rw [show j = j / 4 * 4 + 3 by omega, a3]; exact c3
set_option maxRecDepth 100000 in
set_option maxHeartbeats 16000000 in
theorem fivs_any {k : Int} {n g o cap : Nat} {a : Option Addr} {L : List Int} (hn : L.length = n) (hn4 : n ≤ 4398046511104) (hNL : ∀ i, i < L.length → Num (L.getD i 0)) (ha : At4 a g o L) (w : World) (hD : Mds w) (hL : Nms w g o L) :
    Calls Tryd.prog 3 #[.int .i64 k, .slice a n cap] w fun e w' => e = .returned (.bool true) ∧ Below w.heap.size w w' := by
  have HN : Hid (L.length = n ∧ n ≤ 4398046511104 ∧ (∀ i, i < L.length → Num (L.getD i 0)) ∧ At4 a g o L ∧ Mds w ∧ Nms w g o L) := ⟨hn, hn4, hNL, ha, hD, hL⟩
  have n4 : (n : Int) ≤ 4398046511104 := by omega
  obtain ⟨i0, hi, hz0, hz1, hz2⟩ := info_parts info_num
  have HZ : Hid (Tryd.prog.info? 25 = some i0 ∧ i0.zero = some (.agg #[.int .u64 0, .int .u64 0, .int .u64 0, .int .u64 0]) ∧ i0.size = 4 ∧ i0.bytes = 32) := ⟨hi, hz0, hz1, hz2⟩
  clear hn hn4 hNL ha hD hL hi hz0 hz1 hz2
  go_enter Tryd.func3, Tryd.ntmps3
  refine wp_seq_k fun K0 h0 => ?_
  have H0 : Hid _ := h0
  clear h0
  go_wp2
  refine H0.out _ _ ?_
  clear H0
  refine wp_seq_k fun K1 h1 => ?_
  have H1 : Hid _ := h1
  clear h1
  go_wp2_with (at_make; (refine wpList_make_wide _ rfl _ _ 22 rfl 25 i0 _ Tryd.underlying22 HZ.out.1 HZ.out.2.1 HZ.out.2.2.1 HZ.out.2.2.2 .i64 .i64 _ _ (n + 9) rfl rfl (by omega) (by omega) (by have := HN.out.2.1; omega) ?_); (refine wpList_world (fun W => W.heap[w.heap.size]? = some (.cells (madeCells #[Value.int .u64 0, .int .u64 0, .int .u64 0, .int .u64 0] ((n + 9) * 4)) 25 (0, 0)) ∧ Below w.heap.size w W) ⟨by show (w.heap.push _)[w.heap.size]? = _; simp [Value.cells], (Below.refl _ _).alloc (Nat.le_refl _) _⟩ ?_); intro w1 q1; have Q1 : Hid (w1.heap[w.heap.size]? = some (.cells (madeCells #[Value.int .u64 0, .int .u64 0, .int .u64 0, .int .u64 0] ((n + 9) * 4)) 25 (0, 0)) ∧ Below w.heap.size w w1) := q1; clear q1)
  refine H1.out _ _ ?_
  clear H1
  refine wp_seq_k fun K2 h2 => ?_
  have H2 : Hid _ := h2
  clear h2
  go_wp2_with (go_loud (refine wpList_copy_four rfl _ _ 22 22 rfl 25 4 Tryd.underlying22 (by rw [HZ.out.1]; exact congrArg some HZ.out.2.2.1) w.heap.size 0 (n + 9) (n + 9) (a.getD ⟨0, 0, none⟩) a n cap rfl rfl (madeCells #[Value.int .u64 0, .int .u64 0, .int .u64 0, .int .u64 0] ((n + 9) * 4)).toList 25 (by rw [Array.toArray_toList]; exact Q1.out.1) (numsV L) n (Nat.min_eq_left (by omega)).symm (by rw [numsV_len, HN.out.1]) (list_cells HN.out.2.2.2.1 (HN.out.2.2.2.2.2.keep Q1.out.2)).1 (list_cells HN.out.2.2.2.1 (HN.out.2.2.2.2.2.keep Q1.out.2)).2 (by rw [numsV_len, HN.out.1]; simp [madeCells]; omega) (numsV_one L) w.heap.size w1 ((Below.refl _ _).mono Q1.out.2.size) (Nat.le_refl _) ?_); intro w2 G2 b2; have S2 : Hid (Below w.heap.size w w2 ∧ Own4 w2 w.heap.size (L ++ List.replicate 9 0)) := ⟨Q1.out.2.trans b2, own4_of (by rw [← copied_nums L n HN.out.1]; exact G2.out)⟩; clear G2 b2)
  refine H2.out _ _ ?_
  clear H2 Q1
  refine wp_seq_k fun K3 h3 => ?_
  have H3 : Hid _ := h3
  clear h3
  go_wp2_with fail
  go_loopg [6] 9 (fun q iv wr => ∃ (i : Nat) (G : List Int), q = n + 9 - i ∧ n ≤ i ∧ i ≤ n + 9 ∧ iv = .int .i64 (i : Int) ∧ Below w.heap.size w wr ∧ Own4 wr w.heap.size G ∧ G.length = n + 9 ∧ G.take n = L ∧ (∀ j, n ≤ j → j < i → G.getD j 0 = sevN) ∧ ∀ j, j < G.length → Num (G.getD j 0))
  case atStart =>
    refine ⟨n, L ++ List.replicate 9 0, by omega, Nat.le_refl _, by omega, rfl, S2.out.1, S2.out.2, by rw [List.length_append, HN.out.1]; simp, by rw [← HN.out.1, List.take_left], fun j h1 h2 => by omega, fun j hj => ?_⟩
    by_cases e : j < L.length
    · rw [getD_app4 e]; exact HN.out.2.2.1 j e
    · rw [List.getD, List.getElem?_append_right (by omega), List.getElem?_replicate]
      split <;> exact (⟨by decide, by decide⟩ : Num 0)
  case round =>
    clear S2
    obtain ⟨i, G, hk, hi1, hi9, rfl, B, hA, hl, ht, hv, hN⟩ := hrel
    have HK : Hid (gk = n + 9 - i ∧ n ≤ i) := ⟨hk, hi1⟩
    have HT : Hid (Below w.heap.size w wr ∧ Own4 wr w.heap.size G ∧ G.length = n + 9 ∧ G.take n = L ∧ (∀ j, n ≤ j → j < i → G.getD j 0 = sevN) ∧ ∀ j, j < G.length → Num (G.getD j 0)) := ⟨B, hA, hl, ht, hv, hN⟩
    clear hk B ht hv hN
    by_cases h8 : i < n + 9
    · have hlt : (i : Int) < (n : Int) + 9 := by omega
      have gA := hA.1 i (by omega)
      have f0 : wr.frozen? ⟨w.heap.size, i * 4, none⟩ = false := hA.2.1 _ (by omega)
      have f1 : wr.frozen? ⟨w.heap.size, i * 4 + 1, none⟩ = false := hA.2.1 _ (by omega)
      have f2 : wr.frozen? ⟨w.heap.size, i * 4 + 2, none⟩ = false := hA.2.1 _ (by omega)
      have f3 : wr.frozen? ⟨w.heap.size, i * 4 + 3, none⟩ = false := hA.2.1 _ (by omega)
      simp only [Nat.zero_add] at gA
      have HS := hA.sets (i := i) (by omega) sevN
      obtain ⟨r0, r1, r2, r3⟩ := limbs_sev
      rw [r0, r1, r2, r3] at HS
      have HS' : Hid (Own4 ((((wr.setCell ⟨w.heap.size, i * 4, none⟩ (.int .u64 7)).setCell ⟨w.heap.size, i * 4 + 1, none⟩ (.int .u64 7)).setCell ⟨w.heap.size, i * 4 + 2, none⟩ (.int .u64 7)).setCell ⟨w.heap.size, i * 4 + 3, none⟩ (.int .u64 7)) w.heap.size (G.set i sevN)) := HS
      have HX : Hid (i < n + 9) := h8
      clear HS r0 r1 r2 r3 hl hA h8 hi9 hi1
      generalize G.getD i 0 = x at gA
      go_wp2
      go_roundg (n + 9 - (i + 1))
      case measure => have := HK.out; have := HX.out; omega
      case rel =>
        have g1 : w.heap.size ≤ w.heap.size := Nat.le_refl _
        refine ⟨i + 1, G.set i sevN, rfl, by have := HK.out; omega, HX.out, by go_num, (((HT.out.1.setCell g1 _).setCell g1 _).setCell g1 _).setCell g1 _, HS'.out, by rw [List.length_set]; exact HT.out.2.2.1, ?_, fun j h1 h2 => ?_, num_set HT.out.2.2.2.2.2 i ⟨by decide, by decide⟩⟩
        · rw [List.take_set, List.set_eq_of_length_le (by rw [List.length_take]; have := HK.out; omega)]
          exact HT.out.2.2.2.1
        · by_cases e : i = j
          · subst e
            simp [List.getD, show i < G.length by rw [HT.out.2.2.1]; exact HX.out]
          · rw [show (G.set i sevN).getD j 0 = G.getD j 0 by simp [List.getD, List.getElem?_set_ne e]]
            exact HT.out.2.2.2.2.1 j h1 (by omega)
    · obtain rfl : i = n + 9 := by omega
      clear hA hl h8 hi9 hi1 HK
      go_wp2
      refine H3.out _ _ ?_
      clear H3
      refine wp_seq_k fun K4 h4 => ?_
      have H4 : Hid _ := h4
      clear h4
      go_wp2
      refine H4.out _ _ ?_
      have hh := HN.out
      have ht := HT.out
      exact (fivs_v hh.1 hh.2.1 ht.2.2.1 ht.2.2.2.1 ht.2.2.2.2.1 ht.2.2.2.2.2 hh.2.2.1 hh.2.2.2.1 w wr hh.2.2.2.2.1 hh.2.2.2.2.2 (Nat.le_refl _) ht.1 ht.2.1 _ _ _ _ _ _ _ _ _ _ _ _ _ _ _ _ _ _ _ _ _ _ _ _ _ _ _ _ _ _ _ _ _ _ _ _ _ _ _ _ _ _ _ _ _ _ _ _ _ _ _ _ _ _ _ _ _ _ _ _ _ _ _ _ _ _ _ _ _ _ _ _ _ _ _ _ _ _ _ _ _ _ _ _ _ _ _ _ _ _ _ _ _ _ _ _ _ _ _ _ _ _ _ _ _ _ _ _ _ _ _ _ _ _ _ _ _ _ _ _ _ _ _ _ _ _ _ _ _ _ _ _ _ _ _ _ _ _ _ _ _ _ _ _ _ _ _ _ _ _ _ _ _ _ _ _ _ _ _ _ _ _ _ _ _ _ _ _ _ _ _ _ _ _ _ _ _).out rfl
end Go.Proofs.YtagcbcmbojggkaaDoor
