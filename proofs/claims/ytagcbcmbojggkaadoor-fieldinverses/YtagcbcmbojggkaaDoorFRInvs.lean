import Derived.Test.YtagcbcmbojggkaaDoorFRInv
import Derived.Test.YtagcbcmbojggkaaDoorFApp
import Derived.Maps.AppendAt
/- The document's Inverses. -/
namespace Go.Proofs.YtagcbcmbojggkaaDoor
open Go.RowKit Go.Sort

/-- A list under way. -/
structure Und (w W : World) (v : Value) (P : List Int) : Prop where
  B : Below w.heap.size w W
  p : OwnU w.heap.size W v P
theorem Und.push {w W w' : World} {v v' : Value} {P : List Int} {y : Int} (h : Und w W v P) (hown : w'.ownsRow w.heap.size 25 4 v' (P.length + 1) (numsV P ++ [.int .u64 (l0 y), .int .u64 (l1 y), .int .u64 (l2 y), .int .u64 (l3 y)])) (hg : W.grownBy w' v.ownBlock) : Und w w' v' (P ++ [y]) :=
  ⟨h.B.grown hg h.B.size (fun k hk => (h.p.row.lt k hk).1), by rw [OwnU, List.length_append, ← numsV_snoc]; exact hown⟩
theorem Und.alloc {w W : World} {v : Value} {P : List Int} (h : Und w W v P) (o : Obj) : Und w (W.alloc o) v P :=
  ⟨h.B.alloc h.B.size _, h.p.keep ((Below.refl _ _).alloc (Nat.le_refl _) _)⟩
set_option maxRecDepth 100000 in
set_option maxHeartbeats 8000000 in
theorem rinvs_walk {k : Int} {n g o cap : Nat} {a : Option Addr} {L : List Int} (hk : k = 0 ∨ k = 1) (hn : L.length = n) (h6 : n ≤ 65536) (hN : ∀ i, i < L.length → Num (L.getD i 0)) (ha : At4 a g o L) (w : World) (hI : Nms w g o L) :
    Calls Tryd.prog 5 #[.int .i64 k, .slice a n cap] w fun e w' => ((∃ v, e = .returned (.tuple #[v, .int .i64 0]) ∧ OwnU w.heap.size w' v (L.map (invN (rM k))) ∧ ∀ i, i < n → modN (rM k) (L.getD i 0) ≠ 0) ∨ (e = .returned (.tuple #[.slice none 0 0, .int .i64 40]) ∧ ∃ i, i < n ∧ modN (rM k) (L.getD i 0) = 0)) ∧ Below w.heap.size w w' := by
  have nl : decide ((n : Int) > 65536) = false := by simp; omega
  have n6 : (n : Int) ≤ 65536 := by omega
  have G : Hid (∀ w, Calls Tryd.prog 12 #[.int .i64 k] w fun e w' => e = .returned (.bool true) ∧ Below w.heap.size w w') := rgood_yes hk
  have HN : Hid (L.length = n ∧ n ≤ 65536 ∧ (k = 0 ∨ k = 1) ∧ At4 a g o L ∧ ∀ i, i < L.length → Num (L.getD i 0)) := ⟨hn, h6, hk, ha, hN⟩
  have KD : Hid (∀ W, Below w.heap.size w W → Nms W g o L) := fun W hb => hI.keep hb
  obtain ⟨i0, hi, hz0, hz1, hz2⟩ := info_parts info_num
  have HZ : Hid (Tryd.prog.info? 25 = some i0 ∧ i0.zero = some (.agg #[.int .u64 0, .int .u64 0, .int .u64 0, .int .u64 0]) ∧ i0.size = 4 ∧ i0.bytes = 32) := ⟨hi, hz0, hz1, hz2⟩
  clear hk hn hN ha hI h6 hi hz0 hz1 hz2
  go_enter Tryd.func5, Tryd.ntmps5
  go_wp2_with fail
  with_reducible refine (G.out _).mono ?_
  rintro e w1 ⟨rfl, hb⟩
  have B0 : Hid (Below w.heap.size w w1) := hb
  clear hb G
  go_wp2_with fail
  go_loopg [7, 8, 9, 10] n (fun q wv iv yv ev wr => ∃ i : Nat, q = n - i ∧ i ≤ n ∧ iv = .int .i64 (i : Int) ∧ Und w wr wv ((L.map (invN (rM k))).take i) ∧ ∀ j, j < i → modN (rM k) (L.getD j 0) ≠ 0)
  case atStart => exact ⟨0, rfl, Nat.zero_le _, rfl, ⟨B0.out, OwnU.none _ _⟩, fun j hj => absurd hj (Nat.not_lt_zero _)⟩
  case round =>
    clear B0
    obtain ⟨i, hk, hi9, rfl, h2, h0⟩ := hrel
    have HK : Hid (gk = n - i ∧ i ≤ n) := ⟨hk, hi9⟩
    have HT : Hid (Und w wr u7 ((L.map (invN (rM k))).take i) ∧ ∀ j, j < i → modN (rM k) (L.getD j 0) ≠ 0) := ⟨h2, h0⟩
    clear hk h2 h0
    by_cases h8 : i < n
    · have hlt : (i : Int) < (n : Int) := by omega
      obtain rfl := HN.out.2.2.2.1.get (i := i) (by rw [HN.out.1]; exact h8)
      have gA := (KD.out wr HT.out.1.B) i (by rw [HN.out.1]; exact h8)
      have Nx := HN.out.2.2.2.2 i (by rw [HN.out.1]; exact h8)
      obtain ⟨x, ex⟩ : ∃ x, x = L.getD i 0 := ⟨_, rfl⟩
      rw [← ex] at gA Nx
      have HX : Hid (x = L.getD i 0 ∧ i < n) := ⟨ex, h8⟩
      clear ex
      by_cases hz : modN (rM k) x = 0
      · have CI := rInverse_zero HN.out.2.2.1 Nx hz wr
        have HZ0 : Hid (modN (rM k) x = 0) := hz
        clear Nx hz h8
        go_wp2_with fail
        with_reducible refine CI.mono ?_
        rintro e w2 ⟨rfl, hb⟩
        have B2 : Hid (Below w.heap.size w w2) := HT.out.1.B.trans (hb.mono HT.out.1.B.size)
        clear hb CI gA
        go_wp2
        refine bodyPost_ret (v := .tuple #[.slice none 0 0, .int .i64 40]) ?_ rfl ⟨.inr ⟨rfl, i, HX.out.2, by rw [← HX.out.1]; exact HZ0.out⟩, B2.out.alloc B2.out.size _⟩
        simp [results, Tryd.results5, go_sem]
      · have CI := rInverse_good HN.out.2.2.1 Nx hz wr
        obtain ⟨y, ey⟩ : ∃ y, y = invN (rM k) x := ⟨_, rfl⟩
        rw [← ey] at CI
        have HY : Hid (y = invN (rM k) x ∧ modN (rM k) x ≠ 0) := ⟨ey, hz⟩
        clear Nx hz ey h8
        go_wp2_with fail
        with_reducible refine CI.mono ?_
        rintro e w2 ⟨rfl, hb⟩
        have T2 : Hid (Und w w2 u7 ((L.map (invN (rM k))).take i)) := ⟨HT.out.1.B.trans (hb.mono HT.out.1.B.size), HT.out.1.p.keep hb⟩
        have LP : Hid (((L.map (invN (rM k))).take i).length ≤ 65536) := by
          have := HN.out.1; have := HN.out.2.1
          show ((L.map (invN (rM k))).take i).length ≤ 65536
          simp; omega
        clear hb CI gA
        go_wp2_with (at_builtin; (refine wpList_append_own_at _ rfl _ _ 22 rfl w.heap.size 25 i0 (.agg #[.int .u64 0, .int .u64 0, .int .u64 0, .int .u64 0]) 4 32 Tryd.underlying22 HZ.out.1 HZ.out.2.1 HZ.out.2.2.1 HZ.out.2.2.2 rfl (by decide) u7 _ _ rfl ((T2.out.p.row.alloc _).alloc _) ⟨w2.heap.size + 1, 0, none⟩ 1 1 [.int .u64 (l0 y), .int .u64 (l1 y), .int .u64 (l2 y), .int .u64 (l3 y)] rfl rfl (cells_four _ _ _ _ _ _ (by simp)) (one_four y) (by unfold maxLen; have := LP.out; omega) (by have := LP.out; omega) (by have := T2.out.B.size; simp; omega) ?_); intro v3 w3 hown hgrow hnil hblk; have T3 : Hid (Und w w3 v3 ((L.map (invN (rM k))).take i ++ [y])) := ((T2.out.alloc _).alloc _).push hown hgrow; clear hown hgrow hnil hblk)
        go_roundg (n - (i + 1))
        case measure => have := HK.out; have := HX.out; omega
        case rel =>
          refine ⟨i + 1, rfl, HX.out.2, by go_num, ?_, fun j hj => ?_⟩
          · rw [List.take_add_one, List.getElem?_map, List.getElem?_eq_getElem (by rw [HN.out.1]; exact HX.out.2)]
            have h := T3.out
            rw [HY.out.1, HX.out.1, getD_in (by rw [HN.out.1]; exact HX.out.2)] at h
            exact h
          · by_cases e : j < i
            · exact HT.out.2 j e
            · obtain rfl : j = i := by omega
              rw [← HX.out.1]; exact HY.out.2
    · obtain rfl : n = i := by omega
      have ht := HT.out.1
      rw [List.take_of_length_le (by rw [List.length_map, HN.out.1]; exact Nat.le_refl _)] at ht
      have HT' : Hid (Und w wr u7 (L.map (invN (rM k)))) := ht
      clear ht
      go_wp2
      refine bodyPost_ret (v := .tuple #[u7, .int .i64 0]) ?_ rfl ⟨.inl ⟨_, rfl, HT'.out.p, HT.out.2⟩, HT'.out.B⟩
      simp [results, Tryd.results5, go_sem]
theorem rinvs_bad {k : Int} {n cap : Nat} {a : Option Addr} (h0 : k ≠ 0) (h1 : k ≠ 1) (w : World) :
    Calls Tryd.prog 5 #[.int .i64 k, .slice a n cap] w fun e w' => e = .returned (.tuple #[.slice none 0 0, .int .i64 1]) ∧ Below w.heap.size w w' := by
  have G : Hid (∀ w, Calls Tryd.prog 12 #[.int .i64 k] w fun e w' => e = .returned (.bool false) ∧ Below w.heap.size w w') := rgood_no h0 h1
  clear h0 h1
  go_enter Tryd.func5, Tryd.ntmps5
  go_wp2_with fail
  with_reducible refine (G.out _).mono ?_
  rintro e w1 ⟨rfl, hb⟩
  have B0 : Hid (Below w.heap.size w w1) := hb
  clear hb G
  go_wp2
  refine bodyPost_ret (v := .tuple #[.slice none 0 0, .int .i64 1]) ?_ rfl ⟨rfl, B0.out⟩
  simp [results, Tryd.results5, go_sem]
theorem rinvs_long {k : Int} {n cap : Nat} {a : Option Addr} (hk : k = 0 ∨ k = 1) (h6 : 65536 < n) (w : World) :
    Calls Tryd.prog 5 #[.int .i64 k, .slice a n cap] w fun e w' => e = .returned (.tuple #[.slice none 0 0, .int .i64 2]) ∧ Below w.heap.size w w' := by
  have nl : decide ((n : Int) > 65536) = true := by simp; omega
  have G : Hid (∀ w, Calls Tryd.prog 12 #[.int .i64 k] w fun e w' => e = .returned (.bool true) ∧ Below w.heap.size w w') := rgood_yes hk
  clear hk h6
  go_enter Tryd.func5, Tryd.ntmps5
  go_wp2_with fail
  with_reducible refine (G.out _).mono ?_
  rintro e w1 ⟨rfl, hb⟩
  have B0 : Hid (Below w.heap.size w w1) := hb
  clear hb G
  go_wp2
  refine bodyPost_ret (v := .tuple #[.slice none 0 0, .int .i64 2]) ?_ rfl ⟨rfl, B0.out⟩
  simp [results, Tryd.results5, go_sem]
end Go.Proofs.YtagcbcmbojggkaaDoor
