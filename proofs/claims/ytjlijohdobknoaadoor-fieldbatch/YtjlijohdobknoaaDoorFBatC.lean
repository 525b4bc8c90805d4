import Derived.Test.YtjlijohdobknoaaDoorFBatB
import Derived.Maps.AppendAt
/- FieldBatch: the whole. -/
namespace Go.Proofs.YtjlijohdobknoaaDoor
open Go.RowKit Go.Sort

theorem cells_four (W : World) (a b c d : Value) (t : TypeId) {s : Nat} (e : s = W.heap.size) : ∀ j x, [a, b, c, d][j]? = some x → (W.alloc (.cells #[a, b, c, d] t)).cell? ((⟨s, 0, none⟩ : Addr).add j) = some x := fun j x h => by
  subst e
  rw [Addr.add_lit, Nat.zero_add, World.cell?_alloc_mark]
  simpa using h
theorem OwnU.keep {B : Nat} {W W' : World} {v : Value} {L : List Int} (h : OwnU B W v L) (hb : Below W.heap.size W W') : OwnU B W' v L :=
  World.ownsRow.kept h ⟨hb.os, hb.tape, hb.output, hb.size, fun k hk _ => hb.block k hk⟩ (row := Option.none) (by cases v.ownBlock <;> simp)
theorem OwnU.kept {B : Nat} {W W' : World} {v : Value} {L : List Int} {row : Option Nat} (h : OwnU B W v L) (hg : W.grownBy W' row) (hn : ∀ k, v.ownBlock = some k → row ≠ some k) : OwnU B W' v L :=
  World.ownsRow.kept h hg (by
    cases hd : v.ownBlock with
    | none => exact .inl rfl
    | some k => exact .inr fun e => hn k hd e.symm)
theorem fnum_eq (v : Int) (w : World) : Calls Tryd.prog 6 #[.int .i64 v] w fun e w' => e = .returned (.int .i64 v) ∧ w' = w := by
  go_enter Tryd.func6, Tryd.ntmps6
  go_wp2
  simp [bodyPost, results, Tryd.results6, go_sem]
/-- Two lists under way. -/
structure Two (w W : World) (wv tv : Value) (P Q : List Int) : Prop where
  B : Below w.heap.size w W
  p : OwnU w.heap.size W wv P
  q : OwnU w.heap.size W tv Q
  d : ∀ k, wv.ownBlock = some k → tv.ownBlock ≠ some k
theorem getD_in {L : List Int} {i : Nat} (h : i < L.length) : L.getD i 0 = L[i] := by
  rw [List.getD, List.getElem?_eq_getElem h]; rfl
theorem one_four (y : Int) : ∀ u ∈ [Value.int .u64 (l0 y), .int .u64 (l1 y), .int .u64 (l2 y), .int .u64 (l3 y)], u.oneCell' = true := fun u hu => by
  simp at hu
  rcases hu with rfl | rfl | rfl | rfl <;> rfl
theorem Two.alloc {w W : World} {wv tv : Value} {P Q : List Int} (h : Two w W wv tv P Q) (o : Obj) : Two w (W.alloc o) wv tv P Q :=
  ⟨h.B.alloc h.B.size _, h.p.keep ((Below.refl _ _).alloc (Nat.le_refl _) _), h.q.keep ((Below.refl _ _).alloc (Nat.le_refl _) _), h.d⟩
theorem Two.pushp {w W w' : World} {wv tv v' : Value} {P Q : List Int} {y : Int} {o : Obj} (h : Two w W wv tv P Q) (hown : w'.ownsRow w.heap.size 30 4 v' (P.length + 1) (numsV P ++ [.int .u64 (l0 y), .int .u64 (l1 y), .int .u64 (l2 y), .int .u64 (l3 y)])) (hg : (W.alloc o).grownBy w' wv.ownBlock) (hb : v'.ownBlock = wv.ownBlock ∨ v'.ownBlock = some (W.alloc o).heap.size) : Two w w' v' tv (P ++ [y]) Q := by
  have a := h.alloc o
  refine ⟨a.B.grown hg a.B.size (fun k hk => (a.p.row.lt k hk).1), ?_, a.q.kept hg (fun k hk e => h.d k e hk), fun k hk e => ?_⟩
  · rw [OwnU, List.length_append, ← numsV_snoc]; exact hown
  · rcases hb with q | q
    · exact h.d k (q ▸ hk) e
    · rw [q] at hk
      have := (a.q.row.lt k e).2
      have := Option.some.inj hk
      omega
theorem Two.swap {w W : World} {wv tv : Value} {P Q : List Int} (h : Two w W wv tv P Q) : Two w W tv wv Q P := ⟨h.B, h.q, h.p, fun k h1 h2 => h.d k h2 h1⟩
theorem Two.pushq {w W w' : World} {wv tv v' : Value} {P Q : List Int} {y : Int} {o : Obj} (h : Two w W wv tv P Q) (hown : w'.ownsRow w.heap.size 30 4 v' (Q.length + 1) (numsV Q ++ [.int .u64 (l0 y), .int .u64 (l1 y), .int .u64 (l2 y), .int .u64 (l3 y)])) (hg : (W.alloc o).grownBy w' tv.ownBlock) (hb : v'.ownBlock = tv.ownBlock ∨ v'.ownBlock = some (W.alloc o).heap.size) : Two w w' wv v' P (Q ++ [y]) :=
  (h.swap.pushp hown hg hb).swap
set_option maxRecDepth 100000 in
set_option maxHeartbeats 16000000 in
theorem fbat_any {v k m c : Int} {n g o cap : Nat} {a : Option Addr} {L : List Int} (hk : Kind k m c) (hp : Prm m) (K0 : Hid (∀ w, Calls Tryd.prog 4 #[.int .i64 v] w fun e w' => e = .returned (.int .i64 k) ∧ Below w.heap.size w w')) (hn : L.length = n) (hN : ∀ i, i < L.length → Num (L.getD i 0)) (ha : At4 a g o L) (w : World) (hm : Mds w) (hI : Nms w g o L) (hg : g < w.heap.size) (h6 : n ≤ 65536) :
    Calls Tryd.prog 3 #[.int .i64 v, .slice a n cap] w fun e w' => e = .returned (.bool true) ∧ Below w.heap.size w w' := by
  have nl : decide ((n : Int) > 65536) = false := by simp; omega
  have n6 : (n : Int) ≤ 65536 := by omega
  have HN : Hid (L.length = n ∧ n ≤ 65536 ∧ Kind k m c ∧ Prm m ∧ At4 a g o L ∧ ∀ i, i < L.length → Num (L.getD i 0)) := ⟨hn, h6, hk, hp, ha, hN⟩
  have KD : Hid (∀ W, Below w.heap.size w W → Mds W ∧ Nms W g o L) := fun W hb => ⟨hm.keep hb, hI.keep hb⟩
  have KG : Hid (g < w.heap.size) := hg
  obtain ⟨i0, hi, hz0, hz1, hz2⟩ := info_parts info_num
  have HZ : Hid (Tryd.prog.info? 30 = some i0 ∧ i0.zero = some (.agg #[.int .u64 0, .int .u64 0, .int .u64 0, .int .u64 0]) ∧ i0.size = 4 ∧ i0.bytes = 32) := ⟨hi, hz0, hz1, hz2⟩
  clear hk hp hn hN ha hm hI hg h6 hi hz0 hz1 hz2
  go_enter Tryd.func3, Tryd.ntmps3
  go_wp2_with fail
  with_reducible refine (K0.out _).mono ?_
  rintro e w1 ⟨rfl, hb⟩
  have B0 : Hid (Below w.heap.size w w1) := hb
  clear hb K0
  go_wp2_with fail
  rename_i K5 h5
  have H5 : Hid _ := h5
  clear h5
  go_loopg [8, 9, 10, 11, 12] n (fun k wv tv iv yv ev wr => ∃ i : Nat, k = n - i ∧ i ≤ n ∧ iv = .int .i64 (i : Int) ∧ Two w wr wv tv ((L.map (invN m)).take i) (L.reverse.take i) ∧ ∀ j, j < i → modN m (L.getD j 0) ≠ 0)
  case atStart => exact ⟨0, rfl, Nat.zero_le _, rfl, ⟨B0.out, OwnU.none _ _, OwnU.none _ _, fun k h => by cases h⟩, fun j hj => absurd hj (Nat.not_lt_zero _)⟩
  case round =>
    clear B0
    obtain ⟨i, hk, hi9, rfl, h2, h0⟩ := hrel
    have HK : Hid (gk = n - i ∧ i ≤ n) := ⟨hk, hi9⟩
    have HT : Hid (Two w wr u8 u9 ((L.map (invN m)).take i) (L.reverse.take i) ∧ ∀ j, j < i → modN m (L.getD j 0) ≠ 0) := ⟨h2, h0⟩
    clear hk h2 h0
    by_cases h8 : i < n
    · have hlt : (i : Int) < (n : Int) := by omega
      obtain rfl := HN.out.2.2.2.2.1.get (i := i) (by rw [HN.out.1]; exact h8)
      have gA := (KD.out wr HT.out.1.B).2 i (by rw [HN.out.1]; exact h8)
      have Nx := HN.out.2.2.2.2.2 i (by rw [HN.out.1]; exact h8)
      obtain ⟨x, ex⟩ : ∃ x, x = L.getD i 0 := ⟨_, rfl⟩
      rw [← ex] at gA Nx
      have HX : Hid (x = L.getD i 0 ∧ i < n) := ⟨ex, h8⟩
      clear ex
      by_cases hz : modN m x = 0
      · have CI := Inverse_zero HN.out.2.2.1 Nx hz wr (KD.out wr HT.out.1.B).1
        have CJ : Hid (∀ W, Below w.heap.size w W → Calls Tryd.prog 5 #[.int .i64 k, .slice (some ⟨g, o, none⟩) n cap] W fun e w' => e = .returned (.tuple #[.slice none 0 0, .int .i64 40]) ∧ Below W.heap.size W w') := fun W hb => by
          have C := Inverses_zero HN.out.2.2.1 (L := L) (cap := cap) (by rw [HN.out.1]; exact HN.out.2.1) HN.out.2.2.2.2.2 ((pre_zero HN.out.2.2.1.fit HN.out.2.2.2.1 L L.length (Nat.le_refl _)).2 ⟨i, by rw [HN.out.1]; exact h8, by rw [← HX.out.1]; exact hz⟩) (.inr rfl) W (KD.out W hb).1 (KD.out W hb).2 (Nat.lt_of_lt_of_le KG.out hb.size)
          rw [HN.out.1] at C
          exact C
        clear Nx hz h8
        go_wp2_with fail
        with_reducible refine CI.mono ?_
        rintro e w2 ⟨rfl, hb⟩
        have B2 : Hid (Below w.heap.size w w2) := HT.out.1.B.trans (hb.mono HT.out.1.B.size)
        clear hb CI gA
        go_wp2_with fail
        have B3 : Hid _ := CJ.out _ (B2.out.alloc B2.out.size (.cells #[.int .u64 (l0 0), .int .u64 (l1 0), .int .u64 (l2 0), .int .u64 (l3 0)] 30))
        with_reducible refine (CJ.out _ (B2.out.alloc B2.out.size _)).mono ?_
        rintro e w3 ⟨rfl, hb⟩
        have B4 : Hid (Below w.heap.size w w3) := (B2.out.alloc B2.out.size _).trans (hb.mono (B2.out.alloc B2.out.size _).size)
        clear hb B3 B2 CJ
        have hn0 := fnum_eq 40
        go_wp2_with ((with_reducible refine (hn0 _).mono ?_); rintro e9 w9 ⟨rfl, hw9⟩; (rw [hw9]); (clear hw9 w9))
        go_ret
        exact ⟨rfl, B4.out⟩
      · have CI := Inverse_good HN.out.2.2.1 Nx hz wr (KD.out wr HT.out.1.B).1
        obtain ⟨y, ey⟩ : ∃ y, y = invN m x := ⟨_, rfl⟩
        rw [← ey] at CI
        have HY : Hid (y = invN m x ∧ modN m x ≠ 0) := ⟨ey, hz⟩
        obtain ⟨q, eq⟩ : ∃ q, q + 1 + i = n := ⟨n - 1 - i, by omega⟩
        have e1 : (n : Int) - 1 - (i : Int) = (q : Int) := by omega
        have e2 : ((n : Int) - 1 - (i : Int)).toNat = q := by omega
        have q0 : (q : Int) < (n : Int) := by omega
        have HQ : Hid (q + 1 + i = n) := eq
        clear Nx hz ey eq h8
        go_wp2_with fail
        with_reducible refine CI.mono ?_
        rintro e w2 ⟨rfl, hb⟩
        have TB : Hid (Below wr.heap.size wr w2) := hb
        have T2 : Hid (Two w w2 u8 u9 ((L.map (invN m)).take i) (L.reverse.take i)) := ⟨HT.out.1.B.trans (hb.mono HT.out.1.B.size), HT.out.1.p.keep hb, HT.out.1.q.keep hb, HT.out.1.d⟩
        have LP : Hid (((L.map (invN m)).take i).length ≤ 65536 ∧ (L.reverse.take i).length ≤ 65536) := by
          have := HN.out.1; have := HN.out.2.1
          constructor <;> simp <;> omega
        obtain ⟨z, ez⟩ : ∃ z, z = L.getD q 0 := ⟨_, rfl⟩
        have Ez : Hid (z = L.getD q 0) := ez
        clear hb CI gA ez
        go_wp2_with (first
          | (at_builtin; (refine wpList_append_own_at _ rfl _ _ 22 rfl w.heap.size 30 i0 (.agg #[.int .u64 0, .int .u64 0, .int .u64 0, .int .u64 0]) 4 32 Tryd.underlying22 HZ.out.1 HZ.out.2.1 HZ.out.2.2.1 HZ.out.2.2.2 rfl (by decide) u8 _ _ rfl ((T2.out.p.row.alloc _).alloc _) ⟨w2.heap.size + 1, 0, none⟩ 1 1 [.int .u64 (l0 y), .int .u64 (l1 y), .int .u64 (l2 y), .int .u64 (l3 y)] rfl rfl (cells_four _ _ _ _ _ _ (by simp)) (one_four y) (by unfold maxLen; have := LP.out.1; omega) (by have := LP.out.1; omega) (by have := T2.out.B.size; simp; omega) ?_); intro v3 w3 hown hgrow hnil hblk; have T3 : Hid (Two w w3 v3 u9 ((L.map (invN m)).take i ++ [y]) (L.reverse.take i)) := (T2.out.alloc _).pushp hown hgrow hblk; clear hown hgrow hnil hblk; have gB := (KD.out w3 T3.out.B).2 q (by rw [HN.out.1]; have := HQ.out; omega); (rw [← Ez.out] at gB))
          | (at_builtin; (refine wpList_append_own_at _ rfl _ _ 22 rfl w.heap.size 30 i0 (.agg #[.int .u64 0, .int .u64 0, .int .u64 0, .int .u64 0]) 4 32 Tryd.underlying22 HZ.out.1 HZ.out.2.1 HZ.out.2.2.1 HZ.out.2.2.2 rfl (by decide) u9 _ _ rfl (T3.out.q.row.alloc _) ⟨w3.heap.size, 0, none⟩ 1 1 [.int .u64 (l0 z), .int .u64 (l1 z), .int .u64 (l2 z), .int .u64 (l3 z)] rfl rfl (cells_four _ _ _ _ _ _ rfl) (one_four z) (by unfold maxLen; have := LP.out.2; omega) (by have := LP.out.2; omega) (by have := T3.out.B.size; simp; omega) ?_); intro v4 w4 hown hgrow hnil hblk; have T4 : Hid (Two w w4 v3 v4 ((L.map (invN m)).take i ++ [y]) (L.reverse.take i ++ [z])) := T3.out.pushq hown hgrow hblk; clear hown hgrow hnil hblk gB))
        go_roundg (n - (i + 1))
        case measure => have := HK.out; have := HX.out; omega
        case rel =>
          refine ⟨i + 1, rfl, HX.out.2, by go_num, ?_, fun j hj => ?_⟩
          · rw [List.take_add_one, List.take_add_one, List.getElem?_map, List.getElem?_eq_getElem (by rw [HN.out.1]; exact HX.out.2), List.getElem?_reverse (by rw [HN.out.1]; exact HX.out.2), show L.length - 1 - i = q by have := HN.out.1; have := HQ.out; omega, List.getElem?_eq_getElem (by rw [HN.out.1]; have := HQ.out; omega)]
            have h := T4.out
            rw [HY.out.1, HX.out.1, Ez.out, getD_in (by rw [HN.out.1]; exact HX.out.2), getD_in (i := q) (by rw [HN.out.1]; have := HQ.out; omega)] at h
            exact h
          · by_cases e : j < i
            · exact HT.out.2 j e
            · obtain rfl : j = i := by omega
              rw [← HX.out.1]; exact HY.out.2
    · obtain rfl : n = i := by omega
      go_wp2
      refine H5.out _ _ ?_
      have ht := HT.out.1
      rw [List.take_of_length_le (by rw [List.length_map, HN.out.1]; exact Nat.le_refl _), List.take_of_length_le (by rw [List.length_reverse, HN.out.1]; exact Nat.le_refl _)] at ht
      obtain ⟨aw, gw, cw, ew, hw1, hw2, _⟩ := ht.p.lies
      obtain ⟨at_, gt, ct, et, ht1, ht2, _⟩ := ht.q.lies
      rw [List.length_map, HN.out.1] at ew
      rw [List.length_reverse, HN.out.1] at et
      subst ew et
      exact (fbat_mid HN.out.2.2.1 HN.out.2.2.2.1 HN.out.1 HN.out.2.1 HN.out.2.2.2.2.2 (fun j hj => HT.out.2 j (by rw [← HN.out.1]; exact hj)) HN.out.2.2.2.2.1 hw1 ht1 w wr ht.B (KD.out wr ht.B).1 (KD.out wr ht.B).2 hw2 ht2 _ _ _ _ _ _ _ _ _ _ _ _ _ _ _ _ _ _ _ _ _ _ _ _ _ _ _ _ _ _ _ _ _ _ _ _ _ _ _ _ _ _ _ _ _ _ _ _ _ _ _ _ _ _ _ _ _ _ _ _ _ _ _ _ _ _ _ _ _ _ _ _ _ _ _ _ _ _ _ _ _ _ _ _ _ _ _ _ _ _ _ _ _ _ _ _ _ _ _ _ _ _ _ _ _ _ _ _ _ _ _ _ _ _ _ _ _ _ _ _ _ _ _ _ _ _ _ _ _ _ _ _ _ _ _ _ _ _ _ _ _ _ _ _ _ _ _ _ _ _ _ _ _ _ _ _ _ _ _).out rfl
end Go.Proofs.YtjlijohdobknoaaDoor
