import Derived.Test.YtgedkdkaddcmmaaDoorCSA
import Derived.Test.YtgedkdkaddcmmaaDoorCSumK
import Derived.Lib.LazyBuf
namespace Go.Proofs.YtgedkdkaddcmmaaDoor
open Go.RowKit Go.Sort

theorem lnumS_any (v : Int) (w : World) : Calls Tryd.prog 6 #[.int .i64 v] w fun e w' => e = .returned (.int .i64 v) ∧ Below w.heap.size w w' := by
  go_enter Tryd.func6, Tryd.ntmps6
  go_wp2
  simp [bodyPost, results, Tryd.results6, go_sem]
  exact Below.refl _ _
/-- Nine cells from one on. -/
def N9 (W : World) (b o : Nat) (q : PP) : Prop := W.cell? ⟨b, o, none⟩ = some (.int .u64 (l0 q.x)) ∧ W.cell? ⟨b, o + 1, none⟩ = some (.int .u64 (l1 q.x)) ∧ W.cell? ⟨b, o + 2, none⟩ = some (.int .u64 (l2 q.x)) ∧ W.cell? ⟨b, o + 3, none⟩ = some (.int .u64 (l3 q.x)) ∧ W.cell? ⟨b, o + 4, none⟩ = some (.int .u64 (l0 q.y)) ∧ W.cell? ⟨b, o + 5, none⟩ = some (.int .u64 (l1 q.y)) ∧ W.cell? ⟨b, o + 6, none⟩ = some (.int .u64 (l2 q.y)) ∧ W.cell? ⟨b, o + 7, none⟩ = some (.int .u64 (l3 q.y)) ∧ W.cell? ⟨b, o + 8, none⟩ = some (.bool q.i)
theorem n9_range {W : World} {b o : Nat} {q : PP} (h : W.rangeAt b o (ptC q)) : N9 W b o q := ⟨h 0 _ rfl, h 1 _ rfl, h 2 _ rfl, h 3 _ rfl, h 4 _ rfl, h 5 _ rfl, h 6 _ rfl, h 7 _ rfl, h 8 _ rfl⟩
theorem range_keep {W W' : World} {b o : Nat} {cs : List Value} (h : W.rangeAt b o cs) (hb : Below W.heap.size W W') : W'.rangeAt b o cs := fun j v hv => cell_keep hb (h j v hv)
theorem there_keep {W W' : World} {b o n : Nat} (h : W.there b o n) (hb : Below W.heap.size W W') (hl : b < W.heap.size) : W'.there b o n := fun j hj => by
  obtain ⟨h1, h2⟩ := h j hj
  refine ⟨?_, by rw [hb.frozen (p := ⟨b, o + j, none⟩) hl]; exact h2⟩
  obtain ⟨v, hv⟩ := Option.isSome_iff_exists.1 h1
  rw [cell_keep hb hv]; rfl
theorem there_in {W : World} {b o n o' n' : Nat} (h : W.there b o n) (h1 : o ≤ o') (h2 : o' + n' ≤ o + n) : W.there b o' n' := fun j hj => by
  have := h (o' - o + j) (by omega)
  rw [show o + (o' - o + j) = o' + j by omega] at this
  exact this
/-- The mark. -/
def mkP : PP := ⟨7, 0, true⟩
theorem mkP_c : ptC mkP = [Value.int .u64 7, .int .u64 0, .int .u64 0, .int .u64 0, .int .u64 0, .int .u64 0, .int .u64 0, .int .u64 0, .bool true] := by
  have h : l0 7 = 7 ∧ l1 7 = 0 ∧ l2 7 = 0 ∧ l3 7 = 0 := by decide
  obtain ⟨z0, z1, z2, z3⟩ := zero_limbs
  unfold ptC mkP
  simp only [h.1, h.2.1, h.2.2.1, h.2.2.2, z0, z1, z2, z3]
def M9 (W : World) (b o : Nat) : Prop := W.cell? ⟨b, o, none⟩ = some (.int .u64 7) ∧ W.cell? ⟨b, o + 1, none⟩ = some (.int .u64 0) ∧ W.cell? ⟨b, o + 2, none⟩ = some (.int .u64 0) ∧ W.cell? ⟨b, o + 3, none⟩ = some (.int .u64 0) ∧ W.cell? ⟨b, o + 4, none⟩ = some (.int .u64 0) ∧ W.cell? ⟨b, o + 5, none⟩ = some (.int .u64 0) ∧ W.cell? ⟨b, o + 6, none⟩ = some (.int .u64 0) ∧ W.cell? ⟨b, o + 7, none⟩ = some (.int .u64 0) ∧ W.cell? ⟨b, o + 8, none⟩ = some (.bool true)
theorem m9_range {W : World} {b o : Nat} (h : W.rangeAt b o [Value.int .u64 7, .int .u64 0, .int .u64 0, .int .u64 0, .int .u64 0, .int .u64 0, .int .u64 0, .int .u64 0, .bool true]) : M9 W b o := ⟨h 0 _ rfl, h 1 _ rfl, h 2 _ rfl, h 3 _ rfl, h 4 _ rfl, h 5 _ rfl, h 6 _ rfl, h 7 _ rfl, h 8 _ rfl⟩
theorem fl9 {W : World} {g j : Nat} {L : List PP} (h : W.rangeAt g 0 (flC L)) (hj : j < L.length) : N9 W g (j * 9) (L.getD j ⟨0, 0, true⟩) := n9_range fun k v hv => by
  have hk : k < 9 := (List.getElem?_eq_some_iff.1 hv).1
  have := h (j * 9 + k) v (by rw [flC_at L j k hj hk]; exact hv)
  rw [Nat.zero_add] at this; exact this
theorem src_pts {a : Option Addr} {bp op : Nat} {L : List PP} {W : World} (ha : L = [] ∨ a = some ⟨bp, op, none⟩) (hI : Pts W bp op L) : ∃ ad, (a = some ad ∨ (a = none ∧ flC L = [])) ∧ ∀ j v, (flC L)[j]? = some v → W.cell? (ad.add j) = some v := by
  rcases ha with h | h
  · subst h
    cases a with
    | none => exact ⟨⟨0, 0, none⟩, .inr ⟨rfl, rfl⟩, fun j v hv => by simp [flC] at hv⟩
    | some ad => exact ⟨ad, .inl rfl, fun j v hv => by simp [flC] at hv⟩
  · exact ⟨⟨bp, op, none⟩, .inl h, fun j v hv => by rw [Addr.add_mid]; exact range_pts hI j v hv⟩
set_option maxRecDepth 100000 in
set_option maxHeartbeats 32000000 in
theorem csums_walk {L : List PP} {a : Option Addr} {bp op c m : Nat} {x y e0 : Int} {i : Bool} (hm : L.length = m) (hl : m ≤ 1954687338326) (hnum : ∀ i, i < L.length → Num (L.getD i ⟨0, 0, true⟩).x ∧ Num (L.getD i ⟨0, 0, true⟩).y) (ha : L = [] ∨ a = some ⟨bp, op, none⟩) (hx : Num x) (hy : Num y) (w : World) (hI : Pts w bp op L)
    (CS : Hid (∀ W g cap, Below w.heap.size w W → Pts W g 0 L → g < W.heap.size → Calls Tryd.prog 4 #[.slice (some ⟨g, 0, none⟩) m cap] W fun e w' => e = .returned (.tuple #[.agg #[.int .u64 (l0 x), .int .u64 (l1 x), .int .u64 (l2 x), .int .u64 (l3 x), .int .u64 (l0 y), .int .u64 (l1 y), .int .u64 (l2 y), .int .u64 (l3 y), .bool i], .int .i64 e0]) ∧ Below W.heap.size W w'))
    (RS : Hid (∀ W, Below w.heap.size w W → Calls Tryd.prog 5 #[.slice a m c] W fun e w' => e = .returned (.tuple #[.agg #[.int .u64 (l0 x), .int .u64 (l1 x), .int .u64 (l2 x), .int .u64 (l3 x), .int .u64 (l0 y), .int .u64 (l1 y), .int .u64 (l2 y), .int .u64 (l3 y), .bool i], .int .i64 e0]) ∧ Below W.heap.size W w')) :
    Calls Tryd.prog 3 #[.slice a m c] w fun e w' => e = .returned (.bool true) ∧ Below w.heap.size w w' := by
  have E1 := fun w => eq_pt_yes (i := i) hx hy w
  have EM : ∀ w, (Op.equalIn 10000 27 (.agg #[Value.int .u64 7, .int .u64 0, .int .u64 0, .int .u64 0, .int .u64 0, .int .u64 0, .int .u64 0, .int .u64 0, .bool true]) (.agg #[Value.int .u64 7, .int .u64 0, .int .u64 0, .int .u64 0, .int .u64 0, .int .u64 0, .int .u64 0, .int .u64 0, .bool true])).run Tryd.prog w = .ok true w := fun w => by
    have h := eq_pt_yes (x := 7) (y := 0) (i := true) ⟨by decide, by decide⟩ ⟨by decide, by decide⟩ w
    have e := congrArg List.toArray mkP_c
    unfold ptC mkP at e
    simp only at e
    rw [e] at h
    exact h
  have EL : Hid (∀ k, k < m → ∀ w, (Op.equalIn 10000 27 (.agg #[.int .u64 (l0 (L.getD k ⟨0, 0, true⟩).x), .int .u64 (l1 (L.getD k ⟨0, 0, true⟩).x), .int .u64 (l2 (L.getD k ⟨0, 0, true⟩).x), .int .u64 (l3 (L.getD k ⟨0, 0, true⟩).x), .int .u64 (l0 (L.getD k ⟨0, 0, true⟩).y), .int .u64 (l1 (L.getD k ⟨0, 0, true⟩).y), .int .u64 (l2 (L.getD k ⟨0, 0, true⟩).y), .int .u64 (l3 (L.getD k ⟨0, 0, true⟩).y), .bool (L.getD k ⟨0, 0, true⟩).i]) (.agg #[.int .u64 (l0 (L.getD k ⟨0, 0, true⟩).x), .int .u64 (l1 (L.getD k ⟨0, 0, true⟩).x), .int .u64 (l2 (L.getD k ⟨0, 0, true⟩).x), .int .u64 (l3 (L.getD k ⟨0, 0, true⟩).x), .int .u64 (l0 (L.getD k ⟨0, 0, true⟩).y), .int .u64 (l1 (L.getD k ⟨0, 0, true⟩).y), .int .u64 (l2 (L.getD k ⟨0, 0, true⟩).y), .int .u64 (l3 (L.getD k ⟨0, 0, true⟩).y), .bool (L.getD k ⟨0, 0, true⟩).i])).run Tryd.prog w = .ok true w) := fun k hk w => eq_pt_yes (hnum k (by omega)).1 (hnum k (by omega)).2 w
  have NU : Hid (∀ (v : Int) (w : World), Calls Tryd.prog 6 #[.int .i64 v] w fun e w' => e = .returned (.int .i64 v) ∧ Below w.heap.size w w') := fun v w => lnumS_any v w
  have HA : Hid (L = [] ∨ a = some ⟨bp, op, none⟩) := ha
  have HI : Hid (∀ W, Below w.heap.size w W → Pts W bp op L) := fun W B => hI.keep B
  have HM : Hid (L.length = m ∧ m ≤ 1954687338326) := ⟨hm, hl⟩
  have lm : (m : Int) ≤ 1954687338326 := by omega
  clear hm hl hnum ha hx hy hI
  go_enter Tryd.func3, Tryd.ntmps3
  refine wp_seq_k fun K h => ?_
  have H : Hid _ := h
  clear h
  go_wp2_with fail
  refine H.out _ _ ?_
  clear H K
  refine wp_seq_k fun K h => ?_
  have H : Hid _ := h
  clear h
  go_wp2_with (refine wpList_make_pts _ rfl _ _ rfl _ _ _ _ (m + 2) rfl rfl (by omega) (by omega) (by have := HM.out; omega) ?_)
  refine H.out _ _ ?_
  clear H K
  have hN : (w.alloc (.cells (flC (List.replicate (m + 2) zPP)).toArray 27)).heap[w.heap.size]? = some (.cells (flC (List.replicate (m + 2) zPP)).toArray 27 (0, 0)) := by
    show (w.heap.push _)[w.heap.size]? = _
    simp
  refine wp_world (fun W => Below w.heap.size w W ∧ Hid (W.heap[w.heap.size]? = some (.cells (flC (List.replicate (m + 2) zPP)).toArray 27 (0, 0)))) ⟨(Below.refl _ _).alloc (Nat.le_refl _) _, hN⟩ ?_
  clear hN
  rintro W1 ⟨BB, hG⟩
  obtain ⟨ad, hp, hs⟩ := src_pts HA.out (HI.out W1 BB)
  have HP : Hid ((a = some ad ∨ (a = none ∧ flC L = [])) ∧ ∀ j v, (flC L)[j]? = some v → W1.cell? (ad.add j) = some v) := ⟨hp, hs⟩
  clear hp hs
  refine wp_seq_k fun K h => ?_
  have H : Hid _ := h
  clear h
  go_wp2_with ((refine wpList_copyP rfl _ _ _ _ rfl 27 9 Tryd.underlying22 (by kernel_rfl) w.heap.size 0 (m + 2) (m + 2) ad a m c rfl rfl (flC (List.replicate (m + 2) zPP)) 27 hG.out (flC L) m (Nat.min_eq_left (by omega)).symm (by rw [flC_len, HM.out.1]) HP.out.1 HP.out.2 (by rw [flC_len, flC_len, List.length_replicate, HM.out.1]; omega) (flC_one L) w.heap.size w BB (Nat.le_refl _) ?_); intro W2 hG2 BB2)
  refine H.out _ _ ?_
  clear H K
  have hG3 := hG2.out
  rw [← HM.out.1, copied_pts] at hG3
  obtain ⟨r0, t0⟩ := range_block hG3
  rw [flC_len, List.length_append, List.length_replicate, HM.out.1] at t0
  have rL : W2.rangeAt w.heap.size 0 (flC L) := fun j v hv => r0 j v (by rw [flC_app, List.getElem?_append_left (List.getElem?_eq_some_iff.1 hv).1]; exact hv)
  have gl : w.heap.size < W2.heap.size := (Array.getElem?_eq_some_iff.1 hG3).1
  have S2 : Hid (W2.rangeAt w.heap.size 0 (flC L) ∧ W2.there w.heap.size 0 ((m + 2) * 9) ∧ w.heap.size < W2.heap.size) := ⟨rL, t0, gl⟩
  clear hG hG2 hG3 r0 t0 rL gl HP BB W1
  refine wp_seq_k fun K h => ?_
  have H : Hid _ := h
  clear h
  go_wp2_with fail
  refine H.out _ _ ?_
  clear H K
  have hN : (W2.alloc (.cells #[Value.int .u64 7, .int .u64 0, .int .u64 0, .int .u64 0, .int .u64 0, .int .u64 0, .int .u64 0, .int .u64 0, .bool true] 27)).heap[W2.heap.size]? = some (.cells ([Value.int .u64 7, .int .u64 0, .int .u64 0, .int .u64 0, .int .u64 0, .int .u64 0, .int .u64 0, .int .u64 0, .bool true] : List Value).toArray 27 (0, 0)) := by
    show (W2.heap.push _)[W2.heap.size]? = _
    simp
  have bk := (Below.refl W2.heap.size W2).alloc (Nat.le_refl _) (.cells #[Value.int .u64 7, .int .u64 0, .int .u64 0, .int .u64 0, .int .u64 0, .int .u64 0, .int .u64 0, .int .u64 0, .bool true] 27)
  refine wp_world (fun W => Below w.heap.size w W ∧ Hid (W.rangeAt w.heap.size 0 (flC L) ∧ W.there w.heap.size 0 ((m + 2) * 9) ∧ W.rangeAt W2.heap.size 0 [Value.int .u64 7, .int .u64 0, .int .u64 0, .int .u64 0, .int .u64 0, .int .u64 0, .int .u64 0, .int .u64 0, .bool true] ∧ W2.heap.size < W.heap.size)) ⟨BB2.trans (bk.mono BB2.size), range_keep S2.out.1 bk, there_keep S2.out.2.1 bk S2.out.2.2, (range_block hN).1, (Array.getElem?_eq_some_iff.1 hN).1⟩ ?_
  have nb : Hid (w.heap.size < W2.heap.size) := S2.out.2.2
  clear hN bk BB2 S2
  rintro W3 ⟨BB, S3⟩
  generalize W2.heap.size = bm at *
  clear W2
  refine wp_seq_k fun K h => ?_
  have H : Hid _ := h
  clear h
  go_wp2_with (first
    | (refine wpList_load_mid rfl _ _ rfl bm 0 rfl [Value.int .u64 7, .int .u64 0, .int .u64 0, .int .u64 0, .int .u64 0, .int .u64 0, .int .u64 0, .int .u64 0, .bool true] _ S3.out.2.2.1 Tryd.underlying27 rfl (by kernel_rfl) ?_)
    | (refine wpList_store_mid rfl _ _ _ rfl w.heap.size (m * 9) #[Value.int .u64 7, .int .u64 0, .int .u64 0, .int .u64 0, .int .u64 0, .int .u64 0, .int .u64 0, .int .u64 0, .bool true] rfl rfl (there_in (n' := 9) S3.out.2.1 (Nat.zero_le _) (by omega)) (by kernel_rfl) (by kernel_rfl) ?_))
  refine H.out _ _ ?_
  clear H K
  have f9 : (flC L).length = m * 9 := by rw [flC_len, HM.out.1]
  have nm : bm ≠ w.heap.size := by have := nb.out; omega
  refine wp_world (fun W => Below w.heap.size w W ∧ Hid (W.rangeAt w.heap.size 0 (flC L) ∧ W.there w.heap.size 0 ((m + 2) * 9) ∧ W.rangeAt bm 0 [Value.int .u64 7, .int .u64 0, .int .u64 0, .int .u64 0, .int .u64 0, .int .u64 0, .int .u64 0, .int .u64 0, .bool true] ∧ W.rangeAt w.heap.size (m * 9) [Value.int .u64 7, .int .u64 0, .int .u64 0, .int .u64 0, .int .u64 0, .int .u64 0, .int .u64 0, .int .u64 0, .bool true])) ⟨below_setCells (Nat.le_refl _) _ _ _ BB, World.rangeAt_setCells_apart S3.out.1 _ _ _ (.inr (.inl (by omega))), World.there_setCells S3.out.2.1 _ _ _, World.rangeAt_setCells_apart S3.out.2.2.1 _ _ _ (.inl nm), World.rangeAt_setCells_same _ _ _ _ (there_in (n' := 9) S3.out.2.1 (Nat.zero_le _) (by omega))⟩ ?_
  clear BB S3
  rintro W4 ⟨BB, S4⟩
  clear W3
  refine wp_seq_k fun K h => ?_
  have H : Hid _ := h
  clear h
  go_wp2_with (first
    | (refine wpList_load_mid rfl _ _ rfl bm 0 rfl [Value.int .u64 7, .int .u64 0, .int .u64 0, .int .u64 0, .int .u64 0, .int .u64 0, .int .u64 0, .int .u64 0, .bool true] _ S4.out.2.2.1 Tryd.underlying27 rfl (by kernel_rfl) ?_)
    | (refine wpList_store_mid rfl _ _ _ rfl w.heap.size ((m + 1) * 9) #[Value.int .u64 7, .int .u64 0, .int .u64 0, .int .u64 0, .int .u64 0, .int .u64 0, .int .u64 0, .int .u64 0, .bool true] rfl rfl (there_in (n' := 9) S4.out.2.1 (Nat.zero_le _) (by omega)) (by kernel_rfl) (by kernel_rfl) ?_))
  refine H.out _ _ ?_
  clear H K
  refine wp_world (fun W => Below w.heap.size w W ∧ Hid (W.rangeAt w.heap.size 0 (flC L) ∧ W.rangeAt w.heap.size (m * 9) [Value.int .u64 7, .int .u64 0, .int .u64 0, .int .u64 0, .int .u64 0, .int .u64 0, .int .u64 0, .int .u64 0, .bool true] ∧ W.rangeAt w.heap.size ((m + 1) * 9) [Value.int .u64 7, .int .u64 0, .int .u64 0, .int .u64 0, .int .u64 0, .int .u64 0, .int .u64 0, .int .u64 0, .bool true] ∧ W.rangeAt bm 0 [Value.int .u64 7, .int .u64 0, .int .u64 0, .int .u64 0, .int .u64 0, .int .u64 0, .int .u64 0, .int .u64 0, .bool true])) ⟨below_setCells (Nat.le_refl _) _ _ _ BB, World.rangeAt_setCells_apart S4.out.1 _ _ _ (.inr (.inl (by omega))), World.rangeAt_setCells_apart S4.out.2.2.2 _ _ _ (.inr (.inl (by show m * 9 + 9 ≤ _; omega))), World.rangeAt_setCells_same _ _ _ _ (there_in (n' := 9) S4.out.2.1 (Nat.zero_le _) (by omega)), World.rangeAt_setCells_apart S4.out.2.2.1 _ _ _ (.inl nm)⟩ ?_
  clear BB S4 nm f9
  rintro W5 ⟨BB, S5⟩
  clear W4
  have KR : Hid (∀ W W' : World, (W.rangeAt w.heap.size 0 (flC L) ∧ W.rangeAt w.heap.size (m * 9) [Value.int .u64 7, .int .u64 0, .int .u64 0, .int .u64 0, .int .u64 0, .int .u64 0, .int .u64 0, .int .u64 0, .bool true] ∧ W.rangeAt w.heap.size ((m + 1) * 9) [Value.int .u64 7, .int .u64 0, .int .u64 0, .int .u64 0, .int .u64 0, .int .u64 0, .int .u64 0, .int .u64 0, .bool true] ∧ W.rangeAt bm 0 [Value.int .u64 7, .int .u64 0, .int .u64 0, .int .u64 0, .int .u64 0, .int .u64 0, .int .u64 0, .int .u64 0, .bool true]) → Below W.heap.size W W' → (W'.rangeAt w.heap.size 0 (flC L) ∧ W'.rangeAt w.heap.size (m * 9) [Value.int .u64 7, .int .u64 0, .int .u64 0, .int .u64 0, .int .u64 0, .int .u64 0, .int .u64 0, .int .u64 0, .bool true] ∧ W'.rangeAt w.heap.size ((m + 1) * 9) [Value.int .u64 7, .int .u64 0, .int .u64 0, .int .u64 0, .int .u64 0, .int .u64 0, .int .u64 0, .int .u64 0, .bool true] ∧ W'.rangeAt bm 0 [Value.int .u64 7, .int .u64 0, .int .u64 0, .int .u64 0, .int .u64 0, .int .u64 0, .int .u64 0, .int .u64 0, .bool true])) := fun W W' h b => ⟨range_keep h.1 b, range_keep h.2.1 b, range_keep h.2.2.1 b, range_keep h.2.2.2 b⟩
  refine wp_seq_k fun K h => ?_
  have H : Hid _ := h
  clear h
  go_wp2_with fail
  have g5 : w.heap.size < W5.heap.size := World.block_lt_of_cell? W5 _ (m9_range S5.out.2.1).1
  with_reducible refine (CS.out W5 w.heap.size (m + 2) BB (pts_range S5.out.1) g5).mono ?_
  clear g5
  rintro e w6 ⟨rfl, hb⟩
  replace BB := BB.trans (hb.mono BB.size)
  have S6 := KR.out _ _ S5.out hb
  clear hb S5 W5
  go_wp2_with fail
  refine H.out _ _ ?_
  clear H K
  have bk := fun ob => (Below.refl w6.heap.size w6).alloc (Nat.le_refl _) ob
  refine wp_world (fun W => Below w.heap.size w W ∧ Hid (W.rangeAt w.heap.size 0 (flC L) ∧ W.rangeAt w.heap.size (m * 9) [Value.int .u64 7, .int .u64 0, .int .u64 0, .int .u64 0, .int .u64 0, .int .u64 0, .int .u64 0, .int .u64 0, .bool true] ∧ W.rangeAt w.heap.size ((m + 1) * 9) [Value.int .u64 7, .int .u64 0, .int .u64 0, .int .u64 0, .int .u64 0, .int .u64 0, .int .u64 0, .int .u64 0, .bool true] ∧ W.rangeAt bm 0 [Value.int .u64 7, .int .u64 0, .int .u64 0, .int .u64 0, .int .u64 0, .int .u64 0, .int .u64 0, .int .u64 0, .bool true]) ∧ Pnt W w6.heap.size x y i) ⟨BB.alloc BB.size _, KR.out _ _ S6 (bk _), Pnt.new rfl⟩ ?_
  clear BB S6 bk
  rintro W7 ⟨BB, S7, hP⟩
  generalize w6.heap.size = ba at *
  clear w6
  refine wp_seq_k fun K h => ?_
  have H : Hid _ := h
  clear h
  go_wp2_with fail
  with_reducible refine (RS.out W7 BB).mono ?_
  rintro e w8 ⟨rfl, hb⟩
  replace BB := BB.trans (hb.mono BB.size)
  have S8 := KR.out _ _ S7.out hb
  replace hP := hP.keep hb
  clear hb S7 W7
  go_wp2_with fail
  refine H.out _ _ ?_
  clear H K
  have bk := fun ob => (Below.refl w8.heap.size w8).alloc (Nat.le_refl _) ob
  refine wp_world (fun W => Below w.heap.size w W ∧ Hid (W.rangeAt w.heap.size 0 (flC L) ∧ W.rangeAt w.heap.size (m * 9) [Value.int .u64 7, .int .u64 0, .int .u64 0, .int .u64 0, .int .u64 0, .int .u64 0, .int .u64 0, .int .u64 0, .bool true] ∧ W.rangeAt w.heap.size ((m + 1) * 9) [Value.int .u64 7, .int .u64 0, .int .u64 0, .int .u64 0, .int .u64 0, .int .u64 0, .int .u64 0, .int .u64 0, .bool true] ∧ W.rangeAt bm 0 [Value.int .u64 7, .int .u64 0, .int .u64 0, .int .u64 0, .int .u64 0, .int .u64 0, .int .u64 0, .int .u64 0, .bool true]) ∧ Pnt W ba x y i ∧ Pnt W w8.heap.size x y i) ⟨BB.alloc BB.size _, KR.out _ _ S8 (bk _), hP.alloc _, Pnt.new rfl⟩ ?_
  clear BB S8 bk hP
  rintro W9 ⟨BB, S9, hP, hQ⟩
  generalize w8.heap.size = bq at *
  clear w8
  have KF : Hid (∀ W, Below W9.heap.size W9 W → Below w.heap.size w W ∧ (W.rangeAt w.heap.size 0 (flC L) ∧ W.rangeAt w.heap.size (m * 9) [Value.int .u64 7, .int .u64 0, .int .u64 0, .int .u64 0, .int .u64 0, .int .u64 0, .int .u64 0, .int .u64 0, .bool true] ∧ W.rangeAt w.heap.size ((m + 1) * 9) [Value.int .u64 7, .int .u64 0, .int .u64 0, .int .u64 0, .int .u64 0, .int .u64 0, .int .u64 0, .int .u64 0, .bool true] ∧ W.rangeAt bm 0 [Value.int .u64 7, .int .u64 0, .int .u64 0, .int .u64 0, .int .u64 0, .int .u64 0, .int .u64 0, .int .u64 0, .bool true]) ∧ Pnt W ba x y i ∧ Pnt W bq x y i) := fun W b => ⟨BB.trans (b.mono BB.size), KR.out _ _ S9.out b, hP.keep b, hQ.keep b⟩
  clear BB S9 hP hQ KR CS RS
  go_wp2_with fail
  go_loopg [9] m (fun k iv wr => ∃ j : Nat, k = m - j ∧ j ≤ m ∧ iv = .int .i64 (j : Int) ∧ Below W9.heap.size W9 wr)
  case atStart => exact ⟨0, rfl, Nat.zero_le _, rfl, Below.refl _ _⟩
  case round =>
    obtain ⟨j, hk, hj, rfl, B⟩ := hrel
    have HK : Hid (gk = m - j ∧ j ≤ m) := ⟨hk, hj⟩
    clear hk
    by_cases h8 : j = m
    · subst h8
      clear HK EL
      have B9 : Hid (∀ d os, Below W9.heap.size W9 (grow (redrawn wr d) os)) := fun d os => B.trans ((below_regrown wr d os).mono B.size)
      have g1 := fun d os => (KF.out _ (B9.out d os)).2.2.1.cells
      have g2 := fun d os => (KF.out _ (B9.out d os)).2.2.2.cells
      have g3 := fun d os => m9_range (KF.out _ (B9.out d os)).2.1.2.1
      have g4 := fun d os => m9_range (KF.out _ (B9.out d os)).2.1.2.2.1
      have g5 := fun d os => m9_range (KF.out _ (B9.out d os)).2.1.2.2.2
      unfold M9 at g3 g4 g5
      go_wp2_with fail
      refine wp_region_quiet_below (by kernel_rfl) (by kernel_rfl) ?_
      repeat
        first
          | go_big_quiet_skip
          | (go_big_quiet_want; go_big_quiet_op; go_big_quiet_on)
          | (go_big_quiet_want
             go_big_quiet_op
             apply Exists.intro
             refine ⟨fun p => ?_, ?_⟩
             · (go_at_call 6; with_reducible exact Calls.regrown_of (NU.out _ _))
             go_big_quiet_on)
      refine wpQuiet_nil ?_
      rintro w10 ⟨p, rfl⟩
      have BF := (KF.out _ (B9.out p.d p.os)).1
      generalize grow (redrawn wr p.d) p.os = w10 at *
      clear g1 g2 g3 g4 g5 B9 KF B
      go_wp2
      simp [bodyPost, results, Tryd.results3, go_sem]
      exact BF
    · have hlt : j < m := by omega
      have hlt' : (j : Int) < (m : Int) := by omega
      have hlL : j < L.length := by rw [HM.out.1]; exact hlt
      obtain rfl : a = some ⟨bp, op, none⟩ := by
        rcases HA.out with h | h
        · rw [h] at hlL; simp at hlL
        · exact h
      have B9 : Hid (∀ d os, Below W9.heap.size W9 (grow (redrawn wr d) os)) := fun d os => B.trans ((below_regrown wr d os).mono B.size)
      have g1 := fun d os => fl9 (KF.out _ (B9.out d os)).2.1.1 hlL
      have g2 := fun d os => HI.out _ (KF.out _ (B9.out d os)).1 j hlL
      have eq := EL.out j hlt
      unfold N9 at g1
      clear EL h8 hj hlL
      generalize (L.getD j ⟨0, 0, true⟩) = pq at g1 g2 eq
      obtain ⟨qx, qy, qi⟩ := pq
      simp only at g1 g2 eq
      go_wp2_with fail
      refine wp_region_quiet_below (by kernel_rfl) (by kernel_rfl) ?_
      repeat
        first
          | go_big_quiet_skip
          | (go_big_quiet_want; go_big_quiet_op; go_big_quiet_on)
      refine wpQuiet_nil ?_
      rintro w10 ⟨p, rfl⟩
      have BF := B9.out p.d p.os
      generalize grow (redrawn wr p.d) p.os = w10 at *
      clear g1 g2 eq B9
      go_wp2
      go_roundg (m - (j + 1))
      case measure => have := HK.out.1; omega
      case rel => exact ⟨j + 1, rfl, hlt, by go_num, BF⟩
end Go.Proofs.YtgedkdkaddcmmaaDoor
