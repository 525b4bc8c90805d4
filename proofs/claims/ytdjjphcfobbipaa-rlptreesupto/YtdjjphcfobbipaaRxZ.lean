import Derived.Test.YtdjjphcfobbipaaRxY
import Derived.Test.YtdjjphcfobbipaaRsJ
/- Layer 7: RlpMakes. -/
namespace Go.Proofs.Ytdjjphcfobbipaa
open Go.RowKit Go.Sort
theorem sameT_two {W : World} {t : Tr} {d q d' q' : Value} {S S' : Nat → Prop} (hw : wtT t < 4194304) (h1 : Ot W t S d q) (h2 : Ot W t S' d' q') : Calls Try.prog 9 #[itV t d q, itV t d' q'] W fun e w' => e = .returned (.bool true) ∧ Below W.heap.size W w' := rSame_yes t hw W (Ot.it _ h1) (Ot.it _ h2)
theorem bz9T {W : World} {g : Nat} {X : List Int} (h : Bz W g 0 (X ++ List.replicate 9 165)) : g < W.heap.size := World.block_lt_of_cell? W _ (h 0 (by rw [List.length_append, List.length_replicate]; omega))
theorem wt_text (l : Bool) (X : List Int) : wtT (.mk l X []) = 1 + X.length := by rw [wtT, wtS]; omega
theorem wt_list (ts : List Tr) : wtT (.mk true [] ts) = 1 + wtS ts := by rw [wtT]; simp
theorem strip_put_len (n : Int) : (stripL (putL n)).length ≤ 32 := strip_len _ (by rw [putL_len]; exact Nat.le_refl _)
set_option maxRecDepth 100000 in
set_option maxHeartbeats 16000000 in
theorem makes_any {X : List Int} {a0 : Option Addr} {b0 o0 c0 : Nat} {n : Int} {ts : List Tr} {a2 : Option Addr} {b2 o2 c2 : Nat} (hX : X.length < 4194000) (ha : Az a0 b0 o0 X) (hnc : a0 = none → c0 = 0) (hn : Num n) (hw : wtS ts < 4194000) (hc : ts.length ≤ c2 ∧ (a2 = none → c2 = 0)) (hs : ts = [] ∨ a2 = some ⟨b2, o2, none⟩) (w : World) (hz : Bz w b0 o0 X) (hI : Its w b2 o2 ts) :
    Calls Try.prog 3 #[.slice a0 X.length c0, .agg #[.int .u64 (l0 n), .int .u64 (l1 n), .int .u64 (l2 n), .int .u64 (l3 n)], .slice a2 ts.length c2] w fun e w' => e = .returned (.bool true) ∧ Below w.heap.size w w' := by
  have hln := len_wt ts
  have hwd : Word (l1 n) := by obtain ⟨h1, h2⟩ := hn; unfold l1; exact ⟨by omega, by omega⟩
  have hps := strip_put_len n
  have hps1 := strip_put_len (l1 n)
  have BE : Hid (∀ W, Below w.heap.size w W → Calls Try.prog 6 #[.agg #[.bool true, .slice none 0 0, .slice a2 ts.length c2]] W fun e w' => ∃ y : Bool, e = .returned (.bool y) ∧ Below W.heap.size W w') := fun W B => rBeyond_any (t := .mk true [] ts) (by rw [wt_list]; omega) W ((hI.keep B).tree true hc hs)
  have RO : Hid (∀ W, Below w.heap.size w W → Calls Try.prog 7 #[.slice a0 X.length c0] W fun e w' => ∃ g, e = .returned (.slice (some ⟨g, 0, none⟩) X.length (X.length + 9)) ∧ W.heap.size ≤ g ∧ Bz w' g 0 (X ++ List.replicate 9 165) ∧ Below W.heap.size W w') := fun W B => by
    refine (roomy7_any (cb := c0) ha (by omega) W (hz.keep B)).mono ?_
    rintro e w' ⟨g, h1, h2, h3, h4⟩
    exact ⟨g, h1, h2, fun k hk => by rw [Nat.zero_add]; exact h3.1 k hk, h4⟩
  have CO : Hid (∀ W, Below w.heap.size w W → Calls Try.prog 8 #[.slice a2 ts.length c2] W fun e w' => ∃ v ps, e = .returned v ∧ Oe W.heap.size w' v ts ps ∧ Below W.heap.size W w') := fun W B => rCopy_any (.mk true [] ts) (by show wtS ts < _; omega) hs W (hI.keep B)
  have C1 : Hid (∀ W gr, Bz W gr 0 (X ++ List.replicate 9 165) → Calls Try.prog 10 #[.slice (some ⟨gr, 0, none⟩) X.length (X.length + 9)] W fun e w' => ∃ d q, e = .returned (.agg #[.bool false, d, q]) ∧ Ot w' (.mk false X []) (fun k => W.heap.size ≤ k) d q ∧ Below W.heap.size W w') := fun W gr h => text_any rfl (by omega) (.inr rfl) W h.front
  have C2 : Hid (∀ W, Below w.heap.size w W → Calls Try.prog 11 #[.slice a0 X.length c0] W fun e w' => ∃ d q, e = .returned (.agg #[.bool false, d, q]) ∧ Ot w' (.mk false X []) (fun k => W.heap.size ≤ k) d q ∧ Below W.heap.size W w') := fun W B => rText_any rfl (by omega) ha hnc W (hz.keep B)
  have C3 : Hid (∀ W : World, Calls Try.prog 12 #[.agg #[.int .u64 (l0 n), .int .u64 (l1 n), .int .u64 (l2 n), .int .u64 (l3 n)]] W fun e w' => ∃ d q, e = .returned (.agg #[.bool false, d, q]) ∧ Ot w' (.mk false (stripL (putL n)) []) (fun k => W.heap.size ≤ k) d q ∧ Below W.heap.size W w') := fun W => number_any hn W
  have C4 : Hid (∀ W : World, Calls Try.prog 13 #[.agg #[.int .u64 (l0 n), .int .u64 (l1 n), .int .u64 (l2 n), .int .u64 (l3 n)]] W fun e w' => ∃ d q, e = .returned (.agg #[.bool false, d, q]) ∧ Ot w' (.mk false (stripL (putL n)) []) (fun k => W.heap.size ≤ k) d q ∧ Below W.heap.size W w') := fun W => rNumber_any W
  have C5 : Hid (∀ W : World, Calls Try.prog 14 #[.int .u64 (l1 n)] W fun e w' => ∃ d q, e = .returned (.agg #[.bool false, d, q]) ∧ Ot w' (.mk false (stripL (putL (l1 n))) []) (fun k => W.heap.size ≤ k) d q ∧ Below W.heap.size W w') := fun W => small_any hwd W
  have C6 : Hid (∀ W : World, Calls Try.prog 15 #[.int .u64 (l1 n)] W fun e w' => ∃ d q, e = .returned (.agg #[.bool false, d, q]) ∧ Ot w' (.mk false (stripL (putL (l1 n))) []) (fun k => W.heap.size ≤ k) d q ∧ Below W.heap.size W w') := fun W => rSmall_any hwd W
  have C7 : Hid (∀ W g cc, Its W g 0 ts → Calls Try.prog 16 #[.slice (some ⟨g, 0, none⟩) ts.length cc] W fun e w' => ∃ d q, e = .returned (.agg #[.bool true, d, q]) ∧ Ot w' (.mk true [] ts) (fun k => W.heap.size ≤ k) d q ∧ Below W.heap.size W w') := fun W g cc h => list_any (by omega) (.inr rfl) W h
  have C8 : Hid (∀ W, Below w.heap.size w W → Calls Try.prog 17 #[.slice a2 ts.length c2] W fun e w' => ∃ d q, e = .returned (.agg #[.bool true, d, q]) ∧ Ot w' (.mk true [] ts) (fun k => W.heap.size ≤ k) d q ∧ Below W.heap.size W w') := fun W B => rList_any (by omega) hs W (hI.keep B)
  have S1 : Hid (∀ W d q d' q' B B', Ot W (.mk false X []) (fun k => B ≤ k) d q → Ot W (.mk false X []) (fun k => B' ≤ k) d' q' → Calls Try.prog 9 #[.agg #[.bool false, d, q], .agg #[.bool false, d', q']] W fun e w' => e = .returned (.bool true) ∧ Below W.heap.size W w') := fun W d q d' q' B B' h1 h2 => sameT_two (t := .mk false X []) (by rw [wt_text]; omega) h1 h2
  have S2 : Hid (∀ W d q d' q' B B', Ot W (.mk false (stripL (putL n)) []) (fun k => B ≤ k) d q → Ot W (.mk false (stripL (putL n)) []) (fun k => B' ≤ k) d' q' → Calls Try.prog 9 #[.agg #[.bool false, d, q], .agg #[.bool false, d', q']] W fun e w' => e = .returned (.bool true) ∧ Below W.heap.size W w') := fun W d q d' q' B B' h1 h2 => sameT_two (t := .mk false (stripL (putL n)) []) (by rw [wt_text]; omega) h1 h2
  have S3 : Hid (∀ W d q d' q' B B', Ot W (.mk false (stripL (putL (l1 n))) []) (fun k => B ≤ k) d q → Ot W (.mk false (stripL (putL (l1 n))) []) (fun k => B' ≤ k) d' q' → Calls Try.prog 9 #[.agg #[.bool false, d, q], .agg #[.bool false, d', q']] W fun e w' => e = .returned (.bool true) ∧ Below W.heap.size W w') := fun W d q d' q' B B' h1 h2 => sameT_two (t := .mk false (stripL (putL (l1 n))) []) (by rw [wt_text]; omega) h1 h2
  have S4 : Hid (∀ W d q d' q' B B', Ot W (.mk true [] ts) (fun k => B ≤ k) d q → Ot W (.mk true [] ts) (fun k => B' ≤ k) d' q' → Calls Try.prog 9 #[.agg #[.bool true, d, q], .agg #[.bool true, d', q']] W fun e w' => e = .returned (.bool true) ∧ Below W.heap.size W w') := fun W d q d' q' B B' h1 h2 => sameT_two (t := .mk true [] ts) (by rw [wt_list]; omega) h1 h2
  have SA : Hid (∀ W gr, Below w.heap.size w W → Bz W gr 0 (X ++ List.replicate 9 165) → Calls Try.prog 18 #[.slice (some ⟨gr, 0, none⟩) X.length (X.length + 9), .slice a0 X.length c0] W fun e w' => e = .returned (.bool true) ∧ Below W.heap.size W w') := fun W gr B h => by
    have k := same7_any (c := X.length + 9) (c' := c0) (by omega) (.inr rfl) ha W h.front (hz.keep B)
    rw [decide_eq_true rfl] at k
    exact k
  have SP : Hid (∀ W gr, Bz W gr 0 (X ++ List.replicate 9 165) → Calls Try.prog 19 #[.slice (some ⟨gr, 0, none⟩) X.length (X.length + 9)] W fun e w' => e = .returned (.bool true) ∧ Below W.heap.size W w') := fun W gr h => spared7_yes (by omega) (Nat.le_refl _) W fun i k1 k2 => by
    have := h i (by rw [List.length_append, List.length_replicate]; omega)
    rw [this, List.getD, List.getElem?_append_right k1, List.getElem?_replicate, if_pos (by omega)]; rfl
  have SI : Hid (∀ W g cc, Below w.heap.size w W → Its W g 0 ts → ts.length ≤ cc → Calls Try.prog 20 #[.slice (some ⟨g, 0, none⟩) ts.length cc, .slice a2 ts.length c2] W fun e w' => e = .returned (.bool true) ∧ Below W.heap.size W w') := fun W g cc B h hcc => items_yes (by omega) W h ⟨hcc, fun e => by cases e⟩ (.inr rfl) (hI.keep B) hc hs
  have SB : Hid (∀ (W : World) gm, Bz W gm 0 [164] → Calls Try.prog 18 #[.slice (some ⟨gm, 0, none⟩) 1 1, .slice (some ⟨W.heap.size, 0, none⟩) 1 1] (W.alloc (.cells #[.int .u8 164] 5)) fun e w' => e = .returned (.bool true) ∧ Below W.heap.size W w') := fun W gm h => by
    have k := same7_any (X := [164]) (Z := [164]) (c := 1) (c' := 1) (by decide) (.inr rfl) (.inr rfl) (W.alloc (.cells #[.int .u8 164] 5)) (h.keep ((Below.refl _ _).alloc (Nat.le_refl _) _)) (bz_oneT W 164 _)
    rw [decide_eq_true rfl] at k
    exact k.mono fun e w' h => ⟨h.1, ((Below.refl _ _).alloc (Nat.le_refl _) _).trans (h.2.mono (by simp))⟩
  have n1 : (ts.length : Int) ≤ 4194304 := by omega
  have HTL : Hid (ts.length < 4194304) := by show _ < _; omega
  clear hwd hps hps1 hX ha hnc hn hw hc hs hz hI hln
  generalize hN : stripL (putL n) = N1 at *
  generalize hN2 : stripL (putL (l1 n)) = N2 at *
  clear hN hN2
  go_enter Try.func3, Try.ntmps3
  refine wp_seq_k fun K h => ?_
  have H : Hid _ := h
  clear h
  go_wp2_with fail
  refine H.out _ _ ?_
  clear H K
  refine wp_world (fun W => Below w.heap.size w W ∧ (W.cell? ⟨w.heap.size, 0, none⟩ = some (.int .u64 (l0 n)) ∧ W.cell? ⟨w.heap.size, 1, none⟩ = some (.int .u64 (l1 n)) ∧ W.cell? ⟨w.heap.size, 2, none⟩ = some (.int .u64 (l2 n)) ∧ W.cell? ⟨w.heap.size, 3, none⟩ = some (.int .u64 (l3 n)))) ⟨(Below.refl _ _).alloc (Nat.le_refl _) _, by simp [go_sem], by simp [go_sem], by simp [go_sem], by simp [go_sem]⟩ ?_
  rintro W ⟨B, hU⟩
  have FU0 : Hid (∀ W', Below W.heap.size W W' → W'.cell? ⟨w.heap.size, 0, none⟩ = some (.int .u64 (l0 n)) ∧ W'.cell? ⟨w.heap.size, 1, none⟩ = some (.int .u64 (l1 n)) ∧ W'.cell? ⟨w.heap.size, 2, none⟩ = some (.int .u64 (l2 n)) ∧ W'.cell? ⟨w.heap.size, 3, none⟩ = some (.int .u64 (l3 n))) := fun W' h => ⟨keepC h hU.1, keepC h hU.2.1, keepC h hU.2.2.1, keepC h hU.2.2.2⟩
  have hbs : w.heap.size < W.heap.size := World.block_lt_of_cell? W _ hU.1
  clear hU
  have HB0 : Hid (Below w.heap.size w W ∧ w.heap.size < W.heap.size) := ⟨B, hbs⟩
  clear B hbs
  have BW : Below W.heap.size W W := Below.refl _ _
  have BT : Hid (∀ W', Below W.heap.size W W' → Below w.heap.size w W') := fun W' h => HB0.out.1.trans (h.mono HB0.out.1.size)
  refine wp_seq_k fun K h => ?_
  have H : Hid _ := h
  clear h
  go_wp2_with ((with_reducible refine (BE.out W HB0.out.1).mono ?_); rintro e1 w1 ⟨y, rfl, hw1⟩; (cases y))
  rotate_left
  · simp [bodyPost, results, Try.results3, go_sem]
    exact BT.out _ hw1
  refine H.out _ _ ?_
  clear H K BE BW
  refine wp_seq_k fun K h => ?_
  have H : Hid _ := h
  clear h
  go_wp2_with ((with_reducible refine (RO.out _ (BT.out _ hw1)).mono ?_); rintro e1 w2 ⟨gr, rfl, hgr, hbr, hw2⟩)
  refine H.out _ _ ?_
  clear H K
  have BW := hw1.trans (hw2.mono hw1.size)
  clear hw1 hw2 RO hgr w1
  have grl : gr < w2.heap.size := bz9T hbr
  refine wp_seq_k fun K h => ?_
  have H : Hid _ := h
  clear h
  have RR : Hid (∀ (w3 : World) (ob1 ob2 : Obj) (v3 : Value) (ps : List (Value × Value)), Below w2.heap.size w2 w3 → Oe w2.heap.size w3 v3 ts ps → (((w3.alloc ob1).alloc ob2).ownsRow w2.heap.size 29 3 v3 ts.length (itC ts ps)) ∧ (∀ k, v3.ownBlock = some k → w2.heap.size ≤ k ∧ k < w3.heap.size) ∧ ∀ (w4 : World) (v' m0 m1 m2 : Value), w4.ownsRow w2.heap.size 29 3 v' (ts.length + 1) (itC ts ps ++ [m0, m1, m2]) → ((w3.alloc ob1).alloc ob2).grownBy w4 v3.ownBlock → (v'.ownBlock = v3.ownBlock ∨ v'.ownBlock = some ((w3.alloc ob1).alloc ob2).heap.size) → ∃ g c, v' = .slice (some ⟨g, 0, none⟩) (ts.length + 1) c ∧ ts.length + 1 ≤ c ∧ Its w4 g 0 ts ∧ w4.rangeAt g (ts.length * 3) [m0, m1, m2]) := fun w3 ob1 ob2 v3 ps hb oe => by
    have o1 : (w3.alloc ob1).heap.size = w3.heap.size + 1 := World.size_alloc _ _
    have hbb : Below w3.heap.size w3 ((w3.alloc ob1).alloc ob2) := ((Below.refl w3.heap.size w3).alloc (Nat.le_refl _) ob1).alloc (by rw [o1]; omega) ob2
    refine ⟨row_kept oe.2.1 fun k _ hk => hbb.block k hk, fun k e => World.ownsRow.lt oe.2.1 k e, fun w4 v' m0 m1 m2 ho hg hv => ?_⟩
    have hws := HB0.out.2
    have hsz := BW.size
    have hne : ∀ k, w2.heap.size ≤ k → k ≠ w.heap.size := fun k hk e => by omega
    obtain ⟨g, c, e1, e2, e3⟩ := room_row (W := w3) (W3 := (w3.alloc ob1).alloc ob2) (w4 := w4) (ts := ts) (ps := ps) (S := fun k => w2.heap.size ≤ k) (q := v3) (v' := v') (m0 := m0) (m1 := m1) (m2 := m2) (bx := w.heap.size) (rb := w.heap.size) oe.1 oe.2.2.2 (fun k h => ⟨hne k h, hne k h⟩) ⟨fun e => hne _ (oe.2.2.1 _ e) rfl, fun e => hne _ (oe.2.2.1 _ e) rfl⟩ hbb ⟨by have := hb.size; omega, by have := hb.size; omega⟩ (row_base ho fun _ _ => Nat.zero_le _) hg hv
    obtain ⟨e4, e5⟩ := e3 w4 fun k _ _ _ => rfl
    exact ⟨g, c, e1, e2, e4, e5⟩
  have nw : Hid (∀ (w3 : World) (ob : Obj) (u0 u1 u2 : Value) (ty : TypeId), ((w3.alloc ob).alloc (.cells #[u0, u1, u2] ty)).cell? ⟨w3.heap.size + 1, 0, none⟩ = some u0 ∧ ((w3.alloc ob).alloc (.cells #[u0, u1, u2] ty)).cell? ⟨w3.heap.size + 1, 1, none⟩ = some u1 ∧ ((w3.alloc ob).alloc (.cells #[u0, u1, u2] ty)).cell? ⟨w3.heap.size + 1, 2, none⟩ = some u2) := fun w3 ob u0 u1 u2 ty => ⟨by simp [go_sem], by simp [go_sem], by simp [go_sem]⟩
  go_wp2_with (first
    | (go_at_call 8; (with_reducible refine (CO.out _ (BT.out _ BW)).mono ?_); rintro e3 w3 ⟨v3, ps, rfl, oe, hw3⟩)
    | (at_builtin; (refine wpList_append_it rfl _ _ rfl w2.heap.size v3 ts.length (itC ts ps) rfl ((RR.out w3 _ _ v3 ps hw3 oe).1) (w3.heap.size + 1) 1 _ _ _ rfl (nw.out _ _ _ _ _ _) ⟨rfl, rfl, rfl⟩ (by have := HTL.out; omega) (by have := hw3.size; simp; omega) ?_); intro v' w4 ho hgw hv; (have own3 := (RR.out w3 (.cells #[] 0) (.cells #[] 0) v3 ps hw3 oe).2.1); (obtain ⟨g, cc, rfl, hcc, hits, hmk⟩ := (RR.out w3 _ _ v3 ps hw3 oe).2.2 w4 v' _ _ _ ho hgw hv); (have hcc' : (ts.length : Int) ≤ (cc : Int) := by omega)))
  refine H.out _ _ ?_
  clear H K
  have o1 : (w3.alloc (.cells #[.int .u8 164] 5)).heap.size = w3.heap.size + 1 := World.size_alloc _ _
  have hbb := ((Below.refl w3.heap.size w3).alloc (Nat.le_refl _) (.cells #[.int .u8 164] 5)).alloc (by rw [o1]; omega) (.cells #[.bool false, .slice (some ⟨w3.heap.size, 0, none⟩) 1 1, .slice none 0 0] 29)
  have hnm : v3.ownBlock ≠ some w3.heap.size := fun e => by have := (own3 _ e).2; omega
  have hbm : Bz w4 w3.heap.size 0 [164] := Bz.grownE (Bz.keep (bz_oneT w3 164 _) ((Below.refl _ _).alloc (Nat.le_refl _) _)) hgw hnm
  have hngr : v3.ownBlock ≠ some gr := fun e => by have := (own3 _ e).1; omega
  have hbr4 : Bz w4 gr 0 (X ++ List.replicate 9 165) := ((hbr.keep hw3).keep hbb).grownE hgw hngr
  have BW3 : Below W.heap.size W ((w3.alloc (.cells #[.int .u8 164] 5)).alloc (.cells #[.bool false, .slice (some ⟨w3.heap.size, 0, none⟩) 1 1, .slice none 0 0] 29)) := (BW.trans (hw3.mono BW.size)).trans (hbb.mono (BW.trans (hw3.mono BW.size)).size)
  have BW4 : Below W.heap.size W w4 := BW3.grown hgw BW3.size fun k e => Nat.le_trans BW.size (own3 k e).1
  have STT : Hid (∀ W', Below w4.heap.size w4 W' → Below w.heap.size w W' ∧ (W'.cell? ⟨w.heap.size, 0, none⟩ = some (.int .u64 (l0 n)) ∧ W'.cell? ⟨w.heap.size, 1, none⟩ = some (.int .u64 (l1 n)) ∧ W'.cell? ⟨w.heap.size, 2, none⟩ = some (.int .u64 (l2 n)) ∧ W'.cell? ⟨w.heap.size, 3, none⟩ = some (.int .u64 (l3 n))) ∧ Bz W' gr 0 (X ++ List.replicate 9 165) ∧ Its W' g 0 ts ∧ W'.rangeAt g (ts.length * 3) [.bool false, .slice (some ⟨w3.heap.size, 0, none⟩) 1 1, .slice none 0 0] ∧ Bz W' w3.heap.size 0 [164] ∧ ts.length + 1 ≤ cc) := fun W' h => ⟨BT.out _ (BW4.trans (h.mono BW4.size)), FU0.out _ (BW4.trans (h.mono BW4.size)), hbr4.keep h, hits.keep h, rangeT_keep hmk h, hbm.keep h, hcc⟩
  have FU : Hid (∀ W', Below w4.heap.size w4 W' → W'.cell? ⟨w.heap.size, 0, none⟩ = some (.int .u64 (l0 n)) ∧ W'.cell? ⟨w.heap.size, 1, none⟩ = some (.int .u64 (l1 n)) ∧ W'.cell? ⟨w.heap.size, 2, none⟩ = some (.int .u64 (l2 n)) ∧ W'.cell? ⟨w.heap.size, 3, none⟩ = some (.int .u64 (l3 n))) := fun W' h => (STT.out W' h).2.1
  clear hcc hits hmk hbr4 hbm BW4 BW3 hngr hnm hbb o1 ho hgw hv own3 oe hw3 RR nw hbr grl BW BT FU0 HB0 CO
  generalize w3.heap.size = gm at *
  clear w3 w2 ps W
  refine wp_seq_k fun K h => ?_
  have H9 : Hid _ := h
  clear h
  refine wp_seq_k fun K2 h => ?_
  have H : Hid _ := h
  clear h
  refine wp_region_held_drew (S := fun w' => Below w4.heap.size w4 w') (by kernel_rfl) ((Below.refl _ _).drew) (fun hHeld => ?_)
  refine wpAnyH_takeD (i := 0) (oi := _) (v := .slice (some ⟨gr, 0, none⟩) X.length (X.length + 9)) 24 rfl (by kernel_rfl) (by kernel_rfl) (by kernel_rfl) (by kernel_rfl) (fun _ _ _ h => h) (Or.inl ⟨by kernel_rfl, ?_⟩) (by assumption) ?_
  · intro wq hSw
    have _ := hSw
    go_simp
  simp only [Act.put, List.setIfInBounds_toArray, List.set_cons_succ, List.set_cons_zero]
  refine wpAnyH_takeD (i := 2) (oi := _) (v := .slice a0 X.length c0) 26 rfl (by kernel_rfl) (by kernel_rfl) (by kernel_rfl) (by kernel_rfl) (fun _ _ _ h => h) (Or.inl ⟨by kernel_rfl, ?_⟩) (by assumption) ?_
  · intro wq hSw
    have _ := hSw
    go_simp
  simp only [Act.put, List.setIfInBounds_toArray, List.set_cons_succ, List.set_cons_zero]
  refine wpAnyH_ready (rs := [1]) (by kernel_rfl) (by simp) ?_
  refine AllReadyH.cons rfl (fun K hK => ?_) AllReadyH.nil
  go_simp
  go_wp2_with (go_at_call 10; refine (C1.out _ gr (STT.out _ hHeld).2.2.1).mono ?_; rintro e y1 ⟨d1, q1, rfl, O1, hbx⟩; (obtain ⟨s11, s12, s13, s14, s15, s16, rfl, rfl⟩ := (Ot.it _ O1).slices))
  refine hK.out _ _ (hHeld.trans (hbx.mono hHeld.size)) (fun hHeld => ?_)
  clear hK K
  clear hbx
  refine wpAnyH_ready (rs := [3]) (by kernel_rfl) (by simp) ?_
  refine AllReadyH.cons rfl (fun K hK => ?_) AllReadyH.nil
  go_simp
  go_wp2_with (go_at_call 11; refine (C2.out _ (STT.out _ hHeld).1).mono ?_; rintro e y2 ⟨d2, q2, rfl, O2, hbx⟩; (obtain ⟨s21, s22, s23, s24, s25, s26, rfl, rfl⟩ := (Ot.it _ O2).slices))
  refine hK.out _ _ (hHeld.trans (hbx.mono hHeld.size)) (fun hHeld => ?_)
  clear hK K
  replace O1 := O1.keep hbx
  clear hbx
  refine wpAnyH_ready (rs := [4]) (by kernel_rfl) (by simp) ?_
  refine AllReadyH.cons rfl (fun K hK => ?_) AllReadyH.nil
  go_simp
  go_wp2_with (go_at_call 9; refine (S1.out _ _ _ _ _ _ _ O1 O2).mono ?_; rintro e y3 ⟨rfl, hbx⟩)
  refine hK.out _ _ (hHeld.trans (hbx.mono hHeld.size)) (fun hHeld => ?_)
  clear hK K
  clear hbx O1 O2
  refine wpAnyH_takeD (i := 5) (oi := _) (v := .bool false) 29 rfl (by kernel_rfl) (by kernel_rfl) (by kernel_rfl) (by kernel_rfl) (fun _ _ _ h => h) (Or.inl ⟨by kernel_rfl, ?_⟩) (by assumption) ?_
  · intro wq hSw
    have _ := hSw
    go_simp
  simp only [Act.put, List.setIfInBounds_toArray, List.set_cons_succ, List.set_cons_zero]
  refine wpAnyH_takeD (i := 6) (oi := _) (v := .bool false) 30 rfl (by kernel_rfl) (by kernel_rfl) (by kernel_rfl) (by kernel_rfl) (fun _ _ _ h => h) (Or.inl ⟨by kernel_rfl, ?_⟩) (by assumption) ?_
  · intro wq hSw
    have _ := hSw
    go_simp
  simp only [Act.put, List.setIfInBounds_toArray, List.set_cons_succ, List.set_cons_zero]
  refine wpAnyH_takeD (i := 7) (oi := _) (v := .agg #[.int .u64 (l0 n), .int .u64 (l1 n), .int .u64 (l2 n), .int .u64 (l3 n)]) 31 rfl (by kernel_rfl) (by kernel_rfl) (by kernel_rfl) (by kernel_rfl) (fun _ _ _ h => h) (Or.inl ⟨by kernel_rfl, ?_⟩) (by assumption) ?_
  · intro wq hSw
    obtain ⟨x0, x1, x2, x3⟩ := FU.out wq hSw
    go_simp
  simp only [Act.put, List.setIfInBounds_toArray, List.set_cons_succ, List.set_cons_zero]
  refine wpAnyH_takeD (i := 9) (oi := _) (v := .agg #[.int .u64 (l0 n), .int .u64 (l1 n), .int .u64 (l2 n), .int .u64 (l3 n)]) 33 rfl (by kernel_rfl) (by kernel_rfl) (by kernel_rfl) (by kernel_rfl) (fun _ _ _ h => h) (Or.inl ⟨by kernel_rfl, ?_⟩) (by assumption) ?_
  · intro wq hSw
    obtain ⟨x0, x1, x2, x3⟩ := FU.out wq hSw
    go_simp
  simp only [Act.put, List.setIfInBounds_toArray, List.set_cons_succ, List.set_cons_zero]
  refine wpAnyH_ready (rs := [8]) (by kernel_rfl) (by simp) ?_
  refine AllReadyH.cons rfl (fun K hK => ?_) AllReadyH.nil
  go_simp
  go_wp2_with (go_at_call 12; refine (C3.out _).mono ?_; rintro e y4 ⟨d1, q1, rfl, O1, hbx⟩; (obtain ⟨s11, s12, s13, s14, s15, s16, rfl, rfl⟩ := (Ot.it _ O1).slices))
  refine hK.out _ _ (hHeld.trans (hbx.mono hHeld.size)) (fun hHeld => ?_)
  clear hK K
  clear hbx
  refine wpAnyH_ready (rs := [10]) (by kernel_rfl) (by simp) ?_
  refine AllReadyH.cons rfl (fun K hK => ?_) AllReadyH.nil
  go_simp
  go_wp2_with (go_at_call 13; refine (C4.out _).mono ?_; rintro e y5 ⟨d2, q2, rfl, O2, hbx⟩; (obtain ⟨s21, s22, s23, s24, s25, s26, rfl, rfl⟩ := (Ot.it _ O2).slices))
  refine hK.out _ _ (hHeld.trans (hbx.mono hHeld.size)) (fun hHeld => ?_)
  clear hK K
  replace O1 := O1.keep hbx
  clear hbx
  refine wpAnyH_ready (rs := [11]) (by kernel_rfl) (by simp) ?_
  refine AllReadyH.cons rfl (fun K hK => ?_) AllReadyH.nil
  go_simp
  go_wp2_with (go_at_call 9; refine (S2.out _ _ _ _ _ _ _ O1 O2).mono ?_; rintro e y6 ⟨rfl, hbx⟩)
  refine hK.out _ _ (hHeld.trans (hbx.mono hHeld.size)) (fun hHeld => ?_)
  clear hK K
  clear hbx O1 O2
  refine wpAnyH_takeD (i := 12) (oi := _) (v := .bool false) 36 rfl (by kernel_rfl) (by kernel_rfl) (by kernel_rfl) (by kernel_rfl) (fun _ _ _ h => h) (Or.inl ⟨by kernel_rfl, ?_⟩) (by assumption) ?_
  · intro wq hSw
    have _ := hSw
    go_simp
  simp only [Act.put, List.setIfInBounds_toArray, List.set_cons_succ, List.set_cons_zero]
  refine wpAnyH_takeD (i := 13) (oi := _) (v := .bool false) 37 rfl (by kernel_rfl) (by kernel_rfl) (by kernel_rfl) (by kernel_rfl) (fun _ _ _ h => h) (Or.inl ⟨by kernel_rfl, ?_⟩) (by assumption) ?_
  · intro wq hSw
    have _ := hSw
    go_simp
  simp only [Act.put, List.setIfInBounds_toArray, List.set_cons_succ, List.set_cons_zero]
  refine wpAnyH_takeD (i := 14) (oi := _) (v := .bool false) 38 rfl (by kernel_rfl) (by kernel_rfl) (by kernel_rfl) (by kernel_rfl) (fun _ _ _ h => h) (Or.inl ⟨by kernel_rfl, ?_⟩) (by assumption) ?_
  · intro wq hSw
    have _ := hSw
    go_simp
  simp only [Act.put, List.setIfInBounds_toArray, List.set_cons_succ, List.set_cons_zero]
  refine wpAnyH_takeD (i := 15) (oi := _) (v := .pointer (some ⟨w.heap.size, 1, none⟩)) 39 rfl (by kernel_rfl) (by kernel_rfl) (by kernel_rfl) (by kernel_rfl) (fun _ _ _ h => h) (Or.inl ⟨by kernel_rfl, ?_⟩) (by assumption) ?_
  · intro wq hSw
    have _ := hSw
    go_simp
  simp only [Act.put, List.setIfInBounds_toArray, List.set_cons_succ, List.set_cons_zero]
  refine wpAnyH_takeD (i := 16) (oi := _) (v := .int .u64 (l1 n)) 40 rfl (by kernel_rfl) (by kernel_rfl) (by kernel_rfl) (by kernel_rfl) (fun _ _ _ h => h) (Or.inl ⟨by kernel_rfl, ?_⟩) (by assumption) ?_
  · intro wq hSw
    obtain ⟨x0, x1, x2, x3⟩ := FU.out wq hSw
    go_simp
  simp only [Act.put, List.setIfInBounds_toArray, List.set_cons_succ, List.set_cons_zero]
  refine wpAnyH_takeD (i := 18) (oi := _) (v := .pointer (some ⟨w.heap.size, 1, none⟩)) 42 rfl (by kernel_rfl) (by kernel_rfl) (by kernel_rfl) (by kernel_rfl) (fun _ _ _ h => h) (Or.inl ⟨by kernel_rfl, ?_⟩) (by assumption) ?_
  · intro wq hSw
    have _ := hSw
    go_simp
  simp only [Act.put, List.setIfInBounds_toArray, List.set_cons_succ, List.set_cons_zero]
  refine wpAnyH_takeD (i := 19) (oi := _) (v := .int .u64 (l1 n)) 43 rfl (by kernel_rfl) (by kernel_rfl) (by kernel_rfl) (by kernel_rfl) (fun _ _ _ h => h) (Or.inl ⟨by kernel_rfl, ?_⟩) (by assumption) ?_
  · intro wq hSw
    obtain ⟨x0, x1, x2, x3⟩ := FU.out wq hSw
    go_simp
  simp only [Act.put, List.setIfInBounds_toArray, List.set_cons_succ, List.set_cons_zero]
  refine wpAnyH_ready (rs := [17]) (by kernel_rfl) (by simp) ?_
  refine AllReadyH.cons rfl (fun K hK => ?_) AllReadyH.nil
  go_simp
  go_wp2_with (go_at_call 14; refine (C5.out _).mono ?_; rintro e y7 ⟨d1, q1, rfl, O1, hbx⟩; (obtain ⟨s11, s12, s13, s14, s15, s16, rfl, rfl⟩ := (Ot.it _ O1).slices))
  refine hK.out _ _ (hHeld.trans (hbx.mono hHeld.size)) (fun hHeld => ?_)
  clear hK K
  clear hbx
  refine wpAnyH_ready (rs := [20]) (by kernel_rfl) (by simp) ?_
  refine AllReadyH.cons rfl (fun K hK => ?_) AllReadyH.nil
  go_simp
  go_wp2_with (go_at_call 15; refine (C6.out _).mono ?_; rintro e y8 ⟨d2, q2, rfl, O2, hbx⟩; (obtain ⟨s21, s22, s23, s24, s25, s26, rfl, rfl⟩ := (Ot.it _ O2).slices))
  refine hK.out _ _ (hHeld.trans (hbx.mono hHeld.size)) (fun hHeld => ?_)
  clear hK K
  replace O1 := O1.keep hbx
  clear hbx
  refine wpAnyH_ready (rs := [21]) (by kernel_rfl) (by simp) ?_
  refine AllReadyH.cons rfl (fun K hK => ?_) AllReadyH.nil
  go_simp
  go_wp2_with (go_at_call 9; refine (S3.out _ _ _ _ _ _ _ O1 O2).mono ?_; rintro e y10 ⟨rfl, hbx⟩)
  refine hK.out _ _ (hHeld.trans (hbx.mono hHeld.size)) (fun hHeld => ?_)
  clear hK K
  clear hbx O1 O2
  refine wpAnyH_takeD (i := 22) (oi := _) (v := .bool false) 46 rfl (by kernel_rfl) (by kernel_rfl) (by kernel_rfl) (by kernel_rfl) (fun _ _ _ h => h) (Or.inl ⟨by kernel_rfl, ?_⟩) (by assumption) ?_
  · intro wq hSw
    have _ := hSw
    go_simp
  simp only [Act.put, List.setIfInBounds_toArray, List.set_cons_succ, List.set_cons_zero]
  refine wpAnyH_takeD (i := 23) (oi := _) (v := .bool false) 47 rfl (by kernel_rfl) (by kernel_rfl) (by kernel_rfl) (by kernel_rfl) (fun _ _ _ h => h) (Or.inl ⟨by kernel_rfl, ?_⟩) (by assumption) ?_
  · intro wq hSw
    have _ := hSw
    go_simp
  simp only [Act.put, List.setIfInBounds_toArray, List.set_cons_succ, List.set_cons_zero]
  refine wpAnyH_done (by kernel_rfl) ?_ _
  refine H.out _ _ ?_
  clear H K2
  go_wp2_with fail
  refine H9.out _ _ ?_
  clear H9
  clear C1 C2 C3 C4 C5 C6 S1 S2 S3 FU
  have h0 := hHeld
  clear hHeld
  refine wp_seq_k fun K h => ?_
  have H : Hid _ := h
  clear h
  go_wp2_with (first
    | (go_at_call 16; refine (C7.out _ g cc (STT.out _ h0).2.2.2.1).mono ?_; rintro e z1 ⟨d1, q1, rfl, O1, hb1⟩; (obtain ⟨s11, s12, s13, s14, s15, s16, rfl, rfl⟩ := (Ot.it _ O1).slices); (have h1 := h0.trans (hb1.mono h0.size)))
    | (go_at_call 17; refine (C8.out _ (STT.out _ h1).1).mono ?_; rintro e z2 ⟨d2, q2, rfl, O2, hb2⟩; (obtain ⟨s21, s22, s23, s24, s25, s26, rfl, rfl⟩ := (Ot.it _ O2).slices); (have h2 := h1.trans (hb2.mono h1.size)))
    | (go_at_call 9; refine (S4.out _ _ _ _ _ _ _ (O1.keep hb2) O2).mono ?_; rintro e z3 ⟨rfl, hb3⟩; (have h3 := h2.trans (hb3.mono h2.size)))
    | (go_at_call 18; refine (SA.out _ gr (STT.out _ h3).1 (STT.out _ h3).2.2.1).mono ?_; rintro e z4 ⟨rfl, hb4⟩; (have h4 := h3.trans (hb4.mono h3.size)))
    | (go_at_call 19; refine (SP.out _ gr (STT.out _ h4).2.2.1).mono ?_; rintro e z5 ⟨rfl, hb5⟩; (have h5 := h4.trans (hb5.mono h4.size)))
    | (go_at_call 20; refine (SI.out _ g cc (STT.out _ h5).1 (STT.out _ h5).2.2.2.1 (Nat.le_of_succ_le (STT.out _ h5).2.2.2.2.2.2)).mono ?_; rintro e z6 ⟨rfl, hb6⟩; (have h6 := h5.trans (hb6.mono h5.size))))
  refine H.out _ _ ?_
  clear H K
  obtain ⟨B6, _, _, _, mk6, bm6, hc6⟩ := STT.out _ h6
  have c6 : z6.cell? ⟨g, ts.length * 3 + 1, none⟩ = some (.slice (some ⟨gm, 0, none⟩) 1 1) := mk6 1 _ rfl
  have hc7 : (ts.length : Int) + 1 ≤ (cc : Int) := by omega
  have SB6 := SB.out z6 gm bm6
  clear mk6 bm6 h0 h1 h2 h3 h4 h5 hb1 hb2 hb3 hb4 hb5 hb6 O1 O2 C7 C8 S4 SA SP SI SB
  go_wp2_with (go_at_call 18; (with_reducible refine SB6.mono ?_); rintro e z7 ⟨rfl, hb7⟩)
  simp [bodyPost, results, Try.results3, go_sem]
  exact B6.trans (hb7.mono B6.size)
end Go.Proofs.Ytdjjphcfobbipaa
