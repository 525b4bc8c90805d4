import Derived.Test.YtdjjphcfobbipaaRxR
import Derived.Test.YtdjjphcfobbipaaRjF
/- Layer 7: the statement's twin, room. -/
namespace Go.Proofs.Ytdjjphcfobbipaa
open Go.RowKit Go.Sort
theorem wpList_append_it {ops : Array Oper} {rest : List Oper} {w : World} {o : Oper} {a : Act} {Q : Exit → Act → World → Prop} (hgd : o.guard = none) (s x : Operand) (ho : o.op = .call { callee := .builtin .append, args := #[s, x], argTypes := #[26, 26] })
    (base : Nat) (v : Value) (n : Nat) (xs : List Value) (hs : a.eval s = v) (hown : w.ownsRow base 29 3 v n xs)
    (g c : Nat) (u0 u1 u2 : Value) (hx : a.eval x = .slice (some ⟨g, 0, none⟩) 1 c) (hnews : w.cell? ⟨g, 0, none⟩ = some u0 ∧ w.cell? ⟨g, 1, none⟩ = some u1 ∧ w.cell? ⟨g, 2, none⟩ = some u2) (h1 : u0.oneCell' = true ∧ u1.oneCell' = true ∧ u2.oneCell' = true)
    (hn : n < 100000000000) (hbase : base ≤ w.heap.size)
    (h : ∀ v' w', w'.ownsRow base 29 3 v' (n + 1) (xs ++ [u0, u1, u2]) → w.grownBy w' v.ownBlock → (v'.ownBlock = v.ownBlock ∨ v'.ownBlock = some w.heap.size) → wpList Try.prog ops Q rest (a.put o.dst v') w') : wpList Try.prog ops Q (o :: rest) a w := by
  refine wpList_plain hgd fun K hK => wp_append_it s x ho base v n xs hs hown g c u0 u1 u2 hx hnews h1 hn hbase fun v' w' k1 k2 k3 => hK _ _ (h v' w' k1 k2 k3)
theorem Oe.first {B : Nat} {W : World} {v : Value} {t : Tr} {ps : List (Value × Value)} (h : Oe B W v [t] ps) : ∃ g c d q, v = .slice (some ⟨g, 0, none⟩) 1 c ∧ Bx W g t.l d q ∧ Ot W t (fun k => B ≤ k) d q := by
  obtain ⟨h1, h2, h3, h4⟩ := h
  rcases h2.2 with ⟨_, h0⟩ | ⟨g, cap, cur, rfl, _⟩
  · cases h0
  · have hc := itC_at [t] ps h1 0 (by simp)
    have hl : ([t] : List Tr).length = 1 := rfl
    refine ⟨g, cap, _, _, rfl, ⟨(World.ownsRow.cellAt h2 0 (by omega)).trans hc.1, (World.ownsRow.cellAt h2 1 (by omega)).trans hc.2.1, (World.ownsRow.cellAt h2 2 (by omega)).trans hc.2.2⟩, Ot.conv _ (fun k _ hs => ⟨hs.1, rfl⟩) (h4.at 0 (by simp))⟩
theorem Fr3.newI {W : World} {t : TypeId} {u0 u1 u2 : Value} : Fr3 (W.alloc (.cells #[u0, u1, u2] t)) W.heap.size := ⟨by simp [go_sem], by simp [go_sem], by simp [go_sem]⟩
theorem Bx.new {W : World} {t : TypeId} {l : Bool} {d q : Value} : Bx (W.alloc (.cells #[.bool l, d, q] t)) W.heap.size l d q := ⟨by simp [go_sem], by simp [go_sem], by simp [go_sem]⟩
theorem Bx.lt {W : World} {b : Nat} {l : Bool} {d q : Value} (h : Bx W b l d q) : b < W.heap.size := World.block_lt_of_cell? W _ h.1
theorem Its.one {W : World} {g : Nat} {t : Tr} {d q : Value} (h : Bx W g t.l d q) (hI : It W t d q) : Its W g 0 [t] := by
  rw [Its, Its]
  refine ⟨⟨d, q, fun j v hv => ?_, hI⟩, trivial⟩
  rw [Nat.zero_add]
  match j, hv with
  | 0, hv => simp at hv; subst hv; exact h.1
  | 1, hv => simp at hv; subst hv; exact h.2.1
  | 2, hv => simp at hv; subst hv; exact h.2.2
  | j + 3, hv => simp at hv
set_option maxRecDepth 100000 in
set_option maxHeartbeats 4000000 in
/-- The statement's twin. -/
theorem twin_any {t : Tr} {d q : Value} (hw : wtT t < 4194304) (w : World) (h : It w t d q) :
    Calls Try.prog 47 #[itV t d q] w fun e w' => ∃ d' q', e = .returned (itV t d' q') ∧ Ot w' t (fun k => w.heap.size + 1 < k) d' q' ∧ Below w.heap.size w w' := by
  have CP : Hid (∀ W, Below w.heap.size w W → w.heap.size + 1 < W.heap.size → Calls Try.prog 8 #[.slice (some ⟨W.heap.size, 0, none⟩) 1 1] (W.alloc (.cells #[.bool t.l, d, q] 29)) fun e w' => ∃ g c d' q', e = .returned (.slice (some ⟨g, 0, none⟩) 1 c) ∧ Bx w' g t.l d' q' ∧ Ot w' t (fun k => w.heap.size + 1 < k) d' q' ∧ Below W.heap.size W w') := fun W B hs => by
    have h2 := (rCopy_any (.mk false [] [t]) (a := some ⟨W.heap.size, 0, none⟩) (b := W.heap.size) (o := 0) (c := 1) (by show wtS [t] < _; rw [wtS, wtS]; omega) (.inr rfl) (W.alloc (.cells #[.bool t.l, d, q] 29)) (Its.one Bx.new (It.keep (B.alloc B.size _) t h)))
    refine h2.mono ?_
    rintro e w' ⟨v, ps, rfl, oe, hb⟩
    obtain ⟨g, c, d', q', rfl, hx, ho⟩ := Oe.first oe
    have cv : ∀ k, k < w'.heap.size → (W.alloc (.cells #[.bool t.l, d, q] 29)).heap.size ≤ k → w.heap.size + 1 < k ∧ w'.heap[k]? = w'.heap[k]? := fun k _ hk => by
      have e : W.heap.size + 1 ≤ k := by simpa using hk
      exact ⟨by omega, rfl⟩
    exact ⟨g, c, d', q', rfl, hx, Ot.conv _ cv ho, ((Below.refl _ _).alloc (Nat.le_refl _) _).trans (hb.mono (by simp))⟩
  obtain ⟨k1, k2, k3, k4, k5, k6, rfl, rfl⟩ := h.slices
  clear h hw
  unfold itV
  generalize hlt : t.l = lt at *
  clear hlt
  go_enter Try.func47, Try.ntmps47
  refine wp_seq_k fun K h => ?_
  have H : Hid _ := h
  clear h
  go_wp2_with fail
  refine H.out _ _ ?_
  clear H K
  refine wp_world (fun W => Below w.heap.size w W ∧ Bx W w.heap.size lt (.slice k1 k2 k3) (.slice k4 k5 k6) ∧ Bx W (w.heap.size + 1) false (.slice none 0 0) (.slice none 0 0) ∧ Fr3 W (w.heap.size + 1)) ⟨((Below.refl _ _).alloc (Nat.le_refl _) _).alloc (by simp) _, ⟨by simp [go_sem], by simp [go_sem], by simp [go_sem]⟩, ⟨by simp [go_sem], by simp [go_sem], by simp [go_sem]⟩, ⟨by simp [go_sem], by simp [go_sem], by simp [go_sem]⟩⟩ ?_
  rintro W ⟨B, hX, hR, hF⟩
  obtain ⟨x0, x1, x2⟩ := hX
  have CQ : Hid (Calls Try.prog 8 #[.slice (some ⟨W.heap.size, 0, none⟩) 1 1] (W.alloc (.cells #[.bool lt, .slice k1 k2 k3, .slice k4 k5 k6] 29)) fun e w' => ∃ g c d' q', e = .returned (.slice (some ⟨g, 0, none⟩) 1 c) ∧ Bx w' g lt d' q' ∧ Ot w' t (fun k => w.heap.size + 1 < k) d' q' ∧ Below W.heap.size W w') := CP.out W B hR.lt
  clear CP
  go_wp2_with ((with_reducible refine CQ.out.mono ?_); rintro e1 w1 ⟨g, c, d', q', rfl, hY, hO, hw⟩; (have hy := hY); (obtain ⟨y0, y1, y2⟩ := hy); (have hf1 := hF.keep hR.lt hw); (have hr1 := hR.keep hw); (obtain ⟨r0, r1, r2⟩ := hr1); (obtain ⟨z0, z1, z2⟩ := hf1); (have hsl := (Ot.it _ hO).slices); (obtain ⟨s1, s2, s3, s4, s5, s6, rfl, rfl⟩ := hsl); (clear x0 x1 x2))
  have BW := B.trans (hw.mono B.size)
  have hne : ∀ k, w.heap.size + 1 < k → k ≠ w.heap.size + 1 := fun k hk e => by omega
  simp [bodyPost, results, Try.results47, go_sem, r0, r1, r2]
  refine ⟨_, _, ⟨rfl, rfl⟩, ?_, ((BW.setCell (by show w.heap.size ≤ w.heap.size + 1; omega) _).setCell (by show w.heap.size ≤ w.heap.size + 1; omega) _).setCell (by show w.heap.size ≤ w.heap.size + 1; omega) _⟩
  refine Ot.conv _ (fun k _ hk => ⟨hk, ?_⟩) hO
  rw [heap_setCell_other _ _ _ _ (hne k hk), heap_setCell_other _ _ _ _ (hne k hk), heap_setCell_other _ _ _ _ (hne k hk)]
theorem bz_oneT (W : World) (x : Int) (t : TypeId) : Bz (W.alloc (.cells #[.int .u8 x] t)) W.heap.size 0 [x] := fun i hi => by
  obtain rfl : i = 0 := by simpa using hi
  simp [go_sem]
/-- What the statement's room answers: a tree with marks behind its text and its items. -/
def Rm (W : World) (t : Tr) (d q : Value) : Prop := It W t d q ∧ (∃ g, d = .slice (some ⟨g, 0, none⟩) t.X.length (t.X.length + 9) ∧ Bz W g 0 (t.X ++ List.replicate 9 165)) ∧ ∃ g c gm, q = .slice (some ⟨g, 0, none⟩) t.ts.length c ∧ t.ts.length + 1 ≤ c ∧ W.rangeAt g (t.ts.length * 3) [.bool false, .slice (some ⟨gm, 0, none⟩) 1 1, .slice none 0 0] ∧ Bz W gm 0 [164]
theorem Rm.keep {W W' : World} {t : Tr} {d q : Value} (h : Rm W t d q) (hb : Below W.heap.size W W') : Rm W' t d q := by
  obtain ⟨h1, ⟨g, h2, h3⟩, g', c, gm, k1, k2, k3, k4⟩ := h
  exact ⟨It.keep hb t h1, ⟨g, h2, h3.keep hb⟩, g', c, gm, k1, k2, rangeT_keep k3 hb, k4.keep hb⟩
theorem grown_set (w : World) (a : Addr) (v : Value) : w.grownBy (w.setCell a v) (some a.block) := ⟨rfl, rfl, rfl, by simp, fun k _ hk => heap_setCell_other _ _ _ _ fun e => hk (by rw [e])⟩
theorem Bx.set1 {W : World} {b : Nat} {l : Bool} {d q : Value} (h : Bx W b l d q) (v : Value) : Bx (W.setCell ⟨b, 1, none⟩ v) b l v q := ⟨by simp [go_sem, h.1], by simp [go_sem, h.2.1], by simp [go_sem, h.2.2]⟩
theorem Bx.set2 {W : World} {b : Nat} {l : Bool} {d q : Value} (h : Bx W b l d q) (v : Value) : Bx (W.setCell ⟨b, 2, none⟩ v) b l d v := ⟨by simp [go_sem, h.1], by simp [go_sem, h.2.1], by simp [go_sem, h.2.2]⟩
theorem Bx.grown {W W' : World} {b : Nat} {l : Bool} {d q : Value} {row : Option Nat} (h : Bx W b l d q) (hg : W.grownBy W' row) (hn : row ≠ some b) : Bx W' b l d q := by
  have e := hg.block b h.lt fun e => hn e.symm
  exact ⟨by rw [World.cell?_of_block e]; exact h.1, by rw [World.cell?_of_block e]; exact h.2.1, by rw [World.cell?_of_block e]; exact h.2.2⟩
theorem Fr3.grown {W W' : World} {b : Nat} {row : Option Nat} (h : Fr3 W b) (hb : b < W.heap.size) (hg : W.grownBy W' row) (hn : row ≠ some b) : Fr3 W' b := by
  have e := hg.block b hb fun e => hn e.symm
  exact ⟨by rw [World.frozen?_of_block e]; exact h.1, by rw [World.frozen?_of_block e]; exact h.2.1, by rw [World.frozen?_of_block e]; exact h.2.2⟩
theorem Orow.grown {W W' : World} {ts : List Tr} {S S' : Nat → Prop} {q : Value} {row : Option Nat} (h : Orow W ts S q) (hg : W.grownBy W' row) (hn : ∀ k, S k → row ≠ some k) (hs : ∀ k, S k → S' k) : Orow W' ts S' q := Orow.conv (fun k hk hS => ⟨hs k hS, hg.block k hk fun e => hn k hS e.symm⟩) h
theorem room_row {W W3 w4 : World} {ts : List Tr} {ps : List (Value × Value)} {S : Nat → Prop} {q v' m0 m1 m2 : Value} {bx rb : Nat} (hp : ps.length = ts.length) (hi : Ots W ts (fun k => S k ∧ q.ownBlock ≠ some k) ps) (hS : ∀ k, S k → k ≠ bx ∧ k ≠ rb) (hq : q.ownBlock ≠ some bx ∧ q.ownBlock ≠ some rb) (hb : Below W.heap.size W W3) (hbx : bx < W.heap.size ∧ rb < W.heap.size)
    (ho : w4.ownsRow 0 29 3 v' (ts.length + 1) (itC ts ps ++ [m0, m1, m2])) (hg : W3.grownBy w4 q.ownBlock) (hv : v'.ownBlock = q.ownBlock ∨ v'.ownBlock = some W3.heap.size) :
    ∃ g c, v' = .slice (some ⟨g, 0, none⟩) (ts.length + 1) c ∧ ts.length + 1 ≤ c ∧ ∀ W5, (∀ k, k < w4.heap.size → k ≠ bx → k ≠ rb → W5.heap[k]? = w4.heap[k]?) → Its W5 g 0 ts ∧ W5.rangeAt g (ts.length * 3) [m0, m1, m2] := by
  have li := itC_len ts ps hp
  have hrow := ho
  rcases ho.2 with ⟨_, h0⟩ | ⟨g, cap, cur, rfl, _, hgc, hle, _⟩
  · omega
  have hgx : g ≠ bx ∧ g ≠ rb := by
    rcases hv with e | e
    · exact ⟨fun e2 => by subst e2; exact hq.1 (by rw [← e]; rfl), fun e2 => by subst e2; exact hq.2 (by rw [← e]; rfl)⟩
    · have e' : g = W3.heap.size := Option.some.inj e
      have := hb.size
      exact ⟨by omega, by omega⟩
  refine ⟨g, cap, rfl, hle, fun W5 hW => ?_⟩
  have hc : ∀ k, k < (ts.length + 1) * 3 → W5.cell? ⟨g, k, none⟩ = (itC ts ps ++ [m0, m1, m2])[k]? := fun k hk => by
    rw [World.cell?_of_block (w := w4) (a := ⟨g, k, none⟩) (hW g (Array.getElem?_eq_some_iff.1 hgc).1 hgx.1 hgx.2)]
    exact World.ownsRow.cellAt hrow k hk
  refine ⟨Its.of fun i hlt => ?_, fun j v hv => ?_⟩
  · obtain ⟨c0, c1, c2⟩ := itC_at ts ps hp i hlt
    refine ⟨(ps.getD i zV).1, (ps.getD i zV).2, fun j v hv => ?_, ?_⟩
    · rw [Nat.zero_add]
      match j, hv with
      | 0, hv => rw [Nat.add_zero, hc _ (by omega), List.getElem?_append_left (by omega), c0]; exact hv
      | 1, hv => rw [hc _ (by omega), List.getElem?_append_left (by omega), c1]; exact hv
      | 2, hv => rw [hc _ (by omega), List.getElem?_append_left (by omega), c2]; exact hv
      | j + 3, hv => simp at hv
    · have cv : ∀ k, k < W.heap.size → (S k ∧ q.ownBlock ≠ some k) → True ∧ W5.heap[k]? = W.heap[k]? := fun k hk h => by
        have h3 : k < W3.heap.size := Nat.lt_of_lt_of_le hk hb.size
        refine ⟨trivial, ?_⟩
        rw [hW k (Nat.lt_of_lt_of_le h3 hg.size) (hS k h.1).1 (hS k h.1).2, hg.block k h3 fun e => h.2 e.symm]
        exact hb.block k hk
      exact Ot.it _ (Ot.conv (S' := fun _ => True) _ cv (hi.at i hlt))
  · have hj : j < 3 := (List.getElem?_eq_some_iff.1 hv).1
    rw [hc _ (by omega), List.getElem?_append_right (by omega), li, show ts.length * 3 + j - ts.length * 3 = j by omega]
    exact hv
set_option maxRecDepth 100000 in
set_option maxHeartbeats 8000000 in
/-- The statement's room. -/
theorem room_any {t : Tr} {d q : Value} (hw : wtT t < 4194304) (w : World) (h : It w t d q) :
    Calls Try.prog 21 #[itV t d q] w fun e w' => ∃ d' q', e = .returned (itV t d' q') ∧ Rm w' t d' q' ∧ Below w.heap.size w w' := by
  have hpt := wt_parts t
  have hln := len_wt t.ts
  have TW : Hid (∀ W, Below w.heap.size w W → Calls Try.prog 47 #[.agg #[.bool t.l, d, q]] W fun e w' => ∃ d' q', e = .returned (.agg #[.bool t.l, d', q']) ∧ Ot w' t (fun k => W.heap.size + 1 < k) d' q' ∧ Below W.heap.size W w') := fun W B => twin_any hw W (It.keep B t h)
  have RO : Hid (∀ W a g c, Az a g 0 t.X → Bz W g 0 t.X → Calls Try.prog 7 #[.slice a t.X.length c] W fun e w' => ∃ g, e = .returned (.slice (some ⟨g, 0, none⟩) t.X.length (t.X.length + 9)) ∧ W.heap.size ≤ g ∧ Bz w' g 0 (t.X ++ List.replicate 9 165) ∧ Below W.heap.size W w') := fun W a g c z1 y1 => by
    refine (roomy7_any (cb := c) z1 (by omega) W y1).mono ?_
    rintro e w' ⟨g, h1, h2, h3, h4⟩
    exact ⟨g, h1, h2, fun k hk => by rw [Nat.zero_add]; exact h3.1 k hk, h4⟩
  have HN : Hid (t.ts.length < 4194304 ∧ t.X.length < 4194304) := ⟨by omega, by omega⟩
  have hn1 : (t.ts.length : Int) ≤ 4194304 := by omega
  obtain ⟨k1, k2, k3, k4, k5, k6, rfl, rfl⟩ := h.slices
  clear h hw hpt hln
  unfold itV
  obtain ⟨lt, hlt⟩ : ∃ lb, lb = t.l := ⟨_, rfl⟩
  rw [← hlt] at TW ⊢
  have HL : Hid (lt = t.l) := hlt
  clear hlt
  go_enter Try.func21, Try.ntmps21
  refine wp_seq_k fun K h => ?_
  have H : Hid _ := h
  clear h
  go_wp2_with fail
  refine H.out _ _ ?_
  clear H K
  refine wp_world (fun W => Below w.heap.size w W ∧ Bx W w.heap.size lt (.slice k1 k2 k3) (.slice k4 k5 k6) ∧ Bx W (w.heap.size + 1) false (.slice none 0 0) (.slice none 0 0) ∧ Fr3 W (w.heap.size + 1)) ⟨((Below.refl _ _).alloc (Nat.le_refl _) _).alloc (by simp) _, ⟨by simp [go_sem], by simp [go_sem], by simp [go_sem]⟩, ⟨by simp [go_sem], by simp [go_sem], by simp [go_sem]⟩, ⟨by simp [go_sem], by simp [go_sem], by simp [go_sem]⟩⟩ ?_
  rintro W ⟨B, ⟨x0, x1, x2⟩, hR, hF⟩
  refine wp_seq_k fun K h => ?_
  have H : Hid _ := h
  clear h
  go_wp2_with ((with_reducible refine (TW.out W B).mono ?_); rintro e1 w1 ⟨d', q', rfl, hO, hw⟩; (have hsl := (Ot.it _ hO).slices); (obtain ⟨s1, s2, s3, s4, s5, s6, rfl, rfl⟩ := hsl))
  refine H.out _ _ ?_
  clear H K TW x0 x1 x2
  have hRw := hR.lt
  refine wp_world (fun V => Below w.heap.size w V ∧ Bx V w1.heap.size lt (.slice s1 s2 s3) (.slice s4 s5 s6) ∧ Fr3 V w1.heap.size ∧ Bx V (w.heap.size + 1) false (.slice none 0 0) (.slice none 0 0) ∧ Fr3 V (w.heap.size + 1) ∧ w.heap.size + 1 < w1.heap.size ∧ Ot V t (fun k => w.heap.size + 1 < k ∧ k ≠ w1.heap.size) (.slice s1 s2 s3) (.slice s4 s5 s6)) ⟨(B.trans (hw.mono B.size)).alloc (B.trans (hw.mono B.size)).size _, Bx.new, Fr3.newI, (hR.keep hw).keep ((Below.refl _ _).alloc (Nat.le_refl _) _), (hF.keep hR.lt hw).keep (hR.keep hw).lt ((Below.refl _ _).alloc (Nat.le_refl _) _), Nat.lt_of_lt_of_le hR.lt hw.size, Ot.conv _ (fun k hk hS => ⟨⟨by omega, by omega⟩, heap_alloc_old _ _ hk⟩) hO⟩ ?_
  clear hO hw hR hF B hRw
  generalize w1.heap.size = bx
  clear w1 W
  rintro W ⟨B, hX, hFX, hR, hF, hbx, hO⟩
  obtain ⟨hOd, hOd2, hOr⟩ := hO.get
  obtain ⟨ad, gd, cd, e1, le1, zd, yd, oth⟩ := hOd.lies
  clear oth le1 hOd2
  injection e1 with e1 e2 e3
  subst e1 e2 e3
  have RO2 : Hid (Calls Try.prog 7 #[.slice s1 t.X.length s3] W fun e w' => ∃ g, e = .returned (.slice (some ⟨g, 0, none⟩) t.X.length (t.X.length + 9)) ∧ W.heap.size ≤ g ∧ Bz w' g 0 (t.X ++ List.replicate 9 165) ∧ Below W.heap.size W w') := RO.out W s1 gd s3 zd yd
  clear hO hOd yd zd RO
  have hX' := hX
  obtain ⟨x0, x1, x2⟩ := hX'
  obtain ⟨fx0, fx1, fx2⟩ := hFX
  refine wp_seq_k fun K h => ?_
  have H : Hid _ := h
  clear h
  go_wp2_with ((with_reducible refine RO2.out.mono ?_); rintro e1 w1 ⟨gr, rfl, hgr, hbr, hw⟩; (have y1 := keepC hw x1); (have z1 : w1.frozen? ⟨bx, 1, none⟩ = false := by rw [hw.frozen (p := ⟨bx, 1, none⟩) hX.lt]; exact fx1))
  refine H.out _ _ ?_
  clear H K RO2
  have hXl := hX.lt
  refine wp_world (fun V => Below w.heap.size w V ∧ Bx V bx lt (.slice (some ⟨gr, 0, none⟩) t.X.length (t.X.length + 9)) (.slice s4 s5 s6) ∧ Fr3 V bx ∧ Bx V (w.heap.size + 1) false (.slice none 0 0) (.slice none 0 0) ∧ Fr3 V (w.heap.size + 1) ∧ Bz V gr 0 (t.X ++ List.replicate 9 165) ∧ gr ≠ bx ∧ w.heap.size + 1 < gr ∧ Orow V t.ts (fun k => w.heap.size + 1 < k ∧ k ≠ bx ∧ k ≠ gr) (.slice s4 s5 s6)) ⟨(B.trans (hw.mono B.size)).setCell (by show w.heap.size ≤ bx; omega) _, (hX.keep hw).set1 _, Fr3.set (Fr3.keep ⟨fx0, fx1, fx2⟩ hXl hw) _ _, (hR.keep hw).grown (grown_set _ _ _) (fun e => by have : bx = w.heap.size + 1 := Option.some.inj e; omega), Fr3.set (hF.keep hR.lt hw) _ _, hbr.grownE (grown_set _ _ _) (fun e => by have : bx = gr := Option.some.inj e; omega), by omega, by have := hR.lt; omega, Orow.conv (fun k hk hS => ⟨⟨hS.1, hS.2, by omega⟩, by rw [heap_setCell_other _ _ _ _ hS.2]; exact hw.block k hk⟩) hOr⟩ ?_
  clear hOr hbr hw hR hF hX x0 x1 x2 fx0 fx1 fx2 y1 z1 B hgr hXl
  clear w1 W
  rintro W ⟨B, hX, hFX, hR, hF, hbr, hg1, hg2, hO⟩
  obtain ⟨aq, gq, cq, e1, hq1, hq2, hq3⟩ := hO.its
  clear hq2 hq3
  injection e1 with e1 e2 e3
  subst e1 e2 e3
  have hqx : (Value.slice s4 t.ts.length s6).ownBlock ≠ some bx := fun e => (hO.lt bx e).1.2.1 rfl
  have hqr : (Value.slice s4 t.ts.length s6).ownBlock ≠ some gr := fun e => (hO.lt gr e).1.2.2 rfl
  have hqb : (Value.slice s4 t.ts.length s6).ownBlock ≠ some (w.heap.size + 1) := fun e => by have := (hO.lt _ e).1.1; omega
  have hql : ∀ k, (Value.slice s4 t.ts.length s6).ownBlock = some k → w.heap.size ≤ k := fun k e => by have := (hO.lt _ e).1.1; omega
  obtain ⟨ps, hp, hrow, hq4, hOs⟩ := hO
  clear hq4
  obtain ⟨n, hn⟩ : ∃ n, n = t.ts.length := ⟨_, rfl⟩
  rw [← hn] at hX hqx hqr hqb hql hrow hn1
  have HNL : Hid (t.ts.length = n) := hn.symm
  have OR : Hid (W.ownsRow 0 29 3 (.slice s4 n s6) n (itC t.ts ps)) := hrow
  clear hn hrow hq1
  obtain ⟨x0, x1, x2⟩ := hX
  refine wp_seq_k fun K h => ?_
  have H : Hid _ := h
  clear h
  go_wp2_with fail
  refine H.out _ _ ?_
  clear H K
  have o1 : ∀ ob, (W.alloc ob).heap.size = W.heap.size + 1 := fun ob => World.size_alloc _ _
  have bA : Hid (∀ ob1 ob2, Below W.heap.size W ((W.alloc ob1).alloc ob2)) := fun ob1 ob2 => ((Below.refl W.heap.size W).alloc (Nat.le_refl _) ob1).alloc (by rw [o1]; omega) ob2
  have nw : Hid (∀ (ob : Obj) (u0 u1 u2 : Value) (ty : TypeId), ((W.alloc ob).alloc (.cells #[u0, u1, u2] ty)).cell? ⟨W.heap.size + 1, 0, none⟩ = some u0 ∧ ((W.alloc ob).alloc (.cells #[u0, u1, u2] ty)).cell? ⟨W.heap.size + 1, 1, none⟩ = some u1 ∧ ((W.alloc ob).alloc (.cells #[u0, u1, u2] ty)).cell? ⟨W.heap.size + 1, 2, none⟩ = some u2) := fun ob u0 u1 u2 ty => ⟨by simp [go_sem], by simp [go_sem], by simp [go_sem]⟩
  refine wp_seq_k fun K h => ?_
  have H : Hid _ := h
  clear h
  have hXB : Bx W bx lt (.slice (some ⟨gr, 0, none⟩) t.X.length (t.X.length + 9)) (.slice s4 n s6) := ⟨x0, x1, x2⟩
  have RR : Hid (∀ (ob1 ob2 : Obj) (w4 : World) (v' m0 m1 m2 : Value), w4.ownsRow 0 29 3 v' (n + 1) (itC t.ts ps ++ [m0, m1, m2]) → ((W.alloc ob1).alloc ob2).grownBy w4 (Value.slice s4 n s6).ownBlock → (v'.ownBlock = (Value.slice s4 n s6).ownBlock ∨ v'.ownBlock = some ((W.alloc ob1).alloc ob2).heap.size) → ∃ g c, v' = .slice (some ⟨g, 0, none⟩) (n + 1) c ∧ n + 1 ≤ c ∧ ∀ W5 : World, (∀ k, k < w4.heap.size → k ≠ bx → k ≠ w.heap.size + 1 → W5.heap[k]? = w4.heap[k]?) → Its W5 g 0 t.ts ∧ W5.rangeAt g (n * 3) [m0, m1, m2]) := fun ob1 ob2 w4 v' m0 m1 m2 ho hg hv => by
    have r := room_row (W := W) (W3 := (W.alloc ob1).alloc ob2) (w4 := w4) (ts := t.ts) (ps := ps) (S := fun k => w.heap.size + 1 < k ∧ k ≠ bx ∧ k ≠ gr) (q := .slice s4 n s6) (v' := v') (m0 := m0) (m1 := m1) (m2 := m2) (bx := bx) (rb := w.heap.size + 1) hp (by rw [← HNL.out]; exact hOs) (fun k h => ⟨h.2.1, by omega⟩) ⟨hqx, hqb⟩ (bA.out _ _) ⟨hXB.lt, hR.lt⟩ (by rw [HNL.out]; exact ho) hg hv
    rw [HNL.out] at r
    exact r
  clear hp hOs
  go_wp2_with (at_builtin; (refine wpList_append_it rfl _ _ rfl 0 (.slice s4 n s6) n (itC t.ts ps) rfl (row_kept OR.out fun k _ hk => (bA.out _ _).block k hk) (W.heap.size + 1) 1 _ _ _ rfl (nw.out _ _ _ _ _) ⟨rfl, rfl, rfl⟩ (by omega) (Nat.zero_le _) ?_); intro v' w4 ho hgw hv; (obtain ⟨g, c, rfl, hcc, hits⟩ := RR.out _ _ w4 v' _ _ _ ho hgw hv); (have hX4 := (hXB.keep (bA.out _ _)).grown hgw hqx); (have hF4 := Fr3.grown (hFX.keep hXB.lt (bA.out _ _)) (hXB.keep (bA.out _ _)).lt hgw hqx); (have y2 := hX4.2.2); (have z2 := hF4.2.2); (have hcc' : (n : Int) ≤ (c : Int) := by omega))
  refine H.out _ _ ?_
  clear H K
  have hbA := bA.out (.cells #[.int .u8 164] 5) (.cells #[.bool false, .slice (some ⟨W.heap.size, 0, none⟩) 1 1, .slice none 0 0] 29)
  have hqn : (Value.slice s4 n s6).ownBlock ≠ some W.heap.size := fun e => by have := (World.ownsRow.lt OR.out _ e).2; omega
  have hmk : Bz w4 W.heap.size 0 [164] := Bz.grownE (Bz.keep (bz_oneT W 164 _) ((Below.refl _ _).alloc (Nat.le_refl _) _)) hgw hqn
  have B4 : Below w.heap.size w w4 := ((B.trans (hbA.mono B.size))).grown hgw (Nat.le_trans B.size hbA.size) hql
  have HIT : Hid (∀ W5 : World, (∀ k, k < (w4.setCell ⟨bx, 2, none⟩ (.slice (some ⟨g, 0, none⟩) n c)).heap.size → k ≠ bx → k ≠ w.heap.size + 1 → W5.heap[k]? = (w4.setCell ⟨bx, 2, none⟩ (.slice (some ⟨g, 0, none⟩) n c)).heap[k]?) → Its W5 g 0 t.ts ∧ W5.rangeAt g (n * 3) [.bool false, .slice (some ⟨W.heap.size, 0, none⟩) 1 1, .slice none 0 0]) := fun W5 hW => hits W5 fun k hk h1 h2 => by
    rw [hW k (by rw [World.size_setCell]; exact hk) h1 h2, heap_setCell_other _ _ _ _ h1]
  refine wp_world (fun V => Below w.heap.size w V ∧ Bx V bx lt (.slice (some ⟨gr, 0, none⟩) t.X.length (t.X.length + 9)) (.slice (some ⟨g, 0, none⟩) n c) ∧ Bx V (w.heap.size + 1) false (.slice none 0 0) (.slice none 0 0) ∧ Fr3 V (w.heap.size + 1) ∧ Bz V gr 0 (t.X ++ List.replicate 9 165) ∧ Bz V W.heap.size 0 [164] ∧ W.heap.size ≠ w.heap.size + 1 ∧ Hid (∀ W5 : World, (∀ k, k < V.heap.size → k ≠ bx → k ≠ w.heap.size + 1 → W5.heap[k]? = V.heap[k]?) → Its W5 g 0 t.ts ∧ W5.rangeAt g (n * 3) [.bool false, .slice (some ⟨W.heap.size, 0, none⟩) 1 1, .slice none 0 0])) ⟨B4.setCell (by show w.heap.size ≤ bx; omega) _, hX4.set2 _, ((hR.keep hbA).grown hgw hqb).grown (grown_set _ _ _) (fun e => by have : bx = w.heap.size + 1 := Option.some.inj e; omega), Fr3.set (Fr3.grown (hF.keep hR.lt hbA) (hR.keep hbA).lt hgw hqb) _ _, ((hbr.keep hbA).grownE hgw hqr).grownE (grown_set _ _ _) (fun e => by have : bx = gr := Option.some.inj e; omega), hmk.grownE (grown_set _ _ _) (fun e => by have : bx = W.heap.size := Option.some.inj e; have := hXB.lt; omega), by have := hR.lt; omega, HIT⟩ ?_
  clear HIT hits ho hgw hv hX4 hF4 y2 z2 hXB RR nw bA OR hR hF hbr hFX x0 x1 x2 B o1 hqx hqr hqb hql hqn hmk B4 hbA
  clear w4
  generalize W.heap.size = gm
  clear W
  rintro V ⟨B, ⟨x0, x1, x2⟩, ⟨r0, r1, r2⟩, ⟨z0, z1, z2⟩, hbr, hbm, hgm, HIT⟩
  have NL : Hid (n + 1 ≤ c) := hcc
  clear hcc hcc'
  go_wp2
  simp [bodyPost, results, Try.results21, go_sem, r0, r1, r2]
  refine ⟨_, _, ⟨rfl, rfl⟩, ?_, ((B.setCell (by show w.heap.size ≤ w.heap.size + 1; omega) _).setCell (by show w.heap.size ≤ w.heap.size + 1; omega) _).setCell (by show w.heap.size ≤ w.heap.size + 1; omega) _⟩
  have fr : ∀ (u0 u1 u2 : Value) (k : Nat), k ≠ w.heap.size + 1 → (((V.setCell ⟨w.heap.size + 1, 0, none⟩ u0).setCell ⟨w.heap.size + 1, 1, none⟩ u1).setCell ⟨w.heap.size + 1, 2, none⟩ u2).heap[k]? = V.heap[k]? := fun u0 u1 u2 k hk => by
    rw [heap_setCell_other _ _ _ _ hk, heap_setCell_other _ _ _ _ hk, heap_setCell_other _ _ _ _ hk]
  have F := fr (.bool lt) (.slice (some ⟨gr, 0, none⟩) t.X.length (t.X.length + 9)) (.slice (some ⟨g, 0, none⟩) n c)
  generalize ((V.setCell ⟨w.heap.size + 1, 0, none⟩ (.bool lt)).setCell ⟨w.heap.size + 1, 1, none⟩ (.slice (some ⟨gr, 0, none⟩) t.X.length (t.X.length + 9))).setCell ⟨w.heap.size + 1, 2, none⟩ (.slice (some ⟨g, 0, none⟩) n c) = V3 at F ⊢
  obtain ⟨i1, i2⟩ := HIT.out V3 fun k _ _ h2 => F k h2
  have j1 : Bz V3 gr 0 (t.X ++ List.replicate 9 165) := hbr.same (F gr (by omega))
  have j2 : Bz V3 gm 0 [164] := hbm.same (F gm hgm)
  have NL2 := NL.out
  have e := HNL.out
  subst e
  refine ⟨?_, ⟨gr, rfl, j1⟩, g, c, gm, rfl, NL2, i2, j2⟩
  cases t with
  | mk l X ts =>
    rw [It]
    exact ⟨⟨_, gr, 0, _, rfl, ⟨Nat.le_add_right _ _, fun e => by cases e⟩, .inr rfl, j1.front⟩, _, g, 0, c, rfl, ⟨by have : ts.length + 1 ≤ c := NL2; omega, fun e => by cases e⟩, .inr rfl, i1⟩
end Go.Proofs.Ytdjjphcfobbipaa
