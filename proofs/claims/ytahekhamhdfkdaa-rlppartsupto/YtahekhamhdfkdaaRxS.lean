import Derived.Test.YtahekhamhdfkdaaRxQ
import Derived.Test.YtahekhamhdfkdaaRjE
import Derived.Test.YtahekhamhdfkdaaRsG
import Derived.Test.YtahekhamhdfkdaaDivAny
/- Layer 7: the statement's twin, room. -/
namespace Go.Proofs.Ytahekhamhdfkdaa
open Go.RowKit Go.Sort
theorem Oe.first {B : Nat} {W : World} {v : Value} {t : Tr} {ps : List (Value × Value)} (h : Oe B W v [t] ps) : ∃ g c d q, v = .slice (some ⟨g, 0, none⟩) 1 c ∧ Bx W g t.l d q ∧ Ot W t (fun k => B ≤ k) d q := by
  obtain ⟨h1, h2, h3, h4⟩ := h
  rcases h2.2 with ⟨_, h0⟩ | ⟨g, cap, cur, rfl, _⟩
  · cases h0
  · have hc := itC_at [t] ps h1 0 (by simp)
    have hl : ([t] : List Tr).length = 1 := rfl
    refine ⟨g, cap, _, _, rfl, ⟨(World.ownsRow.cellAt h2 0 (by omega)).trans hc.1, (World.ownsRow.cellAt h2 1 (by omega)).trans hc.2.1, (World.ownsRow.cellAt h2 2 (by omega)).trans hc.2.2⟩, Ot.conv _ (fun k _ hs => ⟨hs.1, rfl⟩) (h4.at 0 (by simp))⟩
theorem Bx.new {W : World} {t : TypeId} {l : Bool} {d q : Value} : Bx (W.alloc (.cells #[.bool l, d, q] t)) W.heap.size l d q := ⟨by simp [go_sem], by simp [go_sem], by simp [go_sem]⟩
theorem Bx.lt {W : World} {b : Nat} {l : Bool} {d q : Value} (h : Bx W b l d q) : b < W.heap.size := World.block_lt_of_cell? W _ h.1
theorem Its.one {W : World} {g : Nat} {t : Tr} {d q : Value} (h : Bx W g t.l d q) (hI : It W t d q) : Its W g 0 [t] := by
  rw [Its, Its]
  refine ⟨⟨d, q, fun j v hv => ?_, hI⟩, trivial⟩
  rw [Nat.zero_add]
  match j, hv with
  | 0, hv => simp at hv; subst hv; exact h.1
  | 1, hv => simp at hv; subst hv; exact h.2.1
  | 2, hv => simp at hv; subst hv; exact h.2.2
  | j + 3, hv => simp at hv
set_option maxRecDepth 100000 in
set_option maxHeartbeats 4000000 in
/-- The statement's twin. -/
theorem twin_any {t : Tr} {d q : Value} (hw : wtT t < 4194304) (w : World) (h : It w t d q) :
    Calls Try.prog 18 #[itV t d q] w fun e w' => ∃ d' q', e = .returned (itV t d' q') ∧ Ot w' t (fun k => w.heap.size + 1 < k) d' q' ∧ Below w.heap.size w w' := by
  have CP : Hid (∀ W, Below w.heap.size w W → w.heap.size + 1 < W.heap.size → Calls Try.prog 24 #[.slice (some ⟨W.heap.size, 0, none⟩) 1 1] (W.alloc (.cells #[.bool t.l, d, q] 26)) fun e w' => ∃ g c d' q', e = .returned (.slice (some ⟨g, 0, none⟩) 1 c) ∧ Bx w' g t.l d' q' ∧ Ot w' t (fun k => w.heap.size + 1 < k) d' q' ∧ Below W.heap.size W w') := fun W B hs => by
    have h2 := (rCopy_any (.mk false [] [t]) (a := some ⟨W.heap.size, 0, none⟩) (b := W.heap.size) (o := 0) (c := 1) (by show wtS [t] < _; rw [wtS, wtS]; omega) (.inr rfl) (W.alloc (.cells #[.bool t.l, d, q] 26)) (Its.one Bx.new (It.keep (B.alloc B.size _) t h)))
    refine h2.mono ?_
    rintro e w' ⟨v, ps, rfl, oe, hb⟩
    obtain ⟨g, c, d', q', rfl, hx, ho⟩ := Oe.first oe
    have cv : ∀ k, k < w'.heap.size → (W.alloc (.cells #[.bool t.l, d, q] 26)).heap.size ≤ k → w.heap.size + 1 < k ∧ w'.heap[k]? = w'.heap[k]? := fun k _ hk => by
      have e : W.heap.size + 1 ≤ k := by simpa using hk
      exact ⟨by omega, rfl⟩
    exact ⟨g, c, d', q', rfl, hx, Ot.conv _ cv ho, ((Below.refl _ _).alloc (Nat.le_refl _) _).trans (hb.mono (by simp))⟩
  obtain ⟨k1, k2, k3, k4, k5, k6, rfl, rfl⟩ := h.slices
  clear h hw
  unfold itV
  generalize hlt : t.l = lt at *
  clear hlt
  go_enter Try.func18, Try.ntmps18
  refine wp_seq_k fun K h => ?_
  have H : Hid _ := h
  clear h
  go_wp2_with fail
  refine H.out _ _ ?_
  clear H K
  refine wp_world (fun W => Below w.heap.size w W ∧ Bx W w.heap.size lt (.slice k1 k2 k3) (.slice k4 k5 k6) ∧ Bx W (w.heap.size + 1) false (.slice none 0 0) (.slice none 0 0) ∧ Fr3 W (w.heap.size + 1)) ⟨((Below.refl _ _).alloc (Nat.le_refl _) _).alloc (by simp) _, ⟨by simp [go_sem], by simp [go_sem], by simp [go_sem]⟩, ⟨by simp [go_sem], by simp [go_sem], by simp [go_sem]⟩, ⟨by simp [go_sem], by simp [go_sem], by simp [go_sem]⟩⟩ ?_
  rintro W ⟨B, hX, hR, hF⟩
  obtain ⟨x0, x1, x2⟩ := hX
  have CQ : Hid (Calls Try.prog 24 #[.slice (some ⟨W.heap.size, 0, none⟩) 1 1] (W.alloc (.cells #[.bool lt, .slice k1 k2 k3, .slice k4 k5 k6] 26)) fun e w' => ∃ g c d' q', e = .returned (.slice (some ⟨g, 0, none⟩) 1 c) ∧ Bx w' g lt d' q' ∧ Ot w' t (fun k => w.heap.size + 1 < k) d' q' ∧ Below W.heap.size W w') := CP.out W B hR.lt
  clear CP
  go_wp2_with ((with_reducible refine CQ.out.mono ?_); rintro e1 w1 ⟨g, c, d', q', rfl, hY, hO, hw⟩; (have hy := hY); (obtain ⟨y0, y1, y2⟩ := hy); (have hf1 := hF.keep hR.lt hw); (have hr1 := hR.keep hw); (obtain ⟨r0, r1, r2⟩ := hr1); (obtain ⟨z0, z1, z2⟩ := hf1); (have hsl := (Ot.it _ hO).slices); (obtain ⟨s1, s2, s3, s4, s5, s6, rfl, rfl⟩ := hsl); (clear x0 x1 x2))
  have BW := B.trans (hw.mono B.size)
  have hne : ∀ k, w.heap.size + 1 < k → k ≠ w.heap.size + 1 := fun k hk e => by omega
  simp [bodyPost, results, Try.results18, go_sem, r0, r1, r2]
  refine ⟨_, _, ⟨rfl, rfl⟩, ?_, ((BW.setCell (by show w.heap.size ≤ w.heap.size + 1; omega) _).setCell (by show w.heap.size ≤ w.heap.size + 1; omega) _).setCell (by show w.heap.size ≤ w.heap.size + 1; omega) _⟩
  refine Ot.conv _ (fun k _ hk => ⟨hk, ?_⟩) hO
  rw [heap_setCell_other _ _ _ _ (hne k hk), heap_setCell_other _ _ _ _ (hne k hk), heap_setCell_other _ _ _ _ (hne k hk)]
/-- What the statement's room answers: a tree with marks behind its text and its items. -/
def Rm (W : World) (t : Tr) (d q : Value) : Prop := It W t d q ∧ (∃ g, d = .slice (some ⟨g, 0, none⟩) t.X.length (t.X.length + 9) ∧ Bz W g 0 (t.X ++ List.replicate 9 165)) ∧ ∃ g c gm, q = .slice (some ⟨g, 0, none⟩) t.ts.length c ∧ t.ts.length + 1 ≤ c ∧ W.rangeAt g (t.ts.length * 3) [.bool false, .slice (some ⟨gm, 0, none⟩) 1 1, .slice none 0 0] ∧ Bz W gm 0 [164]
theorem Rm.keep {W W' : World} {t : Tr} {d q : Value} (h : Rm W t d q) (hb : Below W.heap.size W W') : Rm W' t d q := by
  obtain ⟨h1, ⟨g, h2, h3⟩, g', c, gm, k1, k2, k3, k4⟩ := h
  exact ⟨It.keep hb t h1, ⟨g, h2, h3.keep hb⟩, g', c, gm, k1, k2, rangeT_keep k3 hb, k4.keep hb⟩
theorem grown_set (w : World) (a : Addr) (v : Value) : w.grownBy (w.setCell a v) (some a.block) := ⟨rfl, rfl, rfl, by simp, fun k _ hk => heap_setCell_other _ _ _ _ fun e => hk (by rw [e])⟩
theorem Bx.grown {W W' : World} {b : Nat} {l : Bool} {d q : Value} {row : Option Nat} (h : Bx W b l d q) (hg : W.grownBy W' row) (hn : row ≠ some b) : Bx W' b l d q := by
  have e := hg.block b h.lt fun e => hn e.symm
  exact ⟨by rw [World.cell?_of_block e]; exact h.1, by rw [World.cell?_of_block e]; exact h.2.1, by rw [World.cell?_of_block e]; exact h.2.2⟩
theorem Fr3.grown {W W' : World} {b : Nat} {row : Option Nat} (h : Fr3 W b) (hb : b < W.heap.size) (hg : W.grownBy W' row) (hn : row ≠ some b) : Fr3 W' b := by
  have e := hg.block b hb fun e => hn e.symm
  exact ⟨by rw [World.frozen?_of_block e]; exact h.1, by rw [World.frozen?_of_block e]; exact h.2.1, by rw [World.frozen?_of_block e]; exact h.2.2⟩
theorem Orow.grown {W W' : World} {ts : List Tr} {S S' : Nat → Prop} {q : Value} {row : Option Nat} (h : Orow W ts S q) (hg : W.grownBy W' row) (hn : ∀ k, S k → row ≠ some k) (hs : ∀ k, S k → S' k) : Orow W' ts S' q := Orow.conv (fun k hk hS => ⟨hs k hS, hg.block k hk fun e => hn k hS e.symm⟩) h
end Go.Proofs.Ytahekhamhdfkdaa

/- Layer 7: the statement's stays, items. -/
namespace Go.Proofs.Ytahekhamhdfkdaa
open Go.RowKit Go.Sort
theorem Its.tree {W : World} {a : Option Addr} {b o c : Nat} {ts : List Tr} (l : Bool) (h : Its W b o ts) (hc : ts.length ≤ c ∧ (a = none → c = 0)) (ha : ts = [] ∨ a = some ⟨b, o, none⟩) : It W (.mk l [] ts) (.slice none 0 0) (.slice a ts.length c) := by
  rw [It]
  exact ⟨⟨none, 0, 0, 0, rfl, ⟨Nat.le_refl _, fun _ => rfl⟩, .inl rfl, fun i hi => absurd hi (Nat.not_lt_zero _)⟩, a, b, o, c, rfl, hc, ha, h⟩
end Go.Proofs.Ytahekhamhdfkdaa

/- Layer 7: what is read of an item. -/
namespace Go.Proofs.Ytahekhamhdfkdaa
open Go.RowKit Go.Sort
end Go.Proofs.Ytahekhamhdfkdaa

/- Layer 7: what is read of an item: texts of a length, numbers. -/
namespace Go.Proofs.Ytahekhamhdfkdaa
open Go.RowKit Go.Sort
/-- A number 0 in a block that may be written. -/
def Rz (W : World) (b : Nat) : Prop := W.cell? ⟨b, 0, none⟩ = some (.int .u64 0) ∧ W.cell? ⟨b, 1, none⟩ = some (.int .u64 0) ∧ W.cell? ⟨b, 2, none⟩ = some (.int .u64 0) ∧ W.cell? ⟨b, 3, none⟩ = some (.int .u64 0) ∧ W.frozen? ⟨b, 0, none⟩ = false ∧ W.frozen? ⟨b, 1, none⟩ = false ∧ W.frozen? ⟨b, 2, none⟩ = false ∧ W.frozen? ⟨b, 3, none⟩ = false
theorem Rz.keep {W w1 : World} {b : Nat} (x : Rz W b) (hlt : b < W.heap.size) (hb : Below W.heap.size W w1) : Rz w1 b := ⟨keepC hb x.1, keepC hb x.2.1, keepC hb x.2.2.1, keepC hb x.2.2.2.1, by rw [hb.frozen (p := ⟨b, 0, none⟩) hlt]; exact x.2.2.2.2.1, by rw [hb.frozen (p := ⟨b, 1, none⟩) hlt]; exact x.2.2.2.2.2.1, by rw [hb.frozen (p := ⟨b, 2, none⟩) hlt]; exact x.2.2.2.2.2.2.1, by rw [hb.frozen (p := ⟨b, 3, none⟩) hlt]; exact x.2.2.2.2.2.2.2⟩
end Go.Proofs.Ytahekhamhdfkdaa

/- Layer 7: RlpReads. -/
namespace Go.Proofs.Ytahekhamhdfkdaa
open Go.RowKit Go.Sort
theorem Rm.form {W : World} {t : Tr} {d q : Value} (h : Rm W t d q) : ∃ gr g c, d = .slice (some ⟨gr, 0, none⟩) t.X.length (t.X.length + 9) ∧ q = .slice (some ⟨g, 0, none⟩) t.ts.length c := by
  obtain ⟨_, ⟨gr, h1, _⟩, g, c, gm, h2, _⟩ := h
  exact ⟨gr, g, c, h1, h2⟩
theorem Rm.parts {W : World} {t : Tr} {gr g c n1 n2 n3 : Nat} (h : Rm W t (.slice (some ⟨gr, 0, none⟩) n1 n2) (.slice (some ⟨g, 0, none⟩) n3 c)) : Bz W gr 0 t.X ∧ (t.ts = [] ∨ some (⟨g, 0, none⟩ : Addr) = some ⟨g, 0, none⟩) ∧ Its W g 0 t.ts := by
  obtain ⟨hI, ⟨gr', h1, h2⟩, _⟩ := h
  injection h1 with h1 _ _
  injection h1 with h1
  injection h1 with h1 _ _
  subst h1
  obtain ⟨_, _, _, _, a2, b2, o2, c2, _, _, _, _, e2, _, k2, k3⟩ := hI.open
  injection e2 with e2 _ _
  subst e2
  rcases k2 with e | e
  · rw [e]; exact ⟨h2.front, .inl rfl, by rw [Its]; trivial⟩
  · injection e with e
    injection e with e1 e2 _
    subst e1 e2
    exact ⟨h2.front, .inr rfl, k3⟩
end Go.Proofs.Ytahekhamhdfkdaa

/- Layer 7: Text, Number, Small, List. -/
namespace Go.Proofs.Ytahekhamhdfkdaa
open Go.RowKit Go.Sort
theorem Ot.stored {w1 : World} {t : Tr} {d q : Value} {rb B : Nat} (hO : Ot w1 t (fun k => B ≤ k) d q) (hrb : rb < B) (u0 u1 u2 : Value) : Ot (((w1.setCell ⟨rb, 0, none⟩ u0).setCell ⟨rb, 1, none⟩ u1).setCell ⟨rb, 2, none⟩ u2) t (fun k => B ≤ k) d q := by
  have hne : ∀ k, B ≤ k → k ≠ rb := fun k hk e => by omega
  refine Ot.conv _ (fun k _ hk => ⟨hk, ?_⟩) hO
  rw [heap_setCell_other _ _ _ _ (hne k hk), heap_setCell_other _ _ _ _ (hne k hk), heap_setCell_other _ _ _ _ (hne k hk)]
theorem Ot.base {W : World} {t : Tr} {d q : Value} {B B' : Nat} (h : Ot W t (fun k => B ≤ k) d q) (hB : B' ≤ B) : Ot W t (fun k => B' ≤ k) d q := Ot.conv _ (fun _ _ hk => ⟨Nat.le_trans hB hk, rfl⟩) h
/-- A block of three cells that may be written. -/
def Rb3 (W : World) (b : Nat) : Prop := Bx W b false (.slice none 0 0) (.slice none 0 0) ∧ Fr3 W b
theorem Rb3.keep {W w1 : World} {b : Nat} (x : Rb3 W b) (hb : Below W.heap.size W w1) : Rb3 w1 b := ⟨x.1.keep hb, x.2.keep x.1.lt hb⟩
end Go.Proofs.Ytahekhamhdfkdaa

/- Layer 7: RlpMakes. -/
namespace Go.Proofs.Ytahekhamhdfkdaa
open Go.RowKit Go.Sort
end Go.Proofs.Ytahekhamhdfkdaa
