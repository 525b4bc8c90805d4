import Derived.Test.YtkbdpkgfnbfgmaaDoorRxP
import Derived.Test.YtkbdpkgfnbfgmaaDoorRjA
import Derived.Test.YtkbdpkgfnbfgmaaDoorRsA
import Derived.Test.YtkbdpkgfnbfgmaaDoorDivAny
/- Layer 7: the document's bound (level by level): it answers. -/
namespace Go.Proofs.YtkbdpkgfnbfgmaaDoor
open Go.RowKit Go.Sort
/-- Items in a row of one's own whose texts and items lie in an older memory. -/
def Lv (w W : World) (v : Value) (L : List Tr) (ps : List (Value × Value)) : Prop := ps.length = L.length ∧ W.ownsRow w.heap.size 40 3 v L.length (itC L ps) ∧ ∀ i, i < L.length → It w (L.getD i zT) (ps.getD i zV).1 (ps.getD i zV).2
theorem Lv.nil (w W : World) : Lv w W (.slice none 0 0) [] [] := ⟨rfl, ⟨rfl, .inl ⟨rfl, rfl⟩⟩, fun _ hi => absurd hi (Nat.not_lt_zero _)⟩
theorem Lv.keep {w W W' : World} {v : Value} {L : List Tr} {ps : List (Value × Value)} (h : Lv w W v L ps) (hb : Below W.heap.size W W') : Lv w W' v L ps := ⟨h.1, row_kept h.2.1 fun k _ hk => hb.block k hk, h.2.2⟩
theorem Lv.grown {w W W' : World} {v : Value} {L : List Tr} {ps : List (Value × Value)} {row : Option Nat} (h : Lv w W v L ps) (hg : W.grownBy W' row) (hn : ∀ k, v.ownBlock = some k → row ≠ some k) : Lv w W' v L ps := ⟨h.1, row_kept h.2.1 fun k e hk => hg.block k hk fun q => hn k e q.symm, h.2.2⟩
theorem itC_app : ∀ (ts us : List Tr) (ps qs : List (Value × Value)), ps.length = ts.length → itC ts ps ++ itC us qs = itC (ts ++ us) (ps ++ qs)
  | [], _, [], _, _ => rfl
  | [], _, _ :: _, _, h => by simp at h
  | _ :: _, _, [], _, h => by simp at h
  | t :: ts, us, p :: ps, qs, h => by
    have := itC_app ts us ps qs (by simpa using h)
    simp only [itC, List.cons_append, this]
theorem itC_one : ∀ (ts : List Tr) (ps : List (Value × Value)) (_ : ∀ i, i < ts.length → (ps.getD i zV).1.oneCell' = true ∧ (ps.getD i zV).2.oneCell' = true), ∀ u ∈ itC ts ps, u.oneCell' = true
  | [], _, _, u, hu => by simp [itC] at hu
  | _ :: _, [], _, u, hu => by simp [itC] at hu
  | t :: ts, p :: ps, h, u, hu => by
    simp only [itC, List.mem_cons] at hu
    have h0 : p.1.oneCell' = true ∧ p.2.oneCell' = true := h 0 (by simp)
    rcases hu with rfl | rfl | rfl | hu
    · rfl
    · exact h0.1
    · exact h0.2
    · exact itC_one ts ps (fun i hi => h (i + 1) (by simpa using hi)) u hu
/-- The cells of items in a row. -/
theorem Its.cells {W : World} {b o : Nat} {ts : List Tr} (h : Its W b o ts) : ∃ ps : List (Value × Value), ps.length = ts.length ∧ W.rangeAt b o (itC ts ps) ∧ (∀ i, i < ts.length → It W (ts.getD i zT) (ps.getD i zV).1 (ps.getD i zV).2) := by
  induction ts generalizing o with
  | nil => exact ⟨[], rfl, fun j v hv => by simp [itC] at hv, fun i hi => absurd hi (Nat.not_lt_zero _)⟩
  | cons t ts ih =>
    rw [Its] at h
    obtain ⟨⟨d, q, h1, h2⟩, h3⟩ := h
    obtain ⟨ps, k1, k2, k3⟩ := ih h3
    refine ⟨(d, q) :: ps, by simp [k1], fun j v hv => ?_, fun i hi => ?_⟩
    · match j, hv with
      | 0, hv => exact h1 0 v hv
      | 1, hv => exact h1 1 v hv
      | 2, hv => exact h1 2 v hv
      | j + 3, hv =>
        have := k2 j v hv
        rw [show o + (j + 3) = o + 3 + j by omega]; exact this
    · match i, hi with
      | 0, _ => exact h2
      | i + 1, hi => exact k3 i (by simpa using hi)
theorem It.one {W : World} {t : Tr} {d q : Value} (h : It W t d q) : d.oneCell' = true ∧ q.oneCell' = true := by
  obtain ⟨_, _, _, _, _, _, _, _, rfl, _, _, _, rfl, _⟩ := h.open
  exact ⟨rfl, rfl⟩
/-- Some items more. -/
theorem Lv.app {w W : World} {v : Value} {L ts : List Tr} {ps : List (Value × Value)} {a : Option Addr} {b o c : Nat} {ty : TypeId} (h : Lv w W v L ps) (hI : Its w b o ts) (ha : ts = [] ∨ a = some ⟨b, o, none⟩) (hc : a = none → c = 0) (hB : Below w.heap.size w W) (hn : L.length + ts.length < 100000000000) :
    ∃ v' w' qs, (Builtin.append_ #[38, 38] ty #[v, .slice a ts.length c]).run Tryd.prog W = .ok v' w' ∧ Lv w w' v' (L ++ ts) qs ∧ W.grownBy w' v.ownBlock ∧ (v'.ownBlock = v.ownBlock ∨ v'.ownBlock = some W.heap.size) := by
  obtain ⟨i, hi, hi2⟩ := Option.map_eq_some_iff.1 info_it
  simp only [Prod.mk.injEq] at hi2
  obtain ⟨qs, k1, k2, k3⟩ := hI.cells
  by_cases h0 : ts = []
  · subst h0
    obtain rfl : qs = [] := List.eq_nil_of_length_eq_zero k1
    cases a with
    | none =>
      obtain rfl := hc rfl
      exact ⟨v, W, ps, run_append_owned_none (P := Tryd.prog) W w.heap.size 38 ty 40 i 3 Tryd.underlying38 hi v L.length _ h.2.1, by rw [List.append_nil]; exact h, World.grownBy.refl _ _, .inl rfl⟩
    | some ad =>
      obtain ⟨v', w', hr, h2, h3, _, h5⟩ := run_append_own_at (P := Tryd.prog) W w.heap.size 38 ty 40 i _ 3 56 Tryd.underlying38 hi hi2.1 hi2.2.1 hi2.2.2 rfl (by omega) v L.length _ h.2.1 ad 0 c [] rfl (fun j u hu => by simp at hu) (fun u hu => by cases hu) (by unfold maxLen; simp at hn; omega) (by simp at hn; omega) hB.size
      refine ⟨v', w', ps, hr, ⟨by simpa using h.1, by simpa using h2, by simpa using h.2.2⟩, h3, h5⟩
  · obtain rfl : a = some ⟨b, o, none⟩ := ha.resolve_left h0
    obtain ⟨v', w', hr, h2, h3, _, h5⟩ := run_append_own_at (P := Tryd.prog) W w.heap.size 38 ty 40 i _ 3 56 Tryd.underlying38 hi hi2.1 hi2.2.1 hi2.2.2 rfl (by omega) v L.length _ h.2.1 ⟨b, o, none⟩ ts.length c (itC ts qs) (itC_len _ _ k1) (fun j u hu => by
      rw [Addr.add_mid]; exact rangeT_keep k2 hB j u hu) (itC_one _ _ fun i hi => (k3 i hi).one) (by unfold maxLen; omega) (by omega) hB.size
    refine ⟨v', w', ps ++ qs, hr, ⟨by simp [h.1, k1], ?_, fun i hi => ?_⟩, h3, h5⟩
    · rw [← itC_app _ _ _ _ h.1, List.length_append]; exact h2
    · rw [List.length_append] at hi
      by_cases e : i < L.length
      · have e1 : (L ++ ts).getD i zT = L.getD i zT := by simp [List.getD, List.getElem?_append_left e]
        have e2 : (ps ++ qs).getD i zV = ps.getD i zV := by simp [List.getD, List.getElem?_append_left (show i < ps.length by have := h.1; omega)]
        rw [e1, e2]; exact h.2.2 i e
      · have e1 : (L ++ ts).getD i zT = ts.getD (i - L.length) zT := by simp [List.getD, List.getElem?_append_right (show L.length ≤ i by omega)]
        have e2 : (ps ++ qs).getD i zV = qs.getD (i - L.length) zV := by have := h.1; rw [List.getD, List.getElem?_append_right (show ps.length ≤ i by omega), this]; rfl
        rw [e1, e2]; exact k3 _ (by omega)
end Go.Proofs.YtkbdpkgfnbfgmaaDoor

/- Layer 7: the statement's twin, room. -/
namespace Go.Proofs.YtkbdpkgfnbfgmaaDoor
open Go.RowKit Go.Sort
theorem Oe.first {B : Nat} {W : World} {v : Value} {t : Tr} {ps : List (Value × Value)} (h : Oe B W v [t] ps) : ∃ g c d q, v = .slice (some ⟨g, 0, none⟩) 1 c ∧ Bx W g t.l d q ∧ Ot W t (fun k => B ≤ k) d q := by
  obtain ⟨h1, h2, h3, h4⟩ := h
  rcases h2.2 with ⟨_, h0⟩ | ⟨g, cap, cur, rfl, _⟩
  · cases h0
  · have hc := itC_at [t] ps h1 0 (by simp)
    have hl : ([t] : List Tr).length = 1 := rfl
    refine ⟨g, cap, _, _, rfl, ⟨(World.ownsRow.cellAt h2 0 (by omega)).trans hc.1, (World.ownsRow.cellAt h2 1 (by omega)).trans hc.2.1, (World.ownsRow.cellAt h2 2 (by omega)).trans hc.2.2⟩, Ot.conv _ (fun k _ hs => ⟨hs.1, rfl⟩) (h4.at 0 (by simp))⟩
theorem Bx.new {W : World} {t : TypeId} {l : Bool} {d q : Value} : Bx (W.alloc (.cells #[.bool l, d, q] t)) W.heap.size l d q := ⟨by simp [go_sem], by simp [go_sem], by simp [go_sem]⟩
theorem Bx.lt {W : World} {b : Nat} {l : Bool} {d q : Value} (h : Bx W b l d q) : b < W.heap.size := World.block_lt_of_cell? W _ h.1
theorem Its.one {W : World} {g : Nat} {t : Tr} {d q : Value} (h : Bx W g t.l d q) (hI : It W t d q) : Its W g 0 [t] := by
  rw [Its, Its]
  refine ⟨⟨d, q, fun j v hv => ?_, hI⟩, trivial⟩
  rw [Nat.zero_add]
  match j, hv with
  | 0, hv => simp at hv; subst hv; exact h.1
  | 1, hv => simp at hv; subst hv; exact h.2.1
  | 2, hv => simp at hv; subst hv; exact h.2.2
  | j + 3, hv => simp at hv
/-- What the statement's room answers: a tree with marks behind its text and its items. -/
def Rm (W : World) (t : Tr) (d q : Value) : Prop := It W t d q ∧ (∃ g, d = .slice (some ⟨g, 0, none⟩) t.X.length (t.X.length + 9) ∧ Bz W g 0 (t.X ++ List.replicate 9 165)) ∧ ∃ g c gm, q = .slice (some ⟨g, 0, none⟩) t.ts.length c ∧ t.ts.length + 1 ≤ c ∧ W.rangeAt g (t.ts.length * 3) [.bool false, .slice (some ⟨gm, 0, none⟩) 1 1, .slice none 0 0] ∧ Bz W gm 0 [164]
theorem Rm.keep {W W' : World} {t : Tr} {d q : Value} (h : Rm W t d q) (hb : Below W.heap.size W W') : Rm W' t d q := by
  obtain ⟨h1, ⟨g, h2, h3⟩, g', c, gm, k1, k2, k3, k4⟩ := h
  exact ⟨It.keep hb t h1, ⟨g, h2, h3.keep hb⟩, g', c, gm, k1, k2, rangeT_keep k3 hb, k4.keep hb⟩
theorem grown_set (w : World) (a : Addr) (v : Value) : w.grownBy (w.setCell a v) (some a.block) := ⟨rfl, rfl, rfl, by simp, fun k _ hk => heap_setCell_other _ _ _ _ fun e => hk (by rw [e])⟩
theorem Bx.grown {W W' : World} {b : Nat} {l : Bool} {d q : Value} {row : Option Nat} (h : Bx W b l d q) (hg : W.grownBy W' row) (hn : row ≠ some b) : Bx W' b l d q := by
  have e := hg.block b h.lt fun e => hn e.symm
  exact ⟨by rw [World.cell?_of_block e]; exact h.1, by rw [World.cell?_of_block e]; exact h.2.1, by rw [World.cell?_of_block e]; exact h.2.2⟩
theorem Fr3.grown {W W' : World} {b : Nat} {row : Option Nat} (h : Fr3 W b) (hb : b < W.heap.size) (hg : W.grownBy W' row) (hn : row ≠ some b) : Fr3 W' b := by
  have e := hg.block b hb fun e => hn e.symm
  exact ⟨by rw [World.frozen?_of_block e]; exact h.1, by rw [World.frozen?_of_block e]; exact h.2.1, by rw [World.frozen?_of_block e]; exact h.2.2⟩
theorem Orow.grown {W W' : World} {ts : List Tr} {S S' : Nat → Prop} {q : Value} {row : Option Nat} (h : Orow W ts S q) (hg : W.grownBy W' row) (hn : ∀ k, S k → row ≠ some k) (hs : ∀ k, S k → S' k) : Orow W' ts S' q := Orow.conv (fun k hk hS => ⟨hs k hS, hg.block k hk fun e => hn k hS e.symm⟩) h
end Go.Proofs.YtkbdpkgfnbfgmaaDoor

/- Layer 7: the statement's stays, items. -/
namespace Go.Proofs.YtkbdpkgfnbfgmaaDoor
open Go.RowKit Go.Sort
theorem Its.tree {W : World} {a : Option Addr} {b o c : Nat} {ts : List Tr} (l : Bool) (h : Its W b o ts) (hc : ts.length ≤ c ∧ (a = none → c = 0)) (ha : ts = [] ∨ a = some ⟨b, o, none⟩) : It W (.mk l [] ts) (.slice none 0 0) (.slice a ts.length c) := by
  rw [It]
  exact ⟨⟨none, 0, 0, 0, rfl, ⟨Nat.le_refl _, fun _ => rfl⟩, .inl rfl, fun i hi => absurd hi (Nat.not_lt_zero _)⟩, a, b, o, c, rfl, hc, ha, h⟩
end Go.Proofs.YtkbdpkgfnbfgmaaDoor

/- Layer 7: what is read of an item. -/
namespace Go.Proofs.YtkbdpkgfnbfgmaaDoor
open Go.RowKit Go.Sort
end Go.Proofs.YtkbdpkgfnbfgmaaDoor

/- Layer 7: what is read of an item: texts of a length, numbers. -/
namespace Go.Proofs.YtkbdpkgfnbfgmaaDoor
open Go.RowKit Go.Sort
/-- A number 0 in a block that may be written. -/
def Rz (W : World) (b : Nat) : Prop := W.cell? ⟨b, 0, none⟩ = some (.int .u64 0) ∧ W.cell? ⟨b, 1, none⟩ = some (.int .u64 0) ∧ W.cell? ⟨b, 2, none⟩ = some (.int .u64 0) ∧ W.cell? ⟨b, 3, none⟩ = some (.int .u64 0) ∧ W.frozen? ⟨b, 0, none⟩ = false ∧ W.frozen? ⟨b, 1, none⟩ = false ∧ W.frozen? ⟨b, 2, none⟩ = false ∧ W.frozen? ⟨b, 3, none⟩ = false
theorem Rz.keep {W w1 : World} {b : Nat} (x : Rz W b) (hlt : b < W.heap.size) (hb : Below W.heap.size W w1) : Rz w1 b := ⟨keepC hb x.1, keepC hb x.2.1, keepC hb x.2.2.1, keepC hb x.2.2.2.1, by rw [hb.frozen (p := ⟨b, 0, none⟩) hlt]; exact x.2.2.2.2.1, by rw [hb.frozen (p := ⟨b, 1, none⟩) hlt]; exact x.2.2.2.2.2.1, by rw [hb.frozen (p := ⟨b, 2, none⟩) hlt]; exact x.2.2.2.2.2.2.1, by rw [hb.frozen (p := ⟨b, 3, none⟩) hlt]; exact x.2.2.2.2.2.2.2⟩
end Go.Proofs.YtkbdpkgfnbfgmaaDoor

/- Layer 7: RlpReads. -/
namespace Go.Proofs.YtkbdpkgfnbfgmaaDoor
open Go.RowKit Go.Sort
theorem Rm.form {W : World} {t : Tr} {d q : Value} (h : Rm W t d q) : ∃ gr g c, d = .slice (some ⟨gr, 0, none⟩) t.X.length (t.X.length + 9) ∧ q = .slice (some ⟨g, 0, none⟩) t.ts.length c := by
  obtain ⟨_, ⟨gr, h1, _⟩, g, c, gm, h2, _⟩ := h
  exact ⟨gr, g, c, h1, h2⟩
theorem Rm.parts {W : World} {t : Tr} {gr g c n1 n2 n3 : Nat} (h : Rm W t (.slice (some ⟨gr, 0, none⟩) n1 n2) (.slice (some ⟨g, 0, none⟩) n3 c)) : Bz W gr 0 t.X ∧ (t.ts = [] ∨ some (⟨g, 0, none⟩ : Addr) = some ⟨g, 0, none⟩) ∧ Its W g 0 t.ts := by
  obtain ⟨hI, ⟨gr', h1, h2⟩, _⟩ := h
  injection h1 with h1 _ _
  injection h1 with h1
  injection h1 with h1 _ _
  subst h1
  obtain ⟨_, _, _, _, a2, b2, o2, c2, _, _, _, _, e2, _, k2, k3⟩ := hI.open
  injection e2 with e2 _ _
  subst e2
  rcases k2 with e | e
  · rw [e]; exact ⟨h2.front, .inl rfl, by rw [Its]; trivial⟩
  · injection e with e
    injection e with e1 e2 _
    subst e1 e2
    exact ⟨h2.front, .inr rfl, k3⟩
end Go.Proofs.YtkbdpkgfnbfgmaaDoor

/- Layer 7: Text, Number, Small, List. -/
namespace Go.Proofs.YtkbdpkgfnbfgmaaDoor
open Go.RowKit Go.Sort
theorem Ot.stored {w1 : World} {t : Tr} {d q : Value} {rb B : Nat} (hO : Ot w1 t (fun k => B ≤ k) d q) (hrb : rb < B) (u0 u1 u2 : Value) : Ot (((w1.setCell ⟨rb, 0, none⟩ u0).setCell ⟨rb, 1, none⟩ u1).setCell ⟨rb, 2, none⟩ u2) t (fun k => B ≤ k) d q := by
  have hne : ∀ k, B ≤ k → k ≠ rb := fun k hk e => by omega
  refine Ot.conv _ (fun k _ hk => ⟨hk, ?_⟩) hO
  rw [heap_setCell_other _ _ _ _ (hne k hk), heap_setCell_other _ _ _ _ (hne k hk), heap_setCell_other _ _ _ _ (hne k hk)]
theorem Ot.base {W : World} {t : Tr} {d q : Value} {B B' : Nat} (h : Ot W t (fun k => B ≤ k) d q) (hB : B' ≤ B) : Ot W t (fun k => B' ≤ k) d q := Ot.conv _ (fun _ _ hk => ⟨Nat.le_trans hB hk, rfl⟩) h
theorem ot_text {W : World} {B : Nat} {v : Value} {X : List Int} (h : OwnB B W v X) : Ot W (.mk false X []) (fun k => B ≤ k) v (.slice none 0 0) := Ot.mk (row_base h fun _ _ => Nat.zero_le _) (fun k e => (h.lt k e).1) (Orow.nil _ _)
theorem ot_list {W : World} {B : Nat} {v : Value} {ts : List Tr} {ps : List (Value × Value)} (h : Oe B W v ts ps) : Ot W (.mk true [] ts) (fun k => B ≤ k) (.slice none 0 0) v := Ot.mk (OwnB.nil _ _) (fun k e => by cases e) h.row
theorem below_three {w w1 : World} {rb : Nat} (B : Below w.heap.size w w1) (h : w.heap.size ≤ rb) (u0 u1 u2 : Value) : Below w.heap.size w (((w1.setCell ⟨rb, 0, none⟩ u0).setCell ⟨rb, 1, none⟩ u1).setCell ⟨rb, 2, none⟩ u2) :=
  ((B.setCell (by exact h) _).setCell (by exact h) _).setCell (by exact h) _
/-- A block of three cells that may be written. -/
def Rb3 (W : World) (b : Nat) : Prop := Bx W b false (.slice none 0 0) (.slice none 0 0) ∧ Fr3 W b
theorem Rb3.keep {W w1 : World} {b : Nat} (x : Rb3 W b) (hb : Below W.heap.size W w1) : Rb3 w1 b := ⟨x.1.keep hb, x.2.keep x.1.lt hb⟩
set_option maxRecDepth 100000 in
set_option maxHeartbeats 4000000 in
theorem text_any {X : List Int} {a : Option Addr} {b o c n : Nat} (hn : n = X.length) (hl : X.length < 16777216) (ha : Az a b o X) (w : World) (hz : Bz w b o X) :
    Calls Tryd.prog 15 #[.slice a n c] w fun e w' => ∃ d q, e = .returned (itV (.mk false X []) d q) ∧ Ot w' (.mk false X []) (fun k => w.heap.size ≤ k) d q ∧ Below w.heap.size w w' := by
  have C : Hid (∀ W, Below w.heap.size w W → Calls Tryd.prog 27 #[.slice a n c] W fun e w' => ∃ v, e = .returned v ∧ OwnB W.heap.size w' v X ∧ Below W.heap.size W w') := fun W B => bclone_all hn (by omega) ha W (hz.keep B)
  clear hl ha hz hn
  unfold itV
  go_enter Tryd.func15, Tryd.ntmps15
  go_wp2_with ((with_reducible refine (C.out _ ((Below.refl w.heap.size w).alloc (Nat.le_refl _) _)).mono ?_); rintro e1 w1 ⟨v, rfl, O1, hw⟩; (obtain ⟨⟨r0, r1, r2⟩, f0, f1, f2⟩ : Rb3 w1 (w.heap.size) := Rb3.keep ⟨⟨by simp [go_sem], by simp [go_sem], by simp [go_sem]⟩, by simp [go_sem], by simp [go_sem], by simp [go_sem]⟩ hw); (have B1 : Below w.heap.size w w1 := ((Below.refl w.heap.size w).alloc (Nat.le_refl _) _).trans (hw.mono (by simp))); (obtain ⟨av, gv1, cv, rfl, _⟩ := O1.lies))
  simp [bodyPost, results, Tryd.results15, go_sem, r0, r1, r2]
  exact ⟨_, _, ⟨rfl, rfl, rfl⟩, Ot.base (B := w.heap.size + 1) (Ot.stored (ot_text (O1.base (by simp))) (by omega) _ _ _) (by omega), below_three B1 (by omega) _ _ _⟩
set_option maxRecDepth 100000 in
set_option maxHeartbeats 4000000 in
theorem rText_any {X : List Int} {a : Option Addr} {b o c n : Nat} (hn : n = X.length) (hl : X.length < 16777216) (ha : Az a b o X) (hnc : a = none → c = 0) (w : World) (hz : Bz w b o X) :
    Calls Tryd.prog 18 #[.slice a n c] w fun e w' => ∃ d q, e = .returned (itV (.mk false X []) d q) ∧ Ot w' (.mk false X []) (fun k => w.heap.size ≤ k) d q ∧ Below w.heap.size w w' := by
  have C : Hid (∀ W, Below w.heap.size w W → Calls Tryd.prog 31 #[.slice a n c] W fun e w' => ∃ v, e = .returned v ∧ OwnB W.heap.size w' v X ∧ Below W.heap.size W w') := fun W B => r7bytes_any hn (by omega) ha hnc W (hz.keep B)
  clear hl ha hz hnc hn
  unfold itV
  go_enter Tryd.func18, Tryd.ntmps18
  go_wp2_with ((with_reducible refine (C.out _ ((Below.refl w.heap.size w).alloc (Nat.le_refl _) _)).mono ?_); rintro e1 w1 ⟨v, rfl, O1, hw⟩; (obtain ⟨⟨r0, r1, r2⟩, f0, f1, f2⟩ : Rb3 w1 (w.heap.size) := Rb3.keep ⟨⟨by simp [go_sem], by simp [go_sem], by simp [go_sem]⟩, by simp [go_sem], by simp [go_sem], by simp [go_sem]⟩ hw); (have B1 : Below w.heap.size w w1 := ((Below.refl w.heap.size w).alloc (Nat.le_refl _) _).trans (hw.mono (by simp))); (obtain ⟨av, gv1, cv, rfl, _⟩ := O1.lies))
  simp [bodyPost, results, Tryd.results18, go_sem, r0, r1, r2]
  exact ⟨_, _, ⟨rfl, rfl, rfl⟩, Ot.base (B := w.heap.size + 1) (Ot.stored (ot_text (O1.base (by simp))) (by omega) _ _ _) (by omega), below_three B1 (by omega) _ _ _⟩
set_option maxRecDepth 100000 in
set_option maxHeartbeats 4000000 in
theorem number_any {n : Int} (hn : Num n) (w : World) :
    Calls Tryd.prog 28 #[.agg #[.int .u64 (l0 n), .int .u64 (l1 n), .int .u64 (l2 n), .int .u64 (l3 n)]] w fun e w' => ∃ d q, e = .returned (itV (.mk false (stripL (putL n)) []) d q) ∧ Ot w' (.mk false (stripL (putL n)) []) (fun k => w.heap.size ≤ k) d q ∧ Below w.heap.size w w' := by
  have C : Hid (∀ W, Below w.heap.size w W → Calls Tryd.prog 44 #[.agg #[.int .u64 (l0 n), .int .u64 (l1 n), .int .u64 (l2 n), .int .u64 (l3 n)]] W fun e w' => ∃ v, e = .returned v ∧ OwnB W.heap.size w' v (stripL (putL n)) ∧ Below W.heap.size W w') := fun W _ => bytes_any hn W
  generalize stripL (putL n) = X at *
  clear hn
  unfold itV
  go_enter Tryd.func28, Tryd.ntmps28
  go_wp2_with ((with_reducible refine (C.out _ (((Below.refl w.heap.size w).alloc (Nat.le_refl _) _).alloc (by simp) _)).mono ?_); rintro e1 w1 ⟨v, rfl, O1, hw⟩; (obtain ⟨⟨r0, r1, r2⟩, f0, f1, f2⟩ : Rb3 w1 (w.heap.size + 1) := Rb3.keep ⟨⟨by simp [go_sem], by simp [go_sem], by simp [go_sem]⟩, by simp [go_sem], by simp [go_sem], by simp [go_sem]⟩ hw); (have B1 : Below w.heap.size w w1 := (((Below.refl w.heap.size w).alloc (Nat.le_refl _) _).alloc (by simp) _).trans (hw.mono (by simp; omega))); (obtain ⟨av, gv1, cv, rfl, _⟩ := O1.lies))
  simp [bodyPost, results, Tryd.results28, go_sem, r0, r1, r2]
  exact ⟨_, _, ⟨rfl, rfl, rfl⟩, Ot.base (B := w.heap.size + 1 + 1) (Ot.stored (ot_text (O1.base (by simp))) (by omega) _ _ _) (by omega), below_three B1 (by omega) _ _ _⟩
set_option maxRecDepth 100000 in
set_option maxHeartbeats 4000000 in
theorem rNumber_any {n : Int} (w : World) :
    Calls Tryd.prog 32 #[.agg #[.int .u64 (l0 n), .int .u64 (l1 n), .int .u64 (l2 n), .int .u64 (l3 n)]] w fun e w' => ∃ d q, e = .returned (itV (.mk false (stripL (putL n)) []) d q) ∧ Ot w' (.mk false (stripL (putL n)) []) (fun k => w.heap.size ≤ k) d q ∧ Below w.heap.size w w' := by
  have C : Hid (∀ W, Below w.heap.size w W → Calls Tryd.prog 45 #[.agg #[.int .u64 (l0 n), .int .u64 (l1 n), .int .u64 (l2 n), .int .u64 (l3 n)]] W fun e w' => ∃ v, e = .returned v ∧ OwnB W.heap.size w' v (stripL (putL n)) ∧ Below W.heap.size W w') := fun W _ => rbytes_any W
  generalize stripL (putL n) = X at *
  unfold itV
  go_enter Tryd.func32, Tryd.ntmps32
  go_wp2_with ((with_reducible refine (C.out _ (((Below.refl w.heap.size w).alloc (Nat.le_refl _) _).alloc (by simp) _)).mono ?_); rintro e1 w1 ⟨v, rfl, O1, hw⟩; (obtain ⟨⟨r0, r1, r2⟩, f0, f1, f2⟩ : Rb3 w1 (w.heap.size + 1) := Rb3.keep ⟨⟨by simp [go_sem], by simp [go_sem], by simp [go_sem]⟩, by simp [go_sem], by simp [go_sem], by simp [go_sem]⟩ hw); (have B1 : Below w.heap.size w w1 := (((Below.refl w.heap.size w).alloc (Nat.le_refl _) _).alloc (by simp) _).trans (hw.mono (by simp; omega))); (obtain ⟨av, gv1, cv, rfl, _⟩ := O1.lies))
  simp [bodyPost, results, Tryd.results32, go_sem, r0, r1, r2]
  exact ⟨_, _, ⟨rfl, rfl, rfl⟩, Ot.base (B := w.heap.size + 1 + 1) (Ot.stored (ot_text (O1.base (by simp))) (by omega) _ _ _) (by omega), below_three B1 (by omega) _ _ _⟩
set_option maxRecDepth 100000 in
set_option maxHeartbeats 4000000 in
theorem small_any {v : Int} (hv : Word v) (w : World) :
    Calls Tryd.prog 16 #[.int .u64 v] w fun e w' => ∃ d q, e = .returned (itV (.mk false (stripL (putL v)) []) d q) ∧ Ot w' (.mk false (stripL (putL v)) []) (fun k => w.heap.size ≤ k) d q ∧ Below w.heap.size w w' := by
  have hm : Num v := by obtain ⟨h1, h2⟩ := hv; exact ⟨h1, by omega⟩
  have D : Hid (∀ W : World, Calls Tryd.prog 29 #[.int .u64 v] W fun e w' => e = .returned (.agg #[.int .u64 (l0 v), .int .u64 (l1 v), .int .u64 (l2 v), .int .u64 (l3 v)]) ∧ Below W.heap.size W w') := fun W => from_any hv W
  have C : Hid (∀ W : World, Calls Tryd.prog 28 #[.agg #[.int .u64 (l0 v), .int .u64 (l1 v), .int .u64 (l2 v), .int .u64 (l3 v)]] W fun e w' => ∃ d q, e = .returned (.agg #[.bool false, d, q]) ∧ Ot w' (.mk false (stripL (putL v)) []) (fun k => W.heap.size ≤ k) d q ∧ Below W.heap.size W w') := fun W => number_any hm W
  clear hv hm
  generalize stripL (putL v) = X at *
  unfold itV
  go_enter Tryd.func16, Tryd.ntmps16
  go_wp2_with (first
    | ((with_reducible refine (D.out _).mono ?_); rintro e0 w0 ⟨rfl, hw0⟩; (have R0 : Rb3 w0 w.heap.size := Rb3.keep ⟨⟨by simp [go_sem], by simp [go_sem], by simp [go_sem]⟩, by simp [go_sem], by simp [go_sem], by simp [go_sem]⟩ hw0); (have B0 : Below w.heap.size w w0 := ((Below.refl w.heap.size w).alloc (Nat.le_refl _) _).trans (hw0.mono (by simp))))
    | ((with_reducible refine (C.out _).mono ?_); rintro e1 w1 ⟨dd, qq, rfl, O1, hw⟩; (have hsl := (Ot.it _ O1).slices); (obtain ⟨s1, s2, s3, s4, s5, s6, rfl, rfl⟩ := hsl); (obtain ⟨⟨r0, r1, r2⟩, f0, f1, f2⟩ := R0.keep hw); (have B1 := B0.trans (hw.mono B0.size))))
  simp [bodyPost, results, Tryd.results16, go_sem, r0, r1, r2]
  have hlt := R0.1.lt
  exact ⟨_, _, ⟨rfl, rfl, rfl⟩, Ot.base (B := w.heap.size + 1) (Ot.stored (Ot.base O1 (by omega)) (by omega) _ _ _) (by omega), below_three B1 (by omega) _ _ _⟩
set_option maxRecDepth 100000 in
set_option maxHeartbeats 4000000 in
theorem rSmall_any {v : Int} (hv : Word v) (w : World) :
    Calls Tryd.prog 19 #[.int .u64 v] w fun e w' => ∃ d q, e = .returned (itV (.mk false (stripL (putL v)) []) d q) ∧ Ot w' (.mk false (stripL (putL v)) []) (fun k => w.heap.size ≤ k) d q ∧ Below w.heap.size w w' := by
  have hm : Num v := by obtain ⟨h1, h2⟩ := hv; exact ⟨h1, by omega⟩
  have D : Hid (∀ W : World, Calls Tryd.prog 33 #[.int .u64 v] W fun e w' => e = .returned (.agg #[.int .u64 (l0 v), .int .u64 (l1 v), .int .u64 (l2 v), .int .u64 (l3 v)]) ∧ Below W.heap.size W w') := fun W => rfrom_any hv W
  have C : Hid (∀ W : World, Calls Tryd.prog 32 #[.agg #[.int .u64 (l0 v), .int .u64 (l1 v), .int .u64 (l2 v), .int .u64 (l3 v)]] W fun e w' => ∃ d q, e = .returned (.agg #[.bool false, d, q]) ∧ Ot w' (.mk false (stripL (putL v)) []) (fun k => W.heap.size ≤ k) d q ∧ Below W.heap.size W w') := fun W => rNumber_any W
  clear hv hm
  generalize stripL (putL v) = X at *
  unfold itV
  go_enter Tryd.func19, Tryd.ntmps19
  go_wp2_with (first
    | ((with_reducible refine (D.out _).mono ?_); rintro e0 w0 ⟨rfl, hw0⟩; (have R0 : Rb3 w0 w.heap.size := Rb3.keep ⟨⟨by simp [go_sem], by simp [go_sem], by simp [go_sem]⟩, by simp [go_sem], by simp [go_sem], by simp [go_sem]⟩ hw0); (have B0 : Below w.heap.size w w0 := ((Below.refl w.heap.size w).alloc (Nat.le_refl _) _).trans (hw0.mono (by simp))))
    | ((with_reducible refine (C.out _).mono ?_); rintro e1 w1 ⟨dd, qq, rfl, O1, hw⟩; (have hsl := (Ot.it _ O1).slices); (obtain ⟨s1, s2, s3, s4, s5, s6, rfl, rfl⟩ := hsl); (obtain ⟨⟨r0, r1, r2⟩, f0, f1, f2⟩ := R0.keep hw); (have B1 := B0.trans (hw.mono B0.size))))
  simp [bodyPost, results, Tryd.results19, go_sem, r0, r1, r2]
  have hlt := R0.1.lt
  exact ⟨_, _, ⟨rfl, rfl, rfl⟩, Ot.base (B := w.heap.size + 1) (Ot.stored (Ot.base O1 (by omega)) (by omega) _ _ _) (by omega), below_three B1 (by omega) _ _ _⟩
set_option maxRecDepth 100000 in
set_option maxHeartbeats 4000000 in
theorem list_any {ts : List Tr} {a : Option Addr} {b o c : Nat} (hl : wtS ts < 4194304) (ha : ts = [] ∨ a = some ⟨b, o, none⟩) (w : World) (hz : Its w b o ts) :
    Calls Tryd.prog 14 #[.slice a ts.length c] w fun e w' => ∃ d q, e = .returned (itV (.mk true [] ts) d q) ∧ Ot w' (.mk true [] ts) (fun k => w.heap.size ≤ k) d q ∧ Below w.heap.size w w' := by
  have C : Hid (∀ W, Below w.heap.size w W → Calls Tryd.prog 26 #[.slice a ts.length c] W fun e w' => ∃ v ps, e = .returned v ∧ Oe W.heap.size w' v ts ps ∧ Below W.heap.size W w') := fun W B => copies_any (.mk true [] ts) (by exact hl) ha W (hz.keep B)
  clear hl ha hz
  unfold itV
  go_enter Tryd.func14, Tryd.ntmps14
  go_wp2_with ((with_reducible refine (C.out _ ((Below.refl w.heap.size w).alloc (Nat.le_refl _) _)).mono ?_); rintro e1 w1 ⟨v, ps, rfl, O1, hw⟩; (obtain ⟨⟨r0, r1, r2⟩, f0, f1, f2⟩ : Rb3 w1 (w.heap.size) := Rb3.keep ⟨⟨by simp [go_sem], by simp [go_sem], by simp [go_sem]⟩, by simp [go_sem], by simp [go_sem], by simp [go_sem]⟩ hw); (have B1 : Below w.heap.size w w1 := ((Below.refl w.heap.size w).alloc (Nat.le_refl _) _).trans (hw.mono (by simp))); (obtain ⟨av, gv1, cv, rfl, _⟩ := O1.row.its))
  simp [bodyPost, results, Tryd.results14, go_sem, r0, r1, r2]
  exact ⟨_, _, ⟨rfl, rfl, rfl⟩, Ot.base (B := w.heap.size + 1) (Ot.stored (ot_list (O1.row.oe (fun k _ hk => by simpa using hk)).choose_spec) (by omega) _ _ _) (by omega), below_three B1 (by omega) _ _ _⟩
set_option maxRecDepth 100000 in
set_option maxHeartbeats 4000000 in
theorem rList_any {ts : List Tr} {a : Option Addr} {b o c : Nat} (hl : wtS ts < 4194304) (ha : ts = [] ∨ a = some ⟨b, o, none⟩) (w : World) (hz : Its w b o ts) :
    Calls Tryd.prog 17 #[.slice a ts.length c] w fun e w' => ∃ d q, e = .returned (itV (.mk true [] ts) d q) ∧ Ot w' (.mk true [] ts) (fun k => w.heap.size ≤ k) d q ∧ Below w.heap.size w w' := by
  have C : Hid (∀ W, Below w.heap.size w W → Calls Tryd.prog 30 #[.slice a ts.length c] W fun e w' => ∃ v ps, e = .returned v ∧ Oe W.heap.size w' v ts ps ∧ Below W.heap.size W w') := fun W B => rCopy_any (.mk true [] ts) (by exact hl) ha W (hz.keep B)
  clear hl ha hz
  unfold itV
  go_enter Tryd.func17, Tryd.ntmps17
  go_wp2_with ((with_reducible refine (C.out _ ((Below.refl w.heap.size w).alloc (Nat.le_refl _) _)).mono ?_); rintro e1 w1 ⟨v, ps, rfl, O1, hw⟩; (obtain ⟨⟨r0, r1, r2⟩, f0, f1, f2⟩ : Rb3 w1 (w.heap.size) := Rb3.keep ⟨⟨by simp [go_sem], by simp [go_sem], by simp [go_sem]⟩, by simp [go_sem], by simp [go_sem], by simp [go_sem]⟩ hw); (have B1 : Below w.heap.size w w1 := ((Below.refl w.heap.size w).alloc (Nat.le_refl _) _).trans (hw.mono (by simp))); (obtain ⟨av, gv1, cv, rfl, _⟩ := O1.row.its))
  simp [bodyPost, results, Tryd.results17, go_sem, r0, r1, r2]
  exact ⟨_, _, ⟨rfl, rfl, rfl⟩, Ot.base (B := w.heap.size + 1) (Ot.stored (ot_list (O1.row.oe (fun k _ hk => by simpa using hk)).choose_spec) (by omega) _ _ _) (by omega), below_three B1 (by omega) _ _ _⟩
end Go.Proofs.YtkbdpkgfnbfgmaaDoor

/- Layer 7: RlpMakes. -/
namespace Go.Proofs.YtkbdpkgfnbfgmaaDoor
open Go.RowKit Go.Sort
end Go.Proofs.YtkbdpkgfnbfgmaaDoor
