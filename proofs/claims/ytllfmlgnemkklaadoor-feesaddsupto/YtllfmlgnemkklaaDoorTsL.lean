import Derived.Test.YtllfmlgnemkklaaDoorTsM
/- A transaction lent: what LentTx makes. -/
namespace Go.Proofs.YtllfmlgnemkklaaDoor.tq
open Go.RowKit Go.Sort
def mkU : Aun := ⟨0, List.replicate 20 0, 165, 0, 0, 0⟩
def mkE : En := ⟨mkAd, none, 0, 0, 0, []⟩
/-- An entry lent: new keys with marks behind them. -/
structure KyM (W : World) (e x : En) : Prop where
  adr : e.adr = x.adr
  ks : e.ks = x.ks
  a : e.a = some ⟨e.b, 0, none⟩
  o : e.o = 0
  c : e.ks.length + 2 ≤ e.c
  r : W.rangeAt e.b 0 (flatC hC (e.ks ++ [mkHs, mkHs]))
theorem KyM.keep {W W' : World} {e x : En} (h : KyM W e x) (B : Below W.heap.size W W') : KyM W' e x := ⟨h.adr, h.ks, h.a, h.o, h.c, range_keep h.r B⟩
/-- Cells that can be read and written. -/
def Rt (W : World) (b o : Nat) (L : List Value) : Prop := W.rangeAt b o L ∧ W.there b o L.length
theorem Rt.same {W W' : World} {b o : Nat} {L : List Value} (h : Rt W b o L) (e : W'.heap[b]? = W.heap[b]?) : Rt W' b o L := ⟨range_same h.1 e, there_same h.2 e⟩
theorem Rt.keep {W W' : World} {b o : Nat} {L : List Value} (h : Rt W b o L) (B : Below W.heap.size W W') : Rt W' b o L := by
  cases L with
  | nil => exact ⟨fun j v hv => by simp at hv, fun j hj => absurd hj (Nat.not_lt_zero _)⟩
  | cons x L => exact h.same (B.block b (World.block_lt_of_cell? W _ (h.1 0 x rfl)))
structure LtT (W : World) (u t : Txv) : Prop where
  sc : u.ty = t.ty ∧ u.ch = t.ch ∧ u.no = t.no ∧ u.gas = t.gas ∧ u.cr = t.cr ∧ u.to = t.to
  nu : u.pr = t.pr ∧ u.ti = t.ti ∧ u.ca = t.ca ∧ u.va = t.va ∧ u.bc = t.bc ∧ u.sv = t.sv ∧ u.sr = t.sr ∧ u.ss = t.ss
  D : u.Dl = t.Dl ∧ u.Da = some ⟨u.Db, 0, none⟩ ∧ u.Do = 0 ∧ t.Dl.length + 70 ≤ u.Dc ∧ Rt W u.Db 0 (hC (lentT t.Dl))
  Hs : u.Hsl = t.Hsl ∧ u.Hsa = some ⟨u.Hsb, 0, none⟩ ∧ u.Hso = 0 ∧ t.Hsl.length + 2 ≤ u.Hsc ∧ W.rangeAt u.Hsb 0 (flatC hC (t.Hsl ++ [mkHs, mkHs]))
  U : u.Ul = t.Ul ∧ u.Ua = some ⟨u.Ub, 0, none⟩ ∧ u.Uo = 0 ∧ t.Ul.length + 2 ≤ u.Uc ∧ W.rangeAt u.Ub 0 (flatC aunC (t.Ul ++ [mkU, mkU]))
  E : u.El.length = t.El.length ∧ u.Ea = some ⟨u.Eb, 0, none⟩ ∧ u.Eo = 0 ∧ t.El.length + 2 ≤ u.Ec ∧ W.rangeAt u.Eb 0 (flatC enC (u.El ++ [mkE, mkE]))
  ks : ∀ i, i < t.El.length → KyM W (u.El.getD i zEn) (t.El.getD i zEn)
theorem LtT.keep {W W' : World} {u t : Txv} (h : LtT W u t) (B : Below W.heap.size W W') : LtT W' u t :=
  ⟨h.sc, h.nu, ⟨h.D.1, h.D.2.1, h.D.2.2.1, h.D.2.2.2.1, h.D.2.2.2.2.keep B⟩, ⟨h.Hs.1, h.Hs.2.1, h.Hs.2.2.1, h.Hs.2.2.2.1, range_keep h.Hs.2.2.2.2 B⟩, ⟨h.U.1, h.U.2.1, h.U.2.2.1, h.U.2.2.2.1, range_keep h.U.2.2.2.2 B⟩, ⟨h.E.1, h.E.2.1, h.E.2.2.1, h.E.2.2.2.1, range_keep h.E.2.2.2.2 B⟩, fun i hi => (h.ks i hi).keep B⟩
/-- What is lent can be read. -/
theorem LtT.good {W : World} {u t : Txv} (h : LtT W u t) (g : TxG W t) : TxG W u := by
  obtain ⟨s1, s2, s3, s4, s5, s6⟩ := h.sc
  obtain ⟨n1, n2, n3, n4, n5, n6, n7, n8⟩ := h.nu
  obtain ⟨d1, d2, d3, d4, d5⟩ := h.D
  obtain ⟨h1, h2, h3, h4, h5⟩ := h.Hs
  obtain ⟨u1, u2, u3, u4, u5⟩ := h.U
  obtain ⟨e1, e2, e3, e4, e5⟩ := h.E
  have kh : ∀ i, i < t.Hsl.length → (hC (t.Hsl.getD i [])).length = 32 := g.Hs.len
  have ku : ∀ i, i < (t.Ul ++ [mkU, mkU]).length → (aunC ((t.Ul ++ [mkU, mkU]).getD i zAun)).length = 34 := fun i hi => by
    by_cases c : i < t.Ul.length
    · rw [getD_app c]; exact aunC_len (g.U.2.2 i c).1.2.1.1
    · rw [List.length_append] at hi
      have : i = t.Ul.length + 0 ∨ i = t.Ul.length + 1 := by simp at hi; omega
      rcases this with rfl | rfl <;> (rw [getD_appR]; rfl)
  have ke : ∀ i, i < (u.El ++ [mkE, mkE]).length → (enC ((u.El ++ [mkE, mkE]).getD i zEn)).length = 21 := fun i hi => by
    by_cases c : i < u.El.length
    · rw [getD_app c]
      exact enC_len (by rw [(h.ks i (by omega)).adr]; exact (g.E.2.2 i (by omega)).1.1.1)
    · rw [List.length_append] at hi
      have : i = u.El.length + 0 ∨ i = u.El.length + 1 := by simp at hi; omega
      rcases this with rfl | rfl <;> (rw [getD_appR]; rfl)
  refine ⟨by rw [s1]; exact g.ty, by rw [s2]; exact g.ch, by rw [s3]; exact g.no, by rw [n1]; exact g.pr, by rw [n2]; exact g.ti, by rw [n3]; exact g.ca, by rw [s4]; exact g.gas, by rw [s6]; exact g.to, by rw [n4]; exact g.va, ?_, ?_, by rw [n5]; exact g.bc, ?_, ?_, by rw [n6]; exact g.sv, by rw [n7]; exact g.sr, by rw [n8]; exact g.ss⟩
  · refine ⟨⟨by rw [d1]; omega, fun e => by rw [d2] at e; cases e⟩, .inr (by rw [d2, d3]), ?_, by rw [d1]; exact g.D.2.2.2⟩
    rw [d1, d3]
    exact bz_hC (range_app.1 (by have d5 := d5.1; rw [lentT, hC_app] at d5; exact d5)).1
  · refine ⟨⟨by omega, fun e => by rw [e2] at e; cases e⟩, .inr (by rw [e2, e3]), fun i hi => ?_⟩
    have k := h.ks i (by omega)
    have x := (g.E.2.2 i (by omega)).1
    refine ⟨⟨by rw [k.adr]; exact x.1, ⟨by have := k.c; omega, fun e => by rw [k.a] at e; cases e⟩, .inr (by rw [k.a, k.o]), fun j hj => ?_⟩, ?_⟩
    · rw [k.ks] at hj ⊢
      refine ⟨(x.2.2.2 j hj).1, ?_⟩
      have r := k.r
      rw [k.ks] at r
      have q := flat_at [] _ 0 (lent_len x.2.len) r j (by rw [List.length_append]; omega)
      rw [getD_app hj] at q
      rw [k.o]; exact q
    · have q := flat_at zEn _ 0 ke e5 i (by rw [List.length_append]; omega)
      rw [getD_app hi] at q
      rw [e3]; exact q
  · refine ⟨⟨by rw [h1]; omega, fun e => by rw [h2] at e; cases e⟩, .inr (by rw [h2, h3]), fun i hi => ?_⟩
    rw [h1] at hi ⊢
    refine ⟨(g.Hs.2.2 i hi).1, ?_⟩
    have q := flat_at [] _ 0 (lent_len kh) h5 i (by rw [List.length_append]; omega)
    rw [getD_app hi] at q
    rw [h3]; exact q
  · refine ⟨⟨by rw [u1]; omega, fun e => by rw [u2] at e; cases e⟩, .inr (by rw [u2, u3]), fun i hi => ?_⟩
    rw [u1] at hi ⊢
    refine ⟨(g.U.2.2 i hi).1, ?_⟩
    have q := flat_at zAun _ 0 ku u5 i (by rw [List.length_append]; omega)
    rw [getD_app hi] at q
    rw [u3]; exact q
/-- Its data lie in a block of their own. -/
def LtN (u t : Txv) : Prop := u.Db < u.Hsb ∧ u.Db < u.Ub ∧ u.Db < u.Eb ∧ ∀ i, i < t.El.length → u.Db < (u.El.getD i zEn).b
/-- Where it lies: in no block below n. -/
def LtP (n : Nat) (u t : Txv) : Prop := n ≤ u.Db ∧ n ≤ u.Hsb ∧ n ≤ u.Ub ∧ n ≤ u.Eb ∧ (∀ i, i < t.El.length → n ≤ (u.El.getD i zEn).b) ∧ LtN u t
theorem LtT.but {W W' : World} {u t : Txv} {n b : Nat} (h : LtT W u t) (p : LtP n u t) (q : But W W' b) (hb : b < n) : LtT W' u t :=
  have k : ∀ x, n ≤ x → W'.heap[x]? = W.heap[x]? := fun x hx => q.block x (by omega)
  ⟨h.sc, h.nu, ⟨h.D.1, h.D.2.1, h.D.2.2.1, h.D.2.2.2.1, h.D.2.2.2.2.same (k _ p.1)⟩, ⟨h.Hs.1, h.Hs.2.1, h.Hs.2.2.1, h.Hs.2.2.2.1, range_same h.Hs.2.2.2.2 (k _ p.2.1)⟩, ⟨h.U.1, h.U.2.1, h.U.2.2.1, h.U.2.2.2.1, range_same h.U.2.2.2.2 (k _ p.2.2.1)⟩, ⟨h.E.1, h.E.2.1, h.E.2.2.1, h.E.2.2.2.1, range_same h.E.2.2.2.2 (k _ p.2.2.2.1)⟩, fun i hi => ⟨(h.ks i hi).adr, (h.ks i hi).ks, (h.ks i hi).a, (h.ks i hi).o, (h.ks i hi).c, range_same (h.ks i hi).r (k _ (p.2.2.2.2.1 i hi))⟩⟩
end Go.Proofs.YtllfmlgnemkklaaDoor.tq
