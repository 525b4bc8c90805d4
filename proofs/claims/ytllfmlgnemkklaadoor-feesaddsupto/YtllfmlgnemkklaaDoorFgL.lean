import Derived.Test.YtllfmlgnemkklaaDoorFgJ
/- Layer 18: a transaction with other data, with another access list. -/
namespace Go.Proofs.YtllfmlgnemkklaaDoor
open Go.RowKit Go.Sort
open tq
def wD2 (u : Txv) (a : Option Addr) (g c : Nat) (L : List Int) : Txv := { u with Da := a, Db := g, Do := 0, Dc := c, Dl := L }
def wE2 (u : Txv) (a : Option Addr) (g c : Nat) (L : List En) : Txv := { u with Ea := a, Eb := g, Eo := 0, Ec := c, El := L }
theorem txC_wD2 {u : Txv} (h : u.to.length = 20) (a : Option Addr) (g c : Nat) (L : List Int) : txC (wD2 u a g c L) = (txC u).set 41 (.slice a L.length c) := by
  obtain ⟨a0, a1, a2, a3, a4, a5, a6, a7, a8, a9, a10, a11, a12, a13, a14, a15, a16, a17, a18, a19, hl⟩ := list_20 h
  unfold txC wD2
  simp only [hl]
  rfl
theorem txC_wE2 {u : Txv} (h : u.to.length = 20) (a : Option Addr) (g c : Nat) (L : List En) : txC (wE2 u a g c L) = (txC u).set 42 (.slice a L.length c) := by
  obtain ⟨a0, a1, a2, a3, a4, a5, a6, a7, a8, a9, a10, a11, a12, a13, a14, a15, a16, a17, a18, a19, hl⟩ := list_20 h
  unfold txC wE2
  simp only [hl]
  rfl
theorem ltT_blocks {W : World} {u t : Txv} (h : LtT W u t) : u.Db < W.heap.size ∧ u.Hsb < W.heap.size ∧ u.Ub < W.heap.size ∧ u.Eb < W.heap.size ∧ ∀ i, i < t.El.length → (u.El.getD i zEn).b < W.heap.size := by
  refine ⟨range_ltT h.D.2.2.2.2.1 (by rw [hC_len, lentT_len]; omega), range_ltT h.Hs.2.2.2.2 (flat2_pos _), range_ltT h.U.2.2.2.2 ?_, range_ltT h.E.2.2.2.2 ?_, fun i hi => range_ltT (h.ks i hi).r (flat2_pos _)⟩
  · rw [flatC_app, List.length_append, show flatC aunC [mkU, mkU] = mu2 from rfl, mu2_len]; omega
  · rw [flatC_app, List.length_append, show flatC enC [mkE, mkE] = me2 from rfl, me2_len]; omega
theorem ltT_wr {W V0 V : World} {u t : Txv} {b : Nat} (h : LtT W u t) (B : Below W.heap.size W V0) (q : Wr V0 V b) (hb : W.heap.size ≤ b) : LtT V u t := by
  have s := B.size
  obtain ⟨l1, l2, l3, l4, l5⟩ := ltT_blocks h
  have k : ∀ x, x < W.heap.size → V.heap[x]? = W.heap[x]? := fun x hx => (q.block x (by omega) (by omega)).trans (B.block x hx)
  exact ⟨h.sc, h.nu, ⟨h.D.1, h.D.2.1, h.D.2.2.1, h.D.2.2.2.1, h.D.2.2.2.2.same (k _ l1)⟩, ⟨h.Hs.1, h.Hs.2.1, h.Hs.2.2.1, h.Hs.2.2.2.1, tq.range_same h.Hs.2.2.2.2 (k _ l2)⟩, ⟨h.U.1, h.U.2.1, h.U.2.2.1, h.U.2.2.2.1, tq.range_same h.U.2.2.2.2 (k _ l3)⟩, ⟨h.E.1, h.E.2.1, h.E.2.2.1, h.E.2.2.2.1, tq.range_same h.E.2.2.2.2 (k _ l4)⟩, fun i hi => ⟨(h.ks i hi).adr, (h.ks i hi).ks, (h.ks i hi).a, (h.ks i hi).o, (h.ks i hi).c, tq.range_same (h.ks i hi).r (k _ (l5 i hi))⟩⟩
theorem good_wD2 {V : World} {u : Txv} {a : Option Addr} {g c : Nat} {L : List Int} (G : TxG V u) (D : BtG V a g 0 c L) : TxG V (wD2 u a g c L) := ⟨G.ty, G.ch, G.no, G.pr, G.ti, G.ca, G.gas, G.to, G.va, D, G.E, G.bc, G.Hs, G.U, G.sv, G.sr, G.ss⟩
theorem good_wE2 {V : World} {u : Txv} {a : Option Addr} {g c : Nat} {L : List En} (G : TxG V u) (D : EsG V a g 0 c L) : TxG V (wE2 u a g c L) := ⟨G.ty, G.ch, G.no, G.pr, G.ti, G.ca, G.gas, G.to, G.va, G.D, D, G.bc, G.Hs, G.U, G.sv, G.sr, G.ss⟩
theorem ownB_BtG {B : Nat} {W : World} {v : Value} {L : List Int} (h : OwnB B W v L) (hb : Bys L) : ∃ a g c, v = .slice a L.length c ∧ BtG W a g 0 c L := by
  obtain ⟨a, g, c, e, h1, h2, h3, _, _, h4⟩ := h.lies
  exact ⟨a, g, c, e, ⟨h1, h4⟩, h2, h3, hb⟩
theorem df_wD2 (u : Txv) (a : Option Addr) (g c : Nat) (L : List Int) : dfN (wD2 u a g c L) = dfN u := rfl
theorem igT_wD2 (u : Txv) (a : Option Addr) (g c : Nat) (X : List Int) : igT (wD2 u a g c (u.Dl ++ X)) = igT u + gs 4 16 X X.length + (if u.cr then 2 * ((((u.Dl.length + X.length + 31) / 32 : Nat) : Int) - (((u.Dl.length + 31) / 32 : Nat) : Int)) else 0) := by
  have e : igT (wD2 u a g c (u.Dl ++ X)) = 21000 + gdT (u.Dl ++ X) 4 16 + (if u.cr then (32000 : Int) + 2 * ((((u.Dl ++ X).length + 31) / 32 : Nat) : Int) else 0) + (2400 * (u.El.length : Nat) + 1900 * (keyE u.El u.El.length : Nat)) + 25000 * (u.Ul.length : Nat) := rfl
  have e2 : igT u = 21000 + gdT u.Dl 4 16 + (if u.cr then (32000 : Int) + 2 * (((u.Dl.length + 31) / 32 : Nat) : Int) else 0) + (2400 * (u.El.length : Nat) + 1900 * (keyE u.El u.El.length : Nat)) + 25000 * (u.Ul.length : Nat) := rfl
  rw [e, e2, gdT_add, List.length_append]
  split <;> omega
theorem flT_wD2 (u : Txv) (a : Option Addr) (g c : Nat) (X : List Int) : flT (wD2 u a g c (u.Dl ++ X)) = flT u + gs 10 40 X X.length := by
  have e : flT (wD2 u a g c (u.Dl ++ X)) = 21000 + gdT (u.Dl ++ X) 10 40 := rfl
  have e2 : flT u = 21000 + gdT u.Dl 10 40 := rfl
  rw [e, e2, gdT_add]; omega
theorem bdG_wD2 {u : Txv} {a : Option Addr} {g c : Nat} {L : List Int} (h : BdG u) (hl : L.length < 1000000000) : BdG (wD2 u a g c L) := ⟨hl, h.2.1, h.2.2.1, h.2.2.2⟩
theorem keyE_app {L K : List En} : ∀ n, n ≤ L.length → keyE (L ++ K) n = keyE L n
  | 0, _ => rfl
  | n + 1, h => by
    rw [keyE, keyE, keyE_app n (by omega)]
    have : (L ++ K).getD n zEn = L.getD n zEn := by rw [List.getD, List.getD, List.getElem?_append_left (by omega)]
    rw [this]
theorem igT_wE2 (u : Txv) (a : Option Addr) (g c : Nat) (e9 : En) : igT (wE2 u a g c (u.El ++ [e9])) = igT u + 2400 + 1900 * (e9.ks.length : Int) := by
  have e : igT (wE2 u a g c (u.El ++ [e9])) = 21000 + gdT u.Dl 4 16 + (if u.cr then (32000 : Int) + 2 * (((u.Dl.length + 31) / 32 : Nat) : Int) else 0) + (2400 * ((u.El ++ [e9]).length : Nat) + 1900 * (keyE (u.El ++ [e9]) (u.El ++ [e9]).length : Nat)) + 25000 * (u.Ul.length : Nat) := rfl
  have e2 : igT u = 21000 + gdT u.Dl 4 16 + (if u.cr then (32000 : Int) + 2 * (((u.Dl.length + 31) / 32 : Nat) : Int) else 0) + (2400 * (u.El.length : Nat) + 1900 * (keyE u.El u.El.length : Nat)) + 25000 * (u.Ul.length : Nat) := rfl
  have k : keyE (u.El ++ [e9]) (u.El.length + 1) = keyE u.El u.El.length + e9.ks.length := by
    rw [keyE, keyE_app _ (Nat.le_refl _)]
    have : (u.El ++ [e9]).getD u.El.length zEn = e9 := by simp [List.getD]
    rw [this]
  rw [e, e2, List.length_append, List.length_singleton, k]
  omega
theorem igT_bd {u : Txv} (h : BdG u) : 0 ≤ igT u ∧ igT u < 9223372036854775808 := by
  have e2 : igT u = 21000 + gdT u.Dl 4 16 + (if u.cr then (32000 : Int) + 2 * (((u.Dl.length + 31) / 32 : Nat) : Int) else 0) + (2400 * (u.El.length : Nat) + 1900 * (keyE u.El u.El.length : Nat)) + 25000 * (u.Ul.length : Nat) := rfl
  have b0 := gdT_bd (z := 4) (q := 16) h.1 (by decide) (by decide)
  have b1 := h.2.1
  have b2 := keyE_bd h.2.2.1 _ (Nat.le_refl _)
  have b3 := h.2.2.2
  have b4 := h.1
  rw [e2]
  split <;> omega
theorem flT_bd {u : Txv} (h : BdG u) : 0 ≤ flT u ∧ flT u < 9223372036854775808 := by
  have e2 : flT u = 21000 + gdT u.Dl 10 40 := rfl
  have b0 := gdT_bd (z := 10) (q := 40) h.1 (by decide) (by decide)
  omega
end Go.Proofs.YtllfmlgnemkklaaDoor
