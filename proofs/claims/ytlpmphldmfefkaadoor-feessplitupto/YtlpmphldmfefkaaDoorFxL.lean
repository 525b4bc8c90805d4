import Derived.Test.YtlpmphldmfefkaaDoorFxP
import Derived.Test.YtlpmphldmfefkaaDoorTsN
import Derived.Test.YtlpmphldmfefkaaDoorFxC
/- Layer 18: the statements' twin; what a transaction lent answers. -/
namespace Go.Proofs.YtlpmphldmfefkaaDoor.tq
open Go.RowKit Go.Sort
def BdTF (t : Txv) : Prop := t.Dl.length < 1000000000 ∧ t.Hsl.length < 1000000000 ∧ t.Ul.length < 100000000 ∧ t.El.length < 1000000000 ∧ ∀ i, i < t.El.length → (t.El.getD i zEn).ks.length < 1000000000
set_option maxRecDepth 100000 in
set_option maxHeartbeats 8000000 in
theorem twinF_any {t : Txv} (hn : Hid (BdTF t)) (w : World) (hM : MkH w) (hA : MkA w) (hG : TxG w t) :
    Calls Tryd.prog 11 #[.agg (txC t).toArray] w fun e w' => ∃ u, e = .returned (.agg (txC u).toArray) ∧ LtT w' u t ∧ Below w.heap.size w w' := by
  have LT : Hid (∀ W, Below w.heap.size w W → Calls Tryd.prog 40 #[.agg (txC t).toArray] W fun e w' => ∃ u, e = .returned (.agg (txC u).toArray) ∧ LtT w' u t ∧ Below W.heap.size W w' ∧ LtP W.heap.size u t) := fun W B => lentTx_any hn W (hM.keep B) (hA.keep B) (hG.keep B)
  have CS : Hid ((Tryd.prog.info? 32).map (·.size) = some (txC t).length) := by show _ = _; rw [txC_len hG.to.1]; exact size_txT
  have TO : Hid (t.to.length = 20) := hG.to.1
  generalize txC t = C at *
  clear hM hA hG
  go_enter Tryd.func11, Tryd.ntmps11
  go_wp2_with first
    | (refine wpList_boxT rfl 32 _ rfl C rfl ?_; intro b1 W1 h1 BB r1)
    | (refine wpList_allocT rfl 32 rfl (some 2) rfl 61 408 rI_t ?_; intro b2 W2 h2 B9 t2; replace BB := BB.trans (B9.mono BB.size); replace r1 := range_keep r1 B9; clear B9; have L2 : Hid (w.heap.size ≤ b2 ∧ b2 < W2.heap.size) := (show w.heap.size ≤ b2 ∧ b2 < W2.heap.size by have := h1.out; have := h2.out; omega); clear h1 h2)
    | (refine wpList_load_midT rfl 32 _ rfl b1 0 rfl C _ r1 Tryd.underlying32 rfl CS.out ?_)
    | (go_at_call 40; refine (LT.out _ BB).mono ?_; rintro x9 W3 ⟨u, rfl, hu, B9, hp⟩; have HP : Hid (LtP W2.heap.size u t) := hp; clear hp; replace BB := BB.trans (B9.mono BB.size); replace t2 := there_keepT t2 L2.out.2 B9; have U61 : Hid ((txC u).length = 61) := txC_len (by rw [hu.sc.2.2.2.2.2]; exact TO.out); have HU : Hid (LtT W3 u t) := hu; have UO : Hid (∀ z ∈ txC u, z.oneCell' = true) := txC_one u; clear hu B9 r1)
    | (refine wpList_storeT rfl 32 _ _ rfl b2 (txC u) rfl rfl (by rw [U61.out]; exact t2) (by rw [U61.out]; exact size_txT) UO.out ?_; intro W4 u9 r9 t9)
  have ld := run_loadVar_mid (P := Tryd.prog) W4 b2 0 32 _ _ r9 Tryd.underlying32 rfl (by rw [U61.out]; exact size_txT)
  refine bodyPost_ret (v := .agg (txC u).toArray) ?_ rfl ⟨u, rfl, HU.out.but HP.out u9 L2.out.2, u9.below L2.out.1 BB⟩
  simp [results, Tryd.results11, asAddr, ld, Act.put]
end Go.Proofs.YtlpmphldmfefkaaDoor.tq
namespace Go.Proofs.YtlpmphldmfefkaaDoor
open Go.RowKit Go.Sort
open tq
theorem stray_same {u t : Txv} {W : World} (h : LtT W u t) (k f : Nat) : strayT u k f = strayT t k f := by
  unfold strayT blankT
  rw [h.nu.1, h.nu.2.1, h.nu.2.2.1, h.nu.2.2.2.2.1, h.E.1, h.Hs.1, h.U.1]
theorem strays_same {u t : Txv} {W : World} (h : LtT W u t) (k : Nat) : straysT u k = straysT t k := by
  unfold straysT
  rw [show strayT u k = strayT t k from funext fun f => stray_same h k f]
theorem df_same {u t : Txv} {W : World} (h : LtT W u t) : dfN u = dfN t := by
  unfold dfN
  rw [h.sc.1, strays_same h, h.sc.2.1, h.sc.2.2.2.2.1, h.sc.2.2.2.2.2, h.Hs.1, h.U.1]
theorem pe_same {u t : Txv} {W : World} (h : LtT W u t) (b : Int) : peN u b = peN t b ∧ ptN u b = ptN t b := by
  unfold peN ptN
  rw [h.sc.1, h.nu.1, h.nu.2.1, h.nu.2.2.1]
  exact ⟨rfl, rfl⟩
theorem pr_same {u t : Txv} {W : World} (h : LtT W u t) (b : Int) : prP u b = prP t b ∧ prT u b = prT t b ∧ prE u b = prE t b := by
  unfold prP prT prE ppV ptV
  rw [df_same h, (pe_same h b).1, (pe_same h b).2]
  exact ⟨rfl, rfl, rfl⟩
theorem cs_same {u t : Txv} {W : World} (h : LtT W u t) : csV u = csV t ∧ csE u = csE t := by
  unfold csV csE sumT capT bgT
  rw [df_same h, h.sc.1, h.nu.1, h.nu.2.2.1, h.sc.2.2.2.1, h.nu.2.2.2.2.1, h.nu.2.2.2.1, h.Hs.1]
  exact ⟨rfl, rfl⟩
end Go.Proofs.YtlpmphldmfefkaaDoor

/- Layer 18: Charge of both sides, of any transaction. -/
namespace Go.Proofs.YtlpmphldmfefkaaDoor
open Go.RowKit Go.Sort
open tq
/-- What is paid when Price is OK. -/
theorem pr_ok {W : World} {t : Txv} {b : Int} (hG : TxG W t) (hb : Num b) (h : prE t b = 0) : prP t b = b + prT t b ∧ Num (prP t b) ∧ Num (prT t b) := by
  obtain ⟨b0, b1⟩ := hb
  have hd : dfN t = 0 := by
    by_cases c : dfN t = 0
    · exact c
    · rw [prE, if_neg c] at h; exact absurd h c
  have hp : peN t b = 0 := by rw [prE, if_pos hd] at h; exact h
  have e1 : prP t b = b + ptN t b := by rw [prP, if_pos hd, ppV, if_pos hp]
  have e2 : prT t b = ptN t b := by rw [prT, if_pos hd, ptV, if_pos hp]
  have hpr := hG.pr
  have hti := hG.ti
  have hca := hG.ca
  obtain ⟨p0, p1⟩ := hpr
  obtain ⟨q0, q1⟩ := hti
  obtain ⟨r0, r1⟩ := hca
  rw [e1, e2]
  unfold peN at hp
  unfold ptN
  by_cases c : t.ty = 0 ∨ t.ty = 1
  · rw [if_pos c] at hp ⊢
    by_cases k : t.pr < b
    · rw [if_pos k] at hp; exact absurd hp (by decide)
    · exact ⟨rfl, ⟨by omega, by omega⟩, ⟨by omega, by omega⟩⟩
  · rw [if_neg c] at hp ⊢
    by_cases k1 : t.ca < t.ti
    · rw [if_pos k1] at hp; exact absurd hp (by decide)
    · rw [if_neg k1] at hp
      by_cases k : t.ca < b
      · rw [if_pos k] at hp; exact absurd hp (by decide)
      · by_cases k2 : t.ti < t.ca - b
        · rw [if_pos k2]; exact ⟨rfl, ⟨by omega, by omega⟩, ⟨by omega, by omega⟩⟩
        · rw [if_neg k2]; exact ⟨rfl, ⟨by omega, by omega⟩, ⟨by omega, by omega⟩⟩
def chE (t : Txv) (b g : Int) : Int := if prE t b = 0 then (if t.gas < g then 184 else wideE (g * prP t b)) else prE t b
def chB (t : Txv) (b g : Int) : Int := if chE t b g = 0 then g * b else 0
def chP (t : Txv) (b g : Int) : Int := if chE t b g = 0 then g * prT t b else 0
theorem wideE_yes {s : Int} (h : s < 115792089237316195423570985008687907853269984665640564039457584007913129639936) : wideE s = 0 := if_pos h
theorem wideE_no {s : Int} (h : ¬ s < 115792089237316195423570985008687907853269984665640564039457584007913129639936) : wideE s = 183 := if_neg h
theorem mul_split {g b p q : Int} (hg : 0 ≤ g) (hb : 0 ≤ b) (hq : 0 ≤ q) (hp : p = b + q) : g * b ≤ g * p ∧ g * q ≤ g * p := by
  have e : g * p = g * b + g * q := by rw [hp, Int.mul_add]
  have h1 := Int.mul_nonneg hg hb
  have h2 := Int.mul_nonneg hg hq
  omega
set_option maxHeartbeats 4000000 in
theorem charge_any {t : Txv} {b g : Int} (w : World) (hG : TxG w t) (hb : Num b) (hg : Word g) (hH : t.Hsl.length < 1000000000) (hU : t.Ul.length < 1000000000) (hR : Rws w) :
    Calls Tryd.prog 15 #[.agg (txC t).toArray, .agg #[.int .u64 (l0 b), .int .u64 (l1 b), .int .u64 (l2 b), .int .u64 (l3 b)], .int .u64 g] w fun e w' => e = .returned (.tuple #[.agg #[.int .u64 (l0 (chB t b g)), .int .u64 (l1 (chB t b g)), .int .u64 (l2 (chB t b g)), .int .u64 (l3 (chB t b g))], .agg #[.int .u64 (l0 (chP t b g)), .int .u64 (l1 (chP t b g)), .int .u64 (l2 (chP t b g)), .int .u64 (l3 (chP t b g))], .int .i64 (chE t b g)]) ∧ Below w.heap.size w w' := by
  have h20 := hG.to.1
  have PR : Hid (∀ W, Below w.heap.size w W → Calls Tryd.prog 14 #[.agg (txC t).toArray, .agg #[.int .u64 (l0 b), .int .u64 (l1 b), .int .u64 (l2 b), .int .u64 (l3 b)]] W fun e w' => e = .returned (.tuple #[.agg #[.int .u64 (l0 (prP t b)), .int .u64 (l1 (prP t b)), .int .u64 (l2 (prP t b)), .int .u64 (l3 (prP t b))], .agg #[.int .u64 (l0 (prT t b)), .int .u64 (l1 (prT t b)), .int .u64 (l2 (prT t b)), .int .u64 (l3 (prT t b))], .int .i64 (prE t b)]) ∧ Below W.heap.size W w') := fun W B => price_any W (hG.keep B) hb hH hU (hR.keep B)
  by_cases d0 : prE t b = 0
  · obtain ⟨ep, np, nq⟩ := pr_ok hG hb d0
    rw [d0] at PR
    by_cases cg : t.gas < g
    · have ec : chE t b g = 184 := by rw [chE, if_pos d0, if_pos cg]
      rw [show chB t b g = 0 from if_neg (by rw [ec]; decide), show chP t b g = 0 from if_neg (by rw [ec]; decide), ec, z4]
      exact charge_1 h20 w PR cg
    · have T1 : ∀ W, Below w.heap.size w W → _ := fun W (_ : Below w.heap.size w W) => times_any hg np W
      by_cases x1 : g * prP t b < 115792089237316195423570985008687907853269984665640564039457584007913129639936
      · have ec : chE t b g = 0 := by rw [chE, if_pos d0, if_neg cg, wideE_yes x1]
        have ms := mul_split hg.1 hb.1 nq.1 ep
        rw [show chB t b g = g * b from if_pos ec, show chP t b g = g * prT t b from if_pos ec, ec]
        rw [wideE_yes x1] at T1
        have T2 : ∀ W, Below w.heap.size w W → _ := fun W (_ : Below w.heap.size w W) => times_any hg hb W
        have T3 : ∀ W, Below w.heap.size w W → _ := fun W (_ : Below w.heap.size w W) => times_any hg nq W
        rw [show wideV (g * b) = g * b from if_pos (by omega)] at T2
        rw [show wideV (g * prT t b) = g * prT t b from if_pos (by omega)] at T3
        exact charge_3 h20 w PR cg T1 T2 T3
      · have ec : chE t b g = 183 := by rw [chE, if_pos d0, if_neg cg, wideE_no x1]
        rw [show chB t b g = 0 from if_neg (by rw [ec]; decide), show chP t b g = 0 from if_neg (by rw [ec]; decide), ec, z4]
        rw [wideE_no x1] at T1
        exact charge_2 h20 w PR cg T1 (by decide)
  · have ec : chE t b g = prE t b := if_neg d0
    rw [show chB t b g = 0 from if_neg (by rw [ec]; exact d0), show chP t b g = 0 from if_neg (by rw [ec]; exact d0), ec, z4]
    exact charge_0 h20 w PR d0
theorem ch_same {u t : Txv} {W : World} (h : LtT W u t) (b g : Int) : chB u b g = chB t b g ∧ chP u b g = chP t b g ∧ chE u b g = chE t b g := by
  unfold chB chP chE
  rw [(pr_same h b).1, (pr_same h b).2.1, (pr_same h b).2.2, h.sc.2.2.2.1]
  exact ⟨rfl, rfl, rfl⟩
end Go.Proofs.YtlpmphldmfefkaaDoor
