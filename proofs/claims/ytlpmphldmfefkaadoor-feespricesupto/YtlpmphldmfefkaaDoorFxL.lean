import Derived.Test.YtlpmphldmfefkaaDoorFxE
import Derived.Test.YtlpmphldmfefkaaDoorTsN
import Derived.Test.YtlpmphldmfefkaaDoorTsO
/- Layer 18: the statements' twin; what a transaction lent answers. -/
namespace Go.Proofs.YtlpmphldmfefkaaDoor.tq
open Go.RowKit Go.Sort
def BdTF (t : Txv) : Prop := t.Dl.length < 1000000000 ∧ t.Hsl.length < 1000000000 ∧ t.Ul.length < 100000000 ∧ t.El.length < 1000000000 ∧ ∀ i, i < t.El.length → (t.El.getD i zEn).ks.length < 1000000000
set_option maxRecDepth 100000 in
set_option maxHeartbeats 8000000 in
theorem twinF_any {t : Txv} (hn : Hid (BdTF t)) (w : World) (hM : MkH w) (hA : MkA w) (hG : TxG w t) :
    Calls Tryd.prog 11 #[.agg (txC t).toArray] w fun e w' => ∃ u, e = .returned (.agg (txC u).toArray) ∧ LtT w' u t ∧ Below w.heap.size w w' := by
  have LT : Hid (∀ W, Below w.heap.size w W → Calls Tryd.prog 40 #[.agg (txC t).toArray] W fun e w' => ∃ u, e = .returned (.agg (txC u).toArray) ∧ LtT w' u t ∧ Below W.heap.size W w' ∧ LtP W.heap.size u t) := fun W B => lentTx_any hn W (hM.keep B) (hA.keep B) (hG.keep B)
  have CS : Hid ((Tryd.prog.info? 32).map (·.size) = some (txC t).length) := by show _ = _; rw [txC_len hG.to.1]; exact size_txT
  have TO : Hid (t.to.length = 20) := hG.to.1
  generalize txC t = C at *
  clear hM hA hG
  go_enter Tryd.func11, Tryd.ntmps11
  go_wp2_with first
    | (refine wpList_boxT rfl 32 _ rfl C rfl ?_; intro b1 W1 h1 BB r1)
    | (refine wpList_allocT rfl 32 rfl (some 2) rfl 61 408 rI_t ?_; intro b2 W2 h2 B9 t2; replace BB := BB.trans (B9.mono BB.size); replace r1 := range_keep r1 B9; clear B9; have L2 : Hid (w.heap.size ≤ b2 ∧ b2 < W2.heap.size) := (show w.heap.size ≤ b2 ∧ b2 < W2.heap.size by have := h1.out; have := h2.out; omega); clear h1 h2)
    | (refine wpList_load_midT rfl 32 _ rfl b1 0 rfl C _ r1 Tryd.underlying32 rfl CS.out ?_)
    | (go_at_call 40; refine (LT.out _ BB).mono ?_; rintro x9 W3 ⟨u, rfl, hu, B9, hp⟩; have HP : Hid (LtP W2.heap.size u t) := hp; clear hp; replace BB := BB.trans (B9.mono BB.size); replace t2 := there_keepT t2 L2.out.2 B9; have U61 : Hid ((txC u).length = 61) := txC_len (by rw [hu.sc.2.2.2.2.2]; exact TO.out); have HU : Hid (LtT W3 u t) := hu; have UO : Hid (∀ z ∈ txC u, z.oneCell' = true) := txC_one u; clear hu B9 r1)
    | (refine wpList_storeT rfl 32 _ _ rfl b2 (txC u) rfl rfl (by rw [U61.out]; exact t2) (by rw [U61.out]; exact size_txT) UO.out ?_; intro W4 u9 r9 t9)
  have ld := run_loadVar_mid (P := Tryd.prog) W4 b2 0 32 _ _ r9 Tryd.underlying32 rfl (by rw [U61.out]; exact size_txT)
  refine bodyPost_ret (v := .agg (txC u).toArray) ?_ rfl ⟨u, rfl, HU.out.but HP.out u9 L2.out.2, u9.below L2.out.1 BB⟩
  simp [results, Tryd.results11, asAddr, ld, Act.put]
end Go.Proofs.YtlpmphldmfefkaaDoor.tq
namespace Go.Proofs.YtlpmphldmfefkaaDoor
open Go.RowKit Go.Sort
open tq
theorem stray_same {u t : Txv} {W : World} (h : LtT W u t) (k f : Nat) : strayT u k f = strayT t k f := by
  unfold strayT blankT
  rw [h.nu.1, h.nu.2.1, h.nu.2.2.1, h.nu.2.2.2.2.1, h.E.1, h.Hs.1, h.U.1]
theorem strays_same {u t : Txv} {W : World} (h : LtT W u t) (k : Nat) : straysT u k = straysT t k := by
  unfold straysT
  rw [show strayT u k = strayT t k from funext fun f => stray_same h k f]
theorem df_same {u t : Txv} {W : World} (h : LtT W u t) : dfN u = dfN t := by
  unfold dfN
  rw [h.sc.1, strays_same h, h.sc.2.1, h.sc.2.2.2.2.1, h.sc.2.2.2.2.2, h.Hs.1, h.U.1]
theorem pe_same {u t : Txv} {W : World} (h : LtT W u t) (b : Int) : peN u b = peN t b ∧ ptN u b = ptN t b := by
  unfold peN ptN
  rw [h.sc.1, h.nu.1, h.nu.2.1, h.nu.2.2.1]
  exact ⟨rfl, rfl⟩
theorem pr_same {u t : Txv} {W : World} (h : LtT W u t) (b : Int) : prP u b = prP t b ∧ prT u b = prT t b ∧ prE u b = prE t b := by
  unfold prP prT prE ppV ptV
  rw [df_same h, (pe_same h b).1, (pe_same h b).2]
  exact ⟨rfl, rfl, rfl⟩
theorem cs_same {u t : Txv} {W : World} (h : LtT W u t) : csV u = csV t ∧ csE u = csE t := by
  unfold csV csE sumT capT bgT
  rw [df_same h, h.sc.1, h.nu.1, h.nu.2.2.1, h.sc.2.2.2.1, h.nu.2.2.2.2.1, h.nu.2.2.2.1, h.Hs.1]
  exact ⟨rfl, rfl⟩
theorem numF_any (v : Int) (W : World) : Calls Tryd.prog 24 #[.int .i64 v] W fun e w' => e = .returned (.int .i64 v) ∧ Below W.heap.size W w' := by
  go_enter Tryd.func24, Tryd.ntmps24
  go_wp2
  simp [bodyPost, results, Tryd.results24, go_sem]
  exact Below.refl _ _
end Go.Proofs.YtlpmphldmfefkaaDoor
