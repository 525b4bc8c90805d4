import Derived.Test.YtllfmlgnemkklaaDoorFgD
import Derived.Test.YtllfmlgnemkklaaDoorTxZA
import Derived.Test.YtllfmlgnemkklaaDoorTsD
import Derived.Test.YtllfmlgnemkklaaDoorFgB
import Derived.Test.YtllfmlgnemkklaaDoorTsK
import Derived.Test.YtllfmlgnemkklaaDoorTsN
import Derived.Test.YtllfmlgnemkklaaDoorCut
import Derived.Laws.Closers25b
/- Layer 18: the twin whose data lie apart; its data written over. -/
namespace Go.Proofs.YtllfmlgnemkklaaDoor.tq
open Go.RowKit Go.Sort
set_option maxRecDepth 100000 in
set_option maxHeartbeats 8000000 in
theorem twinG_any {t : Txv} (hn : Hid (BdTF t)) (w : World) (hM : MkH w) (hA : MkA w) (hG : TxG w t) :
    Calls Tryd.prog 8 #[.agg (txC t).toArray] w fun e w' => ∃ u, e = .returned (.agg (txC u).toArray) ∧ LtT w' u t ∧ (LtN u t ∧ w.heap.size ≤ u.Db) ∧ Below w.heap.size w w' := by
  have LT : Hid (∀ W, Below w.heap.size w W → Calls Tryd.prog 27 #[.agg (txC t).toArray] W fun e w' => ∃ u, e = .returned (.agg (txC u).toArray) ∧ LtT w' u t ∧ Below W.heap.size W w' ∧ LtP W.heap.size u t) := fun W B => lentTx_any hn W (hM.keep B) (hA.keep B) (hG.keep B)
  have CS : Hid ((Tryd.prog.info? 32).map (·.size) = some (txC t).length) := by show _ = _; rw [txC_len hG.to.1]; exact size_txT
  have TO : Hid (t.to.length = 20) := hG.to.1
  generalize txC t = C at *
  clear hM hA hG
  go_enter Tryd.func8, Tryd.ntmps8
  go_wp2_with first
    | (refine wpList_boxT rfl 32 _ rfl C rfl ?_; intro b1 W1 h1 BB r1)
    | (refine wpList_allocT rfl 32 rfl (some 2) rfl 61 408 rI_t ?_; intro b2 W2 h2 B9 t2; replace BB := BB.trans (B9.mono BB.size); replace r1 := range_keep r1 B9; clear B9; have L2 : Hid (w.heap.size ≤ b2 ∧ b2 < W2.heap.size) := (show w.heap.size ≤ b2 ∧ b2 < W2.heap.size by have := h1.out; have := h2.out; omega); clear h1 h2)
    | (refine wpList_load_midT rfl 32 _ rfl b1 0 rfl C _ r1 Tryd.underlying32 rfl CS.out ?_)
    | (go_at_call 27; refine (LT.out _ BB).mono ?_; rintro x9 W3 ⟨u, rfl, hu, B9, hp⟩; have HP : Hid (LtP W2.heap.size u t) := hp; have BP : Hid (w.heap.size ≤ W2.heap.size) := BB.size; clear hp; replace BB := BB.trans (B9.mono BB.size); replace t2 := there_keepT t2 L2.out.2 B9; have U61 : Hid ((txC u).length = 61) := txC_len (by rw [hu.sc.2.2.2.2.2]; exact TO.out); have HU : Hid (LtT W3 u t) := hu; have UO : Hid (∀ z ∈ txC u, z.oneCell' = true) := txC_one u; clear hu B9 r1)
    | (refine wpList_storeT rfl 32 _ _ rfl b2 (txC u) rfl rfl (by rw [U61.out]; exact t2) (by rw [U61.out]; exact size_txT) UO.out ?_; intro W4 u9 r9 t9)
  have ld := run_loadVar_mid (P := Tryd.prog) W4 b2 0 32 _ _ r9 Tryd.underlying32 rfl (by rw [U61.out]; exact size_txT)
  refine bodyPost_ret (v := .agg (txC u).toArray) ?_ rfl ⟨u, rfl, HU.out.but HP.out u9 L2.out.2, ⟨HP.out.2.2.2.2.2, Nat.le_trans BP.out HP.out.1⟩, u9.below L2.out.1 BB⟩
  simp [results, Tryd.results8, asAddr, ld, Act.put]
/-- All but one block is as it was. -/
structure Wr (W V : World) (b : Nat) : Prop where
  os : V.os = W.os
  tape : V.tape = W.tape
  output : V.output = W.output
  size : W.heap.size ≤ V.heap.size
  block : ∀ k, k < W.heap.size → k ≠ b → V.heap[k]? = W.heap[k]?
theorem Wr.refl (W : World) (b : Nat) : Wr W W b := ⟨rfl, rfl, rfl, Nat.le_refl _, fun _ _ _ => rfl⟩
theorem Wr.below {n : Nat} {w W V : World} {b : Nat} (h : Wr W V b) (hb : n ≤ b) (B : Below n w W) (hn : n ≤ W.heap.size) : Below n w V := ⟨h.os.trans B.os, h.tape.trans B.tape, h.output.trans B.output, Nat.le_trans B.size h.size, fun k hk => (h.block k (by omega) (by omega)).trans (B.block k hk)⟩
theorem Wr.step {W V V' : World} {b : Nat} (h : Wr W V b) (B : Below V.heap.size V V') : Wr W V' b := ⟨B.os.trans h.os, B.tape.trans h.tape, B.output.trans h.output, Nat.le_trans h.size B.size, fun k hk hb => (B.block k (by have := h.size; omega)).trans (h.block k hk hb)⟩
theorem Wr.set {W V : World} {b i : Nat} {v : Value} (h : Wr W V b) : Wr W (V.setCell ⟨b, i, none⟩ v) b := ⟨h.os, h.tape, h.output, by rw [size_setT]; exact h.size, fun k hk hb => (heap_setT hb).trans (h.block k hk hb)⟩
theorem Wr.range {W V : World} {b d o : Nat} {L : List Value} (h : Wr W V b) (r : W.rangeAt d o L) (hd : d ≠ b) (hl : d < W.heap.size) : V.rangeAt d o L := range_same r (h.block d hl hd)
theorem range_ltT {W : World} {b o : Nat} {cs : List Value} (h : W.rangeAt b o cs) (hl : 0 < cs.length) : b < W.heap.size := World.block_lt_of_cell? W ⟨b, o + 0, none⟩ (h 0 _ (List.getElem?_eq_getElem hl))
theorem Wr.rangeP {W V : World} {b d o : Nat} {L : List Value} (h : Wr W V b) (r : W.rangeAt d o L) (hd : d ≠ b) : V.rangeAt d o L := by
  cases L with
  | nil => exact fun j v hv => by simp at hv
  | cons x L => exact h.range r hd (range_ltT r (by simp))
end Go.Proofs.YtllfmlgnemkklaaDoor.tq
namespace Go.Proofs.YtllfmlgnemkklaaDoor
open Go.RowKit Go.Sort
open tq
theorem keyE_same {L K : List En} : ∀ n, (∀ i, i < n → (L.getD i zEn).ks = (K.getD i zEn).ks) → keyE L n = keyE K n
  | 0, _ => rfl
  | n + 1, h => by rw [keyE, keyE, keyE_same n fun i hi => h i (by omega), h n (by omega)]
theorem igT_same {W : World} {u t : Txv} (h : LtT W u t) : igT u = igT t ∧ flT u = flT t := by
  unfold igT flT
  rw [h.D.1, h.sc.2.2.2.2.1, h.U.1, h.E.1, keyE_same _ fun i hi => (h.ks i hi).ks]
  exact ⟨rfl, rfl⟩
theorem bdG_same {W : World} {u t : Txv} (hd : BdG t) (h : LtT W u t) : BdG u := ⟨by rw [h.D.1]; exact hd.1, by rw [h.E.1]; exact hd.2.1, fun i hi => by rw [(h.ks i (Nat.lt_of_lt_of_eq hi h.E.1)).ks]; exact hd.2.2.1 i (Nat.lt_of_lt_of_eq hi h.E.1), by rw [h.U.1]; exact hd.2.2.2⟩
theorem same_vals {W : World} {u t : Txv} (hd : Hid (BdG t)) (hn : Hid (BdTF t)) (h : LtT W u t) : igV u = igV t ∧ flV u = flV t ∧ dfN u = dfN t ∧ enV u = enV t ∧ bgT u = bgT t ∧ Hid (BdG u) ∧ u.Hsl.length < 1000000000 := by
  have e1 := igT_same h
  have e2 := df_same h
  refine ⟨by unfold igV; rw [e1.1, e2], by unfold flV; rw [e1.2, e2], e2, by unfold enV; rw [e1.1, e1.2, e2, h.sc.2.2.2.1], by unfold bgT; rw [h.sc.1, h.Hs.1], bdG_same hd.out h, by rw [h.Hs.1]; exact hn.out.2.1⟩
end Go.Proofs.YtllfmlgnemkklaaDoor
