import Derived.Test.YtcjabligkeaafaaDoorKRound
import Derived.Deep.LoopGhost
import Derived.Lib.LazyBuf
namespace Go.Proofs.YtcjabligkeaafaaDoor.K
open Go.RowKit Go.Sort

theorem V_zero : V 0 = 0 := by rw [V_eq]; rfl
theorem zeros25 : (lanes (List.replicate 25 0)).toArray = #[.int .u64 0, .int .u64 0, .int .u64 0, .int .u64 0, .int .u64 0, .int .u64 0, .int .u64 0, .int .u64 0, .int .u64 0, .int .u64 0, .int .u64 0, .int .u64 0, .int .u64 0, .int .u64 0, .int .u64 0, .int .u64 0, .int .u64 0, .int .u64 0, .int .u64 0, .int .u64 0, .int .u64 0, .int .u64 0, .int .u64 0, .int .u64 0, .int .u64 0] := by
  have h : V 0#64 = 0 := V_zero
  simp [lanes, List.replicate, h]
theorem Lns.zeros {W : World} {b : Nat} (t : TypeId) (e : b = W.heap.size) : Lns (W.alloc (.cells #[.int .u64 0, .int .u64 0, .int .u64 0, .int .u64 0, .int .u64 0, .int .u64 0, .int .u64 0, .int .u64 0, .int .u64 0, .int .u64 0, .int .u64 0, .int .u64 0, .int .u64 0, .int .u64 0, .int .u64 0, .int .u64 0, .int .u64 0, .int .u64 0, .int .u64 0, .int .u64 0, .int .u64 0, .int .u64 0, .int .u64 0, .int .u64 0, .int .u64 0] t)) b (List.replicate 25 0) := by
  rw [← zeros25]
  exact Lns.new _ _ e

/-- Block b holds these 25 lanes and may be written. -/
def Arr (W : World) (b : Nat) (L : List (BitVec 64)) : Prop := L.length = 25 ∧ Lns W b L ∧ Loose W b 25
theorem Arr.lt {W : World} {b : Nat} {L : List (BitVec 64)} (h : Arr W b L) : b < W.heap.size := h.2.1.lt (by rw [h.1]; decide)
theorem Arr.keep {W w1 : World} {b : Nat} {L : List (BitVec 64)} (h : Arr W b L) (hb : Below W.heap.size W w1) : Arr w1 b L := ⟨h.1, h.2.1.keep hb, h.2.2.keep hb h.lt⟩
theorem Arr.alloc {W : World} {b : Nat} {L : List (BitVec 64)} (h : Arr W b L) (o : Obj) : Arr (W.alloc o) b L := h.keep ((Below.refl _ _).alloc (Nat.le_refl _) o)
theorem Arr.drew {W : World} {b : Nat} {L : List (BitVec 64)} (h : Arr W b L) : Arr W.drew b L := h
theorem Arr.other {W : World} {b b' i : Nat} {L : List (BitVec 64)} (h : Arr W b L) (ne : b' ≠ b) (v : Value) : Arr (W.setCell ⟨b', i, none⟩ v) b L := ⟨h.1, h.2.1.other ne v, h.2.2.set _ _⟩
theorem Arr.set {W : World} {b : Nat} {L : List (BitVec 64)} (h : Arr W b L) (i : Nat) (hi : i < 25) (v : BitVec 64) : Arr (W.setCell ⟨b, i, none⟩ (.int .u64 (V v))) b (L.set i v) :=
  ⟨by rw [List.length_set]; exact h.1, h.2.1.set i (by rw [h.1]; exact hi) v, h.2.2.set _ _⟩
theorem Arr.new {W : World} {b : Nat} {L : List (BitVec 64)} (hl : L.length = 25) (t : TypeId) (e : b = W.heap.size) : Arr (W.alloc (.cells (lanes L).toArray t)) b L := ⟨hl, Lns.new L t e, Loose.new _ _ _ e⟩
theorem Arr.zeros {W : World} {b : Nat} (t : TypeId) (e : b = W.heap.size) : Arr (W.alloc (.cells #[.int .u64 0, .int .u64 0, .int .u64 0, .int .u64 0, .int .u64 0, .int .u64 0, .int .u64 0, .int .u64 0, .int .u64 0, .int .u64 0, .int .u64 0, .int .u64 0, .int .u64 0, .int .u64 0, .int .u64 0, .int .u64 0, .int .u64 0, .int .u64 0, .int .u64 0, .int .u64 0, .int .u64 0, .int .u64 0, .int .u64 0, .int .u64 0, .int .u64 0] t)) b (List.replicate 25 0) := ⟨by simp, Lns.zeros t e, Loose.new _ _ _ e⟩
theorem Arr.there {W : World} {b : Nat} {L : List (BitVec 64)} (h : Arr W b L) : W.there b 0 25 := there_of h.2.1 h.2.2 h.1
theorem Arr.off {w w' : World} {a b : Nat} {L : List (BitVec 64)} (h : Arr w a L) (ne : a ≠ b) (o : Off b w w') : Arr w' a L :=
  ⟨h.1, o.lns ne h.2.1, fun i hi => by rw [World.frozen?_of_block (o.block a h.lt ne)]; exact h.2.2 i hi⟩
theorem Arr.stored {W : World} {b : Nat} {L T : List (BitVec 64)} (h : Arr W b T) (hl : L.length = 25) : Arr (W.setCells b 0 (lanes L)) b L := ⟨hl, Lns.stored (by rw [hl]; exact h.there), h.2.2.setCells _ _ _⟩

set_option maxRecDepth 100000 in
set_option maxHeartbeats 4000000 in
theorem perm_any {L : List (BitVec 64)} (hl : L.length = 25) (w : World) (ht : Tab w 1 turnsN) (hm : Lns w 0 marksN) :
    Calls Tryd.prog 24 #[.agg (lanes L).toArray] w fun e w' => e = .returned (.agg (lanes (perm L)).toArray) ∧ Below w.heap.size w w' := by
  have HH : Hid (Tab w 1 turnsN ∧ Lns w 0 marksN) := ⟨ht, hm⟩
  have lt3 : 1 < w.heap.size := ht.lt (by decide)
  clear ht hm
  go_enter Tryd.func24, Tryd.ntmps24
  go_wp2_with fail
  refine wp_world (fun W => Below w.heap.size w W ∧ Arr W w.heap.size L ∧ Arr W (w.heap.size + 1) (List.replicate 25 0) ∧ Arr W (w.heap.size + 1 + 1) (List.replicate 25 0)) ⟨?_, ((Arr.new hl _ rfl).alloc _).alloc _, (Arr.zeros _ (by simp)).alloc _, Arr.zeros _ (by simp)⟩ ?_
  · repeat (first | with_reducible exact Below.refl _ _ | with_reducible refine Below.alloc ?_ (by first | omega | (simp; done) | (simp; omega)) _)
  rintro W ⟨B, hA, hR, hO⟩
  have c1 : w.heap.size ≠ w.heap.size + 1 + 1 := by omega
  have c2 : w.heap.size + 1 ≠ w.heap.size + 1 + 1 := by omega
  have c3 : w.heap.size + 1 ≠ w.heap.size := by omega
  have o2 : w.heap.size ≤ w.heap.size + 1 + 1 := by omega
  have o1 : w.heap.size ≤ w.heap.size + 1 := by omega
  have n1 : 1 ≠ w.heap.size := by omega
  have n2 : 1 ≠ w.heap.size + 1 + 1 := by omega
  have NN : Hid (w.heap.size ≠ w.heap.size + 1 + 1 ∧ w.heap.size + 1 ≠ w.heap.size + 1 + 1 ∧ w.heap.size + 1 ≠ w.heap.size ∧ w.heap.size ≤ w.heap.size + 1 + 1 ∧ w.heap.size ≤ w.heap.size + 1 ∧ 1 ≠ w.heap.size ∧ 1 ≠ w.heap.size + 1 + 1) := ⟨c1, c2, c3, o2, o1, n1, n2⟩
  clear c1 c2 c3 o1 o2 n1 n2 lt3 hl
  generalize w.heap.size + 1 + 1 = bo at *
  generalize w.heap.size + 1 = br at *
  go_loopg [4] 12 (fun k iv wr => ∃ (j : Nat) (T : List (BitVec 64)), k = 12 - j ∧ j ≤ 12 ∧ iv = .int .i64 ((2 * j : Nat) : Int) ∧ Below w.heap.size w wr ∧ Arr wr w.heap.size (rnds L (2 * j)) ∧ Arr wr br (List.replicate 25 0) ∧ Arr wr bo T)
  case atStart => exact ⟨0, _, rfl, by decide, rfl, B, hA, hR, hO⟩
  case round =>
    clear B hA hR hO
    obtain ⟨j, T, hk, hj, rfl, B, hA, hR, hO⟩ := hrel
    have HK : Hid (gk = 12 - j) := hk
    have HF : Hid (Below w.heap.size w wr ∧ Arr wr w.heap.size (rnds L (2 * j)) ∧ Arr wr br (List.replicate 25 0) ∧ Arr wr bo T) := ⟨B, hA, hR, hO⟩
    clear hk B hA hR hO
    by_cases h8 : j = 12
    · subst h8
      have EL : Hid (rnds L (2 * 12) = perm L) := rfl
      have rb := HF.out.2.1.2.1.range
      have sz : ((lanes (rnds L (2 * 12))).toArray).size = 25 := by simp [lanes_len, HF.out.2.1.1]
      have tr : wr.there br 0 ((lanes (rnds L (2 * 12))).toArray).size := by rw [sz]; exact HF.out.2.2.1.there
      have oc := one_lanes (rnds L (2 * 12))
      generalize hM : lanes (rnds L (2 * 12)) = M at *
      have HM : Hid (M.length = 25) := by rw [← hM, lanes_len]; exact HF.out.2.1.1
      go_wp2_with (first | refine wpList_load_mid rfl 58 _ rfl w.heap.size 0 rfl M _ rb Tryd.underlying58 rfl (by rw [HM.out]; kernel_rfl) ?_ | refine wpList_store_mid rfl 58 _ _ rfl br 0 _ rfl rfl tr (by rw [sz]; kernel_rfl) oc ?_)
      have ld := run_loadVar_mid (P := Tryd.prog) (wr.setCells br 0 M) br 0 58 M _ (World.rangeAt_setCells_same _ _ _ _ (by simpa using tr)) Tryd.underlying58 rfl (by rw [HM.out]; kernel_rfl)
      refine bodyPost_ret (v := .agg M.toArray) ?_ rfl ⟨by rw [← hM, EL.out], below_setCells NN.out.2.2.2.2.1 M 0 wr HF.out.1⟩
      simp [results, Tryd.results24, Act.put, asAddr, ld]
    · have hj' : (j : Int) < 12 := by omega
      have g0 : wr.cell? ⟨0, 2 * j, none⟩ = some (.int .u64 (V (marksN.getD (2 * j) 0))) := HH.out.2.keep HF.out.1 (2 * j) (by simp [marksN]; omega)
      have e0 : (2 * (j : Int)).toNat = 2 * j := by omega
      have g1 : wr.cell? ⟨0, 2 * j + 1, none⟩ = some (.int .u64 (V (marksN.getD (2 * j + 1) 0))) := HH.out.2.keep HF.out.1 (2 * j + 1) (by simp [marksN]; omega)
      have G1 : Hid (wr.cell? ⟨0, 2 * j + 1, none⟩ = some (.int .u64 (V (marksN.getD (2 * j + 1) 0)))) := g1
      have TB : Hid (Tab wr 1 turnsN) := HH.out.1.keep HF.out.1
      have MB : Hid (Lns wr 0 marksN) := HH.out.2.keep HF.out.1
      clear g1
      obtain ⟨m0, k0⟩ : ∃ m, m = marksN.getD (2 * j) 0 := ⟨_, rfl⟩
      obtain ⟨m1, k1⟩ : ∃ m, m = marksN.getD (2 * j + 1) 0 := ⟨_, rfl⟩
      have KM : Hid (rnds L (2 * (j + 1)) = rnd (rnd (rnds L (2 * j)) m0) m1) := by rw [k0, k1]; exact rfl
      rw [← k0] at g0
      rw [← k1] at G1
      have KM2 : Hid (m0 = marksN.getD (2 * j) 0 ∧ m1 = marksN.getD (2 * j + 1) 0) := ⟨k0, k1⟩
      clear k0 k1
      go_wp2_with fail
      refine (round_any NN.out.1 NN.out.2.2.2.2.2.2 HF.out.2.1.1 HF.out.2.2.2.1 m0 _ HF.out.2.1.2.1 HF.out.2.2.2.2.1 HF.out.2.2.2.2.2 TB.out).mono ?_
      rintro e w1 ⟨rfl, hl, hf, ho⟩
      have B1 : Hid (Below w.heap.size w w1) := HF.out.1.trans (ho.below HF.out.1.size NN.out.2.2.2.1)
      have O1 : Hid (Arr w1 bo (rnd (rnds L (2 * j)) m0)) := ⟨rnd_len _ _, hl, hf⟩
      have A1 : Hid (Arr w1 w.heap.size (rnds L (2 * j))) := HF.out.2.1.off NN.out.1 ho
      have R1 : Hid (Arr w1 br (List.replicate 25 0)) := HF.out.2.2.1.off NN.out.2.1 ho
      replace TB : Hid (Tab w1 1 turnsN) := HH.out.1.keep B1.out
      have g1 : w1.cell? ⟨0, 2 * j + 1, none⟩ = some (.int .u64 (V m1)) := by rw [KM2.out.2]; exact HH.out.2.keep B1.out (2 * j + 1) (by simp [marksN]; omega)
      have e1 : (2 * (j : Int) + 1).toNat = 2 * j + 1 := by omega
      clear hl hf ho HF G1 MB KM2 g0 e0
      go_wp2_with fail
      refine (round_any NN.out.1.symm NN.out.2.2.2.2.2.1 O1.out.1 A1.out.1 m1 _ O1.out.2.1 A1.out.2.1 A1.out.2.2 TB.out).mono ?_
      rintro e w2 ⟨rfl, hl, hf, ho⟩
      have B2 : Hid (Below w.heap.size w w2) := B1.out.trans (ho.below B1.out.size (Nat.le_refl _))
      have A2 : Hid (Arr w2 w.heap.size (rnds L (2 * (j + 1)))) := by rw [KM.out]; exact ⟨rnd_len _ _, hl, hf⟩
      have O2 : Hid (Arr w2 bo (rnd (rnds L (2 * j)) m0)) := O1.out.off NN.out.1.symm ho
      have R2 : Hid (Arr w2 br (List.replicate 25 0)) := R1.out.off NN.out.2.2.1 ho
      clear hl hf ho A1 O1 R1 B1 TB g1 e1 KM
      go_wp2
      go_roundg (12 - (j + 1))
      case measure => have := HK.out; omega
      case rel => exact ⟨j + 1, _, rfl, by omega, by go_num, B2.out, A2.out, R2.out, O2.out⟩

end Go.Proofs.YtcjabligkeaafaaDoor.K
