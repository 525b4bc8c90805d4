import Derived.Test.YtncpjgpioajbeaaGreatDoorSSums
namespace Go.Proofs.YtncpjgpioajbeaaGreatDoor.S
open Go.RowKit Go.Sort

/-- A block, each byte changed by the mask; under way. -/
def maskL (K : List (BitVec 8)) (m : BitVec 8) : List (BitVec 8) := K.map (· ^^^ m)
theorem maskL_len (K : List (BitVec 8)) (m : BitVec 8) : (maskL K m).length = K.length := by simp [maskL]
def maskAt (K : List (BitVec 8)) (m : BitVec 8) (i : Nat) : List (BitVec 8) := maskL (K.take i) m ++ K.drop i
theorem maskAt_len (K : List (BitVec 8)) (m : BitVec 8) (i : Nat) : (maskAt K m i).length = K.length := by
  rw [maskAt, List.length_append, maskL_len, List.length_take, List.length_drop]; omega
theorem maskAt_getD {K : List (BitVec 8)} (m : BitVec 8) {i : Nat} (h : i < K.length) : (maskAt K m i).getD i 0 = K.getD i 0 := by
  rw [maskAt, List.getD, List.getElem?_append_right (by rw [maskL_len, List.length_take]; omega), maskL_len, List.length_take, Nat.min_eq_left (by omega), Nat.sub_self, List.getElem?_drop, Nat.add_zero]
  rfl
theorem maskAt_set {K : List (BitVec 8)} (m : BitVec 8) {i : Nat} (h : i < K.length) : (maskAt K m i).set i (K.getD i 0 ^^^ m) = maskAt K m (i + 1) := by
  have e : K.drop i = K.getD i 0 :: K.drop (i + 1) := by
    rw [List.drop_eq_getElem_cons h, List.getD, List.getElem?_eq_getElem h]; rfl
  have l : (maskL (K.take i) m).length = i := by rw [maskL_len, List.length_take]; omega
  rw [maskAt, maskAt, List.set_append_right _ _ (by omega), l, Nat.sub_self, e, List.set_cons_zero, take_snoc h, maskL, maskL, List.map_append, List.append_assoc]
  rfl
theorem Row8.there {W : World} {g : Nat} {X : List (BitVec 8)} (h : Row8 W g X) : W.there g 0 X.length := fun j hj => by
  have := h.1 j hj
  refine ⟨by rw [this]; rfl, ?_⟩
  rw [Nat.zero_add]
  exact h.2 j hj
theorem Byo.range {W : World} {b o : Nat} {X : List (BitVec 8)} (h : Byo W b o X) : W.rangeAt b o (byts X) := by
  intro j v hv
  unfold byts at hv
  rw [List.getElem?_map] at hv
  obtain ⟨x, hx, rfl⟩ := Option.map_eq_some_iff.1 hv
  have hj : j < X.length := (List.getElem?_eq_some_iff.1 hx).1
  rw [h j hj]
  simp [List.getD, hx]
theorem Row8.new {W : World} {b : Nat} {X : List (BitVec 8)} (t : TypeId) (e : b = W.heap.size) : Row8 (W.alloc (.cells (byts X).toArray t)) b X := by
  refine ⟨fun i hi => ?_, Loose.new _ _ _ e⟩
  subst e
  rw [Nat.zero_add, World.cell?_alloc_mark]
  simp [byts, List.getD, hi]
theorem Row8.zeros64 {W : World} {b : Nat} (t : TypeId) (e : b = W.heap.size) : Row8 (W.alloc (.cells #[.int .u8 0, .int .u8 0, .int .u8 0, .int .u8 0, .int .u8 0, .int .u8 0, .int .u8 0, .int .u8 0, .int .u8 0, .int .u8 0, .int .u8 0, .int .u8 0, .int .u8 0, .int .u8 0, .int .u8 0, .int .u8 0, .int .u8 0, .int .u8 0, .int .u8 0, .int .u8 0, .int .u8 0, .int .u8 0, .int .u8 0, .int .u8 0, .int .u8 0, .int .u8 0, .int .u8 0, .int .u8 0, .int .u8 0, .int .u8 0, .int .u8 0, .int .u8 0, .int .u8 0, .int .u8 0, .int .u8 0, .int .u8 0, .int .u8 0, .int .u8 0, .int .u8 0, .int .u8 0, .int .u8 0, .int .u8 0, .int .u8 0, .int .u8 0, .int .u8 0, .int .u8 0, .int .u8 0, .int .u8 0, .int .u8 0, .int .u8 0, .int .u8 0, .int .u8 0, .int .u8 0, .int .u8 0, .int .u8 0, .int .u8 0, .int .u8 0, .int .u8 0, .int .u8 0, .int .u8 0, .int .u8 0, .int .u8 0, .int .u8 0, .int .u8 0] t)) b (List.replicate 64 0) := by
  rw [← zeros64b]
  exact Row8.new t e
theorem Row8.other {W : World} {b b' i : Nat} {X : List (BitVec 8)} (h : Row8 W b X) (ne : b' ≠ b) (v : Value) : Row8 (W.setCell ⟨b', i, none⟩ v) b X := h.far ne

set_option maxRecDepth 100000 in
set_option maxHeartbeats 4000000 in
theorem masked_any {K : List (BitVec 8)} (hl : K.length = 64) (m : BitVec 8) (w : World) :
    Calls Tryz.prog 74 #[.agg (byts K).toArray, .int .u8 (Y m)] w fun e w' => e = .returned (.agg (byts (maskL K m)).toArray) ∧ Below w.heap.size w w' := by
  go_enter Tryz.func74, Tryz.ntmps74
  go_wp2_with fail
  refine wp_world (fun W => Below w.heap.size w W ∧ Row8 W w.heap.size (maskAt K m 0) ∧ Row8 W (w.heap.size + 1) (List.replicate 64 0)) ⟨((Below.refl _ _).alloc (Nat.le_refl _) _).alloc (by simp) _, (Row8.new (X := K) _ rfl).keep ((Below.refl _ _).alloc (Nat.le_refl _) _) (by simp), Row8.zeros64 _ (by simp)⟩ ?_
  rintro W ⟨hB, hA, hR⟩
  have NN : Hid (w.heap.size ≠ w.heap.size + 1 ∧ w.heap.size ≤ w.heap.size + 1 ∧ K.length = 64) := ⟨by omega, by omega, hl⟩
  clear hl
  generalize w.heap.size + 1 = br at *
  go_loopg [6] 64 (fun k iv wr => ∃ i : Nat, k = 64 - i ∧ i ≤ 64 ∧ iv = .int .i64 i ∧ Below w.heap.size w wr ∧ Row8 wr w.heap.size (maskAt K m i) ∧ Row8 wr br (List.replicate 64 0))
  case atStart => exact ⟨0, rfl, by decide, rfl, hB, hA, hR⟩
  case round =>
    clear hB hA hR
    obtain ⟨i, hk, hi, rfl, hf⟩ := hrel
    have HK : Hid (gk = 64 - i) := hk
    have HF : Hid (Below w.heap.size w wr ∧ Row8 wr w.heap.size (maskAt K m i) ∧ Row8 wr br (List.replicate 64 0)) := hf
    clear hk hf
    by_cases h8 : i = 64
    · subst h8
      obtain ⟨M, kM⟩ : ∃ M, M = maskL K m := ⟨_, rfl⟩
      have eM : maskAt K m 64 = M := by rw [kM, maskAt, List.take_of_length_le (by rw [NN.out.2.2]; omega), List.drop_eq_nil_of_le (by rw [NN.out.2.2]; omega), List.append_nil]
      rw [eM] at HF
      have lM : Hid (M.length = 64 ∧ maskL K m = M) := ⟨by rw [kM, maskL_len]; exact NN.out.2.2, kM.symm⟩
      clear kM eM
      have rb := HF.out.2.1.1.range
      have sz : ((byts M).toArray).size = 64 := by simp [byts_len, lM.out.1]
      have tr : wr.there br 0 ((byts M).toArray).size := by have h := HF.out.2.2.there; rw [List.length_replicate] at h; rw [sz]; exact h
      have oc := one_byts M
      have il : (Tryz.prog.info? 98).map (·.size) = some (byts M).length := by rw [byts_len, lM.out.1]; kernel_rfl
      have il3 : (Tryz.prog.info? 98).map (·.size) = some ((byts M).toArray).size := by rw [sz]; kernel_rfl
      go_wp2_with (first
        | ((with_reducible refine wpList_load_at (ty := 98) w.heap.size 0 (byts M) _ rb Tryz.underlying98 ?_ il ?_ ?_); rfl; rfl; simp only [Act.put, List.setIfInBounds_toArray, List.set_cons_succ, List.set_cons_zero])
        | ((with_reducible refine wpList_store_at (ty := 98) br 0 (byts M).toArray tr il3 oc ?_ ?_ ?_); rfl; rfl))
      have ld := run_loadVar_mid (P := Tryz.prog) (wr.setCells br 0 (byts M)) br 0 98 (byts M) _ (World.rangeAt_setCells_same _ _ _ _ (by simpa using tr)) Tryz.underlying98 rfl il
      refine bodyPost_ret (v := .agg (byts M).toArray) ?_ rfl ⟨by rw [lM.out.2], below_setCells NN.out.2.1 (byts M) 0 wr HF.out.1⟩
      simp [results, Tryz.results74, Act.put, asAddr, ld]
    · have hi' : (i : Int) < 64 := by omega
      have lt : i < K.length := by have := NN.out; omega
      have g0 := HF.out.2.1.1 i (by rw [maskAt_len]; exact lt)
      rw [Nat.zero_add, maskAt_getD m lt] at g0
      have f0 := HF.out.2.1.2 i (by rw [maskAt_len]; exact lt)
      have NX : Hid ((maskAt K m i).set i (K.getD i 0 ^^^ m) = maskAt K m (i + 1)) := maskAt_set m lt
      generalize K.getD i 0 = x at *
      have v1 := Y_xor x m
      have LL : Hid (i < (maskAt K m i).length) := by rw [maskAt_len]; exact lt
      clear lt
      go_wp2
      go_roundg (64 - (i + 1))
      case measure => have := HK.out; omega
      case rel =>
        refine ⟨i + 1, rfl, by omega, by go_num, HF.out.1.setCell (Nat.le_refl _) _, ?_, HF.out.2.2.other NN.out.1 _⟩
        rw [← NX.out]
        exact HF.out.2.1.set i LL.out _

end Go.Proofs.YtncpjgpioajbeaaGreatDoor.S
