import Derived.Test.YtmhcgjkemlcgoaaDoorKCols
namespace Go.Proofs.YtmhcgjkemlcgoaaDoor.K
open Go.RowKit Go.Sort

theorem lanes_size {L : List (BitVec 64)} (h : L.length = 25) : ((lanes L).toArray).size = 25 := by simp [lanes_len, h]

set_option maxRecDepth 100000 in
set_option maxHeartbeats 4000000 in
theorem rperm_any {L : List (BitVec 64)} (hl : L.length = 25) (w : World) (ht : Tab w 3 turnsN) (hm : Lns w 0 marksN) :
    Calls Tryd.prog 26 #[.agg (lanes L).toArray] w fun e w' => e = .returned (.agg (lanes (perm L)).toArray) ∧ Below w.heap.size w w' := by
  have HH : Hid (Tab w 3 turnsN ∧ Lns w 0 marksN) := ⟨ht, hm⟩
  clear ht hm
  go_enter Tryd.func26, Tryd.ntmps26
  obtain ⟨X, kx⟩ : ∃ X, X = (w.alloc (.cells (lanes L).toArray 47)).alloc (.cells (lanes (List.replicate 25 0)).toArray 47) := ⟨_, rfl⟩
  obtain ⟨Z, kz⟩ : ∃ Z, Z = X.alloc (.cells (lanes (List.replicate 25 0)).toArray 47) := ⟨_, rfl⟩
  have xs : X.heap.size = w.heap.size + 1 + 1 := by rw [kx]; simp
  have XX : Hid (Below w.heap.size w X ∧ Arr X w.heap.size L ∧ Arr X (w.heap.size + 1) (List.replicate 25 0)) := by
    refine ⟨?_, ?_, ?_⟩ <;> rw [kx]
    · exact ((Below.refl _ _).alloc (Nat.le_refl _) _).alloc (by simp) _
    · exact (Arr.new hl _ rfl).alloc _
    · exact Arr.new (by simp) _ (by simp)
  have ZZ : Hid (Below w.heap.size w Z ∧ Arr Z (w.heap.size + 1) (List.replicate 25 0) ∧ Arr Z (w.heap.size + 1 + 1) (List.replicate 25 0)) := by
    refine ⟨?_, ?_, ?_⟩ <;> rw [kz]
    · exact XX.out.1.alloc XX.out.1.size _
    · exact XX.out.2.2.alloc _
    · exact Arr.new (by simp) _ (by rw [xs])
  rw [zeros25] at kx kz
  have KX : Hid (X = (w.alloc (.cells (lanes L).toArray 47)).alloc (.cells #[.int .u64 0, .int .u64 0, .int .u64 0, .int .u64 0, .int .u64 0, .int .u64 0, .int .u64 0, .int .u64 0, .int .u64 0, .int .u64 0, .int .u64 0, .int .u64 0, .int .u64 0, .int .u64 0, .int .u64 0, .int .u64 0, .int .u64 0, .int .u64 0, .int .u64 0, .int .u64 0, .int .u64 0, .int .u64 0, .int .u64 0, .int .u64 0, .int .u64 0] 47)) := kx
  have KZ : Hid (Z = ((w.alloc (.cells (lanes L).toArray 47)).alloc (.cells #[.int .u64 0, .int .u64 0, .int .u64 0, .int .u64 0, .int .u64 0, .int .u64 0, .int .u64 0, .int .u64 0, .int .u64 0, .int .u64 0, .int .u64 0, .int .u64 0, .int .u64 0, .int .u64 0, .int .u64 0, .int .u64 0, .int .u64 0, .int .u64 0, .int .u64 0, .int .u64 0, .int .u64 0, .int .u64 0, .int .u64 0, .int .u64 0, .int .u64 0] 47)).alloc (.cells #[.int .u64 0, .int .u64 0, .int .u64 0, .int .u64 0, .int .u64 0, .int .u64 0, .int .u64 0, .int .u64 0, .int .u64 0, .int .u64 0, .int .u64 0, .int .u64 0, .int .u64 0, .int .u64 0, .int .u64 0, .int .u64 0, .int .u64 0, .int .u64 0, .int .u64 0, .int .u64 0, .int .u64 0, .int .u64 0, .int .u64 0, .int .u64 0, .int .u64 0] 47)) := by rw [kz, kx]; exact rfl
  clear kx kz xs
  have HM : Hid ((lanes L).length = 25) := by rw [lanes_len]; exact hl
  have SZ := lanes_size hl
  have OC := one_lanes L
  go_wp2_with (first | refine wpList_load_mid rfl 47 _ rfl w.heap.size 0 rfl (lanes L) _ (by rw [← KX.out]; exact XX.out.2.1.2.1.range) Tryd.underlying47 rfl (by rw [HM.out]; kernel_rfl) ?_ | refine wpList_store_mid rfl 47 _ _ rfl (w.heap.size + 1 + 1) 0 _ rfl rfl (by rw [← KZ.out, SZ]; exact ZZ.out.2.2.there) (by rw [SZ]; kernel_rfl) OC ?_)
  rw [← KZ.out]
  refine wp_world (fun W => Below w.heap.size w W ∧ Arr W (w.heap.size + 1) (List.replicate 25 0) ∧ Arr W (w.heap.size + 1 + 1) L) ⟨below_setCells (by omega) _ 0 Z ZZ.out.1, ZZ.out.2.1.otherCells (by omega) _, ZZ.out.2.2.stored hl⟩ ?_
  rintro W ⟨B, hR, hA⟩
  have NN : Hid (w.heap.size + 1 + 1 ≠ w.heap.size + 1 ∧ w.heap.size ≤ w.heap.size + 1 + 1 ∧ w.heap.size ≤ w.heap.size + 1) := ⟨by omega, by omega, by omega⟩
  clear XX ZZ KX KZ HM SZ OC hl
  clear X Z
  generalize w.heap.size + 1 + 1 = ba at *
  generalize w.heap.size + 1 = br at *
  go_loopg [4] 24 (fun k iv wr => ∃ i : Nat, k = 24 - i ∧ i ≤ 24 ∧ iv = .int .i64 i ∧ Below w.heap.size w wr ∧ Arr wr br (List.replicate 25 0) ∧ Arr wr ba (rnds L i))
  case atStart => exact ⟨0, rfl, by decide, rfl, B, hR, hA⟩
  case round =>
    clear B hR hA
    obtain ⟨i, hk, hi, rfl, hf⟩ := hrel
    have HK : Hid (gk = 24 - i) := hk
    have HF : Hid (Below w.heap.size w wr ∧ Arr wr br (List.replicate 25 0) ∧ Arr wr ba (rnds L i)) := hf
    clear hk hf
    by_cases h8 : i = 24
    · subst h8
      have EL : Hid (rnds L 24 = perm L) := rfl
      have rb := HF.out.2.2.2.1.range
      have sz := lanes_size HF.out.2.2.1
      have tr : wr.there br 0 ((lanes (rnds L 24)).toArray).size := by rw [sz]; exact HF.out.2.1.there
      have oc := one_lanes (rnds L 24)
      generalize hM : lanes (rnds L 24) = M at *
      have HM : Hid (M.length = 25) := by rw [← hM, lanes_len]; exact HF.out.2.2.1
      go_wp2_with (first | refine wpList_load_mid rfl 47 _ rfl ba 0 rfl M _ rb Tryd.underlying47 rfl (by rw [HM.out]; kernel_rfl) ?_ | refine wpList_store_mid rfl 47 _ _ rfl br 0 _ rfl rfl tr (by rw [sz]; kernel_rfl) oc ?_)
      have ld := run_loadVar_mid (P := Tryd.prog) (wr.setCells br 0 M) br 0 47 M _ (World.rangeAt_setCells_same _ _ _ _ (by simpa using tr)) Tryd.underlying47 rfl (by rw [HM.out]; kernel_rfl)
      refine bodyPost_ret (v := .agg M.toArray) ?_ rfl ⟨by rw [← hM, EL.out], below_setCells NN.out.2.2 M 0 wr HF.out.1⟩
      simp [results, Tryd.results26, Act.put, asAddr, ld]
    · have hi' : (i : Int) < 24 := by omega
      obtain ⟨A, ka⟩ : ∃ A, A = rnds L i := ⟨_, rfl⟩
      obtain ⟨m, km⟩ : ∃ m, m = marksN.getD i 0 := ⟨_, rfl⟩
      have KM : Hid (rnds L (i + 1) = rnd A m ∧ m = marksN.getD i 0) := ⟨by rw [ka, km]; exact rfl, km⟩
      rw [← ka] at HF
      clear ka km
      have lA : Hid (A.length = 25) := HF.out.2.2.1
      have rb := HF.out.2.2.2.1.range
      have HM : Hid ((lanes A).length = 25) := by rw [lanes_len]; exact lA.out
      go_wp2_with (refine wpList_load_mid rfl 47 _ rfl ba 0 rfl (lanes A) _ rb Tryd.underlying47 rfl (by rw [HM.out]; kernel_rfl) ?_)
      clear rb HM
      refine (columns_any lA.out _).mono ?_
      rintro e w0 ⟨rfl, hb⟩
      replace HF : Hid (Below w.heap.size w w0 ∧ Arr w0 br (List.replicate 25 0) ∧ Arr w0 ba A) := ⟨HF.out.1.trans (hb.mono HF.out.1.size), HF.out.2.1.keep hb, HF.out.2.2.keep hb⟩
      clear hb
      obtain ⟨A1, k0⟩ : ∃ A', A' = mapL (colF A) := ⟨_, rfl⟩
      rw [← k0]
      have K0 : Hid (A1 = mapL (colF A)) := k0
      have l0 : Hid (A1.length = 25) := by rw [k0]; exact mapL_len _
      clear k0
      have sz := lanes_size l0.out
      have tr : w0.there ba 0 ((lanes A1).toArray).size := by rw [sz]; exact HF.out.2.2.there
      have oc := one_lanes A1
      have rb : (w0.setCells ba 0 (lanes A1)).rangeAt ba 0 (lanes A1) := (HF.out.2.2.stored l0.out).2.1.range
      have HM : Hid ((lanes A1).length = 25) := by rw [lanes_len]; exact l0.out
      go_wp2_with (first | refine wpList_store_mid rfl 47 _ _ rfl ba 0 _ rfl rfl tr (by rw [sz]; kernel_rfl) oc ?_ | refine wpList_load_mid rfl 47 _ rfl ba 0 rfl (lanes A1) _ rb Tryd.underlying47 rfl (by rw [HM.out]; kernel_rfl) ?_)
      refine calls_world (fun W => Below w.heap.size w W ∧ Arr W br (List.replicate 25 0) ∧ Arr W ba A1) ⟨below_setCells NN.out.2.1 _ 0 w0 HF.out.1, HF.out.2.1.otherCells NN.out.1 _, HF.out.2.2.stored l0.out⟩ ?_
      clear HF sz tr oc lA rb HM
      rintro W0 HF'
      have HF : Hid (Below w.heap.size w W0 ∧ Arr W0 br (List.replicate 25 0) ∧ Arr W0 ba A1) := HF'
      have lA : Hid (A1.length = 25) := l0.out
      clear HF' l0
      refine (moved_any lA.out _ (HH.out.1.keep HF.out.1)).mono ?_
      rintro e w1 ⟨rfl, hb⟩
      replace HF : Hid (Below w.heap.size w w1 ∧ Arr w1 br (List.replicate 25 0) ∧ Arr w1 ba A1) := ⟨HF.out.1.trans (hb.mono HF.out.1.size), HF.out.2.1.keep hb, HF.out.2.2.keep hb⟩
      clear hb
      obtain ⟨A2, k1⟩ : ∃ A', A' = mapL (movF A1) := ⟨_, rfl⟩
      rw [← k1]
      have K1 : Hid (A2 = mapL (movF A1)) := k1
      have l1 : Hid (A2.length = 25) := by rw [k1]; exact mapL_len _
      clear k1
      have sz := lanes_size l1.out
      have tr : w1.there ba 0 ((lanes A2).toArray).size := by rw [sz]; exact HF.out.2.2.there
      have oc := one_lanes A2
      have rb : (w1.setCells ba 0 (lanes A2)).rangeAt ba 0 (lanes A2) := (HF.out.2.2.stored l1.out).2.1.range
      have HM : Hid ((lanes A2).length = 25) := by rw [lanes_len]; exact l1.out
      go_wp2_with (first | refine wpList_store_mid rfl 47 _ _ rfl ba 0 _ rfl rfl tr (by rw [sz]; kernel_rfl) oc ?_ | refine wpList_load_mid rfl 47 _ rfl ba 0 rfl (lanes A2) _ rb Tryd.underlying47 rfl (by rw [HM.out]; kernel_rfl) ?_)
      refine calls_world (fun W => Below w.heap.size w W ∧ Arr W br (List.replicate 25 0) ∧ Arr W ba A2) ⟨below_setCells NN.out.2.1 _ 0 w1 HF.out.1, HF.out.2.1.otherCells NN.out.1 _, HF.out.2.2.stored l1.out⟩ ?_
      clear HF sz tr oc lA rb HM
      rintro W1 HF'
      have HF : Hid (Below w.heap.size w W1 ∧ Arr W1 br (List.replicate 25 0) ∧ Arr W1 ba A2) := HF'
      have lA : Hid (A2.length = 25) := l1.out
      clear HF' l1
      refine (mixed_any lA.out _).mono ?_
      rintro e w2 ⟨rfl, hb⟩
      replace HF : Hid (Below w.heap.size w w2 ∧ Arr w2 br (List.replicate 25 0) ∧ Arr w2 ba A2) := ⟨HF.out.1.trans (hb.mono HF.out.1.size), HF.out.2.1.keep hb, HF.out.2.2.keep hb⟩
      clear hb
      obtain ⟨A3, k2⟩ : ∃ A', A' = mapL (mixF A2) := ⟨_, rfl⟩
      rw [← k2]
      have K2 : Hid (A3 = mapL (mixF A2)) := k2
      have l2 : Hid (A3.length = 25) := by rw [k2]; exact mapL_len _
      clear k2
      have sz := lanes_size l2.out
      have tr : w2.there ba 0 ((lanes A3).toArray).size := by rw [sz]; exact HF.out.2.2.there
      have oc := one_lanes A3
      have rb : (w2.setCells ba 0 (lanes A3)).rangeAt ba 0 (lanes A3) := (HF.out.2.2.stored l2.out).2.1.range
      have HM : Hid ((lanes A3).length = 25) := by rw [lanes_len]; exact l2.out
      go_wp2_with (refine wpList_store_mid rfl 47 _ _ rfl ba 0 _ rfl rfl tr (by rw [sz]; kernel_rfl) oc ?_)
      refine wp_world (fun W => Below w.heap.size w W ∧ Arr W br (List.replicate 25 0) ∧ Arr W ba A3) ⟨below_setCells NN.out.2.1 _ 0 w2 HF.out.1, HF.out.2.1.otherCells NN.out.1 _, HF.out.2.2.stored l2.out⟩ ?_
      clear HF sz tr oc lA rb HM
      rintro W2 HF'
      have HF : Hid (Below w.heap.size w W2 ∧ Arr W2 br (List.replicate 25 0) ∧ Arr W2 ba A3) := HF'
      have lA : Hid (A3.length = 25) := l2.out
      clear HF' l2
      have g0 := HF.out.2.2.2.1 0 (by rw [lA.out]; decide)
      have f0 := HF.out.2.2.2.2 0 (by decide)
      have gm : W2.cell? ⟨0, i, none⟩ = some (.int .u64 (V m)) := by rw [KM.out.2]; exact HH.out.2.keep HF.out.1 i (by simp [marksN]; omega)
      have EF : Hid (A3.set 0 (A3.getD 0 0 ^^^ m) = rnds L (i + 1)) := by rw [KM.out.1, K2.out, K1.out, K0.out]; exact rnd_ref A m
      obtain ⟨z, kz⟩ : ∃ z, z = A3.getD 0 0 := ⟨_, rfl⟩
      rw [← kz] at g0 EF
      clear kz
      have vz := V_xor z m
      simp only [Act.put]
      refine region_tail 7 (by kernel_rfl) (by kernel_rfl) ?_
      simp only [List.take_succ_cons, List.take_zero, List.drop_succ_cons, List.drop_zero]
      repeat (first | go_big_quiet_skip | (go_big_quiet_want; go_big_quiet_op; go_big_quiet_on))
      refine wpQuiet_nil ?_
      go_wp2
      go_roundg (24 - (i + 1))
      case measure => have := HK.out; omega
      case rel =>
        refine ⟨i + 1, rfl, by omega, by go_num, HF.out.1.drew.setCell NN.out.2.1 _, HF.out.2.1.drew.other NN.out.1 _, ?_⟩
        rw [← EF.out]
        exact HF.out.2.2.drew.set 0 (by decide) _

end Go.Proofs.YtmhcgjkemlcgoaaDoor.K
