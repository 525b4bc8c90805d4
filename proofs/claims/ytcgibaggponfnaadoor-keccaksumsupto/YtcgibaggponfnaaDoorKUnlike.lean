import Derived.Test.YtcgibaggponfnaaDoorKInj
import Derived.Test.YtcgibaggponfnaaDoorKPermutes
namespace Go.Proofs.YtcgibaggponfnaaDoor
open Go.RowKit Go.Sort

theorem wpList_world {P : Program} {ops : Array Oper} {Q : Exit → Act → World → Prop} {rest : List Oper} {a : Act} {w : World} (S : World → Prop) (h : S w) (k : ∀ W, S W → wpList P ops Q rest a W) : wpList P ops Q rest a w := k w h
theorem fresh_arr {W : World} {b : Nat} (e : b = W.heap.size) : Arr (W.alloc (.cells #[.int .u64 0, .int .u64 0, .int .u64 0, .int .u64 0, .int .u64 0, .int .u64 0, .int .u64 0, .int .u64 0, .int .u64 0, .int .u64 0, .int .u64 0, .int .u64 0, .int .u64 0, .int .u64 0, .int .u64 0, .int .u64 0, .int .u64 0, .int .u64 0, .int .u64 0, .int .u64 0, .int .u64 0, .int .u64 0, .int .u64 0, .int .u64 0, .int .u64 0] 23)) b (List.replicate 25 0) := Arr.zeros _ e

theorem unlike_eq {L : List (BitVec 64)} (hl : L.length = 25) {k : Nat} (hk : k < 25) (b : BitVec 64) : decide (perm L = perm (L.set k (L.getD k 0 ^^^ b))) = decide (b = 0) := by
  have l2 : (L.set k (L.getD k 0 ^^^ b)).length = 25 := by rw [List.length_set]; exact hl
  by_cases h : b = 0
  · subst h
    have e : L.set k (L.getD k 0 ^^^ 0) = L := by
      apply list_eq l2 hl
      intro p hp
      by_cases e : p = k
      · subst e; simp [List.getD, hl, hp]
      · simp [List.getD, List.getElem?_set_ne (Ne.symm e)]
    rw [e]
    simp
  · have n : perm L ≠ perm (L.set k (L.getD k 0 ^^^ b)) := by
      intro h2
      have h3 := congrArg (fun X => X.getD k 0) (perm_inj hl l2 h2)
      have h4 : (L.set k (L.getD k 0 ^^^ b)).getD k 0 = L.getD k 0 ^^^ b := by simp [List.getD, hl, hk]
      rw [h4] at h3
      have h5 := congrArg (fun z => L.getD k 0 ^^^ z) h3
      simp only [BitVec.xor_self, ← BitVec.xor_assoc, BitVec.zero_xor] at h5
      exact h h5.symm
    rw [decide_eq_false n, decide_eq_false h]

set_option maxRecDepth 100000 in
set_option maxHeartbeats 4000000 in
theorem unlike_any {L : List (BitVec 64)} (hl : L.length = 25) (place : Int) (_p0 : -9223372036854775808 ≤ place) (_p1 : place ≤ 9223372036854775807) (b : BitVec 64) (w : World) (ht : Tab w 3 turnsN) (hm : Lns w 0 marksN) :
    Calls Tryd.prog 3 #[.agg (lanes L).toArray, .int .i64 place, .int .u64 (V b)] w fun e w' => e = .returned (.bool true) ∧ Below w.heap.size w w' := by
  have HH : Hid (Tab w 3 turnsN ∧ Lns w 0 marksN) := ⟨ht, hm⟩
  clear ht hm
  have HL : Hid (L.length = 25) := hl
  have HM : Hid ((lanes L).length = 25) := by rw [lanes_len]; exact hl
  have sz := lanes_size hl
  have oc := one_lanes L
  obtain ⟨k, hk, kk⟩ : ∃ k : Nat, k < 25 ∧ ((∃ t, Int.tmod place 25 = t ∧ t < 0 ∧ -25 < t ∧ t + 25 = (k : Int)) ∨ Int.tmod place 25 = (k : Int)) := by
    have h1 : Int.tmod place 25 < 25 := Int.tmod_lt_of_pos _ (by decide)
    have h2 : -25 < Int.tmod place 25 := Int.lt_tmod_of_pos _ (by decide)
    by_cases h : Int.tmod place 25 < 0
    · exact ⟨(Int.tmod place 25 + 25).toNat, by omega, .inl ⟨_, rfl, h, h2, by omega⟩⟩
    · exact ⟨(Int.tmod place 25).toNat, by omega, .inr (by omega)⟩
  obtain ⟨z, kz⟩ : ∃ z, z = L.getD k 0 := ⟨_, rfl⟩
  have KZ : Hid (z = L.getD k 0) := kz
  obtain ⟨L2, k2⟩ : ∃ L', L' = L.set k (z ^^^ b) := ⟨_, rfl⟩
  have K2 : Hid (L2 = L.set k (z ^^^ b)) := k2
  have HL2 : Hid (L2.length = 25) := by rw [k2, List.length_set]; exact hl
  have HM2 : Hid ((lanes L2).length = 25) := by rw [lanes_len]; exact HL2.out
  have UE : Hid (decide (perm L = perm L2) = decide (b = 0)) := by rw [k2, kz]; exact unlike_eq hl hk b
  have vz := V_xor z b
  have SZ1 := lanes_size (perm_len hl)
  have SZ2 : ((lanes (perm L2)).toArray).size = 25 := lanes_size (perm_len HL2.out)
  have OC1 := one_lanes (perm L)
  have OC2 := one_lanes (perm L2)
  have hk' : (k : Int) < 25 := by omega
  clear hl k2 kz
  go_enter Tryd.func3, Tryd.ntmps3
  rcases kk with ⟨t, e1, tn, tm, e2⟩ | e1
  · skip
    go_wp2_with (first | refine wpList_load_mid rfl 23 _ rfl w.heap.size 0 rfl (lanes L) _ ((Arr.new HL.out _ rfl).2.1.range) Tryd.underlying23 rfl (by rw [HM.out]; kernel_rfl) ?_ | (refine wpList_store_mid rfl 23 _ _ rfl (w.heap.size + 1) 0 _ rfl rfl (by rw [sz]; exact (fresh_arr (by simp)).there) (by rw [sz]; kernel_rfl) oc ?_; refine wpList_world (fun W => Below w.heap.size w W ∧ Arr W w.heap.size L ∧ Arr W (w.heap.size + 1) L) ⟨below_setCells (by omega) _ 0 _ (((Below.refl _ _).alloc (Nat.le_refl _) _).alloc (by simp) _), ((Arr.new HL.out _ rfl).alloc _).otherCells (by omega) _, (fresh_arr (by simp)).stored HL.out⟩ ?_; intro W2 hh; have HY : Hid (Below w.heap.size w W2 ∧ Arr W2 w.heap.size L ∧ Arr W2 (w.heap.size + 1) L) := hh; have gk := hh.2.2.2.1 k (by rw [HL.out]; exact hk); rw [← KZ.out] at gk; have fk := hh.2.2.2.2 k hk; clear hh) | refine wpList_load_mid rfl 23 _ rfl w.heap.size 0 rfl (lanes L) _ ((HY.out.2.1.other (b' := w.heap.size + 1) (by omega) _).2.1.range) Tryd.underlying23 rfl (by rw [HM.out]; kernel_rfl) ?_)
    refine calls_world (fun W => Below w.heap.size w W ∧ Arr W w.heap.size L ∧ Arr W (w.heap.size + 1) L2) ⟨HY.out.1.setCell (by simp) _, HY.out.2.1.other (by omega) _, by rw [K2.out]; exact HY.out.2.2.set k hk _⟩ ?_
    clear HY gk fk
    rintro W3 ⟨B, hA, hO⟩
    refine (perm_any HL.out _ (HH.out.1.keep B) (HH.out.2.keep B)).mono ?_
    rintro e w4 ⟨rfl, hb⟩
    have HF : Hid (Below w.heap.size w w4 ∧ Arr w4 w.heap.size L ∧ Arr w4 (w.heap.size + 1) L2) := ⟨B.trans (hb.mono B.size), hA.keep hb, hO.keep hb⟩
    have N4 : Hid (w4.heap.size ≠ w.heap.size ∧ w4.heap.size ≠ w.heap.size + 1 ∧ w.heap.size ≤ w4.heap.size) := ⟨by have := HF.out.2.1.lt; omega, by have := HF.out.2.2.lt; omega, HF.out.1.size⟩
    clear B hA hO hb W3 W2
    go_wp2_with (first | (refine wpList_store_mid rfl 23 _ _ rfl w4.heap.size 0 _ rfl rfl (by rw [SZ1]; exact (fresh_arr rfl).there) (by rw [SZ1]; kernel_rfl) OC1 ?_; refine wpList_world (fun W => Below w.heap.size w W ∧ Arr W w.heap.size L ∧ Arr W (w.heap.size + 1) L2 ∧ Arr W w4.heap.size (perm L)) ⟨below_setCells N4.out.2.2 _ 0 _ (HF.out.1.alloc HF.out.1.size _), (HF.out.2.1.alloc _).otherCells N4.out.1 _, (HF.out.2.2.alloc _).otherCells N4.out.2.1 _, (fresh_arr rfl).stored (perm_len HL.out)⟩ ?_; intro W5 hh; have HY : Hid (Below w.heap.size w W5 ∧ Arr W5 w.heap.size L ∧ Arr W5 (w.heap.size + 1) L2 ∧ Arr W5 w4.heap.size (perm L)) := hh; clear hh) | refine wpList_load_mid rfl 23 _ rfl (w.heap.size + 1) 0 rfl (lanes L2) _ (HY.out.2.2.1.2.1.range) Tryd.underlying23 rfl (by rw [HM2.out]; kernel_rfl) ?_)
    clear HF N4
    refine (perm_any HL2.out _ (HH.out.1.keep HY.out.1) (HH.out.2.keep HY.out.1)).mono ?_
    rintro e w6 ⟨rfl, hb⟩
    have HF : Hid (Below w.heap.size w w6 ∧ Arr w6 w.heap.size L ∧ Arr w6 w4.heap.size (perm L)) := ⟨HY.out.1.trans (hb.mono HY.out.1.size), HY.out.2.1.keep hb, HY.out.2.2.2.keep hb⟩
    have N6 : Hid (w6.heap.size ≠ w.heap.size ∧ w6.heap.size ≠ w4.heap.size ∧ w.heap.size ≤ w6.heap.size) := ⟨by have := HF.out.2.1.lt; omega, by have := HF.out.2.2.lt; omega, HF.out.1.size⟩
    clear HY hb
    go_wp2_with ((refine wpList_store_mid rfl 23 _ _ rfl w6.heap.size 0 _ rfl rfl (by rw [SZ2]; exact (fresh_arr rfl).there) (by rw [SZ2]; kernel_rfl) OC2 ?_; refine wpList_world (fun W => Below w.heap.size w W ∧ Arr W w.heap.size L ∧ Arr W w4.heap.size (perm L) ∧ Arr W w6.heap.size (perm L2)) ⟨below_setCells N6.out.2.2 _ 0 _ (HF.out.1.alloc HF.out.1.size _), (HF.out.2.1.alloc _).otherCells N6.out.1 _, (HF.out.2.2.alloc _).otherCells N6.out.2.1 _, (fresh_arr rfl).stored (perm_len HL2.out)⟩ ?_; intro W7 hh; have HY : Hid (Below w.heap.size w W7 ∧ Arr W7 w.heap.size L ∧ Arr W7 w4.heap.size (perm L) ∧ Arr W7 w6.heap.size (perm L2)) := hh; clear hh))
    clear HF N6
    generalize w4.heap.size = n2 at *
    generalize w6.heap.size = n3 at *
    simp only [Act.put]
    have l0 : Hid (∀ w', (∃ p : Regrown, w' = grow (redrawn W7 p.d) p.os) → w'.rangeAt w.heap.size 0 (lanes L)) := by rintro w' ⟨p, rfl⟩; exact (HY.out.2.1.2.1.grown _ _).range
    have l1 : Hid (∀ w', (∃ p : Regrown, w' = grow (redrawn W7 p.d) p.os) → w'.rangeAt n2 0 (lanes (perm L))) := by rintro w' ⟨p, rfl⟩; exact (HY.out.2.2.1.2.1.grown _ _).range
    have l2 : Hid (∀ w', (∃ p : Regrown, w' = grow (redrawn W7 p.d) p.os) → w'.rangeAt n3 0 (lanes (perm L2))) := by rintro w' ⟨p, rfl⟩; exact (HY.out.2.2.2.2.1.grown _ _).range
    have q1 := fun w => eq_lanes (perm_len HL.out) (perm_len HL2.out) w
    rw [UE.out] at q1
    have q2 := fun w => eq_lanes (perm_len HL.out) (perm_len HL.out) w
    simp only [decide_true] at q2
    have M1 : Hid ((lanes (perm L)).length = 25) := by rw [lanes_len]; exact perm_len HL.out
    have M2 : Hid ((lanes (perm L2)).length = 25) := by rw [lanes_len]; exact perm_len HL2.out
    have TT : Hid (Tab W7 3 turnsN ∧ Lns W7 0 marksN) := ⟨HH.out.1.keep HY.out.1, HH.out.2.keep HY.out.1⟩
    have vb : (V b = 0) = (b = 0) := propext ⟨fun h => V_inj (h.trans V_zero.symm), fun h => by rw [h]; exact V_zero⟩
    clear vz SZ1 SZ2 OC1 OC2 oc sz
    by_cases hb0 : b = 0
    · simp only [hb0, decide_true] at q1
      have vb2 : V b = 0 := by rw [hb0]; exact V_zero
      clear vb hb0
      refine wp_region_quiet_below (by kernel_rfl) (by kernel_rfl) ?_
      repeat
        first
          | go_big_quiet_skip
          | (go_big_quiet_want; go_big_quiet_op; go_big_quiet_on)
          | (go_big_quiet_want; refine quiet_load_mid 23 _ rfl n2 0 rfl (lanes (perm L)) _ l1.out Tryd.underlying23 rfl (by rw [M1.out]; kernel_rfl) ?_; simp only [Act.put, List.setIfInBounds_toArray, List.set_cons_succ, List.set_cons_zero]; go_big_quiet_on)
          | (go_big_quiet_want; refine quiet_load_mid 23 _ rfl n3 0 rfl (lanes (perm L2)) _ l2.out Tryd.underlying23 rfl (by rw [M2.out]; kernel_rfl) ?_; simp only [Act.put, List.setIfInBounds_toArray, List.set_cons_succ, List.set_cons_zero]; go_big_quiet_on)
          | (go_big_quiet_want; refine quiet_load_mid 23 _ rfl w.heap.size 0 rfl (lanes L) _ l0.out Tryd.underlying23 rfl (by rw [HM.out]; kernel_rfl) ?_; simp only [Act.put, List.setIfInBounds_toArray, List.set_cons_succ, List.set_cons_zero]; go_big_quiet_on)
          | (go_big_quiet_want
             go_big_quiet_op
             apply Exists.intro
             refine ⟨fun p => ?_, ?_⟩
             · (go_at_call 9; exact Calls.regrown_of (perm_any HL.out _ (TT.out.1.grown _ _) (TT.out.2.grown _ _)))
             go_big_quiet_on)
      refine wpQuiet_nil ?_
      rintro w8 ⟨p, rfl⟩
      have hb := HY.out.1.trans ((below_regrown W7 p.d p.os).mono HY.out.1.size)
      generalize grow (redrawn W7 p.d) p.os = w8 at *
      go_wp2
      go_ret
      exact ⟨rfl, hb⟩
    · simp only [hb0, decide_false] at q1
      have vb2 : (V b == 0) = false := beq_eq_false_iff_ne.2 (fun h => hb0 (vb.mp h))
      clear vb hb0
      refine wp_region_quiet_below (by kernel_rfl) (by kernel_rfl) ?_
      repeat
        first
          | go_big_quiet_skip
          | (go_big_quiet_want; go_big_quiet_op; go_big_quiet_on)
          | (go_big_quiet_want; refine quiet_load_mid 23 _ rfl n2 0 rfl (lanes (perm L)) _ l1.out Tryd.underlying23 rfl (by rw [M1.out]; kernel_rfl) ?_; simp only [Act.put, List.setIfInBounds_toArray, List.set_cons_succ, List.set_cons_zero]; go_big_quiet_on)
          | (go_big_quiet_want; refine quiet_load_mid 23 _ rfl n3 0 rfl (lanes (perm L2)) _ l2.out Tryd.underlying23 rfl (by rw [M2.out]; kernel_rfl) ?_; simp only [Act.put, List.setIfInBounds_toArray, List.set_cons_succ, List.set_cons_zero]; go_big_quiet_on)
          | (go_big_quiet_want; refine quiet_load_mid 23 _ rfl w.heap.size 0 rfl (lanes L) _ l0.out Tryd.underlying23 rfl (by rw [HM.out]; kernel_rfl) ?_; simp only [Act.put, List.setIfInBounds_toArray, List.set_cons_succ, List.set_cons_zero]; go_big_quiet_on)
          | (go_big_quiet_want
             go_big_quiet_op
             apply Exists.intro
             refine ⟨fun p => ?_, ?_⟩
             · (go_at_call 9; exact Calls.regrown_of (perm_any HL.out _ (TT.out.1.grown _ _) (TT.out.2.grown _ _)))
             go_big_quiet_on)
      refine wpQuiet_nil ?_
      rintro w8 ⟨p, rfl⟩
      have hb := HY.out.1.trans ((below_regrown W7 p.d p.os).mono HY.out.1.size)
      generalize grow (redrawn W7 p.d) p.os = w8 at *
      go_wp2
      go_ret
      exact ⟨rfl, hb⟩
  · skip
    go_wp2_with (first | refine wpList_load_mid rfl 23 _ rfl w.heap.size 0 rfl (lanes L) _ ((Arr.new HL.out _ rfl).2.1.range) Tryd.underlying23 rfl (by rw [HM.out]; kernel_rfl) ?_ | (refine wpList_store_mid rfl 23 _ _ rfl (w.heap.size + 1) 0 _ rfl rfl (by rw [sz]; exact (fresh_arr (by simp)).there) (by rw [sz]; kernel_rfl) oc ?_; refine wpList_world (fun W => Below w.heap.size w W ∧ Arr W w.heap.size L ∧ Arr W (w.heap.size + 1) L) ⟨below_setCells (by omega) _ 0 _ (((Below.refl _ _).alloc (Nat.le_refl _) _).alloc (by simp) _), ((Arr.new HL.out _ rfl).alloc _).otherCells (by omega) _, (fresh_arr (by simp)).stored HL.out⟩ ?_; intro W2 hh; have HY : Hid (Below w.heap.size w W2 ∧ Arr W2 w.heap.size L ∧ Arr W2 (w.heap.size + 1) L) := hh; have gk := hh.2.2.2.1 k (by rw [HL.out]; exact hk); rw [← KZ.out] at gk; have fk := hh.2.2.2.2 k hk; clear hh) | refine wpList_load_mid rfl 23 _ rfl w.heap.size 0 rfl (lanes L) _ ((HY.out.2.1.other (b' := w.heap.size + 1) (by omega) _).2.1.range) Tryd.underlying23 rfl (by rw [HM.out]; kernel_rfl) ?_)
    refine calls_world (fun W => Below w.heap.size w W ∧ Arr W w.heap.size L ∧ Arr W (w.heap.size + 1) L2) ⟨HY.out.1.setCell (by simp) _, HY.out.2.1.other (by omega) _, by rw [K2.out]; exact HY.out.2.2.set k hk _⟩ ?_
    clear HY gk fk
    rintro W3 ⟨B, hA, hO⟩
    refine (perm_any HL.out _ (HH.out.1.keep B) (HH.out.2.keep B)).mono ?_
    rintro e w4 ⟨rfl, hb⟩
    have HF : Hid (Below w.heap.size w w4 ∧ Arr w4 w.heap.size L ∧ Arr w4 (w.heap.size + 1) L2) := ⟨B.trans (hb.mono B.size), hA.keep hb, hO.keep hb⟩
    have N4 : Hid (w4.heap.size ≠ w.heap.size ∧ w4.heap.size ≠ w.heap.size + 1 ∧ w.heap.size ≤ w4.heap.size) := ⟨by have := HF.out.2.1.lt; omega, by have := HF.out.2.2.lt; omega, HF.out.1.size⟩
    clear B hA hO hb W3 W2
    go_wp2_with (first | (refine wpList_store_mid rfl 23 _ _ rfl w4.heap.size 0 _ rfl rfl (by rw [SZ1]; exact (fresh_arr rfl).there) (by rw [SZ1]; kernel_rfl) OC1 ?_; refine wpList_world (fun W => Below w.heap.size w W ∧ Arr W w.heap.size L ∧ Arr W (w.heap.size + 1) L2 ∧ Arr W w4.heap.size (perm L)) ⟨below_setCells N4.out.2.2 _ 0 _ (HF.out.1.alloc HF.out.1.size _), (HF.out.2.1.alloc _).otherCells N4.out.1 _, (HF.out.2.2.alloc _).otherCells N4.out.2.1 _, (fresh_arr rfl).stored (perm_len HL.out)⟩ ?_; intro W5 hh; have HY : Hid (Below w.heap.size w W5 ∧ Arr W5 w.heap.size L ∧ Arr W5 (w.heap.size + 1) L2 ∧ Arr W5 w4.heap.size (perm L)) := hh; clear hh) | refine wpList_load_mid rfl 23 _ rfl (w.heap.size + 1) 0 rfl (lanes L2) _ (HY.out.2.2.1.2.1.range) Tryd.underlying23 rfl (by rw [HM2.out]; kernel_rfl) ?_)
    clear HF N4
    refine (perm_any HL2.out _ (HH.out.1.keep HY.out.1) (HH.out.2.keep HY.out.1)).mono ?_
    rintro e w6 ⟨rfl, hb⟩
    have HF : Hid (Below w.heap.size w w6 ∧ Arr w6 w.heap.size L ∧ Arr w6 w4.heap.size (perm L)) := ⟨HY.out.1.trans (hb.mono HY.out.1.size), HY.out.2.1.keep hb, HY.out.2.2.2.keep hb⟩
    have N6 : Hid (w6.heap.size ≠ w.heap.size ∧ w6.heap.size ≠ w4.heap.size ∧ w.heap.size ≤ w6.heap.size) := ⟨by have := HF.out.2.1.lt; omega, by have := HF.out.2.2.lt; omega, HF.out.1.size⟩
    clear HY hb
    go_wp2_with ((refine wpList_store_mid rfl 23 _ _ rfl w6.heap.size 0 _ rfl rfl (by rw [SZ2]; exact (fresh_arr rfl).there) (by rw [SZ2]; kernel_rfl) OC2 ?_; refine wpList_world (fun W => Below w.heap.size w W ∧ Arr W w.heap.size L ∧ Arr W w4.heap.size (perm L) ∧ Arr W w6.heap.size (perm L2)) ⟨below_setCells N6.out.2.2 _ 0 _ (HF.out.1.alloc HF.out.1.size _), (HF.out.2.1.alloc _).otherCells N6.out.1 _, (HF.out.2.2.alloc _).otherCells N6.out.2.1 _, (fresh_arr rfl).stored (perm_len HL2.out)⟩ ?_; intro W7 hh; have HY : Hid (Below w.heap.size w W7 ∧ Arr W7 w.heap.size L ∧ Arr W7 w4.heap.size (perm L) ∧ Arr W7 w6.heap.size (perm L2)) := hh; clear hh))
    clear HF N6
    generalize w4.heap.size = n2 at *
    generalize w6.heap.size = n3 at *
    simp only [Act.put]
    have l0 : Hid (∀ w', (∃ p : Regrown, w' = grow (redrawn W7 p.d) p.os) → w'.rangeAt w.heap.size 0 (lanes L)) := by rintro w' ⟨p, rfl⟩; exact (HY.out.2.1.2.1.grown _ _).range
    have l1 : Hid (∀ w', (∃ p : Regrown, w' = grow (redrawn W7 p.d) p.os) → w'.rangeAt n2 0 (lanes (perm L))) := by rintro w' ⟨p, rfl⟩; exact (HY.out.2.2.1.2.1.grown _ _).range
    have l2 : Hid (∀ w', (∃ p : Regrown, w' = grow (redrawn W7 p.d) p.os) → w'.rangeAt n3 0 (lanes (perm L2))) := by rintro w' ⟨p, rfl⟩; exact (HY.out.2.2.2.2.1.grown _ _).range
    have q1 := fun w => eq_lanes (perm_len HL.out) (perm_len HL2.out) w
    rw [UE.out] at q1
    have q2 := fun w => eq_lanes (perm_len HL.out) (perm_len HL.out) w
    simp only [decide_true] at q2
    have M1 : Hid ((lanes (perm L)).length = 25) := by rw [lanes_len]; exact perm_len HL.out
    have M2 : Hid ((lanes (perm L2)).length = 25) := by rw [lanes_len]; exact perm_len HL2.out
    have TT : Hid (Tab W7 3 turnsN ∧ Lns W7 0 marksN) := ⟨HH.out.1.keep HY.out.1, HH.out.2.keep HY.out.1⟩
    have vb : (V b = 0) = (b = 0) := propext ⟨fun h => V_inj (h.trans V_zero.symm), fun h => by rw [h]; exact V_zero⟩
    clear vz SZ1 SZ2 OC1 OC2 oc sz
    by_cases hb0 : b = 0
    · simp only [hb0, decide_true] at q1
      have vb2 : V b = 0 := by rw [hb0]; exact V_zero
      clear vb hb0
      refine wp_region_quiet_below (by kernel_rfl) (by kernel_rfl) ?_
      repeat
        first
          | go_big_quiet_skip
          | (go_big_quiet_want; go_big_quiet_op; go_big_quiet_on)
          | (go_big_quiet_want; refine quiet_load_mid 23 _ rfl n2 0 rfl (lanes (perm L)) _ l1.out Tryd.underlying23 rfl (by rw [M1.out]; kernel_rfl) ?_; simp only [Act.put, List.setIfInBounds_toArray, List.set_cons_succ, List.set_cons_zero]; go_big_quiet_on)
          | (go_big_quiet_want; refine quiet_load_mid 23 _ rfl n3 0 rfl (lanes (perm L2)) _ l2.out Tryd.underlying23 rfl (by rw [M2.out]; kernel_rfl) ?_; simp only [Act.put, List.setIfInBounds_toArray, List.set_cons_succ, List.set_cons_zero]; go_big_quiet_on)
          | (go_big_quiet_want; refine quiet_load_mid 23 _ rfl w.heap.size 0 rfl (lanes L) _ l0.out Tryd.underlying23 rfl (by rw [HM.out]; kernel_rfl) ?_; simp only [Act.put, List.setIfInBounds_toArray, List.set_cons_succ, List.set_cons_zero]; go_big_quiet_on)
          | (go_big_quiet_want
             go_big_quiet_op
             apply Exists.intro
             refine ⟨fun p => ?_, ?_⟩
             · (go_at_call 9; exact Calls.regrown_of (perm_any HL.out _ (TT.out.1.grown _ _) (TT.out.2.grown _ _)))
             go_big_quiet_on)
      refine wpQuiet_nil ?_
      rintro w8 ⟨p, rfl⟩
      have hb := HY.out.1.trans ((below_regrown W7 p.d p.os).mono HY.out.1.size)
      generalize grow (redrawn W7 p.d) p.os = w8 at *
      go_wp2
      go_ret
      exact ⟨rfl, hb⟩
    · simp only [hb0, decide_false] at q1
      have vb2 : (V b == 0) = false := beq_eq_false_iff_ne.2 (fun h => hb0 (vb.mp h))
      clear vb hb0
      refine wp_region_quiet_below (by kernel_rfl) (by kernel_rfl) ?_
      repeat
        first
          | go_big_quiet_skip
          | (go_big_quiet_want; go_big_quiet_op; go_big_quiet_on)
          | (go_big_quiet_want; refine quiet_load_mid 23 _ rfl n2 0 rfl (lanes (perm L)) _ l1.out Tryd.underlying23 rfl (by rw [M1.out]; kernel_rfl) ?_; simp only [Act.put, List.setIfInBounds_toArray, List.set_cons_succ, List.set_cons_zero]; go_big_quiet_on)
          | (go_big_quiet_want; refine quiet_load_mid 23 _ rfl n3 0 rfl (lanes (perm L2)) _ l2.out Tryd.underlying23 rfl (by rw [M2.out]; kernel_rfl) ?_; simp only [Act.put, List.setIfInBounds_toArray, List.set_cons_succ, List.set_cons_zero]; go_big_quiet_on)
          | (go_big_quiet_want; refine quiet_load_mid 23 _ rfl w.heap.size 0 rfl (lanes L) _ l0.out Tryd.underlying23 rfl (by rw [HM.out]; kernel_rfl) ?_; simp only [Act.put, List.setIfInBounds_toArray, List.set_cons_succ, List.set_cons_zero]; go_big_quiet_on)
          | (go_big_quiet_want
             go_big_quiet_op
             apply Exists.intro
             refine ⟨fun p => ?_, ?_⟩
             · (go_at_call 9; exact Calls.regrown_of (perm_any HL.out _ (TT.out.1.grown _ _) (TT.out.2.grown _ _)))
             go_big_quiet_on)
      refine wpQuiet_nil ?_
      rintro w8 ⟨p, rfl⟩
      have hb := HY.out.1.trans ((below_regrown W7 p.d p.os).mono HY.out.1.size)
      generalize grow (redrawn W7 p.d) p.os = w8 at *
      go_wp2
      go_ret
      exact ⟨rfl, hb⟩
end Go.Proofs.YtcgibaggponfnaaDoor
