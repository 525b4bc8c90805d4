import Derived.Test.YtjhongkmempepaaDoorEUnp
import Derived.Test.YtjhongkmempepaaDoorEConc
namespace Go.Proofs.YtjhongkmempepaaDoor
open Go.RowKit Go.Sort

theorem own_split {W : World} {base : Nat} {v : Value} {L1 L2 : List Int} (k1 : L1.length = 32) (h : W.ownsRow base 5 1 v 64 ((L1 ++ L2).map fun z => Value.int .u8 z)) : ∃ g cap, v = .slice (some ⟨g, 0, none⟩) 64 cap ∧ HAt W g L1 ∧ W.rangeAt g 32 (L2.map (Value.int .u8)) ∧ 64 ≤ cap := by
  rcases h.2 with ⟨_, h'⟩ | ⟨g, cap, cur, hv, _, _, hc, _⟩
  · cases h'
  · subst hv
    have cs := h.cells (g := g) rfl
    refine ⟨g, cap, rfl, ⟨k1, fun j u hu => ?_⟩, fun j u hu => ?_, hc⟩
    · have hj : j < L1.length := by
        have := (List.getElem?_eq_some_iff.1 hu).1
        simpa using this
      have := cs j u (by rw [List.map_append, List.getElem?_append_left (by simpa using hj)]; exact hu)
      rwa [Addr.add_mid] at this
    · have := cs (32 + j) u (by rw [List.map_append, List.getElem?_append_right (by rw [List.length_map, k1]; omega), List.length_map, k1, Nat.add_sub_cancel_left]; exact hu)
      rwa [Addr.add_mid, Nat.zero_add] at this
theorem pack_any {r s : Int} {o : Bool} (CK : Hid (∀ w, Mds w → Calls Tryd.prog 6 #[.agg #[.int .u64 (l0 r), .int .u64 (l1 r), .int .u64 (l2 r), .int .u64 (l3 r), .int .u64 (l0 s), .int .u64 (l1 s), .int .u64 (l2 s), .int .u64 (l3 s), .bool o]] w fun e w' => e = .returned (.int .i64 0) ∧ Below w.heap.size w w')) :
    Hid (∀ w, Mds w → Calls Tryd.prog 15 #[.agg #[.int .u64 (l0 r), .int .u64 (l1 r), .int .u64 (l2 r), .int .u64 (l3 r), .int .u64 (l0 s), .int .u64 (l1 s), .int .u64 (l2 s), .int .u64 (l3 s), .bool o]] w fun e w' => ∃ g cap, e = .returned (.tuple #[.slice (some ⟨g, 0, none⟩) 64 cap, .int .i64 0]) ∧ HAt w' g (putL r) ∧ w'.rangeAt g 32 ((markL o (putL s)).map (Value.int .u8)) ∧ 64 ≤ cap ∧ Below w.heap.size w w') := fun w hm => by
  have PE : Calls Tryd.prog 15 #[.agg #[.int .u64 (l0 r), .int .u64 (l1 r), .int .u64 (l2 r), .int .u64 (l3 r), .int .u64 (l0 s), .int .u64 (l1 s), .int .u64 (l2 s), .int .u64 (l3 s), .bool o]] w fun e w' => ∃ v, e = .returned (.tuple #[v, .int .i64 0]) ∧ World.ownsRow w' w.heap.size 5 1 v 64 ((putL r ++ markL o (putL s)).map fun z => Value.int .u8 z) ∧ Below w.heap.size w w' := by
    cases o with
    | false => exact epack_even (putL_len r) (putL_len s) rfl rfl (fun w => put_any w) (fun w => put_any w) CK w hm
    | true => exact epack_odd (putL_len r) (putL_len s) rfl rfl (fun w => put_any w) (fun w => put_any w) CK w hm
  refine PE.mono ?_
  rintro e w' ⟨v, rfl, ho, hb⟩
  obtain ⟨g, cap, rfl, h1, h2, h3⟩ := own_split (putL_len r) ho
  exact ⟨g, cap, rfl, h1, h2, h3, hb⟩
theorem whole_hat {A : List Int} {b cap : Nat} {n : Int} (hA : Byts A) (hn : sufN A 32 = n) : Hid (∀ w, HAt w b A → Calls Tryd.prog 39 #[.slice (some ⟨b, 0, none⟩) 32 cap] w fun e w' => e = .returned (.agg #[.int .u64 (l0 n), .int .u64 (l1 n), .int .u64 (l2 n), .int .u64 (l3 n)]) ∧ Below w.heap.size w w') := fun w h => by
  have := ewhole_any (bb := b) (ob := 0) (cb := cap) hA (by rw [h.1]; exact Nat.le_refl _) w (fun i hi => h.2 i _ (by rw [List.getElem?_map, List.getElem?_eq_getElem hi]; simp [List.getD, hi]))
  rw [h.1, hn] at this
  exact this
theorem unpack_any {r s : Int} {o : Bool} (hr : Num r) (hs : Num s) (lo : lowN s = true) (CK : Hid (∀ w, Mds w → Calls Tryd.prog 6 #[.agg #[.int .u64 (l0 r), .int .u64 (l1 r), .int .u64 (l2 r), .int .u64 (l3 r), .int .u64 (l0 s), .int .u64 (l1 s), .int .u64 (l2 s), .int .u64 (l3 s), .bool o]] w fun e w' => e = .returned (.int .i64 0) ∧ Below w.heap.size w w')) :
    Hid (∀ g cap w, 64 ≤ cap → Mds w → HAt w g (putL r) → w.rangeAt g 32 ((markL o (putL s)).map (Value.int .u8)) → Calls Tryd.prog 16 #[.slice (some ⟨g, 0, none⟩) 64 cap] w fun e w' => e = .returned (.tuple #[.agg #[.int .u64 (l0 r), .int .u64 (l1 r), .int .u64 (l2 r), .int .u64 (l3 r), .int .u64 (l0 s), .int .u64 (l1 s), .int .u64 (l2 s), .int .u64 (l3 s), .bool o], .int .i64 0]) ∧ Below w.heap.size w w') := fun g cap w hc hm h1 h2 => by
  obtain ⟨m1, m2⟩ := mark_off o hs.1 lo
  have W2 : Hid (∀ b w, HAt w b ((markL o (putL s)).set 0 (bits .andNot .u8 ((markL o (putL s)).getD 0 0) 128)) → Calls Tryd.prog 39 #[.slice (some ⟨b, 0, none⟩) 32 32] w fun e w' => e = .returned (.agg #[.int .u64 (l0 s), .int .u64 (l1 s), .int .u64 (l2 s), .int .u64 (l3 s)]) ∧ Below w.heap.size w w') := by
    rw [m1]
    exact fun b w h => (whole_hat (put_byts s) (suf_put hs)).out w h
  exact eunp_walk m2 hc ((markL_len o _).trans (putL_len s)) rfl rfl (whole_hat (put_byts r) (suf_put hr)) W2 CK w hm h1 h2
set_option maxHeartbeats 4000000 in
theorem ewh_good {key non X s k : Int} {o : Bool} {A : List Int} (hk : Num key) (k0 : 0 < key) (k1 : key < nN) (hl : A.length = 32) (hA : Byts A) (nX : Num X) (fx : fitN X = true) (s0 : 0 < s) (s1 : s < nN) (lo : lowN s = true) (h2 : liftOk X)
    (eR : ptOf X (liftY o X) false = sm k EC.gJ.pt) (hrel : modN nN (s * k) = modN nN (dgN A + X * key))
    (SW : Hid (∀ w, Mds w → Cols w → Calls Tryd.prog 13 #[.agg #[.int .u64 (l0 key), .int .u64 (l1 key), .int .u64 (l2 key), .int .u64 (l3 key)], .agg #[.int .u64 (l0 non), .int .u64 (l1 non), .int .u64 (l2 non), .int .u64 (l3 non)], .agg ((A.map fun z => Value.int .u8 z).toArray)] w fun e w' => e = .returned (.tuple #[.agg #[.int .u64 (l0 X), .int .u64 (l1 X), .int .u64 (l2 X), .int .u64 (l3 X), .int .u64 (l0 s), .int .u64 (l1 s), .int .u64 (l2 s), .int .u64 (l3 s), .bool o], .int .i64 0]) ∧ Below w.heap.size w w')) (w : World) (hm : Mds w) (hc : Cols w) :
    Calls Tryd.prog 4 #[.agg #[.int .u64 (l0 key), .int .u64 (l1 key), .int .u64 (l2 key), .int .u64 (l3 key)], .agg #[.int .u64 (l0 non), .int .u64 (l1 non), .int .u64 (l2 non), .int .u64 (l3 non)], hashV A] w fun e w' => e = .returned (.bool true) ∧ Below w.heap.size w w' := by
  have ns : Num s := ⟨by omega, by have := num_n.2; omega⟩
  have chk : chkN X s = 0 := by unfold chkN; rw [fx, fit_true (by omega) s1, lo]; simp
  have CK := echeck_any (o := o) nX ns
  rw [chk] at CK
  obtain ⟨x0, x1⟩ := fitN_fit fx
  have hz : modN nN X ≠ 0 := by rw [modN_of_lt nX.1 x1]; exact x0
  have hy : modN nN s ≠ 0 := by rw [modN_of_lt ns.1 s1]; omega
  have onG := EC.gJ_on
  obtain ⟨x, y, i, hp, ep⟩ := rep_pt (EC.smul_on onG key.toNat)
  have hi : i = false := by
    cases i with
    | false => rfl
    | true => exact absurd ep.symm (key_pt k0 k1)
  subst hi
  have hvR := lift_vd nX h2 o
  have onR := hvR.on
  have onQ := hp.on
  have eQ : ptOf x y false = sm key EC.gJ.pt := by rw [ep, sm_nat onG hk.1]
  have MG : Hid (∀ w, Mds w → Cols w → Calls Tryd.prog 11 #[.agg #[.int .u64 (l0 key), .int .u64 (l1 key), .int .u64 (l2 key), .int .u64 (l3 key)]] w fun e w' => e = .returned (.agg #[.int .u64 (l0 x), .int .u64 (l1 x), .int .u64 (l2 x), .int .u64 (l3 x), .int .u64 (l0 y), .int .u64 (l1 y), .int .u64 (l2 y), .int .u64 (l3 y), .bool false]) ∧ Below w.heap.size w w') := fun w hm hc => cmulg_any hk hp ep w hm hc
  have ej : ptOf x y false = (EC.smul (recB X A).toNat EC.gJ.pt).add (EC.smul (recC X s).toNat (ptOf X (liftY o X) false)) := by
    have b0 : 0 ≤ recB X A := (mod_small (x := modN nN (0 - dgN A) * invN nN X)).1
    have c0 : 0 ≤ recC X s := (mod_small (x := s * invN nN X)).1
    rw [sm_nat onG b0, sm_nat onR c0, eR, key_back onG nX.1 hz hrel (recB_mul nX.1 hz) (recC_mul nX.1 hz), eQ]
  have RC := recover_any (o := o) nX ns hA hl chk h2 hp ej
  have ev : ptOf X (liftY o X) false = (EC.smul (verB s A).toNat EC.gJ.pt).add (EC.smul (verC X s).toNat (ptOf x y false)) := by
    have left : (sm (dgN A) EC.gJ.pt).add (sm X (ptOf x y false)) = sm s (ptOf X (liftY o X) false) := by
      rw [eQ, eR]; exact left_key onG hrel
    have b := ver_back onG onR onQ (EC.inv_n ns.1 hy) left
    have b0 : 0 ≤ verB s A := (mod_small (x := dgN A * invN nN s)).1
    have c0 : 0 ≤ verC X s := (mod_small (x := X * invN nN s)).1
    rw [sm_nat onG b0, sm_nat onQ c0]
    unfold verB verC
    rw [sm_eq (modN_mod (dgN A * invN nN s)), sm_eq (modN_mod (X * invN nN s)), b]
  have VE := verify_any (o := o) hp nX ns hA hl chk hvR ev
  rw [modN_of_lt nX.1 x1] at VE
  simp only [Bool.not_false, Bool.true_and, decide_true] at VE
  exact ewh_ok hl SW MG VE RC (eq_pt_self hp) (pack_any CK) (unpack_any nX ns lo CK) (fun w => by have := eq_sig_any (i := o) (j := o) nX ns nX ns w; simpa using this) w hm hc
set_option maxHeartbeats 4000000 in
theorem ewhose_any {key non : Int} {A : List Int} (hk : Num key) (hn : Num non) (hl : A.length = 32) (hA : Byts A) (w : World) (hm : Mds w) (hc : Cols w) :
    Calls Tryd.prog 4 #[.agg #[.int .u64 (l0 key), .int .u64 (l1 key), .int .u64 (l2 key), .int .u64 (l3 key)], .agg #[.int .u64 (l0 non), .int .u64 (l1 non), .int .u64 (l2 non), .int .u64 (l3 non)], hashV A] w fun e w' => e = .returned (.bool true) ∧ Below w.heap.size w w' := by
  obtain ⟨X, Y, j, hv, ev⟩ := rep_pt (EC.smul_on EC.gJ_on non.toNat)
  have nX := hv.low.1.num
  have S0 := esw_any hk hn hA hl hv ev
  have F1 := lfit_any hk; have F2 := lfit_any hn
  cases h1 : fitN key with
  | false =>
    rw [h1] at F1
    have e : swR key non A X Y = ⟨0, 0, false, 60⟩ := by unfold swR; rw [h1, Bool.false_and, if_pos rfl]
    rw [e] at S0
    exact ewh_a0 hl S0 (by decide) F1 w hm hc
  | true =>
    rw [h1] at F1
    cases h2 : fitN non with
    | false =>
      rw [h2] at F2
      have e : swR key non A X Y = ⟨0, 0, false, 60⟩ := by unfold swR; rw [h1, h2, Bool.and_false, if_pos rfl]
      rw [e] at S0
      exact ewh_a1 hl S0 (by decide) F1 F2 w hm hc
    | true =>
      rw [h2] at F2
      obtain ⟨n0, n1⟩ := fitN_fit h2
      obtain ⟨q0, q1⟩ := fitN_fit h1
      have p0 : 0 < non := by have := hn.1; omega
      have kp : 0 < key := by have := hk.1; omega
      have hz : modN nN non ≠ 0 := by rw [modN_of_lt hn.1 n1]; exact n0
      have b0 : swR key non A X Y = if ¬ X < nN then ⟨0, 0, false, 64⟩ else if X = 0 ∨ swS key non (dgN A) X = 0 then ⟨0, 0, false, 65⟩ else if lowN (swS key non (dgN A) X) then ⟨X, swS key non (dgN A) X, oddB Y, 0⟩ else ⟨X, modN nN (0 - swS key non (dgN A) X), !oddB Y, 0⟩ := by
        unfold swR; rw [h1, h2, Bool.and_self, if_neg (by decide)]
      have sl : 0 ≤ swS key non (dgN A) X ∧ swS key non (dgN A) X < nN := mod_small
      have hrel : modN nN (swS key non (dgN A) X * non) = modN nN (dgN A + X * key) := by
        unfold swS
        rw [sw_back hn.1 hz (modN_mod _), modN_add_r]
      generalize swS key non (dgN A) X = s at *
      by_cases c1 : X < nN
      · rw [if_neg (not_not_intro c1)] at b0
        by_cases c2 : X = 0 ∨ s = 0
        · rw [if_pos c2] at b0
          rw [b0] at S0
          exact ewh_a65 hl S0 F1 F2 w hm hc
        · rw [if_neg c2] at b0
          have x1 : X ≠ 0 := fun e => c2 (.inl e)
          have s0 : 0 < s := by have h : s ≠ 0 := fun e => c2 (.inr e); omega
          have fr := fit_true x1 c1
          have hj : j = false := by
            cases j with
            | false => rfl
            | true => exact absurd hv.1 x1
          subst hj
          obtain ⟨lk, ly⟩ := lift_back hv
          cases h5 : lowN s with
          | true =>
            rw [h5, if_pos rfl] at b0
            rw [b0] at S0
            exact ewh_good hk kp q1 hl hA nX fr s0 sl.2 h5 lk (by rw [ly, ev, sm_nat EC.gJ_on hn.1]) hrel S0 w hm hc
          | false =>
            rw [h5, if_neg (by decide)] at b0
            rw [b0] at S0
            obtain ⟨hv', ev'⟩ := neg_val hv
            obtain ⟨_, ly'⟩ := lift_back hv'
            rw [odd_turned hv] at ly'
            have e2 := neg_small s0 sl.2
            have lh : lowN (modN nN (0 - s)) = true := by rw [low_turned s0 sl.2, h5]; rfl
            exact ewh_good (k := 0 - non) hk kp q1 hl hA nX fr (by rw [e2]; have := sl.2; omega) (by rw [e2]; omega) lh lk (by rw [ly', ev', ev, ← turned_pt p0 n1]; rfl) (by rw [modN_mul_l, show (0 - s) * (0 - non) = s * non by rw [Int.zero_sub, Int.zero_sub, Int.neg_mul_neg], hrel]) S0 w hm hc
      · rw [if_pos c1] at b0
        rw [b0] at S0
        exact ewh_a64 hl S0 F1 F2 w hm hc
end Go.Proofs.YtjhongkmempepaaDoor
