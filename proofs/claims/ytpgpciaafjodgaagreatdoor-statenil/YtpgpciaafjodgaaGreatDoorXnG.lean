import Derived.Test.YtpgpciaafjodgaaGreatDoorXnF
/- Layer 21: the law StateNil. -/
namespace Go.Proofs.YtpgpciaafjodgaaGreatDoor
open Go.RowKit Go.Sort
theorem wpList_load_midN {P : Program} {ops : Array Oper} {rest : List Oper} {op : Oper} {a : Act} {w : World} {Q : Exit → Act → World → Prop} (hw : Region.wanted op (yielded ops a.tmps) = true) (ty : TypeId) (x : Operand) (ho : op.op = .load ty x)
    (b o : Nat) (hx : a.eval x = .pointer (some ⟨b, o, none⟩)) (cs : List Value) (d : TypeDesc) (hc : w.rangeAt b o cs)
    (hu : P.underlying ty = some d) (hd : d.isRow = true) (hi : (P.info? ty).map (·.size) = some cs.length)
    (h : wpList P ops Q rest (a.put op.dst (.agg cs.toArray)) w) : wpList P ops Q (op :: rest) a w := by
  unfold wpList
  rw [if_pos hw]
  exact .inl (wp_load_mid ty x ho b o hx cs d hc hu hd hi h)
theorem wpList_buildN {ops : Array Oper} {rest : List Oper} {o : Oper} {a : Act} {Q : Exit → Act → World → Prop} {w : World} (T : TypeId) (c : Value) (R : Array Value) (hb : Tryz.prog.built T [(0, c)] = some R) (hgd : o.guard = none)
    (ho : o.op = .build T #[(0, .const c)]) (h : wpList Tryz.prog ops Q rest (a.put o.dst (.agg R)) w) : wpList Tryz.prog ops Q (o :: rest) a w := by
  refine wpList_plain hgd fun K hK => ?_
  have e : ((#[(0, Operand.const c)] : Array (Nat × Operand)).map fun (i, x) => (i, a.eval x)).toList = [(0, c)] := by simp [Act.eval]
  have hr := run_build (P := Tryz.prog) w T ((#[(0, Operand.const c)] : Array (Nat × Operand)).map fun (i, x) => (i, a.eval x)) _ (by rw [e]; exact hb)
  have hr2 : (execOp a.eval o).run Tryz.prog w = .ok (.value (.agg R)) w := by
    unfold execOp
    simp only [ho, Sem.run_bind, hr, Result.andThen_ok]
    rfl
  unfold Oper.wp
  rw [hr2]
  exact hK _ _ h
def v3N : List Value := [.int .u64 3, .int .u64 0, .int .u64 0, .int .u64 0]
def xA1 : List (BitVec 8) := 1 :: List.replicate 19 0
def xK2 : List (BitVec 8) := 2 :: List.replicate 31 0
theorem a1_byts : byts xA1 = a1N := by
  have e1 : Y 1#8 = 1 := by rw [Y_eq]; rfl
  have e0 : Y 0#8 = 0 := by rw [Y_eq]; rfl
  simp [byts, xA1, a1N, e1, e0]
theorem k2_byts : byts xK2 = k2N := by
  have e1 : Y 2#8 = 2 := by rw [Y_eq]; rfl
  have e0 : Y 0#8 = 0 := by rw [Y_eq]; rfl
  simp [byts, xK2, k2N, e1, e0]
theorem built_a1 : Tryz.prog.built 24 [(0, .int .u8 1)] = some a1N.toArray := by kernel_rfl
theorem built_k2 : Tryz.prog.built 26 [(0, .int .u8 2)] = some k2N.toArray := by kernel_rfl
theorem built_v3 : Tryz.prog.built 29 [(0, .int .u64 3)] = some v3N.toArray := by kernel_rfl
theorem a1_one : a1N.toArray.all (·.oneCell') = true := by rw [← a1_byts]; exact one_byts _
theorem k2_one : k2N.toArray.all (·.oneCell') = true := by rw [← k2_byts]; exact one_byts _
theorem v3_one : v3N.toArray.all (·.oneCell') = true := all_oneCell_toArray fun v hv => by
  simp only [v3N, List.mem_cons, List.not_mem_nil, or_false] at hv
  rcases hv with rfl | rfl | rfl | rfl <;> rfl
theorem ad_zeroN (w : World) : (zeroValue 24).run Tryz.prog w = .ok (.agg (List.replicate 20 (Value.int .u8 0)).toArray) w := by
  have h : (Tryz.prog.info? 24).map (·.zero) = some (some (.agg (List.replicate 20 (Value.int .u8 0)).toArray)) := by kernel_rfl
  obtain ⟨i, hi, hz⟩ := Option.map_eq_some_iff.1 h
  simp [zeroValue, typeInfo, go_sem, hi, hz]
theorem nu_zeroN (w : World) : (zeroValue 29).run Tryz.prog w = .ok (.agg (List.replicate 4 (Value.int .u64 0)).toArray) w := by
  have h : (Tryz.prog.info? 29).map (·.zero) = some (some (.agg (List.replicate 4 (Value.int .u64 0)).toArray)) := by kernel_rfl
  obtain ⟨i, hi, hz⟩ := Option.map_eq_some_iff.1 h
  simp [zeroValue, typeInfo, go_sem, hi, hz]
theorem built_nuN : Tryz.prog.built 29 [] = some #[.int .u64 0, .int .u64 0, .int .u64 0, .int .u64 0] := by kernel_rfl
theorem eq_haN (w : World) : (Op.equalIn 10000 26 (.agg haN.toArray) (.agg haN.toArray)).run Tryz.prog w = .ok true w := by kernel_rfl
theorem eq_acN (w : World) : (Op.equalIn 10000 39 (.agg acN.toArray) (.agg acN.toArray)).run Tryz.prog w = .ok true w := by kernel_rfl
set_option maxRecDepth 100000 in
set_option maxHeartbeats 16000000 in
theorem nil21_any (w : World) (hk : KtN w) : Calls Tryz.prog 3 #[] w fun e w' => e = .returned (.bool true) ∧ Below w.heap.size w w' := by
  have za := ad_zeroN
  have zk := haN_zero
  have zv := nu_zeroN
  have ba := built_a1
  have bk := built_k2
  have bv := built_v3
  have oA := a1_one
  have oK := k2_one
  have oV := v3_one
  have iA : (Tryz.prog.info? 24).map (·.size) = some a1N.toArray.size := by kernel_rfl
  have iK : (Tryz.prog.info? 26).map (·.size) = some k2N.toArray.size := by kernel_rfl
  have iV : (Tryz.prog.info? 29).map (·.size) = some v3N.toArray.size := by kernel_rfl
  have jA : (Tryz.prog.info? 24).map (·.size) = some a1N.length := by kernel_rfl
  have jK : (Tryz.prog.info? 26).map (·.size) = some k2N.length := by kernel_rfl
  have jV : (Tryz.prog.info? 29).map (·.size) = some v3N.length := by kernel_rfl
  have lA : a1N.toArray.size = (List.replicate 20 (Value.int .u8 0)).toArray.size := by simp [a1N]
  have lK : k2N.toArray.size = haN.toArray.size := by simp [k2N, haN]
  have lV : v3N.toArray.size = (List.replicate 4 (Value.int .u64 0)).toArray.size := by simp [v3N]
  have A20 := a1N_len
  have PR : Hid (∀ W, KtN W → Calls Tryz.prog 23 #[.pointer none, .agg a1N.toArray] W fun e w' => e = .returned (.slice none 0 0) ∧ Below W.heap.size W w') := fun W h => by
    have := Prove_no (X := xA1) (by simp [xA1]) W h
    rwa [a1_byts] at this
  have PS : Hid (∀ W, KtN W → Calls Tryz.prog 24 #[.pointer none, .agg a1N.toArray, .agg k2N.toArray] W fun e w' => e = .returned (.slice none 0 0) ∧ Below W.heap.size W w') := fun W h => by
    have := ProveStorage_no (A := a1N) (X := xK2) a1N_len (by simp [xK2]) W h
    rwa [k2_byts] at this
  have LO : Hid (∀ w, Calls Tryz.prog 20 #[.pointer none, .agg a1N.toArray, .agg k2N.toArray] w fun e w' => e = .returned (.agg #[.int .u64 0, .int .u64 0, .int .u64 0, .int .u64 0]) ∧ Below w.heap.size w w') := fun w => Load_no a1N_len w
  generalize a1N = A at *
  generalize k2N = K at *
  generalize v3N = V at *
  generalize (List.replicate 20 (Value.int .u8 0)).toArray = ZA at *
  generalize (List.replicate 4 (Value.int .u64 0)).toArray = ZV at *
  go_enter Tryz.func3, Tryz.ntmps3
  go_wp2_with first | (refine wpList_buildN 24 (.int .u8 1) A.toArray ba rfl rfl ?_) | (refine wpList_buildN 26 (.int .u8 2) K.toArray bk rfl rfl ?_) | (refine wpList_buildN 29 (.int .u64 3) V.toArray bv rfl rfl ?_) | ((refine wpList_store_mid rfl 24 _ _ rfl w.heap.size 0 A.toArray rfl rfl (there_newN rfl lA) iA oA ?_); (refine wpList_worldN (fun U => Below w.heap.size w U ∧ U.rangeAt w.heap.size 0 A) (laid_inN ((Below.refl _ _).alloc (Nat.le_refl _) _) (Nat.le_refl _) (there_newN rfl (by simpa using lA))) ?_); rintro U0 ⟨bU0, rA⟩) | ((refine wpList_store_mid rfl 26 _ _ rfl U0.heap.size 0 K.toArray rfl rfl (there_newN rfl lK) iK oK ?_); (refine wpList_worldN (fun U => Below U0.heap.size U0 U ∧ U.rangeAt U0.heap.size 0 K) (laid_inN ((Below.refl _ _).alloc (Nat.le_refl _) _) (Nat.le_refl _) (there_newN rfl (by simpa using lK))) ?_); rintro U1 ⟨bU1, rK⟩) | (((refine wpList_store_mid rfl 29 _ _ rfl U1.heap.size 0 V.toArray rfl rfl (there_newN rfl lV) iV oV ?_); (refine wpList_worldN (fun U => Below U1.heap.size U1 U ∧ U.rangeAt U1.heap.size 0 V) (laid_inN ((Below.refl _ _).alloc (Nat.le_refl _) _) (Nat.le_refl _) (there_newN rfl (by simpa using lV))) ?_); rintro U2 ⟨bU2, rV⟩); (have HW : Hid (∀ W, Below U2.heap.size U2 W → W.rangeAt w.heap.size 0 A ∧ W.rangeAt U0.heap.size 0 K ∧ W.rangeAt U1.heap.size 0 V ∧ KtN W) := fun W b => ⟨range_keepN (range_keepN (range_keepN rA bU1) bU2) b, range_keepN (range_keepN rK bU2) b, range_keepN rV b, (((hk.keep bU0).keep bU1).keep bU2).keep b⟩); (have BW : Below w.heap.size w U2 := (bU0.trans (bU1.mono bU0.size)).trans (bU2.mono (Nat.le_trans bU0.size bU1.size))); (have BB : Below U2.heap.size U2 U2 := Below.refl _ _); (clear rA rK rV bU0 bU1 bU2)) | (refine wpList_load_midN (by rfl) 24 _ rfl w.heap.size 0 rfl A _ (HW.out _ BB).1 Tryz.underlying24 rfl jA ?_) | (refine wpList_load_midN (by rfl) 26 _ rfl U0.heap.size 0 rfl K _ (HW.out _ BB).2.1 Tryz.underlying26 rfl jK ?_) | (refine wpList_load_midN (by rfl) 29 _ rfl U1.heap.size 0 rfl V _ (HW.out _ BB).2.2.1 Tryz.underlying29 rfl jV ?_) | (go_at_call 4; (refine (Mint_no _ _ _).mono ?_); rintro e1 w9 ⟨rfl, hb⟩; (replace BB := BB.trans (hb.mono BB.size)); (clear hb)) | (go_at_call 5; (refine (Burn_no _ _ _).mono ?_); rintro e1 w9 ⟨rfl, hb⟩; (replace BB := BB.trans (hb.mono BB.size)); (clear hb)) | (go_at_call 6; (refine (Transfer_no _ _ _ _).mono ?_); rintro e1 w9 ⟨rfl, hb⟩; (replace BB := BB.trans (hb.mono BB.size)); (clear hb)) | (go_at_call 7; (refine (Bump_no _ _).mono ?_); rintro e1 w9 ⟨rfl, hb⟩; (replace BB := BB.trans (hb.mono BB.size)); (clear hb)) | (go_at_call 8; (refine (SetNonce_no _ _).mono ?_); rintro e1 w9 ⟨rfl, hb⟩; (replace BB := BB.trans (hb.mono BB.size)); (clear hb)) | (go_at_call 9; (refine (SetCode_no _ _).mono ?_); rintro e1 w9 ⟨rfl, hb⟩; (replace BB := BB.trans (hb.mono BB.size)); (clear hb)) | (go_at_call 10; (refine (Store_no _ _ _ _).mono ?_); rintro e1 w9 ⟨rfl, hb⟩; (replace BB := BB.trans (hb.mono BB.size)); (clear hb)) | (go_at_call 11; (refine (Revert_no _).mono ?_); rintro e1 w9 ⟨rfl, hb⟩; (replace BB := BB.trans (hb.mono BB.size)); (clear hb))
  clear hk za zv ba bk bv oA oK oV iA iK iV lA lK lV
  have zc := acN_zero
  have bc := built_acN
  have oZ := acN_one
  have iZ : (Tryz.prog.info? 39).map (·.size) = some acN.toArray.size := by rw [List.size_toArray, acN_len]; exact ac_sizeN
  have jZ : (Tryz.prog.info? 39).map (·.size) = some acN.length := by rw [acN_len]; exact ac_sizeN
  have E5 := eq_acN
  have RO : Hid (∀ w, Calls Tryz.prog 21 #[.pointer none] w fun e w' => e = .returned (.agg haN.toArray) ∧ Below w.heap.size w w') := Root_no
  have SR : Hid (∀ w, Calls Tryz.prog 22 #[.pointer none, .agg A.toArray] w fun e w' => e = .returned (.agg haN.toArray) ∧ Below w.heap.size w w') := fun w => StorageRoot_no _ w
  have ACC : Hid (∀ w, Calls Tryz.prog 12 #[.pointer none, .agg A.toArray] w fun e w' => e = .returned (.tuple #[.agg acN.toArray, .bool false]) ∧ Below w.heap.size w w') := fun w => Account_no A20 w
  have eq4 := eq_four
  have b4 := built_nuN
  have bh := built_haN
  have eqh := eq_haN
  generalize haN = ZH at *
  generalize acN = Z at *
  refine (ACC.out _).mono ?_
  rintro e1 w10 ⟨rfl, hb⟩
  replace BB := BB.trans (hb.mono BB.size)
  clear hb ACC
  go_wp2_with first | (((refine wpList_store_mid rfl 39 _ _ rfl w10.heap.size 0 Z.toArray rfl rfl (there_newN rfl rfl) iZ oZ ?_); (refine wpList_worldN (fun U => Below w10.heap.size w10 U ∧ U.rangeAt w10.heap.size 0 Z) (laid_inN ((Below.refl _ _).alloc (Nat.le_refl _) _) (Nat.le_refl _) (there_newN rfl (by simp))) ?_); rintro U5 ⟨bU5, rZ⟩); (replace BB := BB.trans (bU5.mono BB.size)); (clear bU5)) | (go_at_call 13; (refine (addr_no _).mono ?_); rintro e1 w9 ⟨rfl, hb⟩; (replace BB := BB.trans (hb.mono BB.size)); (replace rZ := range_keepN rZ hb); (clear hb)) | (refine wpList_load_midN (by rfl) 39 _ rfl w10.heap.size 0 rfl Z _ rZ Tryz.underlying39 rfl jZ ?_) | (refine wpList_load_midN (by rfl) 24 _ rfl w.heap.size 0 rfl A _ (HW.out _ BB).1 Tryz.underlying24 rfl jA ?_) | (refine wpList_load_midN (by rfl) 26 _ rfl U0.heap.size 0 rfl K _ (HW.out _ BB).2.1 Tryz.underlying26 rfl jK ?_) | (go_at_call 14; (refine (Destroy_no A20 _).mono ?_); rintro e1 w9 ⟨rfl, hb⟩; (replace BB := BB.trans (hb.mono BB.size)); (clear hb)) | (go_at_call 15; (refine (Len_no _).mono ?_); rintro e1 w9 ⟨rfl, hb⟩; (replace BB := BB.trans (hb.mono BB.size)); (clear hb)) | (go_at_call 16; (refine (Snapshot_no _).mono ?_); rintro e1 w9 ⟨rfl, hb⟩; (replace BB := BB.trans (hb.mono BB.size)); (clear hb)) | (go_at_call 17; (refine (Nonce_no A20 _).mono ?_); rintro e1 w9 ⟨rfl, hb⟩; (replace BB := BB.trans (hb.mono BB.size)); (clear hb)) | (go_at_call 18; (refine (Code_no A20 _).mono ?_); rintro e1 w9 ⟨rfl, hb⟩; (replace BB := BB.trans (hb.mono BB.size)); (clear hb)) | (go_at_call 19; (refine (Balance_no A20 _).mono ?_); rintro e1 w9 ⟨rfl, hb⟩; (replace BB := BB.trans (hb.mono BB.size)); (clear hb)) | (go_at_call 20; (refine (LO.out _).mono ?_); rintro e1 w9 ⟨rfl, hb⟩; (replace BB := BB.trans (hb.mono BB.size)); (clear hb)) | (go_at_call 21; (refine (RO.out _).mono ?_); rintro e1 w9 ⟨rfl, hb⟩; (replace BB := BB.trans (hb.mono BB.size)); (clear hb)) | (go_at_call 22; (refine (SR.out _).mono ?_); rintro e1 w9 ⟨rfl, hb⟩; (replace BB := BB.trans (hb.mono BB.size)); (clear hb)) | (go_at_call 23; (refine (PR.out _ (HW.out _ BB).2.2.2).mono ?_); rintro e1 w9 ⟨rfl, hb⟩; (replace BB := BB.trans (hb.mono BB.size)); (clear hb)) | (go_at_call 24; (refine (PS.out _ (HW.out _ BB).2.2.2).mono ?_); rintro e1 w9 ⟨rfl, hb⟩; (replace BB := BB.trans (hb.mono BB.size)); (clear hb))
  have BF := BW.trans (BB.mono BW.size)
  simp [bodyPost, results, Tryz.results3, go_sem]
  exact BF
end Go.Proofs.YtpgpciaafjodgaaGreatDoor
