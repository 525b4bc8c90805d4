import Derived.Test.YtpgpciaafjodgaaGreatDoorXnA
/- Layer 21: a nil state: the other methods. -/
namespace Go.Proofs.YtpgpciaafjodgaaGreatDoor
open Go.RowKit Go.Sort
theorem wpList_worldN {P : Program} {ops : Array Oper} {Q : Exit → Act → World → Prop} {l : List Oper} {a : Act} {w : World} (I : World → Prop) (h : I w) (k : ∀ W, I W → wpList P ops Q l a W) : wpList P ops Q l a w := k w h
theorem there_newN {W : World} {b : Nat} {cs : Array Value} {t : TypeId} (e : b = W.heap.size) {n : Nat} (hn : n = cs.size) : (W.alloc (.cells cs t)).there b 0 n := by
  subst e hn
  intro j hj
  rw [Nat.zero_add, World.cell?_alloc_mark, World.frozen?_alloc_mark]
  refine ⟨by simp [hj], ?_⟩
  simp
theorem there_keepN {W W' : World} {g k : Nat} (h : W.there g 0 k) (hlt : g < W.heap.size) (B : Below W.heap.size W W') : W'.there g 0 k := fun j hj => ⟨by rw [B.cell (p := ⟨g, 0 + j, none⟩) hlt]; exact (h j hj).1, by rw [B.frozen (p := ⟨g, 0 + j, none⟩) hlt]; exact (h j hj).2⟩
theorem below_setCellsN {n : Nat} {w : World} {b : Nat} (hb : n ≤ b) (vs : List Value) (k : Nat) (W : World) (h : Below n w W) : Below n w (W.setCells b k vs) := by
  induction vs generalizing k W with
  | nil => exact h
  | cons v vs ih => exact ih _ _ (h.setCell hb _)
theorem laid_inN {w W : World} {n b : Nat} {D : List Value} (B : Below n w W) (hb : n ≤ b) (ht : W.there b 0 D.length) : Below n w (W.setCells b 0 D) ∧ (W.setCells b 0 D).rangeAt b 0 D := ⟨below_setCellsN hb D 0 W B, World.rangeAt_setCells_same _ _ _ _ ht⟩
/-- An account's zero cells, a hash's. -/
def acN : List Value := List.replicate 5 (.int .u64 0) ++ List.replicate 64 (.int .u8 0)
def haN : List Value := List.replicate 32 (.int .u8 0)
theorem acN_len : acN.length = 69 := by simp [acN]
theorem haN_len : haN.length = 32 := by simp [haN]
theorem haN_one : haN.toArray.all (·.oneCell') = true := all_oneCell_toArray fun v hv => by rw [(List.mem_replicate.1 hv).2]; rfl
theorem acN_one : acN.toArray.all (·.oneCell') = true := all_oneCell_toArray fun v hv => by
  rcases List.mem_append.1 hv with h | h <;> (rw [(List.mem_replicate.1 h).2]; rfl)
theorem rangeBoxN {W : World} {M : List Value} {t : TypeId} : (W.alloc (.cells M.toArray t)).rangeAt W.heap.size 0 M := fun j v hv => by
  rw [Nat.zero_add, World.cell?_alloc_mark]
  simpa using hv
theorem range_keepN {W W' : World} {b o : Nat} {M : List Value} (h : W.rangeAt b o M) (hb : Below W.heap.size W W') : W'.rangeAt b o M := fun j v hv => by
  rw [hb.cell (World.block_lt_of_cell? W _ (h j v hv))]; exact h j v hv
theorem ad_sizeN : (Tryz.prog.info? 24).map (·.size) = some 20 := by kernel_rfl
theorem eq_four (w : World) : (Op.equalIn 10000 29 (.agg #[.int .u64 0, .int .u64 0, .int .u64 0, .int .u64 0]) (.agg #[.int .u64 0, .int .u64 0, .int .u64 0, .int .u64 0])).run Tryz.prog w = .ok true w := by kernel_rfl
theorem acN_zero (w : World) : (zeroValue 39).run Tryz.prog w = .ok (.agg acN.toArray) w := by
  have h : (Tryz.prog.info? 39).map (·.zero) = some (some (.agg acN.toArray)) := by kernel_rfl
  obtain ⟨i, hi, hz⟩ := Option.map_eq_some_iff.1 h
  simp [zeroValue, typeInfo, go_sem, hi, hz]
theorem haN_zero (w : World) : (zeroValue 26).run Tryz.prog w = .ok (.agg haN.toArray) w := by
  have h : (Tryz.prog.info? 26).map (·.zero) = some (some (.agg haN.toArray)) := by kernel_rfl
  obtain ⟨i, hi, hz⟩ := Option.map_eq_some_iff.1 h
  simp [zeroValue, typeInfo, go_sem, hi, hz]
theorem ac_sizeN : (Tryz.prog.info? 39).map (·.size) = some 69 := by kernel_rfl
theorem ha_sizeN : (Tryz.prog.info? 26).map (·.size) = some 32 := by kernel_rfl
theorem built_acN : Tryz.prog.built 39 [] = some acN.toArray := by kernel_rfl
theorem built_haN : Tryz.prog.built 26 [] = some haN.toArray := by kernel_rfl
theorem fld0 (w : World) : (Instr.field 63 (.agg #[.int .u64 0, .int .u64 0, .int .u64 0, .int .u64 0, .int .u64 0, .slice none 0 0, .map none]) 0).run Tryz.prog w = .ok (.int .u64 0) w := by kernel_rfl
theorem fld1 (w : World) : (Instr.field 63 (.agg #[.int .u64 0, .int .u64 0, .int .u64 0, .int .u64 0, .int .u64 0, .slice none 0 0, .map none]) 1).run Tryz.prog w = .ok (.agg #[.int .u64 0, .int .u64 0, .int .u64 0, .int .u64 0]) w := by kernel_rfl
theorem fld2 (w : World) : (Instr.field 63 (.agg #[.int .u64 0, .int .u64 0, .int .u64 0, .int .u64 0, .int .u64 0, .slice none 0 0, .map none]) 2).run Tryz.prog w = .ok (.slice none 0 0) w := by kernel_rfl
theorem fld3 (w : World) : (Instr.field 63 (.agg #[.int .u64 0, .int .u64 0, .int .u64 0, .int .u64 0, .int .u64 0, .slice none 0 0, .map none]) 3).run Tryz.prog w = .ok (.map none) w := by kernel_rfl
set_option maxRecDepth 100000 in
set_option maxHeartbeats 4000000 in
theorem there_no (w : World) : Calls Tryz.prog 37 #[.agg #[.int .u64 0, .int .u64 0, .int .u64 0, .int .u64 0, .int .u64 0, .slice none 0 0, .map none]] w fun e w' => e = .returned (.bool false) ∧ Below w.heap.size w w' := by
  have eq4 := eq_four
  go_enter Tryz.func37, Tryz.ntmps37
  go_wp2
  simp [bodyPost, results, Tryz.results37, go_sem]
  repeat (first | with_reducible exact Below.refl _ _ | with_reducible refine Below.alloc ?_ (by first | omega | (simp; done) | (simp; omega)) _)
set_option maxRecDepth 100000 in
set_option maxHeartbeats 4000000 in
theorem Root_no  (w : World) : Calls Tryz.prog 21 #[.pointer none] w fun e w' => e = .returned (.agg haN.toArray) ∧ Below w.heap.size w w' := by
  have zh := haN_zero
  have bz := built_haN
  have on := haN_one
  have iz : (Tryz.prog.info? 26).map (·.size) = some haN.toArray.size := by rw [List.size_toArray, haN_len]; exact ha_sizeN
  have iz' : (Tryz.prog.info? 26).map (·.size) = some haN.length := by rw [haN_len]; exact ha_sizeN
  generalize haN = Z at *
  have B0 : Below w.heap.size w (w.alloc (.cells Z.toArray 26)) := (Below.refl _ _).alloc (Nat.le_refl _) _
  have T0 : (w.alloc (.cells Z.toArray 26)).there w.heap.size 0 Z.toArray.size := there_newN rfl rfl
  go_enter Tryz.func21, Tryz.ntmps21
  go_wp2_with ((refine wpList_store_mid rfl 26 _ _ rfl w.heap.size 0 Z.toArray rfl rfl T0 iz on ?_); (refine wpList_worldN (fun W' => Below w.heap.size w W' ∧ W'.rangeAt w.heap.size 0 Z) (laid_inN B0 (by omega) (by simpa using T0)) ?_); rintro W' ⟨B', hD⟩)
  have ld := run_loadVar_mid (P := Tryz.prog) W' w.heap.size 0 26 Z _ hD Tryz.underlying26 rfl iz'
  refine bodyPost_ret (v := .agg Z.toArray) ?_ rfl ⟨rfl, B'⟩
  simp [results, Tryz.results21, asAddr, ld, Act.put]
set_option maxRecDepth 100000 in
set_option maxHeartbeats 4000000 in
theorem StorageRoot_no (a : Array Value) (w : World) : Calls Tryz.prog 22 #[.pointer none, .agg a] w fun e w' => e = .returned (.agg haN.toArray) ∧ Below w.heap.size w w' := by
  have zh := haN_zero
  have bz := built_haN
  have on := haN_one
  have iz : (Tryz.prog.info? 26).map (·.size) = some haN.toArray.size := by rw [List.size_toArray, haN_len]; exact ha_sizeN
  have iz' : (Tryz.prog.info? 26).map (·.size) = some haN.length := by rw [haN_len]; exact ha_sizeN
  generalize haN = Z at *
  have B0 : Below w.heap.size w ((w.alloc (.cells a 24)).alloc (.cells Z.toArray 26)) := ((Below.refl _ _).alloc (Nat.le_refl _) _).alloc (by simp) _
  have T0 : ((w.alloc (.cells a 24)).alloc (.cells Z.toArray 26)).there (w.heap.size + 1) 0 Z.toArray.size := there_newN (by simp) rfl
  go_enter Tryz.func22, Tryz.ntmps22
  go_wp2_with ((refine wpList_store_mid rfl 26 _ _ rfl (w.heap.size + 1) 0 Z.toArray rfl rfl T0 iz on ?_); (refine wpList_worldN (fun W' => Below w.heap.size w W' ∧ W'.rangeAt (w.heap.size + 1) 0 Z) (laid_inN B0 (by omega) (by simpa using T0)) ?_); rintro W' ⟨B', hD⟩)
  have ld := run_loadVar_mid (P := Tryz.prog) W' (w.heap.size + 1) 0 26 Z _ hD Tryz.underlying26 rfl iz'
  refine bodyPost_ret (v := .agg Z.toArray) ?_ rfl ⟨rfl, B'⟩
  simp [results, Tryz.results22, asAddr, ld, Act.put]
set_option maxRecDepth 100000 in
set_option maxHeartbeats 4000000 in
theorem Account_no {A : List Value} (hA : A.length = 20) (w : World) : Calls Tryz.prog 12 #[.pointer none, .agg A.toArray] w fun e w' => e = .returned (.tuple #[.agg acN.toArray, .bool false]) ∧ Below w.heap.size w w' := by
  have AT : Hid (∀ w, Calls Tryz.prog 28 #[.pointer none, .agg A.toArray] w fun e w' => e = .returned (.agg #[.int .u64 0, .int .u64 0, .int .u64 0, .int .u64 0, .int .u64 0, .slice none 0 0, .map none]) ∧ Below w.heap.size w w') := fun w => at_no A.toArray w
  have iA : (Tryz.prog.info? 24).map (·.size) = some A.length := by rw [hA]; exact ad_sizeN
  have rA : (w.alloc (.cells A.toArray 24)).rangeAt w.heap.size 0 A := rangeBoxN
  have BA : Below w.heap.size w (w.alloc (.cells A.toArray 24)) := (Below.refl _ _).alloc (Nat.le_refl _) _
  have zh := acN_zero
  have bz := built_acN
  have on := acN_one
  have iz : (Tryz.prog.info? 39).map (·.size) = some acN.toArray.size := by rw [List.size_toArray, acN_len]; exact ac_sizeN
  have iz' : (Tryz.prog.info? 39).map (·.size) = some acN.length := by rw [acN_len]; exact ac_sizeN
  generalize acN = Z at *
  have TT : Hid (∀ w, Calls Tryz.prog 37 #[.agg #[.int .u64 0, .int .u64 0, .int .u64 0, .int .u64 0, .int .u64 0, .slice none 0 0, .map none]] w fun e w' => e = .returned (.bool false) ∧ Below w.heap.size w w') := there_no
  replace rA := range_keepN rA ((Below.refl _ _).alloc (Nat.le_refl _) (.cells Z.toArray 39))
  have T0 : ((w.alloc (.cells A.toArray 24)).alloc (.cells Z.toArray 39)).there (w.heap.size + 1) 0 Z.toArray.size := there_newN (by simp) rfl
  replace BA := BA.alloc BA.size (.cells Z.toArray 39)
  go_enter Tryz.func12, Tryz.ntmps12
  go_wp2_with (refine wpList_load_mid rfl 24 _ rfl w.heap.size 0 rfl A _ rA Tryz.underlying24 rfl iA ?_)
  with_reducible refine (AT.out _).mono ?_
  rintro e1 w1 ⟨rfl, hb⟩
  replace BA := BA.trans (hb.mono BA.size)
  have T1 := there_keepN T0 (by simp) hb
  have l1 : w.heap.size + 1 < w1.heap.size := Nat.lt_of_lt_of_le (by simp) hb.size
  clear hb rA T0 iA
  go_wp2_with fail
  have B2 := BA.alloc BA.size (.cells #[.int .u64 0, .int .u64 0, .int .u64 0, .int .u64 0, .int .u64 0, .slice none 0 0, .map none] 63)
  with_reducible refine (TT.out _).mono ?_
  rintro e2 w2 ⟨rfl, hb⟩
  have T2 := there_keepN (there_keepN T1 l1 ((Below.refl _ _).alloc (Nat.le_refl _) (.cells #[.int .u64 0, .int .u64 0, .int .u64 0, .int .u64 0, .int .u64 0, .slice none 0 0, .map none] 63))) (by simp; omega) hb
  replace B2 := B2.trans (hb.mono B2.size)
  clear hb T1 BA
  go_wp2_with ((refine wpList_store_mid rfl 39 _ _ rfl (w.heap.size + 1) 0 Z.toArray rfl rfl T2 iz on ?_); (refine wpList_worldN (fun W' => Below w.heap.size w W' ∧ W'.rangeAt (w.heap.size + 1) 0 Z) (laid_inN B2 (by omega) (by simpa using T2)) ?_); rintro W' ⟨B', hD⟩)
  have ld := run_loadVar_mid (P := Tryz.prog) W' (w.heap.size + 1) 0 39 Z _ hD Tryz.underlying39 rfl iz'
  refine bodyPost_ret (v := .tuple #[.agg Z.toArray, .bool false]) ?_ rfl ⟨rfl, B'⟩
  simp [results, Tryz.results12, asAddr, ld]
set_option maxRecDepth 100000 in
set_option maxHeartbeats 4000000 in
theorem Destroy_no {A : List Value} (hA : A.length = 20) (w : World) : Calls Tryz.prog 14 #[.pointer none, .agg A.toArray] w fun e w' => e = .returned (.bool false) ∧ Below w.heap.size w w' := by
  have AT : Hid (∀ w, Calls Tryz.prog 28 #[.pointer none, .agg A.toArray] w fun e w' => e = .returned (.agg #[.int .u64 0, .int .u64 0, .int .u64 0, .int .u64 0, .int .u64 0, .slice none 0 0, .map none]) ∧ Below w.heap.size w w') := fun w => at_no A.toArray w
  have iA : (Tryz.prog.info? 24).map (·.size) = some A.length := by rw [hA]; exact ad_sizeN
  have rA : (w.alloc (.cells A.toArray 24)).rangeAt w.heap.size 0 A := rangeBoxN
  have BA : Below w.heap.size w (w.alloc (.cells A.toArray 24)) := (Below.refl _ _).alloc (Nat.le_refl _) _
  have TT : Hid (∀ w, Calls Tryz.prog 37 #[.agg #[.int .u64 0, .int .u64 0, .int .u64 0, .int .u64 0, .int .u64 0, .slice none 0 0, .map none]] w fun e w' => e = .returned (.bool false) ∧ Below w.heap.size w w') := there_no
  go_enter Tryz.func14, Tryz.ntmps14
  go_wp2_with (refine wpList_load_mid rfl 24 _ rfl w.heap.size 0 rfl A _ rA Tryz.underlying24 rfl iA ?_)
  with_reducible refine (AT.out _).mono ?_
  rintro e1 w1 ⟨rfl, hb⟩
  replace BA := BA.trans (hb.mono BA.size)
  clear hb rA iA
  go_wp2_with fail
  have B2 := BA.alloc BA.size (.cells #[.int .u64 0, .int .u64 0, .int .u64 0, .int .u64 0, .int .u64 0, .slice none 0 0, .map none] 63)
  with_reducible refine (TT.out _).mono ?_
  rintro e2 w2 ⟨rfl, hb⟩
  replace B2 := B2.trans (hb.mono B2.size)
  go_wp2
  simp [bodyPost, results, Tryz.results14, go_sem]
  exact B2
set_option maxRecDepth 100000 in
set_option maxHeartbeats 4000000 in
theorem Nonce_no {A : List Value} (hA : A.length = 20) (w : World) : Calls Tryz.prog 17 #[.pointer none, .agg A.toArray] w fun e w' => e = .returned (.int .u64 0) ∧ Below w.heap.size w w' := by
  have AT : Hid (∀ w, Calls Tryz.prog 28 #[.pointer none, .agg A.toArray] w fun e w' => e = .returned (.agg #[.int .u64 0, .int .u64 0, .int .u64 0, .int .u64 0, .int .u64 0, .slice none 0 0, .map none]) ∧ Below w.heap.size w w') := fun w => at_no A.toArray w
  have iA : (Tryz.prog.info? 24).map (·.size) = some A.length := by rw [hA]; exact ad_sizeN
  have rA : (w.alloc (.cells A.toArray 24)).rangeAt w.heap.size 0 A := rangeBoxN
  have BA : Below w.heap.size w (w.alloc (.cells A.toArray 24)) := (Below.refl _ _).alloc (Nat.le_refl _) _
  have fl := fld0
  go_enter Tryz.func17, Tryz.ntmps17
  go_wp2_with (refine wpList_load_mid rfl 24 _ rfl w.heap.size 0 rfl A _ rA Tryz.underlying24 rfl iA ?_)
  with_reducible refine (AT.out _).mono ?_
  rintro e1 w1 ⟨rfl, hb⟩
  replace BA := BA.trans (hb.mono BA.size)
  go_wp2
  simp [bodyPost, results, Tryz.results17, go_sem]
  exact BA
set_option maxRecDepth 100000 in
set_option maxHeartbeats 4000000 in
theorem Balance_no {A : List Value} (hA : A.length = 20) (w : World) : Calls Tryz.prog 19 #[.pointer none, .agg A.toArray] w fun e w' => e = .returned (.agg #[.int .u64 0, .int .u64 0, .int .u64 0, .int .u64 0]) ∧ Below w.heap.size w w' := by
  have AT : Hid (∀ w, Calls Tryz.prog 28 #[.pointer none, .agg A.toArray] w fun e w' => e = .returned (.agg #[.int .u64 0, .int .u64 0, .int .u64 0, .int .u64 0, .int .u64 0, .slice none 0 0, .map none]) ∧ Below w.heap.size w w') := fun w => at_no A.toArray w
  have iA : (Tryz.prog.info? 24).map (·.size) = some A.length := by rw [hA]; exact ad_sizeN
  have rA : (w.alloc (.cells A.toArray 24)).rangeAt w.heap.size 0 A := rangeBoxN
  have BA : Below w.heap.size w (w.alloc (.cells A.toArray 24)) := (Below.refl _ _).alloc (Nat.le_refl _) _
  replace rA := range_keepN rA ((Below.refl _ _).alloc (Nat.le_refl _) (.cells #[.int .u64 0, .int .u64 0, .int .u64 0, .int .u64 0] 29))
  have T0 : ((w.alloc (.cells A.toArray 24)).alloc (.cells #[.int .u64 0, .int .u64 0, .int .u64 0, .int .u64 0] 29)).there (w.heap.size + 1) 0 4 := there_newN (by simp) rfl
  replace BA := BA.alloc BA.size (.cells #[.int .u64 0, .int .u64 0, .int .u64 0, .int .u64 0] 29)
  have fl := fld1
  have iz : (Tryz.prog.info? 29).map (·.size) = some 4 := by kernel_rfl
  have on : (#[.int .u64 0, .int .u64 0, .int .u64 0, .int .u64 0] : Array Value).all (·.oneCell') = true := by simp [Value.oneCell']
  go_enter Tryz.func19, Tryz.ntmps19
  go_wp2_with (refine wpList_load_mid rfl 24 _ rfl w.heap.size 0 rfl A _ rA Tryz.underlying24 rfl iA ?_)
  with_reducible refine (AT.out _).mono ?_
  rintro e1 w1 ⟨rfl, hb⟩
  replace BA := BA.trans (hb.mono BA.size)
  have T1 := there_keepN T0 (by simp) hb
  clear hb rA T0
  go_wp2_with ((refine wpList_store_mid rfl 29 _ _ rfl (w.heap.size + 1) 0 #[.int .u64 0, .int .u64 0, .int .u64 0, .int .u64 0] rfl rfl T1 iz on ?_); (refine wpList_worldN (fun W' => Below w.heap.size w W' ∧ W'.rangeAt (w.heap.size + 1) 0 [.int .u64 0, .int .u64 0, .int .u64 0, .int .u64 0]) (laid_inN BA (by omega) T1) ?_); rintro W' ⟨B', hD⟩)
  have ld := run_loadVar_mid (P := Tryz.prog) W' (w.heap.size + 1) 0 29 [.int .u64 0, .int .u64 0, .int .u64 0, .int .u64 0] _ hD Tryz.underlying29 rfl iz
  refine bodyPost_ret (v := .agg #[.int .u64 0, .int .u64 0, .int .u64 0, .int .u64 0]) ?_ rfl ⟨rfl, B'⟩
  simp [results, Tryz.results19, Act.put, asAddr, ld]
theorem sl_nilN (w : World) : (binOp .eql 48 (.slice none 0 0) (.slice none 0 0)).run Tryz.prog w = .ok (.bool true) w := by kernel_rfl
set_option maxRecDepth 100000 in
theorem clone_no (w : World) : Calls Tryz.prog 30 #[.slice none 0 0] w fun e w' => e = .returned (.slice none 0 0) ∧ Below w.heap.size w w' := by
  have sl := sl_nilN
  go_enter Tryz.func30, Tryz.ntmps30
  go_wp2
  simp [bodyPost, results, Tryz.results30, go_sem]
  exact Below.refl _ _
set_option maxRecDepth 100000 in
set_option maxHeartbeats 4000000 in
theorem Code_no {A : List Value} (hA : A.length = 20) (w : World) : Calls Tryz.prog 18 #[.pointer none, .agg A.toArray] w fun e w' => e = .returned (.slice none 0 0) ∧ Below w.heap.size w w' := by
  have AT : Hid (∀ w, Calls Tryz.prog 28 #[.pointer none, .agg A.toArray] w fun e w' => e = .returned (.agg #[.int .u64 0, .int .u64 0, .int .u64 0, .int .u64 0, .int .u64 0, .slice none 0 0, .map none]) ∧ Below w.heap.size w w') := fun w => at_no A.toArray w
  have iA : (Tryz.prog.info? 24).map (·.size) = some A.length := by rw [hA]; exact ad_sizeN
  have rA : (w.alloc (.cells A.toArray 24)).rangeAt w.heap.size 0 A := rangeBoxN
  have BA : Below w.heap.size w (w.alloc (.cells A.toArray 24)) := (Below.refl _ _).alloc (Nat.le_refl _) _
  have CL := clone_no
  have fl := fld2
  go_enter Tryz.func18, Tryz.ntmps18
  go_wp2_with (refine wpList_load_mid rfl 24 _ rfl w.heap.size 0 rfl A _ rA Tryz.underlying24 rfl iA ?_)
  with_reducible refine (AT.out _).mono ?_
  rintro e1 w1 ⟨rfl, hb⟩
  replace BA := BA.trans (hb.mono BA.size)
  clear hb rA
  go_wp2_with fail
  with_reducible refine (CL _).mono ?_
  rintro e2 w2 ⟨rfl, hb⟩
  replace BA := BA.trans (hb.mono BA.size)
  go_wp2
  simp [bodyPost, results, Tryz.results18, go_sem]
  exact BA
end Go.Proofs.YtpgpciaafjodgaaGreatDoor
