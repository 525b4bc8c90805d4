import Derived.Test.YtjhljoanhlodeaaDoorKsB
/- Layer 2: the document's sponge, further. -/
namespace Go.Proofs.YtjhljoanhlodeaaDoor
open Go.RowKit Go.Sort
set_option maxRecDepth 100000 in
theorem rwrite_nil (v : Value) (w : World) : Calls Tryd.prog 15 #[.pointer none, v] w fun e w' => e = .returned (.tuple #[]) ∧ w' = w := by
  go_enter Tryd.func15, Tryd.ntmps15
  go_wp2
  simp [bodyPost, results, Tryd.results15, go_sem]
set_option maxRecDepth 100000 in
theorem rreset_nil (w : World) : Calls Tryd.prog 18 #[.pointer none] w fun e w' => e = .returned (.tuple #[]) ∧ w' = w := by
  go_enter Tryd.func18, Tryd.ntmps18
  go_wp2
  simp [bodyPost, results, Tryd.results18, go_sem]
set_option maxRecDepth 100000 in
theorem rreset_any {B bd : Nat} {k : Int} {v : Value} {X : List (BitVec 8)} (w : World) (h : Dp w B bd k v X) :
    Calls Tryd.prog 18 #[.pointer (some ⟨bd, 0, none⟩)] w fun e w' => e = .returned (.tuple #[]) ∧ Dp w' B bd k (.slice none 0 0) [] ∧ Chg (fun j => j = bd) w w' := by
  have c1 := h.all
  have f1 := h.f1
  have HR : Hid (Dp (w.setCell ⟨bd, 1, none⟩ (.slice none 0 0)) B bd k (.slice none 0 0) [] ∧ Chg (fun j => j = bd) w (w.setCell ⟨bd, 1, none⟩ (.slice none 0 0))) := by
    refine ⟨⟨?_, ?_, ?_, ?_, ⟨rfl, .inl ⟨rfl, rfl⟩⟩, fun e => by cases e⟩, Chg.of_off ((Off.refl bd w).setCell _)⟩
    · rw [World.cell?_setCell_other _ _ _ _ (fun x => by cases x)]; exact h.kind
    · exact World.cell?_setCell_same' _ _ _ (by rw [c1]; rfl)
    · rw [World.frozen?_setCell]; exact h.f0
    · rw [World.frozen?_setCell]; exact f1
  clear h
  go_enter Tryd.func18, Tryd.ntmps18
  go_wp2
  simp [bodyPost, results, Tryd.results18, go_sem]
  exact HR.out
set_option maxRecDepth 100000 in
theorem rlen_nil (w : World) : Calls Tryd.prog 8 #[.pointer none] w fun e w' => e = .returned (.int .i64 0) ∧ w' = w := by
  go_enter Tryd.func8, Tryd.ntmps8
  go_wp2
  simp [bodyPost, results, Tryd.results8, go_sem]
set_option maxRecDepth 100000 in
theorem rlen_any {B bd : Nat} {k : Int} {v : Value} {X : List (BitVec 8)} (w : World) (h : Dp w B bd k v X) :
    Calls Tryd.prog 8 #[.pointer (some ⟨bd, 0, none⟩)] w fun e w' => e = .returned (.int .i64 (X.length : Int)) ∧ w' = w := by
  have c1 := h.all
  obtain ⟨av, gv, cv, rfl, _, _⟩ := own_arg h.own
  generalize X.length = n at *
  clear h
  go_enter Tryd.func8, Tryd.ntmps8
  go_wp2
  simp [bodyPost, results, Tryd.results8, go_sem]
set_option maxRecDepth 100000 in
theorem rcopy_nil (w : World) : Calls Tryd.prog 20 #[.pointer none] w fun e w' => e = .returned (.pointer none) ∧ w' = w := by
  go_enter Tryd.func20, Tryd.ntmps20
  go_wp2
  simp [bodyPost, results, Tryd.results20, go_sem]
set_option maxRecDepth 100000 in
set_option maxHeartbeats 4000000 in
theorem rcopy_any {B bd : Nat} {k : Int} {v : Value} {X : List (BitVec 8)} (hl : X.length < 1073741824) (w : World) (h : Dp w B bd k v X) :
    Calls Tryd.prog 20 #[.pointer (some ⟨bd, 0, none⟩)] w fun e w' => ∃ b' v', e = .returned (.pointer (some ⟨b', 0, none⟩)) ∧ w.heap.size ≤ b' ∧ Dp w' w.heap.size b' k v' X ∧ Below w.heap.size w w' := by
  have c0 := h.kind
  have c1 := h.all
  obtain ⟨av, gv, cv, rfl, h1, h2, h3⟩ := own_arg h.own
  obtain ⟨n, en⟩ : ∃ n, Hid (n = X.length) := ⟨_, rfl⟩
  rw [← en.out] at c1
  have HA : Hid (At av gv 0 X ∧ (av = none → cv = 0) ∧ Byo w gv 0 X ∧ ([] : List (BitVec 8)).length + X.length < 1073741824) := ⟨h1, h2, h3, by simpa using hl⟩
  have NN : Hid (Own w.heap.size w (.slice none 0 0) []) := ⟨rfl, .inl ⟨rfl, rfl⟩⟩
  have RES : Hid (∀ a' c' w3, Own w.heap.size w3 (.slice a' ([] ++ X : List (BitVec 8)).length c') ([] ++ X) → w.grownBy w3 (Value.ownBlock (.slice none 0 0)) →
      w3.cell? ⟨bd, 0, none⟩ = some (.int .i64 k) ∧ w.heap.size ≤ w3.heap.size ∧ Below w.heap.size w w3 ∧ Own w.heap.size w3 (.slice a' n c') X) := by
    intro a' c' w3 ho hg
    have e3 : w3.heap[bd]? = w.heap[bd]? := hg.block bd h.lt (fun e => by cases e)
    refine ⟨by rw [World.cell?_of_block (w := w) (a := ⟨bd, 0, none⟩) e3]; exact h.kind, hg.size, (Below.refl _ _).grown hg (Nat.le_refl _) (fun j hj => by cases hj), ?_⟩
    have := ho
    rw [List.nil_append, ← en.out] at this
    exact this
  have LN : Hid (([] ++ X : List (BitVec 8)).length = n) := by rw [List.nil_append, en.out]; exact rfl
  clear h hl h1 h2 h3
  go_enter Tryd.func20, Tryd.ntmps20
  go_wp2_with (at_builtin; refine wpList_append_rk rfl _ _ rfl rfl rfl en.out NN.out HA.out.1 HA.out.2.1 HA.out.2.2.1 HA.out.2.2.2 (Nat.le_refl _) ?_; intro a' c' w3 ho hg hb; obtain ⟨k3, s3, b3, o3⟩ := RES.out a' c' w3 ho hg; clear ho hg hb; rw [LN.out])
  simp [bodyPost, results, Tryd.results20, go_sem]
  exact ⟨s3, ⟨_, Dp.new _ o3⟩, b3.alloc s3 _⟩
set_option maxRecDepth 100000 in
theorem rnew_bad {k : Int} (h0 : k ≠ 0) (h1 : k ≠ 1) (w : World) : Calls Tryd.prog 11 #[.int .i64 k] w fun e w' => e = .returned (.tuple #[.pointer none, .int .i64 1]) ∧ w' = w := by
  have q0 : (k != 0) = true := by simpa using h0
  have q1 : (k != 1) = true := by simpa using h1
  go_enter Tryd.func11, Tryd.ntmps11
  go_wp2
  simp [bodyPost, results, Tryd.results11, go_sem]
theorem Dp.nil {W : World} {k : Int} (t : TypeId) {B : Nat} : Dp (W.alloc (.cells #[.int .i64 k, .slice none 0 0] t)) B W.heap.size k (.slice none 0 0) [] := Dp.new t ⟨rfl, .inl ⟨rfl, rfl⟩⟩
set_option maxRecDepth 100000 in
theorem rnew_any {k : Int} (h : k = 0 ∨ k = 1) (w : World) : Calls Tryd.prog 11 #[.int .i64 k] w fun e w' => e = .returned (.tuple #[.pointer (some ⟨w.heap.size, 0, none⟩), .int .i64 0]) ∧ Dp w' w.heap.size w.heap.size k (.slice none 0 0) [] ∧ Below w.heap.size w w' := by
  rcases h with rfl | rfl
  all_goals
    go_enter Tryd.func11, Tryd.ntmps11
    go_wp2
    simp [bodyPost, results, Tryd.results11, go_sem]
    exact ⟨Dp.nil _, (Below.refl _ _).alloc (Nat.le_refl _) _⟩
theorem fst_y {k : Int} (h : k = 0 ∨ k = 1) : Y (fstB k) = if k = 1 then 6 else 1 := by
  rcases h with rfl | rfl
  · rw [fstB, if_neg (by decide), if_neg (by decide), Y_eq]; rfl
  · rw [fstB, if_pos rfl, if_pos rfl, Y_eq]; rfl
set_option maxRecDepth 100000 in
set_option maxHeartbeats 4000000 in
theorem rsumS_nil (w : World) : Calls Tryd.prog 6 #[.pointer none] w fun e w' => e = .returned (.agg (byts (List.replicate 32 0)).toArray) ∧ Below w.heap.size w w' := by
  have zero := byts_zero.symm
  have on := one_byts (List.replicate 32 0)
  have LM' : (byts (List.replicate 32 0)).length = 32 := by rw [byts_len]; simp
  have LM : Hid (32 = (byts (List.replicate 32 0)).length) := LM'.symm
  clear LM'
  obtain ⟨M, eM⟩ : ∃ M, Hid (M = byts (List.replicate 32 0)) := ⟨_, rfl⟩
  rw [← eM.out] at zero on LM ⊢
  have iz : (Tryd.prog.info? 34).map (·.size) = some M.length := by rw [← LM.out]; kernel_rfl
  have zs : M.toArray.size = M.length := List.size_toArray
  go_enter Tryd.func6, Tryd.ntmps6
  go_wp2_with (refine wpList_put_newK rfl 34 _ _ rfl M rfl rfl zs iz on ?_; intro w3 hb3 RX LX lt3; simp only [Act.put])
  have ld := run_loadVar_mid (P := Tryd.prog) w3 w.heap.size 0 34 M _ RX Tryd.underlying34 rfl iz
  refine bodyPost_ret (v := .agg M.toArray) ?_ rfl ⟨rfl, hb3⟩
  simp [results, Tryd.results6, asAddr, ld]
theorem wpListK {P : Program} {ops : Array Oper} {Q : Exit → Act → World → Prop} {rest : List Oper} {a : Act} {w : World} (S : World → Prop) (h : S w) (k : ∀ W, S W → wpList P ops Q rest a W) : wpList P ops Q rest a w := k w h
theorem range_keepK {W W' : World} {b : Nat} {M : List Value} (h : W.rangeAt b 0 M) (hb : Below W.heap.size W W') : W'.rangeAt b 0 M := fun j v hv => cell_keep hb (h j v hv)
/-- The digest of a kind and a text, byte by byte. -/
noncomputable def digL (k : Int) (X : List (BitVec 8)) : List (BitVec 8) := hashL (finL k (absb (List.replicate 25 0) 0 X) X.length)
theorem digL_len (k : Int) (X : List (BitVec 8)) : (digL k X).length = 32 := hashL_len _
set_option maxRecDepth 100000 in
set_option maxHeartbeats 4000000 in
theorem rsumS_any {B bd : Nat} {k : Int} {v : Value} {X : List (BitVec 8)} (hk : k = 0 ∨ k = 1) (hl : X.length < 1073741824) (w : World) (h : Dp w B bd k v X) (ht : Tab w 3 turnsN) (hm : Lns w 1 marksN) :
    Calls Tryd.prog 6 #[.pointer (some ⟨bd, 0, none⟩)] w fun e w' => e = .returned (.agg (byts (digL k X)).toArray) ∧ Below w.heap.size w w' := by
  have c0 := h.kind
  have c1 := h.all
  obtain ⟨av, gv, cv, rfl, h1, h2, h3⟩ := own_arg h.own
  have DG : Hid (∀ W, Below w.heap.size w W → Calls Tryd.prog 25 #[.slice av X.length cv, .int .u8 (if k = 1 then 6 else 1)] W fun e w' => e = .returned (.agg (byts (digL k X)).toArray) ∧ Below W.heap.size W w') := fun W B => rdigest_any k (fst_y hk) hl h1 h2 W (h3.keep B) (ht.keep B) (hm.keep B)
  have zero := byts_zero.symm
  have LM : Hid (32 = (byts (digL k X)).length) := by rw [byts_len, digL_len]; exact rfl
  have LZ' : (byts (List.replicate 32 0)).length = 32 := by rw [byts_len]; simp
  have on := one_byts (digL k X)
  have HB : Hid (∀ W, Below w.heap.size w W → W.cell? ⟨bd, 0, none⟩ = some (.int .i64 k) ∧ W.cell? ⟨bd, 1, none⟩ = some (.slice av X.length cv)) := fun W B => ⟨by rw [B.cell (p := ⟨bd, 0, none⟩) h.lt]; exact c0, by rw [B.cell (p := ⟨bd, 1, none⟩) h.lt]; exact c1⟩
  clear h h1 h2 h3 ht hm c0 c1 hl
  generalize X.length = n at *
  obtain ⟨M, eM⟩ : ∃ M, Hid (M = byts (digL k X)) := ⟨_, rfl⟩
  obtain ⟨Z, eZ⟩ : ∃ Z, Hid (Z = byts (List.replicate 32 0)) := ⟨_, rfl⟩
  rw [← eM.out] at LM on DG ⊢
  rw [← eZ.out] at zero LZ'
  have iz : (Tryd.prog.info? 34).map (·.size) = some M.length := by rw [← LM.out]; kernel_rfl
  have zs : Z.toArray.size = M.length := by rw [List.size_toArray, LZ', ← LM.out]
  have i2 : (Tryd.prog.info? 34).map (·.size) = some M.toArray.size := by rw [List.size_toArray]; exact iz
  clear LZ'
  rcases hk with rfl | rfl
  all_goals
    first | rw [if_neg (by decide)] at DG | rw [if_pos rfl] at DG
    go_enter Tryd.func6, Tryd.ntmps6
    have B0 : Below w.heap.size w (w.alloc (.cells Z.toArray 34)) := (Below.refl _ _).alloc (Nat.le_refl _) _
    obtain ⟨c0, c1⟩ := HB.out _ B0
    have T0 : Hid ((w.alloc (.cells Z.toArray 34)).there w.heap.size 0 M.toArray.size) := by rw [List.size_toArray]; exact there_newK zs.symm
    go_wp2_with fail
    with_reducible refine (DG.out _ B0).mono ?_
    rintro e1 w1 ⟨rfl, hb1⟩
    have B1 : Hid (Below w.heap.size w w1 ∧ w.heap.size < w1.heap.size) := ⟨B0.trans (hb1.mono B0.size), Nat.lt_of_lt_of_le (by simp) hb1.size⟩
    have T1 : Hid (w1.there w.heap.size 0 M.toArray.size) := fun j hj => by
      obtain ⟨x, y⟩ := T0.out j hj
      have lt : w.heap.size < (w.alloc (.cells Z.toArray 34)).heap.size := by simp
      exact ⟨by rw [hb1.cell (p := ⟨w.heap.size, 0 + j, none⟩) lt]; exact x, by rw [hb1.frozen (p := ⟨w.heap.size, 0 + j, none⟩) lt]; exact y⟩
    have FX : Hid (∀ w3, Below w1.heap.size w1 w3 → Below w.heap.size w w3 ∧ w3.there w.heap.size 0 M.toArray.size) := fun w3 hb3 => ⟨B1.out.1.trans (hb3.mono B1.out.1.size), fun j hj => by
      obtain ⟨x, y⟩ := T1.out j hj
      exact ⟨by rw [hb3.cell (p := ⟨w.heap.size, 0 + j, none⟩) B1.out.2]; exact x, by rw [hb3.frozen (p := ⟨w.heap.size, 0 + j, none⟩) B1.out.2]; exact y⟩⟩
    clear hb1 T0 c0 c1 B0 B1 T1
    go_wp2_with first | (refine wpList_put_newK rfl 34 _ _ rfl M rfl rfl zs iz on ?_; intro w3 hb3 RX LX lt3; obtain ⟨B3, T3⟩ := FX.out w3 hb3; clear hb3 LX lt3; simp only [Act.put]) | (refine wpList_load_mid rfl 34 _ rfl w1.heap.size 0 rfl M _ RX Tryd.underlying34 rfl iz ?_; simp only [Act.put, List.setIfInBounds_toArray, List.set_cons_succ, List.set_cons_zero]) | ((refine wpList_store_mid rfl 34 _ _ rfl w.heap.size 0 M.toArray rfl rfl T3 i2 on ?_); (refine wpListK (fun W' => Below w.heap.size w W' ∧ W'.rangeAt w.heap.size 0 M) ⟨B3.trans ((Off.cells0 (b := w.heap.size) (w := w3) M).below B3.size (Nat.le_refl _)), World.rangeAt_setCells_same _ _ _ _ (by simpa using T3)⟩ ?_); rintro W' ⟨B', hD⟩; simp only [Act.put])
    have ld := run_loadVar_mid (P := Tryd.prog) W' w.heap.size 0 34 M _ hD Tryd.underlying34 rfl iz
    refine bodyPost_ret (v := .agg M.toArray) ?_ rfl ⟨rfl, B'⟩
    simp [results, Tryd.results6, asAddr, ld]
end Go.Proofs.YtjhljoanhlodeaaDoor
