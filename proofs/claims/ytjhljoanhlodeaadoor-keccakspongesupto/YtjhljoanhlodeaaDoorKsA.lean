import Derived.Test.YtjhljoanhlodeaaDoorKKnown
/- Layer 2: the program's sponges: Reset, Copy, New of any kind; none. -/
namespace Go.Proofs.YtjhljoanhlodeaaDoor
open Go.RowKit Go.Sort
/-- A sponge's cells. -/
noncomputable def spV (k : Int) (L : List (BitVec 64)) (t : Nat) : List Value := .int .i64 k :: (lanes L ++ [.int .i64 (t : Int)])
theorem spV_len {k : Int} {L : List (BitVec 64)} {t : Nat} (h : L.length = 25) : (spV k L t).length = 27 := by simp [spV, lanes_len, h]
theorem one_spV (k : Int) (L : List (BitVec 64)) (t : Nat) : (spV k L t).toArray.all (·.oneCell') = true := all_oneCell_toArray (fun v hv => by
  rcases List.mem_cons.1 hv with rfl | hv
  · rfl
  · rcases List.mem_append.1 hv with hv | hv
    · obtain ⟨x, _, rfl⟩ := List.mem_map.1 hv; rfl
    · rw [List.mem_singleton.1 hv]; rfl)
theorem Sp.rng {W : World} {b : Nat} {k : Int} {L : List (BitVec 64)} {t : Nat} (h : Sp W b k L t) : W.rangeAt b 0 (spV k L t) := fun j v hv => by
  obtain ⟨hl, h0, h1, h2, _⟩ := h
  cases j with
  | zero => simp [spV] at hv; subst hv; exact h0
  | succ j =>
    rw [spV, List.getElem?_cons_succ] at hv
    by_cases hj : j < 25
    · rw [List.getElem?_append_left (by rw [lanes_len]; omega), lanes, List.getElem?_map] at hv
      obtain ⟨x, hx, rfl⟩ := Option.map_eq_some_iff.1 hv
      have := h1 j (by omega)
      rw [show 0 + (j + 1) = 1 + j by omega, this]
      simp [List.getD, hx]
    · have h25 : j = 25 := by
        have := (List.getElem?_eq_some_iff.1 hv).1
        simp [lanes_len, hl] at this; omega
      subst h25
      rw [List.getElem?_append_right (by rw [lanes_len]; omega), lanes_len, hl] at hv
      simp at hv; subst hv
      exact h2
theorem Sp.of {W : World} {b : Nat} {k : Int} {L : List (BitVec 64)} {t : Nat} (hl : L.length = 25) (h : W.rangeAt b 0 (spV k L t)) (f : Loose W b 27) : Sp W b k L t := by
  refine ⟨hl, h 0 _ rfl, fun i hi => ?_, ?_, f⟩
  · have := h (i + 1) (.int .u64 (V (L.getD i 0))) (by rw [spV, List.getElem?_cons_succ, List.getElem?_append_left (by rw [lanes_len]; exact hi), lanes, List.getElem?_map, List.getElem?_eq_getElem hi, List.getD, List.getElem?_eq_getElem hi]; rfl)
    rw [show 0 + (i + 1) = 1 + i by omega] at this; exact this
  · exact h 26 (.int .i64 (t : Int)) (by rw [spV, List.getElem?_cons_succ, List.getElem?_append_right (by rw [lanes_len, hl]; decide), lanes_len, hl]; rfl)
theorem Sp.there27 {W : World} {b : Nat} {k : Int} {L : List (BitVec 64)} {t : Nat} (h : Sp W b k L t) : W.there b 0 27 := fun j hj => by
  have hr := h.rng
  have lt : j < (spV k L t).length := by rw [spV_len h.1]; exact hj
  have c := hr j _ (List.getElem?_eq_getElem lt)
  refine ⟨by rw [c]; rfl, ?_⟩
  rw [Nat.zero_add]; exact h.2.2.2.2 j hj
theorem size_sp : (Tryd.prog.info? 48).map (·.size) = some 27 := by kernel_rfl
theorem spV_zero (k : Int) : (spV k (List.replicate 25 0) 0).toArray = #[.int .i64 k, .int .u64 0, .int .u64 0, .int .u64 0, .int .u64 0, .int .u64 0, .int .u64 0, .int .u64 0, .int .u64 0, .int .u64 0, .int .u64 0, .int .u64 0, .int .u64 0, .int .u64 0, .int .u64 0, .int .u64 0, .int .u64 0, .int .u64 0, .int .u64 0, .int .u64 0, .int .u64 0, .int .u64 0, .int .u64 0, .int .u64 0, .int .u64 0, .int .u64 0, .int .i64 0] := by
  have z : V 0#64 = 0 := V_zero
  simp [spV, lanes, z, List.replicate]
theorem Off.cells0 {b : Nat} {w : World} (cs : List Value) : Off b w (w.setCells b 0 cs) := (Off.refl b w).setCells cs
set_option maxRecDepth 100000 in
set_option maxHeartbeats 4000000 in
theorem reset_any {b : Nat} {k : Int} {L : List (BitVec 64)} {t : Nat} (w : World) (hS : Sp w b k L t) :
    Calls Tryd.prog 17 #[.pointer (some ⟨b, 0, none⟩)] w fun e w' => e = .returned (.tuple #[]) ∧ Sp w' b k (List.replicate 25 0) 0 ∧ Off b w w' := by
  have c0 := hS.2.1
  have tr := hS.there27
  have lz : (List.replicate 25 (0 : BitVec 64)).length = 25 := by simp
  have LZ := spV_len (k := k) (t := 0) lz
  have HW : Hid (Sp (w.setCells b 0 (spV k (List.replicate 25 0) 0)) b k (List.replicate 25 0) 0 ∧ Off b w (w.setCells b 0 (spV k (List.replicate 25 0) 0))) :=
    ⟨Sp.of lz (World.rangeAt_setCells_same _ _ _ _ (by rw [LZ]; exact tr)) (hS.2.2.2.2.setCells _ _ _), Off.cells0 _⟩
  have on := one_spV k (List.replicate 25 0) 0
  have ez := spV_zero k
  obtain ⟨M, eM⟩ : ∃ M, Hid (M = spV k (List.replicate 25 0) 0) := ⟨_, rfl⟩
  rw [← eM.out] at HW on ez LZ
  have tr' : w.there b 0 M.toArray.size := by rw [List.size_toArray, LZ]; exact tr
  have iz : (Tryd.prog.info? 48).map (·.size) = some M.toArray.size := by rw [List.size_toArray, LZ]; exact size_sp
  clear tr hS LZ lz
  have zero := ez.symm
  clear ez
  go_enter Tryd.func17, Tryd.ntmps17
  go_wp2_with ((refine wpList_store_mid rfl 48 _ _ rfl b 0 M.toArray rfl rfl tr' iz on ?_))
  simp [bodyPost, results, Tryd.results17, go_sem]
  exact HW.out
theorem rng_newK {W : World} {M : List Value} {t : TypeId} : (W.alloc (.cells M.toArray t)).rangeAt W.heap.size 0 M := fun j v hv => by
  rw [World.cell?_alloc_mark, Nat.zero_add]; simpa using hv
theorem there_newK {W : World} {cs : Array Value} {t : TypeId} {n : Nat} (hn : n = cs.size) : (W.alloc (.cells cs t)).there W.heap.size 0 n := by
  intro j hj
  rw [Nat.zero_add, World.cell?_alloc_mark]
  refine ⟨by simp; omega, ?_⟩
  simp
/-- A store of a whole value into a block just made; the world behind it under a name. -/
theorem wpList_put_newK {ops : Array Oper} {rest : List Oper} {op : Oper} {a : Act} {w : World} {Q : Exit → Act → World → Prop} {M : Array Value} {t : TypeId} (hgd : op.guard = none) (ty : TypeId) (x y : Operand) (ho : op.op = .store ty x y) (N : List Value)
    (hx : a.eval x = .pointer (some ⟨w.heap.size, 0, none⟩)) (hy : a.eval y = .agg N.toArray) (hM : M.size = N.length) (hi : (Tryd.prog.info? ty).map (·.size) = some N.length) (h1 : N.toArray.all (·.oneCell') = true)
    (h : ∀ W', Below w.heap.size w W' → W'.rangeAt w.heap.size 0 N → Loose W' w.heap.size N.length → w.heap.size < W'.heap.size → wpList Tryd.prog ops Q rest (a.put op.dst undef) W') : wpList Tryd.prog ops Q (op :: rest) a (w.alloc (.cells M t)) := by
  have tr : (w.alloc (.cells M t)).there w.heap.size 0 N.length := there_newK hM.symm
  refine wpList_store_mid hgd ty x y ho w.heap.size 0 N.toArray hx hy (by simpa using tr) (by simpa using hi) h1 ?_
  have B0 : Below w.heap.size w (w.alloc (.cells M t)) := (Below.refl w.heap.size w).alloc (Nat.le_refl _) (.cells M t)
  have O : Off w.heap.size (w.alloc (.cells M t)) ((w.alloc (.cells M t)).setCells w.heap.size 0 N) := Off.cells0 _
  have B1 := O.below (B := w.heap.size) (by simp) (Nat.le_refl _)
  refine h _ (B0.trans B1) (World.rangeAt_setCells_same _ _ _ _ tr) ((Loose.new _ _ _ rfl).setCells _ _ _) ?_
  exact Nat.lt_of_lt_of_le (by simp) B1.size
set_option maxRecDepth 100000 in
set_option maxHeartbeats 4000000 in
theorem copyS_any {b : Nat} {k : Int} {L : List (BitVec 64)} {t : Nat} (w : World) (hS : Sp w b k L t) :
    Calls Tryd.prog 19 #[.pointer (some ⟨b, 0, none⟩)] w fun e w' => e = .returned (.pointer (some ⟨w.heap.size, 0, none⟩)) ∧ Sp w' w.heap.size k L t ∧ Below w.heap.size w w' := by
  have LZ := spV_len (k := k) (t := t) hS.1
  have rg := hS.rng
  have on := one_spV k L t
  have HL : Hid (L.length = 25) := hS.1
  obtain ⟨M, eM⟩ : ∃ M, Hid (M = spV k L t) := ⟨_, rfl⟩
  rw [← eM.out] at LZ rg on
  have iz : (Tryd.prog.info? 48).map (·.size) = some M.length := by rw [LZ]; exact size_sp
  have LM : Hid (27 = M.length) := LZ.symm
  clear hS LZ
  go_enter Tryd.func19, Tryd.ntmps19
  go_wp2_with first | (refine wpList_load_mid rfl 48 _ rfl b 0 rfl M _ rg Tryd.underlying48 rfl iz ?_) | (refine wpList_put_newK rfl 48 _ _ rfl M rfl rfl LM.out iz on ?_; intro w3 hb3 RX LX lt3; simp only [Act.put])
  simp [bodyPost, results, Tryd.results19, go_sem]
  refine ⟨Sp.of HL.out (by rw [← eM.out]; exact RX) (by rw [← LM.out] at LX; exact LX), hb3⟩
set_option maxRecDepth 100000 in
theorem reset_nil (w : World) : Calls Tryd.prog 17 #[.pointer none] w fun e w' => e = .returned (.tuple #[]) ∧ w' = w := by
  go_enter Tryd.func17, Tryd.ntmps17
  go_wp2
  simp [bodyPost, results, Tryd.results17, go_sem]
set_option maxRecDepth 100000 in
theorem copyS_nil (w : World) : Calls Tryd.prog 19 #[.pointer none] w fun e w' => e = .returned (.pointer none) ∧ w' = w := by
  go_enter Tryd.func19, Tryd.ntmps19
  go_wp2
  simp [bodyPost, results, Tryd.results19, go_sem]
set_option maxRecDepth 100000 in
theorem write_nil (v : Value) (w : World) : Calls Tryd.prog 14 #[.pointer none, v] w fun e w' => e = .returned (.tuple #[]) ∧ w' = w := by
  go_enter Tryd.func14, Tryd.ntmps14
  go_wp2
  simp [bodyPost, results, Tryd.results14, go_sem]
set_option maxRecDepth 100000 in
theorem lenS_nil (w : World) : Calls Tryd.prog 7 #[.pointer none] w fun e w' => e = .returned (.int .i64 0) ∧ w' = w := by
  go_enter Tryd.func7, Tryd.ntmps7
  go_wp2
  simp [bodyPost, results, Tryd.results7, go_sem]
theorem byts_zero : (byts (List.replicate 32 0)).toArray = #[.int .u8 0, .int .u8 0, .int .u8 0, .int .u8 0, .int .u8 0, .int .u8 0, .int .u8 0, .int .u8 0, .int .u8 0, .int .u8 0, .int .u8 0, .int .u8 0, .int .u8 0, .int .u8 0, .int .u8 0, .int .u8 0, .int .u8 0, .int .u8 0, .int .u8 0, .int .u8 0, .int .u8 0, .int .u8 0, .int .u8 0, .int .u8 0, .int .u8 0, .int .u8 0, .int .u8 0, .int .u8 0, .int .u8 0, .int .u8 0, .int .u8 0, .int .u8 0] := by
  have z : Y 0#8 = 0 := Y_zero
  simp [byts, z, List.replicate]
set_option maxRecDepth 100000 in
set_option maxHeartbeats 4000000 in
theorem sumS_nil (w : World) : Calls Tryd.prog 5 #[.pointer none] w fun e w' => e = .returned (.agg (byts (List.replicate 32 0)).toArray) ∧ Below w.heap.size w w' := by
  have zero := byts_zero.symm
  have on := one_byts (List.replicate 32 0)
  have LM' : (byts (List.replicate 32 0)).length = 32 := by rw [byts_len]; simp
  have LM : Hid (32 = (byts (List.replicate 32 0)).length) := LM'.symm
  clear LM'
  obtain ⟨M, eM⟩ : ∃ M, Hid (M = byts (List.replicate 32 0)) := ⟨_, rfl⟩
  rw [← eM.out] at zero on LM ⊢
  have iz : (Tryd.prog.info? 34).map (·.size) = some M.length := by rw [← LM.out]; kernel_rfl
  have zs : M.toArray.size = M.length := List.size_toArray
  go_enter Tryd.func5, Tryd.ntmps5
  go_wp2_with (refine wpList_put_newK rfl 34 _ _ rfl M rfl rfl zs iz on ?_; intro w3 hb3 RX LX lt3; simp only [Act.put])
  have ld := run_loadVar_mid (P := Tryd.prog) w3 w.heap.size 0 34 M _ RX Tryd.underlying34 rfl iz
  refine bodyPost_ret (v := .agg M.toArray) ?_ rfl ⟨rfl, hb3⟩
  simp [results, Tryd.results5, asAddr, ld]
set_option maxRecDepth 100000 in
theorem new_bad {k : Int} (h0 : k ≠ 0) (h1 : k ≠ 1) (w : World) : Calls Tryd.prog 10 #[.int .i64 k] w fun e w' => e = .returned (.tuple #[.pointer none, .int .i64 1]) ∧ w' = w := by
  have q0 : (k != 0) = true := by simpa using h0
  have q1 : (k != 1) = true := by simpa using h1
  go_enter Tryd.func10, Tryd.ntmps10
  go_wp2
  simp [bodyPost, results, Tryd.results10, go_sem]
end Go.Proofs.YtjhljoanhlodeaaDoor
