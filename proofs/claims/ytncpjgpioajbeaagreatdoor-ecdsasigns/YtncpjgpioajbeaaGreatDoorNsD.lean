import Derived.Test.YtncpjgpioajbeaaGreatDoorNsC
/- EcdsaSigns. -/
namespace Go.Proofs.YtncpjgpioajbeaaGreatDoor
open Go.RowKit Go.Sort

/-- What Sign answers. -/
noncomputable def sigZ (key : Int) (A : List Int) : SwR := if fitN key then okZ2 (sgZ key A) else ⟨0, 0, false, 60⟩
theorem sgZ_err {key : Int} {A : List Int} {i : Nat} (h : nonE key A i ≠ 0) : sgZ key A i = ⟨0, 0, false, nonE key A i⟩ := by unfold sgZ; rw [if_neg h]
theorem sgZ_ok {key : Int} {A : List Int} {i : Nat} (h : nonE key A i = 0) : sgZ key A i = swZ key A (nonV key A i) := by unfold sgZ; rw [if_pos h]
theorem sign_any {key : Int} {A : List Int} (hk : Num key) (hA : Byts A) (hl : A.length = 32) (w : World) (hm : Mds w) (ht : ShT w) (hc : Cols w) :
    Calls Tryz.prog 5 #[.agg #[.int .u64 (l0 key), .int .u64 (l1 key), .int .u64 (l2 key), .int .u64 (l3 key)], hashV A] w fun e w' => e = .returned (.tuple #[.agg #[.int .u64 (l0 (sigZ key A).r), .int .u64 (l1 (sigZ key A).r), .int .u64 (l2 (sigZ key A).r), .int .u64 (l3 (sigZ key A).r), .int .u64 (l0 (sigZ key A).s), .int .u64 (l1 (sigZ key A).s), .int .u64 (l2 (sigZ key A).s), .int .u64 (l3 (sigZ key A).s), .bool (sigZ key A).o], .int .i64 (sigZ key A).e]) ∧ Below w.heap.size w w' := by
  have hM : (A.map fun z => Value.int .u8 z).length = 32 := by rw [List.length_map]; exact hl
  have IN := einside_any hk
  cases hf : fitN key with
  | false =>
    rw [hf] at IN
    rw [show sigZ key A = ⟨0, 0, false, 60⟩ by unfold sigZ; rw [hf]; rfl]
    exact sign_key hM IN w hm ht hc
  | true =>
    rw [hf] at IN
    rw [show sigZ key A = okZ2 (sgZ key A) by unfold sigZ; rw [hf]; rfl]
    refine sign_ok hM rfl IN (fun i bk bd W hm ht hc hk' hd => ?_) w hm ht hc
    exact sclo_any hM (fun w hm ht => nonce_any hk hA hl w hm ht) (fun h w hm hc => by rw [sgZ_ok h]; exact sw_any hk (nonV_num _ _ _) hA hl w hm hc) (fun h => by rw [sgZ_err h]; exact ⟨rfl, rfl, rfl, rfl⟩) W hm ht hc hk' hd
theorem rsign_any {key : Int} {A : List Int} (hk : Num key) (hA : Byts A) (hl : A.length = 32) (w : World) :
    Calls Tryz.prog 11 #[.agg #[.int .u64 (l0 key), .int .u64 (l1 key), .int .u64 (l2 key), .int .u64 (l3 key)], hashV A] w fun e w' => e = .returned (.tuple #[.agg #[.int .u64 (l0 (sigZ key A).r), .int .u64 (l1 (sigZ key A).r), .int .u64 (l2 (sigZ key A).r), .int .u64 (l3 (sigZ key A).r), .int .u64 (l0 (sigZ key A).s), .int .u64 (l1 (sigZ key A).s), .int .u64 (l2 (sigZ key A).s), .int .u64 (l3 (sigZ key A).s), .bool (sigZ key A).o], .int .i64 (sigZ key A).e]) ∧ Below w.heap.size w w' := by
  have hM : (A.map fun z => Value.int .u8 z).length = 32 := by rw [List.length_map]; exact hl
  have IN := r6fit_any hk
  cases hf : fitN key with
  | false =>
    rw [hf] at IN
    rw [show sigZ key A = ⟨0, 0, false, 60⟩ by unfold sigZ; rw [hf]; rfl]
    exact rsign_key hM IN w
  | true =>
    rw [hf] at IN
    rw [show sigZ key A = okZ2 (sgZ key A) by unfold sigZ; rw [hf]; rfl]
    exact rsign_ok (nv := fun i => nonV key A i) (nf := fun i => nonE key A i) hM rfl IN (fun i W => rnonce_any hk hA hl W) (fun i h W => by rw [sgZ_ok h]; exact rsw_any hk (nonV_num _ _ _) hA hl W) (fun i h => by rw [sgZ_err h]; exact h) w
theorem fsZ_num {R : Nat → SwR} (hR : ∀ i, Num (R i).r ∧ Num (R i).s) {x : SwR} : ∀ {n : Nat}, fsZ R n = some x → Num x.r ∧ Num x.s
  | 0, h => by simp [fsZ] at h
  | n + 1, h => by
    rw [fsZ] at h
    cases e : fsZ R n with
    | some y => rw [e] at h; exact fsZ_num hR (n := n) (by rw [e]; exact h)
    | none =>
      rw [e] at h
      by_cases k : (R n).e = 0
      · rw [if_pos k] at h
        have : R n = x := by simpa using h
        rw [← this]; exact hR n
      · rw [if_neg k] at h
        simp at h
theorem sigZ_num (key : Int) (A : List Int) : Num (sigZ key A).r ∧ Num (sigZ key A).s := by
  unfold sigZ
  split
  · unfold okZ2
    cases h : fsZ (sgZ key A) 64 with
    | none => exact ⟨zeroN, zeroN⟩
    | some x => exact fsZ_num (sgZ_num key A) h
  · exact ⟨zeroN, zeroN⟩

set_option maxRecDepth 100000 in
set_option maxHeartbeats 8000000 in
theorem signs_any {key : Int} {A : List Int} (hk : Num key) (hA : Byts A) (hl : A.length = 32) (w : World) (hm : Mds w) (ht : ShT w) (hc : Cols w) :
    Calls Tryz.prog 4 #[.agg #[.int .u64 (l0 key), .int .u64 (l1 key), .int .u64 (l2 key), .int .u64 (l3 key)], hashV A] w fun e w' => e = .returned (.bool true) ∧ Below w.heap.size w w' := by
  have C1 : Hid (∀ w, Mds w → ShT w → Cols w → Calls Tryz.prog 5 #[.agg #[.int .u64 (l0 key), .int .u64 (l1 key), .int .u64 (l2 key), .int .u64 (l3 key)], .agg (A.map fun z => Value.int .u8 z).toArray] w fun e w' => e = .returned (.tuple #[.agg #[.int .u64 (l0 (sigZ key A).r), .int .u64 (l1 (sigZ key A).r), .int .u64 (l2 (sigZ key A).r), .int .u64 (l3 (sigZ key A).r), .int .u64 (l0 (sigZ key A).s), .int .u64 (l1 (sigZ key A).s), .int .u64 (l2 (sigZ key A).s), .int .u64 (l3 (sigZ key A).s), .bool (sigZ key A).o], .int .i64 (sigZ key A).e]) ∧ Below w.heap.size w w') := fun w hm ht hc => sign_any hk hA hl w hm ht hc
  have C2 : Hid (∀ w, Calls Tryz.prog 11 #[.agg #[.int .u64 (l0 key), .int .u64 (l1 key), .int .u64 (l2 key), .int .u64 (l3 key)], .agg (A.map fun z => Value.int .u8 z).toArray] w fun e w' => e = .returned (.tuple #[.agg #[.int .u64 (l0 (sigZ key A).r), .int .u64 (l1 (sigZ key A).r), .int .u64 (l2 (sigZ key A).r), .int .u64 (l3 (sigZ key A).r), .int .u64 (l0 (sigZ key A).s), .int .u64 (l1 (sigZ key A).s), .int .u64 (l2 (sigZ key A).s), .int .u64 (l3 (sigZ key A).s), .bool (sigZ key A).o], .int .i64 (sigZ key A).e]) ∧ Below w.heap.size w w') := fun w => rsign_any hk hA hl w
  have nv := sigZ_num key A
  have hM : (A.map fun z => Value.int .u8 z).length = 32 := by rw [List.length_map]; exact hl
  unfold hashV
  generalize A.map (fun z => Value.int .u8 z) = M at *
  generalize sigZ key A = x at *
  have il : (Tryz.prog.info? 26).map (·.size) = some M.length := by rw [hM]; kernel_rfl
  have EQ := es_same' (od := x.o) nv.1 nv.2
  clear hA hl hk nv hM
  have BA : ∀ (V : World) o, Below V.heap.size V (V.alloc o) := fun V o => (Below.refl _ _).alloc (Nat.le_refl _) o
  have NC : ∀ t1 t2, (Below w.heap.size w ((w.alloc (.cells #[.int .u64 (l0 key), .int .u64 (l1 key), .int .u64 (l2 key), .int .u64 (l3 key)] t1)).alloc (.cells M.toArray t2)) ∧ Mds ((w.alloc (.cells #[.int .u64 (l0 key), .int .u64 (l1 key), .int .u64 (l2 key), .int .u64 (l3 key)] t1)).alloc (.cells M.toArray t2)) ∧ ShT ((w.alloc (.cells #[.int .u64 (l0 key), .int .u64 (l1 key), .int .u64 (l2 key), .int .u64 (l3 key)] t1)).alloc (.cells M.toArray t2)) ∧ Cols ((w.alloc (.cells #[.int .u64 (l0 key), .int .u64 (l1 key), .int .u64 (l2 key), .int .u64 (l3 key)] t1)).alloc (.cells M.toArray t2))) ∧ Hold ((w.alloc (.cells #[.int .u64 (l0 key), .int .u64 (l1 key), .int .u64 (l2 key), .int .u64 (l3 key)] t1)).alloc (.cells M.toArray t2)) w.heap.size key ∧ ((w.alloc (.cells #[.int .u64 (l0 key), .int .u64 (l1 key), .int .u64 (l2 key), .int .u64 (l3 key)] t1)).alloc (.cells M.toArray t2)).rangeAt (w.heap.size + 1) 0 M := fun t1 t2 => by
    refine ⟨⟨((Below.refl _ _).alloc (Nat.le_refl _) _).alloc (by simp) _, (hm.alloc _).alloc _, (ht.keep (BA _ _)).keep (BA _ _), (hc.keep (BA _ _)).keep (BA _ _)⟩, (Hold.new _ _ _).keep (BA _ _), ?_⟩
    have := range_newZ (W := w.alloc (.cells #[.int .u64 (l0 key), .int .u64 (l1 key), .int .u64 (l2 key), .int .u64 (l3 key)] t1)) (cs := M) (t := t2)
    rwa [show (w.alloc (.cells #[.int .u64 (l0 key), .int .u64 (l1 key), .int .u64 (l2 key), .int .u64 (l3 key)] t1)).heap.size = w.heap.size + 1 by simp] at this
  have rg0 := fun t1 t2 => (NC t1 t2).2.2
  go_enter Tryz.func4, Tryz.ntmps4
  go_wp2_with (refine wpList_load_mid rfl 26 _ rfl (w.heap.size + 1) 0 rfl M _ (rg0 _ _) Tryz.underlying26 rfl il ?_)
  refine calls_world (fun W => (Below w.heap.size w W ∧ Mds W ∧ ShT W ∧ Cols W) ∧ Hold W w.heap.size key ∧ W.rangeAt (w.heap.size + 1) 0 M) (NC _ _) ?_
  clear NC rg0 hm ht hc
  rintro W ⟨⟨B, hm, ht, hc⟩, hK, hD⟩
  refine (C1.out W hm ht hc).mono ?_
  rintro e w2 ⟨rfl, hb⟩
  have H2 : Hid (Below w.heap.size w w2) := B.trans (hb.mono B.size)
  have gk := fun o => ((hK.keep hb).keep (BA _ o)).cells
  have rg := fun o => rangeZ (rangeZ hD hb) (BA _ o)
  clear hb B hm ht hc hK hD C1
  clear W
  go_wp2_with (refine wpList_load_mid rfl 26 _ rfl (w.heap.size + 1) 0 rfl M _ (rg _) Tryz.underlying26 rfl il ?_)
  refine calls_world (fun W => Below w.heap.size w W ∧ Pnt W w2.heap.size x.r x.s x.o) ⟨H2.out.alloc H2.out.size _, Pnt.new rfl⟩ ?_
  rintro W ⟨B, hV⟩
  refine (C2.out W).mono ?_
  rintro e w3 ⟨rfl, hb⟩
  have lv := hV.lt
  have l3v := Nat.lt_of_lt_of_le lv hb.size
  have g1 := fun o => ((hV.keep hb).alloc o).cells
  have H3 : Hid (Below w.heap.size w w3) := B.trans (hb.mono B.size)
  clear hb B hV gk rg C2 H2 lv BA il
  clear W
  generalize w2.heap.size = b2 at *
  clear w2
  go_wp2_with fail
  refine calls_world (fun W => Below w.heap.size w W) (H3.out.alloc H3.out.size _) ?_
  rintro W4 B4
  refine (lnum6_any x.e W4).mono ?_
  rintro e w5 ⟨rfl, hb⟩
  replace B4 := B4.trans (hb.mono B4.size)
  clear hb g1 EQ H3
  go_wp2
  simp [bodyPost, results, Tryz.results4]
  exact B4
end Go.Proofs.YtncpjgpioajbeaaGreatDoor
