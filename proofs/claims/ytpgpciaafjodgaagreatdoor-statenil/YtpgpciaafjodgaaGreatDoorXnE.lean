import Derived.Test.YtpgpciaafjodgaaGreatDoorXnD
import Derived.Test.YtpgpciaafjodgaaGreatDoorKSums
import Derived.Deep.RegionHeld
import Derived.OrdersHeld
/- Layer 21: Load, Prove, ProveStorage of a nil state. -/
namespace Go.Proofs.YtpgpciaafjodgaaGreatDoor
open Go.RowKit Go.Sort
theorem wpAnyH_takeD {P : Program} {md : Region.Mode} {ops : Array Oper} {Q : Exit → Act → World → Prop} {S : World → Prop} {i : Nat} {oi : Oper} {v : Value} {fuel : Nat} {listed : Array Bool} {a : Act} {w : World} (d : Nat) (hi : ops[i]? = some oi) (hd : oi.dst = some d)
    (hs : Region.noSelect ops = true) (hf : Region.free md ops listed i = true) (hr : (Region.ready md ops listed).contains i = true)
    (hQ : ∀ c a w, Q (.panic c) (a.put oi.dst v) w → Q (.panic c) a w) (hy : YieldsIf P ops S oi v a) (hS : S w)
    (h : wpAnyH P md ops Q S fuel (listed.setIfInBounds i true) (a.put (some d) v) w) : wpAnyH P md ops Q S (fuel + 1) listed a w :=
  wpAnyH_take hi hs hf hr hQ hy hS (by rw [hd]; exact h)
theorem kworldN {K : Act → World → Prop} {a : Act} {w : World} (I : World → Prop) (h : I w) (k : ∀ V, I V → K a V) : K a w := k w h
theorem yields_midN {P : Program} {a : Act} {op : Oper} (ty : TypeId) (x : Operand) (ho : op.op = .load ty x) (b o : Nat) (hx : a.eval x = .pointer (some ⟨b, o, none⟩)) (cs : List Value) (d : TypeDesc) {w : World} (hc : w.rangeAt b o cs)
    (hu : P.underlying ty = some d) (hd : d.isRow = true) (hi : (P.info? ty).map (·.size) = some cs.length) : (execOp a.eval op).run P w = .ok (.value (.agg cs.toArray)) w := by
  unfold execOp
  simp only [ho, hx, Instr.loadAt, Instr.sureAddr, Sem.run_bind, Sem.run_pure, Result.andThen_ok, run_loadVar_mid w b o ty cs d hc hu hd hi]
theorem range_farN {W : World} {b b' o : Nat} {vs M : List Value} (h : W.rangeAt b o M) (ne : b' ≠ b) : (W.setCells b' 0 vs).rangeAt b o M := fun j v hv => by
  exact World.rangeAt_setCells_apart h b' 0 vs (.inl ne.symm) j v hv
/-- The key, and the address, that the statement asks with. -/
def k2N : List Value := .int .u8 2 :: List.replicate 31 (.int .u8 0)
def a1N : List Value := .int .u8 1 :: List.replicate 19 (.int .u8 0)
theorem k2N_len : k2N.length = 32 := by simp [k2N]
theorem a1N_len : a1N.length = 20 := by simp [a1N]
theorem look_no (w : World) : (Instr.lookup 61 (.map none) (.agg k2N.toArray) false).run Tryz.prog w = .ok (.agg #[.int .u64 0, .int .u64 0, .int .u64 0, .int .u64 0]) w := by kernel_rfl
set_option maxRecDepth 100000 in
set_option maxHeartbeats 4000000 in
theorem Load_no {A : List Value} (hA : A.length = 20) (w : World) : Calls Tryz.prog 20 #[.pointer none, .agg A.toArray, .agg k2N.toArray] w fun e w' => e = .returned (.agg #[.int .u64 0, .int .u64 0, .int .u64 0, .int .u64 0]) ∧ Below w.heap.size w w' := by
  have AT : Hid (∀ w, Calls Tryz.prog 28 #[.pointer none, .agg A.toArray] w fun e w' => e = .returned (.agg #[.int .u64 0, .int .u64 0, .int .u64 0, .int .u64 0, .int .u64 0, .slice none 0 0, .map none]) ∧ Below w.heap.size w w') := fun w => at_no A.toArray w
  have lk := look_no
  have fl := fld3
  have iA : (Tryz.prog.info? 24).map (·.size) = some A.length := by rw [hA]; exact ad_sizeN
  have iK : (Tryz.prog.info? 26).map (·.size) = some k2N.length := by rw [k2N_len]; exact ha_sizeN
  have iz : (Tryz.prog.info? 29).map (·.size) = some 4 := by kernel_rfl
  have on : (#[.int .u64 0, .int .u64 0, .int .u64 0, .int .u64 0] : Array Value).all (·.oneCell') = true := by simp [Value.oneCell']
  generalize k2N = KK at *
  have HH : Hid (Below w.heap.size w (((w.alloc (.cells A.toArray 24)).alloc (.cells KK.toArray 26)).alloc (.cells #[.int .u64 0, .int .u64 0, .int .u64 0, .int .u64 0] 29)) ∧ (((w.alloc (.cells A.toArray 24)).alloc (.cells KK.toArray 26)).alloc (.cells #[.int .u64 0, .int .u64 0, .int .u64 0, .int .u64 0] 29)).rangeAt w.heap.size 0 A ∧ (((w.alloc (.cells A.toArray 24)).alloc (.cells KK.toArray 26)).alloc (.cells #[.int .u64 0, .int .u64 0, .int .u64 0, .int .u64 0] 29)).rangeAt (w.heap.size + 1) 0 KK ∧ (((w.alloc (.cells A.toArray 24)).alloc (.cells KK.toArray 26)).alloc (.cells #[.int .u64 0, .int .u64 0, .int .u64 0, .int .u64 0] 29)).there (w.heap.size + 1 + 1) 0 4) := by
    refine ⟨?_, ?_, ?_, there_newN (by simp) rfl⟩
    · repeat (first | with_reducible exact Below.refl _ _ | with_reducible refine Below.alloc ?_ (by first | omega | (simp; done) | (simp; omega)) _)
    · exact range_keepN (range_keepN rangeBoxN ((Below.refl _ _).alloc (Nat.le_refl _) _)) ((Below.refl _ _).alloc (Nat.le_refl _) _)
    · have h := rangeBoxN (W := w.alloc (.cells A.toArray 24)) (M := KK) (t := 26)
      rw [World.size_alloc] at h
      exact range_keepN h ((Below.refl _ _).alloc (Nat.le_refl _) _)
  go_enter Tryz.func20, Tryz.ntmps20
  go_wp2_with fail
  refine wp_world (fun W => Below w.heap.size w W ∧ W.rangeAt w.heap.size 0 A ∧ W.rangeAt (w.heap.size + 1) 0 KK ∧ W.there (w.heap.size + 1 + 1) 0 4 ∧ w.heap.size + 1 + 1 < W.heap.size) ⟨HH.out.1, HH.out.2.1, HH.out.2.2.1, HH.out.2.2.2, by simp⟩ ?_
  clear HH
  rintro W ⟨B, rA, rK, T, lt⟩
  have HH : Hid (Below w.heap.size w W ∧ W.rangeAt w.heap.size 0 A ∧ W.rangeAt (w.heap.size + 1) 0 KK ∧ W.there (w.heap.size + 1 + 1) 0 4 ∧ w.heap.size + 1 + 1 < W.heap.size) := ⟨B, rA, rK, T, lt⟩
  clear B rA rK T lt
  refine wp_region_held_drew (S := fun w' => Below w.heap.size w w' ∧ w'.rangeAt w.heap.size 0 A ∧ w'.rangeAt (w.heap.size + 1) 0 KK) (by kernel_rfl) (⟨HH.out.1.drew, HH.out.2.1, HH.out.2.2.1⟩) (fun hHeld => ?_)
  refine wpAnyH_takeD (i := 0) (oi := _) (v := .pointer none) 7 rfl (by kernel_rfl) (by kernel_rfl) (by kernel_rfl) (by kernel_rfl) (fun _ _ _ h => h) (Or.inl ⟨by kernel_rfl, ?_⟩) (by assumption) ?_
  · intro wq hSw
    have _ := hSw
    go_simp
  simp only [Act.put, List.setIfInBounds_toArray, List.set_cons_succ, List.set_cons_zero]
  refine wpAnyH_takeD (i := 1) (oi := _) (v := .agg A.toArray) 8 rfl (by kernel_rfl) (by kernel_rfl) (by kernel_rfl) (by kernel_rfl) (fun _ _ _ h => h) (Or.inl ⟨by kernel_rfl, ?_⟩) (by assumption) ?_
  · intro wq hSw
    exact yields_midN 24 _ rfl w.heap.size 0 rfl A _ hSw.2.1 Tryz.underlying24 rfl iA
  simp only [Act.put, List.setIfInBounds_toArray, List.set_cons_succ, List.set_cons_zero]
  refine wpAnyH_takeD (i := 4) (oi := _) (v := .agg KK.toArray) 11 rfl (by kernel_rfl) (by kernel_rfl) (by kernel_rfl) (by kernel_rfl) (fun _ _ _ h => h) (Or.inl ⟨by kernel_rfl, ?_⟩) (by assumption) ?_
  · intro wq hSw
    exact yields_midN 26 _ rfl (w.heap.size + 1) 0 rfl KK _ hSw.2.2 Tryz.underlying26 rfl iK
  simp only [Act.put, List.setIfInBounds_toArray, List.set_cons_succ, List.set_cons_zero]
  clear hHeld
  refine wpAnyH_ready (rs := [2]) (by kernel_rfl) (by simp) ?_
  refine AllReadyH.cons rfl (fun K hK => ?_) AllReadyH.nil
  go_simp
  go_wp2_with (go_at_call 28; refine (AT.out _).mono ?_; rintro e y0 ⟨rfl, hb⟩)
  have D0 : Below W.heap.size W W.drew := (Below.refl _ _).drew
  have B1 := D0.trans (hb.mono (Nat.le_refl _))
  have T1 := there_keepN HH.out.2.2.2.1 HH.out.2.2.2.2 B1
  have rA1 := range_keepN HH.out.2.1 B1
  have rK1 := range_keepN HH.out.2.2.1 B1
  have BB := HH.out.1.trans (B1.mono HH.out.1.size)
  refine hK.out _ _ ⟨BB, rA1, rK1⟩ (fun hHeld => ?_)
  clear hK
  refine wpAnyH_takeD (i := 3) (oi := _) (v := .map none) 10 rfl (by kernel_rfl) (by kernel_rfl) (by kernel_rfl) (by kernel_rfl) (fun _ _ _ h => h) (Or.inl ⟨by kernel_rfl, ?_⟩) (by assumption) ?_
  · intro wq hSw
    have _ := hSw
    go_simp
  simp only [Act.put, List.setIfInBounds_toArray, List.set_cons_succ, List.set_cons_zero]
  refine wpAnyH_takeD (i := 5) (oi := _) (v := .agg #[.int .u64 0, .int .u64 0, .int .u64 0, .int .u64 0]) 12 rfl (by kernel_rfl) (by kernel_rfl) (by kernel_rfl) (by kernel_rfl) (fun _ _ _ h => h) (Or.inl ⟨by kernel_rfl, ?_⟩) (by assumption) ?_
  · intro wq hSw
    have _ := hSw
    go_simp
  simp only [Act.put, List.setIfInBounds_toArray, List.set_cons_succ, List.set_cons_zero]
  clear hHeld
  refine wpAnyH_ready (rs := [6]) (by kernel_rfl) (by simp) ?_
  refine AllReadyH.cons rfl (fun K2 hK2 => ?_) AllReadyH.nil
  refine (if_pos (by kernel_rfl)).mpr ?_
  refine wp_store_mid 29 _ _ rfl (w.heap.size + 1 + 1) 0 #[.int .u64 0, .int .u64 0, .int .u64 0, .int .u64 0] rfl rfl T1 iz on ?_
  have LI := laid_inN (D := [.int .u64 0, .int .u64 0, .int .u64 0, .int .u64 0]) BB (show w.heap.size ≤ w.heap.size + 1 + 1 by omega) T1
  have rA2 : (y0.setCells (w.heap.size + 1 + 1) 0 [.int .u64 0, .int .u64 0, .int .u64 0, .int .u64 0]).rangeAt w.heap.size 0 A := range_farN rA1 (by omega)
  have rK2 : (y0.setCells (w.heap.size + 1 + 1) 0 [.int .u64 0, .int .u64 0, .int .u64 0, .int .u64 0]).rangeAt (w.heap.size + 1) 0 KK := range_farN rK1 (by omega)
  refine kworldN (fun V => (Below w.heap.size w V ∧ V.rangeAt w.heap.size 0 A ∧ V.rangeAt (w.heap.size + 1) 0 KK) ∧ V.rangeAt (w.heap.size + 1 + 1) 0 [.int .u64 0, .int .u64 0, .int .u64 0, .int .u64 0]) ⟨⟨LI.1, rA2, rK2⟩, LI.2⟩ ?_
  clear LI T1 BB B1 D0 rA1 rK1 rA2 rK2
  rintro V ⟨HS, hD⟩
  refine hK2.out _ _ HS (fun hHeld => ?_)
  clear hK2
  refine wpAnyH_done (by kernel_rfl) ?_ _
  go_wp2_with fail
  have ld := run_loadVar_mid (P := Tryz.prog) V (w.heap.size + 1 + 1) 0 29 [.int .u64 0, .int .u64 0, .int .u64 0, .int .u64 0] _ hD Tryz.underlying29 rfl iz
  refine bodyPost_ret (v := .agg #[.int .u64 0, .int .u64 0, .int .u64 0, .int .u64 0]) ?_ rfl ⟨rfl, HS.1⟩
  simp [results, Tryz.results20, Act.put, asAddr, ld]
end Go.Proofs.YtpgpciaafjodgaaGreatDoor
