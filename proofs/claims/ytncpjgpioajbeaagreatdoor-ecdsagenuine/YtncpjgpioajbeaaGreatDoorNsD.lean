import Derived.Test.YtncpjgpioajbeaaGreatDoorNsC
/- EcdsaSigns. -/
namespace Go.Proofs.YtncpjgpioajbeaaGreatDoor
open Go.RowKit Go.Sort

/-- What Sign answers. -/
noncomputable def sigZ (key : Int) (A : List Int) : SwR := if fitN key then okZ2 (sgZ key A) else ⟨0, 0, false, 60⟩
theorem sgZ_err {key : Int} {A : List Int} {i : Nat} (h : nonE key A i ≠ 0) : sgZ key A i = ⟨0, 0, false, nonE key A i⟩ := by unfold sgZ; rw [if_neg h]
theorem sgZ_ok {key : Int} {A : List Int} {i : Nat} (h : nonE key A i = 0) : sgZ key A i = swZ key A (nonV key A i) := by unfold sgZ; rw [if_pos h]
theorem sign_any {key : Int} {A : List Int} (hk : Num key) (hA : Byts A) (hl : A.length = 32) (w : World) (hm : Mds w) (ht : ShT w) (hc : Cols w) :
    Calls Tryz.prog 5 #[.agg #[.int .u64 (l0 key), .int .u64 (l1 key), .int .u64 (l2 key), .int .u64 (l3 key)], hashV A] w fun e w' => e = .returned (.tuple #[.agg #[.int .u64 (l0 (sigZ key A).r), .int .u64 (l1 (sigZ key A).r), .int .u64 (l2 (sigZ key A).r), .int .u64 (l3 (sigZ key A).r), .int .u64 (l0 (sigZ key A).s), .int .u64 (l1 (sigZ key A).s), .int .u64 (l2 (sigZ key A).s), .int .u64 (l3 (sigZ key A).s), .bool (sigZ key A).o], .int .i64 (sigZ key A).e]) ∧ Below w.heap.size w w' := by
  have hM : (A.map fun z => Value.int .u8 z).length = 32 := by rw [List.length_map]; exact hl
  have IN := einside_any hk
  cases hf : fitN key with
  | false =>
    rw [hf] at IN
    rw [show sigZ key A = ⟨0, 0, false, 60⟩ by unfold sigZ; rw [hf]; rfl]
    exact sign_key hM IN w hm ht hc
  | true =>
    rw [hf] at IN
    rw [show sigZ key A = okZ2 (sgZ key A) by unfold sigZ; rw [hf]; rfl]
    refine sign_ok hM rfl IN (fun i bk bd W hm ht hc hk' hd => ?_) w hm ht hc
    exact sclo_any hM (fun w hm ht => nonce_any hk hA hl w hm ht) (fun h w hm hc => by rw [sgZ_ok h]; exact sw_any hk (nonV_num _ _ _) hA hl w hm hc) (fun h => by rw [sgZ_err h]; exact ⟨rfl, rfl, rfl, rfl⟩) W hm ht hc hk' hd
theorem fsZ_num {R : Nat → SwR} (hR : ∀ i, Num (R i).r ∧ Num (R i).s) {x : SwR} : ∀ {n : Nat}, fsZ R n = some x → Num x.r ∧ Num x.s
  | 0, h => by simp [fsZ] at h
  | n + 1, h => by
    rw [fsZ] at h
    cases e : fsZ R n with
    | some y => rw [e] at h; exact fsZ_num hR (n := n) (by rw [e]; exact h)
    | none =>
      rw [e] at h
      by_cases k : (R n).e = 0
      · rw [if_pos k] at h
        have : R n = x := by simpa using h
        rw [← this]; exact hR n
      · rw [if_neg k] at h
        simp at h
theorem sigZ_num (key : Int) (A : List Int) : Num (sigZ key A).r ∧ Num (sigZ key A).s := by
  unfold sigZ
  split
  · unfold okZ2
    cases h : fsZ (sgZ key A) 64 with
    | none => exact ⟨zeroN, zeroN⟩
    | some x => exact fsZ_num (sgZ_num key A) h
  · exact ⟨zeroN, zeroN⟩

end Go.Proofs.YtncpjgpioajbeaaGreatDoor
