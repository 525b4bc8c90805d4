import Derived.Test.YtncpjgpioajbeaaGreatDoorNzJ
/- EcdsaNonces. -/
namespace Go.Proofs.YtncpjgpioajbeaaGreatDoor
open Go.RowKit Go.Sort

/-- What Nonce answers, of any key, digest and number. -/
noncomputable def nonV (key : Int) (A : List Int) (wh : Int) : Int := if wh < 0 ∨ 64 ≤ wh then 0 else if fitN key then nzV (cndZ (stZ key (modN nN (sufN A 32)))) wh.toNat else 0
noncomputable def nonE (key : Int) (A : List Int) (wh : Int) : Int := if wh < 0 ∨ 64 ≤ wh then 1 else if fitN key then nzE (cndZ (stZ key (modN nN (sufN A 32)))) wh.toNat else 60
theorem nonce_any {key wh : Int} {A : List Int} (hk : Num key) (hA : Byts A) (hl : A.length = 32) (w : World) (hm : Mds w) (ht : ShT w) :
    Calls Tryz.prog 7 #[.agg #[.int .u64 (l0 key), .int .u64 (l1 key), .int .u64 (l2 key), .int .u64 (l3 key)], hashV A, .int .i64 wh] w fun e w' => e = .returned (.tuple #[.agg #[.int .u64 (l0 (nonV key A wh)), .int .u64 (l1 (nonV key A wh)), .int .u64 (l2 (nonV key A wh)), .int .u64 (l3 (nonV key A wh))], .int .i64 (nonE key A wh)]) ∧ Below w.heap.size w w' := by
  unfold nonV nonE
  by_cases hb : wh < 0 ∨ 64 ≤ wh
  · rw [if_pos hb, if_pos hb]
    exact nonce_arg hl hb w
  · rw [if_neg hb, if_neg hb]
    obtain ⟨n, rfl⟩ := Int.eq_ofNat_of_zero_le (show 0 ≤ wh by omega)
    have hn : n < 64 := by omega
    have IN := einside_any hk
    cases hf : fitN key with
    | false =>
      rw [hf] at IN
      exact nonce_key hl hn IN w hm ht
    | true =>
      rw [hf] at IN
      rw [if_pos rfl, if_pos rfl, show ((n : Int)).toNat = n from rfl]
      exact nonce_ok hl hn rfl IN (fun w hm => enumber_any hA hl w hm) rfl rfl w hm ht
theorem nzV_num {s : KvZ} {n : Nat} : Num (nzV (cndZ s) n) := by
  unfold nzV
  cases h : pkZ (cndZ s) n 256 with
  | none => exact ⟨by decide, by decide⟩
  | some x => exact pkZ_num (cndZ_num s) h
theorem nonV_num (key : Int) (A : List Int) (wh : Int) : Num (nonV key A wh) := by
  unfold nonV
  split
  · exact ⟨by decide, by decide⟩
  · split
    · exact nzV_num
    · exact ⟨by decide, by decide⟩

end Go.Proofs.YtncpjgpioajbeaaGreatDoor
