import Derived.Test.YtncpjgpioajbeaaGreatDoorEWhN
import Derived.Test.YtncpjgpioajbeaaGreatDoorNsD
/- Genuine: Recover of what Sign answers. -/
namespace Go.Proofs.YtncpjgpioajbeaaGreatDoor
open Go.RowKit Go.Sort

set_option maxHeartbeats 4000000 in
theorem rec_good {key X s k x y : Int} {o : Bool} {A : List Int} (hk : Num key) (hl : A.length = 32) (hA : Byts A) (nX : Num X) (fx : fitN X = true) (s0 : 0 < s) (s1 : s < nN) (lo : lowN s = true) (h2 : liftOk X)
    (eR : ptOf X (liftY o X) false = sm k EC.gJ.pt) (hrel : modN nN (s * k) = modN nN (dgN A + X * key)) (hp : Vd x y false) (ep : ptOf x y false = EC.smul key.toNat EC.gJ.pt) :
    ∀ w, Mds w → Cols w → Calls Tryz.prog 9 #[hashV A, .agg #[.int .u64 (l0 X), .int .u64 (l1 X), .int .u64 (l2 X), .int .u64 (l3 X), .int .u64 (l0 s), .int .u64 (l1 s), .int .u64 (l2 s), .int .u64 (l3 s), .bool o]] w fun e w' => e = .returned (.tuple #[.agg #[.int .u64 (l0 x), .int .u64 (l1 x), .int .u64 (l2 x), .int .u64 (l3 x), .int .u64 (l0 y), .int .u64 (l1 y), .int .u64 (l2 y), .int .u64 (l3 y), .bool false], .int .i64 0]) ∧ Below w.heap.size w w' := by
  have ns : Num s := ⟨by omega, by have := num_n.2; omega⟩
  have chk : chkN X s = 0 := by unfold chkN; rw [fx, fit_true (by omega) s1, lo]; simp
  obtain ⟨x0, x1⟩ := fitN_fit fx
  have hz : modN nN X ≠ 0 := by rw [modN_of_lt nX.1 x1]; exact x0
  have onG := EC.gJ_on
  have hvR := lift_vd nX h2 o
  have onR := hvR.on
  have eQ : ptOf x y false = sm key EC.gJ.pt := by rw [ep, sm_nat onG hk.1]
  have ej : ptOf x y false = (EC.smul (recB X A).toNat EC.gJ.pt).add (EC.smul (recC X s).toNat (ptOf X (liftY o X) false)) := by
    have b0 : 0 ≤ recB X A := (mod_small (x := modN nN (0 - dgN A) * invN nN X)).1
    have c0 : 0 ≤ recC X s := (mod_small (x := s * invN nN X)).1
    rw [sm_nat onG b0, sm_nat onR c0, eR, key_back onG nX.1 hz hrel (recB_mul nX.1 hz) (recC_mul nX.1 hz), eQ]
  exact recover_any (o := o) nX ns hA hl chk h2 hp ej
set_option maxHeartbeats 4000000 in
theorem rec_back {key non x y : Int} {A : List Int} (hk : Num key) (hn : Num non) (hl : A.length = 32) (hA : Byts A) (h1 : fitN key = true) (he : (swZ key A non).e = 0) (hp : Vd x y false) (ep : ptOf x y false = EC.smul key.toNat EC.gJ.pt) :
    ∀ w, Mds w → Cols w → Calls Tryz.prog 9 #[hashV A, .agg #[.int .u64 (l0 (swZ key A non).r), .int .u64 (l1 (swZ key A non).r), .int .u64 (l2 (swZ key A non).r), .int .u64 (l3 (swZ key A non).r), .int .u64 (l0 (swZ key A non).s), .int .u64 (l1 (swZ key A non).s), .int .u64 (l2 (swZ key A non).s), .int .u64 (l3 (swZ key A non).s), .bool (swZ key A non).o]] w fun e w' => e = .returned (.tuple #[.agg #[.int .u64 (l0 x), .int .u64 (l1 x), .int .u64 (l2 x), .int .u64 (l3 x), .int .u64 (l0 y), .int .u64 (l1 y), .int .u64 (l2 y), .int .u64 (l3 y), .bool false], .int .i64 0]) ∧ Below w.heap.size w w' := by
  obtain ⟨X, Y, j, hv, ev, e⟩ := swZ_is key A non
  rw [e] at he ⊢
  have nX := hv.low.1.num
  cases h2 : fitN non with
  | false =>
    have e2 : swR key non A X Y = ⟨0, 0, false, 60⟩ := by unfold swR; rw [h1, h2, Bool.and_false, if_pos rfl]
    rw [e2] at he
    exact absurd he (by decide)
  | true =>
    obtain ⟨n0, n1⟩ := fitN_fit h2
    have p0 : 0 < non := by have := hn.1; omega
    have hz : modN nN non ≠ 0 := by rw [modN_of_lt hn.1 n1]; exact n0
    have b0 : swR key non A X Y = if ¬ X < nN then ⟨0, 0, false, 64⟩ else if X = 0 ∨ swS key non (dgN A) X = 0 then ⟨0, 0, false, 65⟩ else if lowN (swS key non (dgN A) X) then ⟨X, swS key non (dgN A) X, oddB Y, 0⟩ else ⟨X, modN nN (0 - swS key non (dgN A) X), !oddB Y, 0⟩ := by
      unfold swR; rw [h1, h2, Bool.and_self, if_neg (by decide)]
    have sl : 0 ≤ swS key non (dgN A) X ∧ swS key non (dgN A) X < nN := mod_small
    have hrel : modN nN (swS key non (dgN A) X * non) = modN nN (dgN A + X * key) := by
      unfold swS
      rw [sw_back hn.1 hz (modN_mod _), modN_add_r]
    rw [b0] at he ⊢
    clear b0 e
    generalize swS key non (dgN A) X = s at *
    by_cases c1 : X < nN
    · rw [if_neg (not_not_intro c1)] at he ⊢
      by_cases c2 : X = 0 ∨ s = 0
      · rw [if_pos c2] at he
        exact absurd he (by decide)
      · rw [if_neg c2] at he ⊢
        have x1 : X ≠ 0 := fun e => c2 (.inl e)
        have s0 : 0 < s := by have h : s ≠ 0 := fun e => c2 (.inr e); omega
        have fr := fit_true x1 c1
        have hj : j = false := by
          cases j with
          | false => rfl
          | true => exact absurd hv.1 x1
        subst hj
        obtain ⟨lk, ly⟩ := lift_back hv
        cases h5 : lowN s with
        | true =>
          rw [if_pos rfl]
          exact rec_good hk hl hA nX fr s0 sl.2 h5 lk (by rw [ly, ev, sm_nat EC.gJ_on hn.1]) hrel hp ep
        | false =>
          rw [if_neg (by decide)]
          obtain ⟨hv', ev'⟩ := neg_val hv
          obtain ⟨_, ly'⟩ := lift_back hv'
          rw [odd_turned hv] at ly'
          have e2 := neg_small s0 sl.2
          have lh : lowN (modN nN (0 - s)) = true := by rw [low_turned s0 sl.2, h5]; rfl
          exact rec_good (k := 0 - non) (X := X) (s := modN nN (0 - s)) (o := !oddB Y) hk hl hA nX fr (by rw [e2]; have := sl.2; omega) (by rw [e2]; omega) lh lk (by rw [ly', ev', ev, ← turned_pt p0 n1]; rfl) (by rw [modN_mul_l, show (0 - s) * (0 - non) = s * non by rw [Int.zero_sub, Int.zero_sub, Int.neg_mul_neg], hrel]) hp ep
    · rw [if_pos c1] at he
      exact absurd he (by decide)
theorem key_there {key : Int} (hk : Num key) (h1 : fitN key = true) : ∃ x y, Vd x y false ∧ ptOf x y false = EC.smul key.toNat EC.gJ.pt := by
  obtain ⟨q0, q1⟩ := fitN_fit h1
  obtain ⟨x, y, i, hp, ep⟩ := rep_pt (EC.smul_on EC.gJ_on key.toNat)
  cases i with
  | false => exact ⟨x, y, hp, ep⟩
  | true => exact absurd ep.symm (key_pt (by have := hk.1; omega) q1)
end Go.Proofs.YtncpjgpioajbeaaGreatDoor
