import Derived.Test.YtncpjgpioajbeaaGreatDoorFRoot
import Derived.Deep.RegionHeld3
import Derived.Test.YtncpjgpioajbeaaGreatDoorFExp
import Derived.Test.YtncpjgpioajbeaaGreatDoorFOf
import Derived.Test.YtncpjgpioajbeaaGreatDoorFFermat
namespace Go.Proofs.YtncpjgpioajbeaaGreatDoor
open Go.RowKit Go.Sort

/-- The even one of a root and its opposite. -/
def evenN (r : Int) : Int := if r % 2 = 1 then modN pN (0 - r) else r
/-- What Root answers: number and error. -/
def rootN (x : Int) : Int := if modN pN (powN pN x qN * powN pN x qN) = modN pN x then evenN (powN pN x qN) else 0
def rootE (x : Int) : Int := if modN pN (powN pN x qN * powN pN x qN) = modN pN x then 0 else 41
theorem bit0 (r : Int) : bitN r 0 = r % 2 := by
  unfold bitN
  rw [if_neg (by decide), show (0 : Int).toNat = 0 from rfl]
  simp

theorem Root_any {x : Int} (hx : Num x) (w : World) (hm : Mds w) :
    Calls Tryz.prog 48 #[.agg #[.int .u64 (l0 x), .int .u64 (l1 x), .int .u64 (l2 x), .int .u64 (l3 x)]] w fun e w' => e = .returned (.tuple #[.agg #[.int .u64 (l0 (rootN x)), .int .u64 (l1 (rootN x)), .int .u64 (l2 (rootN x)), .int .u64 (l3 (rootN x))], .int .i64 (rootE x)]) ∧ Below w.heap.size w w' := by
  have nr : Num (powN pN x qN) := powN_Num fit_p x qN
  have na : Num 28948022309329048855892746252171976963317496166410141009864396001977208667915 := ⟨by decide, by decide⟩
  have n1 : Num 1 := ⟨by decide, by decide⟩
  refine Root_walk (a := 28948022309329048855892746252171976963317496166410141009864396001977208667915) (q := qN) (z := carN 28948022309329048855892746252171976963317496166410141009864396001977208667915 1) (r := powN pN x qN) (s := modN pN (powN pN x qN * powN pN x qN)) (t := modN pN x) (b := powN pN x qN % 2) (u := modN pN (0 - powN pN x qN)) rfl rfl ?_ (from_any ⟨by decide, by decide⟩) ?_ (fexp_any fit_p hx ⟨by decide, by decide⟩) (fmul_any fit_p nr nr) (once_any fit_p hx) (modN_Num fit_p _) (modN_Num fit_p _) ?_ ?_ ?_ w hm
  · intro w; have := shr_any (k := 2) fit_p.num w; rw [shr_p2] at this; exact this
  · intro w; have := add_any na n1 w; rw [add_q] at this; exact this
  · intro w; have := bit_any (k := 0) nr w; rw [bit0] at this; exact this
  · intro w
    have := fsub_any (x := 0) fit_p ⟨by decide, by decide⟩ nr w
    obtain ⟨z0, z1, z2, z3⟩ := zero_limbs
    rw [z0, z1, z2, z3] at this
    exact this
  · unfold rootN rootE evenN
    by_cases h : modN pN (powN pN x qN * powN pN x qN) = modN pN x
    · rw [if_pos h, if_pos h]
      rcases Int.emod_two_eq (powN pN x qN) with h2 | h2
      · exact .inr (.inl ⟨h, h2, by rw [if_neg (by omega)], rfl⟩)
      · exact .inr (.inr ⟨h, h2, by rw [if_pos h2], rfl⟩)
    · rw [if_neg h, if_neg h]
      exact .inl ⟨h, rfl, rfl⟩

end Go.Proofs.YtncpjgpioajbeaaGreatDoor
