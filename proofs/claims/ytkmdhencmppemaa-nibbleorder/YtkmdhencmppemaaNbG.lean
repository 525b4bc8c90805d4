import Derived.Test.YtkmdhencmppemaaNbF
/- Layer 11: Pack. -/
namespace Go.Proofs.Ytkmdhencmppemaa
open Go.RowKit Go.Sort

/-- The packed form. -/
def packH (X : List Int) (t : Bool) : Int := (if t then 32 else 0) + (if X.length % 2 = 1 then 16 + X.getD 0 0 else 0)
def packR (X : List Int) : List Int := X.drop (X.length % 2)
def packL (X : List Int) (t : Bool) : List Int := packH X t :: joinL (packR X)
def packX (X : List Int) (t : Bool) : List Int := if rowB X = true then packL X t else []
def packE (X : List Int) : Int := if rowB X = true then 0 else 110
theorem or_head {x : Int} (h0 : 0 ≤ x) (h1 : x ≤ 15) : bits .or .u8 16 x = 16 + x ∧ bits .or .u8 0 (16 + x) = 16 + x ∧ bits .or .u8 32 (16 + x) = 48 + x := by
  have h : ∀ n : Fin 16, bits .or .u8 16 (n.val : Int) = 16 + (n.val : Int) ∧ bits .or .u8 0 (16 + (n.val : Int)) = 16 + (n.val : Int) ∧ bits .or .u8 32 (16 + (n.val : Int)) = 48 + (n.val : Int) := by decide +kernel
  obtain ⟨n, rfl⟩ := Int.eq_ofNat_of_zero_le h0
  exact h ⟨n, by omega⟩
theorem wrap64_small {n : Int} (h0 : 0 ≤ n) (h1 : n < 9223372036854775808) : wrap64 n = n := by unfold wrap64; omega
theorem one_own {B : Nat} {w : World} {v : Value} {x : Int} (h : w.ownsRow B 5 1 v 1 [.int .u8 x]) : OwnB B w v [x] := h
end Go.Proofs.Ytkmdhencmppemaa
