import Derived.RangeFuncNested
import Derived.RangeFuncBound
import Derived.RangeFuncCalls
import Derived.RangeFuncLeaves
import Derived.RangeFuncFrom
import Derived.Shelf.Abstract
import Derived.Shelf.RegionOpen
import Derived.OwnWalkIn
import Derived.TacticsInMore
import Derived.LoopNIn
import Derived.LoopIn
import Derived.Test.YtahekhamhdfkdaaRyA
/- Layer 7: a range over slices.Backward. -/
namespace Go.Proofs.Ytahekhamhdfkdaa
open Go.RowKit Go.Shelf
attribute [local go_sem] Oper.semAt_some

end Go.Proofs.Ytahekhamhdfkdaa

/- Layer 7: putItem. -/
namespace Go.Proofs.Ytahekhamhdfkdaa
open Go.RowKit Go.Shelf
attribute [local go_sem] Oper.semAt_some
end Go.Proofs.Ytahekhamhdfkdaa

/- Layer 7: Encode. -/
namespace Go.Proofs.Ytahekhamhdfkdaa
open Go.RowKit Go.Sort
theorem Rq.own {W : World} {B gr n : Nat} {L : List Int} (h : Rq W gr L) (hB : B ≤ gr) (hL : L.length = n) (hn : n < 1000000000) : OwnB B W (.slice (some ⟨gr, 0, none⟩) n n) L := by
  subst hL
  refine ⟨by simp, .inr ⟨gr, L.length, (L.map (Value.int .u8)).toArray, rfl, hB, h, Nat.le_refl _, by unfold maxLen; omega, by simp, ?_⟩⟩
  rw [Nat.mul_one]
  exact List.take_of_length_le (by simp)
end Go.Proofs.Ytahekhamhdfkdaa

/- Layer 7: the bytes of a tree are bytes. -/
namespace Go.Proofs.Ytahekhamhdfkdaa
open Go.RowKit Go.Sort
theorem beN_bys {n : Nat} (h : n < 16777216) : Bys (beN n) := by
  unfold beN
  intro x hx
  split at hx
  · simp at hx; omega
  · split at hx
    · simp at hx; omega
    · simp at hx; omega
theorem hdR_bys {f : Int} {n : Nat} (hf : f = 128 ∨ f = 192) (h : n < 16777216) : Bys (hdR f n) := by
  unfold hdR
  intro x hx
  split at hx
  · simp at hx; omega
  · have hl := beN_len n
    rcases List.mem_cons.1 hx with e | e
    · omega
    · exact beN_bys h x e
mutual
/-- All texts are bytes. -/
def ByT : Tr → Prop
  | .mk _ X ts => Bys X ∧ ByS ts
def ByS : List Tr → Prop
  | [] => True
  | t :: ts => ByT t ∧ ByS ts
end
mutual
theorem encT_bys : ∀ t : Tr, ByT t → wtT t < 4194304 → Bys (encT t)
  | .mk l X ts => fun h hw => by
    rw [ByT] at h
    rw [wtT] at hw
    have hE := encS_len ts
    rw [encT]
    split
    · exact (hdR_bys (.inr rfl) (by omega)).app (encS_bys ts h.2 (by omega))
    · unfold encX
      split
      · exact h.1
      · exact (hdR_bys (.inl rfl) (by omega)).app h.1
theorem encS_bys : ∀ ts : List Tr, ByS ts → wtS ts < 4194304 → Bys (encS ts)
  | [] => fun _ _ x hx => by rw [encS] at hx; cases hx
  | t :: ts => fun h hw => by
    rw [ByS] at h
    rw [wtS] at hw
    rw [encS]
    exact (encT_bys t h.1 (by omega)).app (encS_bys ts h.2 (by omega))
end
end Go.Proofs.Ytahekhamhdfkdaa
