import Derived.StillTail
import Derived.BigQuiet
import Derived.Below
namespace Go.Proofs.YtcjabligkeaafaaDoor

section
variable {P : Program} {ops : Array Oper} {w0 : World}

theorem still_of_quiet_op {o : Oper} {a : Act} {K K' : Act → Prop} (hK : ∀ a, K a → K' a) (h : o.quiet P a (fun w' => w' = w0) K) : o.still P a w0 K' := by
  obtain ⟨v, h1, h2⟩ := h
  have h3 := h1 w0 rfl
  unfold Oper.quietAt at h3
  unfold Oper.still
  generalize (execOp a.eval o).run P w0 = r at *
  cases r with
  | ok n w' =>
    cases n <;> simp only [Oper.quietUpon] at h3 <;> simp only [Oper.stillUpon]
    case value u => exact ⟨h3.1, h3.2 ▸ hK _ h2⟩
    case skip => exact ⟨h3.1, h3.2 ▸ hK _ h2⟩
    case enter f args => exact ⟨h3.1, v, h3.2, hK _ h2⟩
  | halt x w' => simp only [Oper.quietUpon] at h3

theorem still_of_quiet {Q : Act → Prop} : ∀ (l : List Oper) (a : Act), wpQuiet P ops (fun w' => w' = w0) Q l a → wpStill P ops w0 Q l a
  | [], _, h => h
  | o :: l, a, h => by
    unfold wpQuiet at h
    unfold wpStill
    split
    · rename_i hw; rw [if_pos hw] at h; exact still_of_quiet_op (fun a' h' => still_of_quiet l a' h') h
    · rename_i hw; rw [if_neg hw] at h; exact still_of_quiet l _ h

/-- A region that draws its order: up to operation n it only reads; from n on the order is forced. -/
theorem region_tail {id : Nat} {Q : Exit → Act → World → Prop} {a : Act} {w : World} {l : List Oper} (n : Nat) (hm : P.follows .mixedOrders = true) (hB : Region.lexTailB .any l.toArray n = true)
    (h : wpQuiet P l.toArray (fun w' => w' = w.drew) (fun a' => wpList P l.toArray Q (l.drop n) a' w.drew) (l.take n) a) : (Code.region id l.toArray true).wp P Q a w :=
  wp_region_still_tail n hm hB (still_of_quiet _ _ h)
end

end Go.Proofs.YtcjabligkeaafaaDoor
