import Derived.Test.YtncpjgpioajbeaaGreatDoorCLaid
import Derived.Test.YtncpjgpioajbeaaGreatDoorCBits
/- Multiples, bit by bit: what the table of columns holds, and the numbers that a doubling carries on. -/
namespace Go.Proofs.YtncpjgpioajbeaaGreatDoor
open Go.RowKit Go.Sort

namespace EC
/-- t stands for the point of u and v. -/
def isPt (t : J) (u v : F) : Bool := decide (t.z ≠ 0) && decide (t.x = u * (t.z * t.z)) && decide (t.y = v * (t.z * t.z * t.z))
theorem isPt_pt {t : J} {u v : F} (h : isPt t u v = true) : t.pt = .a u v := by
  unfold isPt at h
  simp only [Bool.and_eq_true, decide_eq_true_eq] at h
  exact pt_of h.1.1 h.1.2 h.2

theorem step_pt {g q : Pt} (hg : On g) (hq : On q) (A B c d : Nat) :
    (((((smul A g).add (smul B q)).add ((smul A g).add (smul B q))).add (smul d q)).add (smul c g)) = (smul (2 * A + c) g).add (smul (2 * B + d) q) := by
  have a := smul_on hg A; have b := smul_on hq B; have hc := smul_on hg c; have hd := smul_on hq d
  rw [Pt.four a b a b, ← smul_add hg, ← smul_add hq, show A + A = 2 * A by omega, show B + B = 2 * B by omega]
  have a2 := smul_on hg (2 * A); have b2 := smul_on hq (2 * B)
  rw [Pt.assoc a2 b2 hd, ← smul_add hq, Pt.assoc a2 (smul_on hq _) hc, Pt.comm (smul_on hq _) hc, ← Pt.assoc a2 hc (smul_on hq _), ← smul_add hg]
end EC

def colOK (c : Nat) : Bool :=
  let q := colP.getD c ⟨0, 0, true⟩
  !q.i && EC.isPt (EC.jm 193 (EC.colK c) EC.gJ) (EC.fp q.x) (EC.fp q.y) && decide (0 ≤ q.x) && decide (q.x < pN) && decide (0 ≤ q.y) && decide (q.y < pN)
theorem cols_ok : (List.range 15).all (fun c => colOK (c + 1)) = true := by decide +kernel
theorem colK_lt (c : Nat) : EC.colK c < 2 ^ 193 := by
  have h1 := Nat.mod_lt c (show 0 < 2 by decide)
  have h2 := Nat.mod_lt (c / 2) (show 0 < 2 by decide)
  have h3 := Nat.mod_lt (c / 4) (show 0 < 2 by decide)
  have h4 := Nat.mod_lt (c / 8) (show 0 < 2 by decide)
  unfold EC.colK
  rw [show (2 : Nat) ^ 193 = 12554203470773361527671578846415332832204710888928069025792 by decide]
  omega
/-- The table's points are multiples of the base point. -/
theorem col_pt {c : Nat} (hc : c < 16) : Vd (colP.getD c ⟨0, 0, true⟩).x (colP.getD c ⟨0, 0, true⟩).y (colP.getD c ⟨0, 0, true⟩).i ∧ (colP.getD c ⟨0, 0, true⟩).pt = EC.smul (EC.colK c) EC.gJ.pt := by
  cases c with
  | zero => exact ⟨⟨rfl, rfl⟩, rfl⟩
  | succ c =>
    have h := List.all_eq_true.1 cols_ok c (List.mem_range.2 (by omega))
    unfold colOK at h
    generalize colP.getD (c + 1) ⟨0, 0, true⟩ = q at *
    obtain ⟨x, y, i⟩ := q
    simp only [Bool.and_eq_true, decide_eq_true_eq, Bool.not_eq_true'] at h
    obtain ⟨⟨⟨⟨⟨h1, h2⟩, h3⟩, h4⟩, h5⟩, h6⟩ := h
    subst h1
    have e : ptOf x y false = EC.smul (EC.colK (c + 1)) EC.gJ.pt := by
      rw [← EC.jm_pt EC.gJ_on 193 _ (colK_lt _)]
      exact (EC.isPt_pt h2).symm
    exact ⟨⟨⟨h3, h4⟩, ⟨h5, h6⟩, by rw [e]; exact EC.smul_on EC.gJ_on _⟩, e⟩

end Go.Proofs.YtncpjgpioajbeaaGreatDoor
