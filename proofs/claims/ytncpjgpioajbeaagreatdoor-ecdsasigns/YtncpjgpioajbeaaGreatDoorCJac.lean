import Derived.Test.YtncpjgpioajbeaaGreatDoorCOrd
/- Points of three numbers, and the base point's order. -/
namespace Go.Proofs.YtncpjgpioajbeaaGreatDoor.EC

/-- Points as three numbers. -/
structure J where
  x : F
  y : F
  z : F
def J.pt (t : J) : Pt := EC.pt t.x t.y t.z
def J.o : J := ⟨0, 0, 0⟩
def jd (t : J) : J := if t.z = 0 then t else ⟨dx t.x t.y, dy t.x t.y, dz t.y t.z⟩
def ja (t u : J) : J :=
  if t.z = 0 then u else if u.z = 0 then t else
  if run t.x t.z u.x u.z = 0 then (if rise t.y t.z u.y u.z = 0 then jd t else J.o) else
    ⟨ax t.x u.z (run t.x t.z u.x u.z) (rise t.y t.z u.y u.z), ay t.x t.y u.z (run t.x t.z u.x u.z) (rise t.y t.z u.y u.z), az t.z u.z (run t.x t.z u.x u.z)⟩

theorem J.pt_o : J.o.pt = .o := EC.pt_o rfl
theorem jd_pt {t : J} (h : On t.pt) : (jd t).pt = t.pt.add t.pt := by
  unfold jd
  by_cases hz : t.z = 0
  · rw [if_pos hz]
    have e : t.pt = .o := EC.pt_o hz
    rw [e]; rfl
  · rw [if_neg hz]; exact pt_dbl two hz h
theorem ja_pt {t u : J} (h : On t.pt) (h' : On u.pt) : (ja t u).pt = t.pt.add u.pt := by
  unfold ja
  by_cases hz : t.z = 0
  · rw [if_pos hz]
    have e : t.pt = .o := EC.pt_o hz
    rw [e]; rfl
  · rw [if_neg hz]
    by_cases hu : u.z = 0
    · rw [if_pos hu]
      have e : u.pt = .o := EC.pt_o hu
      rw [e, add_o]
    · rw [if_neg hu]
      obtain ⟨a, b, c⟩ := pt_add two hz hu h h'
      by_cases hr : run t.x t.z u.x u.z = 0
      · rw [if_pos hr]
        by_cases hs : rise t.y t.z u.y u.z = 0
        · rw [if_pos hs, jd_pt h]
          have e : u.pt = t.pt := b hr hs
          rw [e]
        · rw [if_neg hs, J.pt_o]; exact (c hr hs).symm
      · rw [if_neg hr]; exact a hr

def jm : Nat → Nat → J → J
  | 0, _, _ => J.o
  | f + 1, k, t => if k % 2 = 1 then ja (jd (jm f (k / 2) t)) t else jd (jm f (k / 2) t)
theorem jm_pt {t : J} (h : On t.pt) : ∀ f k, k < 2 ^ f → (jm f k t).pt = smul k t.pt
  | 0, k, hk => by
    have : k = 0 := by rw [Nat.pow_zero] at hk; omega
    subst this; exact J.pt_o
  | f + 1, k, hk => by
    have ih := jm_pt h f (k / 2) (by rw [Nat.pow_succ] at hk; omega)
    have hon : On (jm f (k / 2) t).pt := by rw [ih]; exact smul_on h _
    have e2 : (jd (jm f (k / 2) t)).pt = smul (k / 2 + k / 2) t.pt := by rw [jd_pt hon, ih, smul_add h]
    unfold jm
    split
    · next ho =>
      rw [ja_pt (by rw [e2]; exact smul_on h _) h, e2]
      conv => rhs; rw [show k = k / 2 + k / 2 + 1 by omega]
      rfl
    · next ho =>
      rw [e2]; congr 1; omega

def gJ : J := ⟨55066263022277343669578718895168534326250603453777594175500187360389116729240, 32670510020758816978083085130507043184471273380659243275938904335757337482424, 1⟩
theorem gJ_z : gJ.z ≠ 0 := by decide +kernel
theorem gJ_on' : gJ.y * gJ.y = gJ.x * gJ.x * gJ.x + 7 := by decide +kernel
theorem gJ_pt : gJ.pt = .a gJ.x gJ.y := by
  have e : gJ.z = 1 := rfl
  refine pt_of gJ_z ?_ ?_
  · rw [e]; grind -lia -linarith
  · rw [e]; grind -lia -linarith
theorem gJ_on : On gJ.pt := by rw [gJ_pt]; exact gJ_on'
end Go.Proofs.YtncpjgpioajbeaaGreatDoor.EC
