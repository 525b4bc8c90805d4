import Derived.Test.YtmegdnalpaddmaaMulNum
/- Long division, limb by limb: the numbers of lists of limbs. -/
namespace Go.Proofs.Ytmegdnalpaddmaa

def val : List Int → Int
  | [] => 0
  | x :: xs => x + 18446744073709551616 * val xs
def Words (l : List Int) : Prop := ∀ x ∈ l, Word x

theorem val_nonneg : ∀ {l : List Int}, Words l → 0 ≤ val l ∧ val l < 18446744073709551616 ^ l.length
  | [], _ => by simp [val]
  | x :: xs, h => by
    have hx := h x (by simp)
    have := val_nonneg (l := xs) (fun y hy => h y (by simp [hy]))
    obtain ⟨_, _⟩ := hx
    simp only [val, List.length_cons, Int.pow_succ]
    generalize (18446744073709551616 : Int) ^ xs.length = p at *
    omega

/-- u less d times q, limb by limb. -/
def takeL : List Int → List Int → Int → Int → Int → List Int × Int
  | u :: us, d :: ds, q, h, b => (subS u (maL d q h 0) b :: (takeL us ds q (maH d q h 0) (subB u (maL d q h 0) b)).1, (takeL us ds q (maH d q h 0) (subB u (maL d q h 0) b)).2)
  | u :: _, [], _, h, b => ([subS u h b], subB u h b)
  | [], _, _, _, _ => ([], 0)

theorem takeL_spec {q : Int} (hq : Word q) : ∀ (ds us : List Int) (h b : Int), us.length = ds.length + 1 → Words us → Words ds → Word h → 0 ≤ b ∧ b ≤ 1 →
    (takeL us ds q h b).1.length = us.length ∧ Words (takeL us ds q h b).1 ∧ (0 ≤ (takeL us ds q h b).2 ∧ (takeL us ds q h b).2 ≤ 1) ∧
    val (takeL us ds q h b).1 - 18446744073709551616 ^ us.length * (takeL us ds q h b).2 = val us - q * val ds - h - b
  | [], us, h, b, hl, hu, _, hh, hb => by
    match us, hl with
    | [u], _ =>
      have hu := hu u (by simp)
      have e := subS_eq hu hh hb
      refine ⟨rfl, fun x hx => ?_, subB_bit _ _ _, ?_⟩
      · simp only [takeL, List.mem_singleton] at hx; rw [hx]; exact subS_word _ _ _
      · simp only [takeL, val, List.length_cons, List.length_nil]
        rw [show (18446744073709551616 : Int) ^ (0 + 1) = 18446744073709551616 by decide]
        omega
  | d :: ds, us, h, b, hl, hu, hd, hh, hb => by
    match us, hl with
    | u :: us, hl =>
      have h1 := hu u (by simp)
      have h2 := hd d (by simp)
      have e := subS_eq h1 (maL_word d q h 0) hb
      have e' := ma_eq d q h 0
      obtain ⟨r1, r2, r3, r4⟩ := takeL_spec hq ds us (maH d q h 0) (subB u (maL d q h 0) b) (by simpa using hl) (fun x hx => hu x (by simp [hx])) (fun x hx => hd x (by simp [hx])) (maH_word h2 hq hh ⟨by decide, by decide⟩) (subB_bit _ _ _)
      refine ⟨by simp only [takeL, List.length_cons, r1], fun x hx => ?_, r3, ?_⟩
      · simp only [takeL, List.mem_cons] at hx
        rcases hx with rfl | hx
        · exact subS_word _ _ _
        · exact r2 x hx
      · simp only [takeL, val, List.length_cons, Int.pow_succ]
        rw [Int.mul_add, Int.mul_left_comm q, Int.mul_comm q d, Int.mul_right_comm]
        generalize (takeL us ds q (maH d q h 0) (subB u (maL d q h 0) b)).2 = c at *
        generalize val (takeL us ds q (maH d q h 0) (subB u (maL d q h 0) b)).1 = v at *
        generalize (18446744073709551616 : Int) ^ us.length * c = p at *
        generalize q * val ds = s at *
        generalize d * q = t at *
        omega

/-- u and d, limb by limb. -/
def giveL : List Int → List Int → Int → List Int × Int
  | u :: us, d :: ds, c => (addS u d c :: (giveL us ds (addC u d c)).1, (giveL us ds (addC u d c)).2)
  | u :: _, [], c => ([addS u 0 c], addC u 0 c)
  | [], _, _ => ([], 0)

theorem giveL_spec : ∀ (ds us : List Int) (c : Int), us.length = ds.length + 1 → Words us → Words ds → 0 ≤ c ∧ c ≤ 1 →
    (giveL us ds c).1.length = us.length ∧ Words (giveL us ds c).1 ∧ (0 ≤ (giveL us ds c).2 ∧ (giveL us ds c).2 ≤ 1) ∧
    val (giveL us ds c).1 + 18446744073709551616 ^ us.length * (giveL us ds c).2 = val us + val ds + c
  | [], us, c, hl, hu, _, hc => by
    match us, hl with
    | [u], _ =>
      have hu := hu u (by simp)
      have e := addS_eq u 0 c
      refine ⟨rfl, fun x hx => ?_, addC_bit hu ⟨by decide, by decide⟩ hc, ?_⟩
      · simp only [giveL, List.mem_singleton] at hx; rw [hx]; exact addS_word _ _ _
      · simp only [giveL, val, List.length_cons, List.length_nil]
        rw [show (18446744073709551616 : Int) ^ (0 + 1) = 18446744073709551616 by decide]
        omega
  | d :: ds, us, c, hl, hu, hd, hc => by
    match us, hl with
    | u :: us, hl =>
      have h1 := hu u (by simp)
      have h2 := hd d (by simp)
      have e := addS_eq u d c
      obtain ⟨r1, r2, r3, r4⟩ := giveL_spec ds us (addC u d c) (by simpa using hl) (fun x hx => hu x (by simp [hx])) (fun x hx => hd x (by simp [hx])) (addC_bit h1 h2 hc)
      refine ⟨by simp only [giveL, List.length_cons, r1], fun x hx => ?_, r3, ?_⟩
      · simp only [giveL, List.mem_cons] at hx
        rcases hx with rfl | hx
        · exact addS_word _ _ _
        · exact r2 x hx
      · simp only [giveL, val, List.length_cons, Int.pow_succ]
        rw [Int.mul_right_comm]
        generalize (giveL us ds (addC u d c)).2 = b at *
        generalize val (giveL us ds (addC u d c)).1 = v at *
        generalize (18446744073709551616 : Int) ^ us.length * b = p at *
        omega

end Go.Proofs.Ytmegdnalpaddmaa
