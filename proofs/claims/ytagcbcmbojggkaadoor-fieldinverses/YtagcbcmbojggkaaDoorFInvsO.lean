import Derived.Test.YtagcbcmbojggkaaDoorFInvsWalk
import Derived.Test.YtagcbcmbojggkaaDoorFInvsNot
import Derived.Test.YtagcbcmbojggkaaDoorFRInvs
/- The program's Inverses, of any kind and any list: what it answers is a list of one's own. -/
namespace Go.Proofs.YtagcbcmbojggkaaDoor
open Go.RowKit Go.Sort

theorem Own4.own {B : Nat} {W : World} {b : Nat} {L : List Int} (h : Own4 W b L) (hB : B ≤ b) (hl : L.length ≤ maxLen) : OwnU B W (.slice (some ⟨b, 0, none⟩) L.length L.length) L := by
  obtain ⟨cs, hc, hs⟩ := h.2.2
  refine ⟨numsV_len L, .inr ⟨b, L.length, cs, rfl, hB, hc, Nat.le_refl _, hl, hs, ?_⟩⟩
  rw [List.take_of_length_le (by simp; omega)]
  apply List.ext_getElem?
  intro k
  by_cases hk : k < L.length * 4
  · have hq : k / 4 < L.length := by omega
    obtain ⟨c0, c1, c2, c3⟩ := h.1 (k / 4) hq
    obtain ⟨a0, a1, a2, a3⟩ := numsV_at L (k / 4) hq
    simp only [Nat.zero_add] at c0 c1 c2 c3
    have key : ∀ j, cs.toList[j]? = W.cell? ⟨b, j, Option.none⟩ := fun j => by rw [cell_of_row W b j _ _ _ hc]; simp
    rw [key]
    have e : k % 4 = 0 ∨ k % 4 = 1 ∨ k % 4 = 2 ∨ k % 4 = 3 := by omega
    rcases e with e | e | e | e
    · rw [show k = k / 4 * 4 by omega, c0, a0]
    · rw [show k = k / 4 * 4 + 1 by omega, c1, a1]
    · rw [show k = k / 4 * 4 + 2 by omega, c2, a2]
    · rw [show k = k / 4 * 4 + 3 by omega, c3, a3]
  · rw [List.getElem?_eq_none (by simp; omega), List.getElem?_eq_none (by rw [numsV_len]; omega)]
/-- What Inverses answers: the error and the list. -/
def invE (k : Int) (L : List Int) : Int := if k = 0 ∨ k = 1 then (if 65536 < L.length then 2 else if preN (rM k) L L.length = 0 then 40 else 0) else 1
def invR (k : Int) (L : List Int) : List Int := if invE k L = 0 then L.map (invN (rM k)) else []
theorem kind_rM {k : Int} (h : k = 0 ∨ k = 1) : ∃ c, Kind k (rM k) c ∧ Prm (rM k) := by
  rcases h with rfl | rfl
  · exact ⟨pC, kind_p, prm_p⟩
  · exact ⟨nC, kind_n, prm_n⟩
theorem nms_in {W : World} {a : Option Addr} {g o : Nat} {L : List Int} (hD : Mds W) (ha : At4 a g o L) (h : Nms W g o L) : ∃ g' o', At4 a g' o' L ∧ Nms W g' o' L ∧ g' < W.heap.size := by
  by_cases e : L = []
  · subst e
    exact ⟨0, 0, .inl rfl, fun i hi => absurd hi (Nat.not_lt_zero _), hD.lt⟩
  · have l : 0 < L.length := List.length_pos_iff.2 e
    exact ⟨g, o, ha, h, World.block_lt_of_cell? W _ (h 0 l).1⟩
theorem invs_any {k : Int} {g o cap : Nat} {a : Option Addr} {L : List Int} (hN : ∀ i, i < L.length → Num (L.getD i 0)) (ha : At4 a g o L) (w : World) (hm : Mds w) (hI : Nms w g o L) :
    Calls Tryd.prog 4 #[.int .i64 k, .slice a L.length cap] w fun e w' => ∃ v, e = .returned (.tuple #[v, .int .i64 (invE k L)]) ∧ OwnU w.heap.size w' v (invR k L) ∧ Below w.heap.size w w' := by
  by_cases hk : k = 0 ∨ k = 1
  · obtain ⟨c, kd, hp⟩ := kind_rM hk
    obtain ⟨g', o', ha', hI', hg'⟩ := nms_in hm ha hI
    by_cases h6 : 65536 < L.length
    · have e : invE k L = 2 := by rw [invE, if_pos hk, if_pos h6]
      rw [invR, e, if_neg (by decide)]
      refine (Inverses_long kd h6 w hm).mono ?_
      rintro e w' ⟨rfl, hb⟩
      exact ⟨_, rfl, OwnU.none _ _, hb⟩
    · by_cases hz : preN (rM k) L L.length = 0
      · have e : invE k L = 40 := by rw [invE, if_pos hk, if_neg h6, if_pos hz]
        rw [invR, e, if_neg (by decide)]
        refine (Inverses_zero kd (by omega) hN hz ha' w hm hI' hg').mono ?_
        rintro e w' ⟨rfl, hb⟩
        exact ⟨_, rfl, OwnU.none _ _, hb⟩
      · have e : invE k L = 0 := by rw [invE, if_pos hk, if_neg h6, if_neg hz]
        rw [invR, e, if_pos rfl]
        refine (Inverses_some kd hp (by omega) hN hz ha' w hm hI' hg').mono ?_
        rintro e w' ⟨b, rfl, hb1, hO, hb⟩
        have h := hO.own hb1 (by rw [List.length_map]; unfold maxLen; omega)
        rw [List.length_map] at h
        exact ⟨_, rfl, h, hb⟩
  · have e : invE k L = 1 := by rw [invE, if_neg hk]
    rw [invR, e, if_neg (by decide)]
    refine (Inverses_bad (fun h => hk (.inl h)) (fun h => hk (.inr h)) w hm).mono ?_
    rintro e w' ⟨rfl, hb⟩
    exact ⟨_, rfl, OwnU.none _ _, hb⟩
theorem rinvs_any {k : Int} {g o cap : Nat} {a : Option Addr} {L : List Int} (hN : ∀ i, i < L.length → Num (L.getD i 0)) (ha : At4 a g o L) (w : World) (hI : Nms w g o L) :
    Calls Tryd.prog 5 #[.int .i64 k, .slice a L.length cap] w fun e w' => ∃ v, e = .returned (.tuple #[v, .int .i64 (invE k L)]) ∧ OwnU w.heap.size w' v (invR k L) ∧ Below w.heap.size w w' := by
  by_cases hk : k = 0 ∨ k = 1
  · obtain ⟨c, kd, hp⟩ := kind_rM hk
    by_cases h6 : 65536 < L.length
    · have e : invE k L = 2 := by rw [invE, if_pos hk, if_pos h6]
      rw [invR, e, if_neg (by decide)]
      refine (rinvs_long hk h6 w).mono ?_
      rintro e w' ⟨rfl, hb⟩
      exact ⟨_, rfl, OwnU.none _ _, hb⟩
    · refine (rinvs_walk hk rfl (by omega) hN ha w hI).mono ?_
      rintro e w' ⟨h | h, hb⟩
      · obtain ⟨v, rfl, hO, hz⟩ := h
        have z : preN (rM k) L L.length ≠ 0 := fun e => by
          obtain ⟨j, hj, h0⟩ := (pre_zero kd.fit hp L L.length (Nat.le_refl _)).1 e
          exact hz j hj h0
        have e : invE k L = 0 := by rw [invE, if_pos hk, if_neg h6, if_neg z]
        rw [invR, e, if_pos rfl]
        exact ⟨v, rfl, hO, hb⟩
      · obtain ⟨rfl, i, hi, h0⟩ := h
        have e : invE k L = 40 := by rw [invE, if_pos hk, if_neg h6, if_pos ((pre_zero kd.fit hp L L.length (Nat.le_refl _)).2 ⟨i, hi, h0⟩)]
        rw [invR, e, if_neg (by decide)]
        exact ⟨_, rfl, OwnU.none _ _, hb⟩
  · have e : invE k L = 1 := by rw [invE, if_neg hk]
    rw [invR, e, if_neg (by decide)]
    refine (rinvs_bad (fun h => hk (.inl h)) (fun h => hk (.inr h)) w).mono ?_
    rintro e w' ⟨rfl, hb⟩
    exact ⟨_, rfl, OwnU.none _ _, hb⟩
end Go.Proofs.YtagcbcmbojggkaaDoor
