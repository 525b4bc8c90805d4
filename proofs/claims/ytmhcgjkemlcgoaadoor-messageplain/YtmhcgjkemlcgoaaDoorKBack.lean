import Derived.Test.YtmhcgjkemlcgoaaDoorKLent
import Derived.Maps.AppendAt
namespace Go.Proofs.YtmhcgjkemlcgoaaDoor.K
open Go.RowKit Go.Sort

/-- A slice of the call's own memory, of these bytes. -/
def Own (B : Nat) (W : World) (v : Value) (X : List (BitVec 8)) : Prop := W.ownsRow B 5 1 v X.length (byts X)
theorem Own.row {B : Nat} {W : World} {v : Value} {X : List (BitVec 8)} (h : Own B W v X) : W.ownsRow B 5 1 v X.length (byts X) := h
theorem byts_snoc (X : List (BitVec 8)) (x : BitVec 8) : byts X ++ [.int .u8 (Y x)] = byts (X ++ [x]) := by simp [byts]
end Go.Proofs.YtmhcgjkemlcgoaaDoor.K

namespace Go.Proofs.YtmhcgjkemlcgoaaDoor.K
open Go.RowKit Go.Sort

theorem own_form {B : Nat} {W : World} {v : Value} {X : List (BitVec 8)} (h : Own B W v X) (h0 : 0 < X.length) : ∃ g c, v = .slice (some ⟨g, 0, none⟩) X.length c ∧ X.length ≤ c := by
  rcases h.2 with ⟨rfl, h1⟩ | ⟨g, cap, cur, rfl, _, _, hle, _⟩
  · omega
  · exact ⟨g, cap, rfl, hle⟩
theorem byts_set (X : List (BitVec 8)) (i : Nat) (x : BitVec 8) : (byts X).set i (.int .u8 (Y x)) = byts (X.set i x) := by simp [byts, List.map_set]

/-- The text filled up. -/
def padN (n : Nat) : Nat := 135 - n % 136
def fillL (X : List (BitVec 8)) (f : BitVec 8) : List (BitVec 8) := (X ++ f :: List.replicate (padN X.length) 0).set (X.length + padN X.length) ((X ++ f :: List.replicate (padN X.length) 0).getD (X.length + padN X.length) 0 ||| 128)

end Go.Proofs.YtmhcgjkemlcgoaaDoor.K

namespace Go.Proofs.YtmhcgjkemlcgoaaDoor.K
open Go.RowKit Go.Sort

theorem mixL_zero {L : List (BitVec 64)} {p : Nat} (h : p / 8 < L.length) : mixL L p 0 = L := by
  rw [mixL, up_zero, show (0 : BitVec 64) = 0#64 from rfl, BitVec.xor_zero]
  apply List.ext_getElem (by simp)
  intro i h1 h2
  by_cases e : i = p / 8
  · subst e; simp [List.getD, h]
  · simp [Ne.symm e]
theorem mixs_zeros {L : List (BitVec 64)} (hl : L.length = 25) : ∀ (n p : Nat), p + n ≤ 200 → mixs L p (List.replicate n 0) = L
  | 0, _, _ => rfl
  | n + 1, p, h => by rw [List.replicate_succ, mixs, mixL_zero (by omega)]; exact mixs_zeros hl n (p + 1) (by omega)
theorem mixs_app (L : List (BitVec 64)) : ∀ (p : Nat) (X Z : List (BitVec 8)), mixs L p (X ++ Z) = mixs (mixs L p X) (p + X.length) Z
  | p, [], Z => rfl
  | p, x :: X, Z => by
    rw [List.cons_append, mixs, mixs, mixs_app _ (p + 1) X Z]
    simp [Nat.add_assoc, Nat.add_comm 1]
theorem kup_or (x : BitVec 8) (h : x &&& 128 = 0) (s : Nat) : up (x ||| 128) s = up x s ^^^ up 128 s := by
  have e : x ||| 128 = x ^^^ 128 := by
    apply BitVec.eq_of_getLsbD_eq
    intro i hi
    have g := congrArg (fun z => z.getLsbD i) h
    simp only [BitVec.getLsbD_and, BitVec.getLsbD_or, BitVec.getLsbD_xor] at g ⊢
    revert g
    cases x.getLsbD i <;> cases (128 : BitVec 8).getLsbD i <;> simp
  rw [e]
  unfold up
  apply BitVec.eq_of_getLsbD_eq
  intro i hi
  simp only [BitVec.getLsbD_xor, BitVec.getLsbD_shiftLeft, BitVec.getLsbD_setWidth]
  by_cases c : i < s <;> simp [c, hi]
  by_cases c2 : i - s < 64 <;> simp [c2]
theorem mixL_or {L : List (BitVec 64)} {p : Nat} (h : p / 8 < L.length) (x : BitVec 8) (hx : x &&& 128 = 0) : mixL L p (x ||| 128) = mixL (mixL L p x) p 128 := by
  unfold mixL
  have g : (L.set (p / 8) (L.getD (p / 8) 0 ^^^ up x (p % 8 * 8))).getD (p / 8) 0 = L.getD (p / 8) 0 ^^^ up x (p % 8 * 8) := by simp [List.getD, h]
  rw [g, kup_or x hx, List.set_set, BitVec.xor_assoc]
theorem fst_and (k : Int) : fstB k &&& 128 = 0 := by
  unfold fstB
  split <;> decide

theorem fill_tail (X : List (BitVec 8)) (f : BitVec 8) : fillL X f = X ++ (f :: List.replicate (padN X.length) 0).set (padN X.length) ((f :: List.replicate (padN X.length) 0).getD (padN X.length) 0 ||| 128) := by
  unfold fillL
  rw [List.set_append_right _ _ (by omega), Nat.add_sub_cancel_left, List.getD, List.getElem?_append_right (by omega), Nat.add_sub_cancel_left]
  rfl
theorem fill_len (X : List (BitVec 8)) (f : BitVec 8) : (fillL X f).length = X.length + padN X.length + 1 := by
  rw [fill_tail, List.length_append, List.length_set, List.length_cons, List.length_replicate]
  omega
theorem fill_fin {A : List (BitVec 64)} (hA : A.length = 25) (k : Int) (X : List (BitVec 8)) (h : A = absb (List.replicate 25 0) 0 X) : absb (List.replicate 25 0) 0 (fillL X (fstB k)) = finL k A X.length := by
  rw [fill_tail, absb_app, ← h, Nat.zero_add]
  obtain ⟨n, kn⟩ : ∃ n, n = padN X.length := ⟨_, rfl⟩
  rw [← kn]
  have l : ((fstB k :: List.replicate n 0).set n ((fstB k :: List.replicate n 0).getD n 0 ||| 128)).length = n + 1 := by simp
  have hn : X.length % 136 + (n + 1) = 136 := by rw [kn]; unfold padN; omega
  rw [absb_piece _ _ _ (by omega) (by omega), l, turn, if_pos (by omega), finL]
  congr 1
  cases n with
  | zero =>
    have e : X.length % 136 = 135 := by omega
    rw [e]
    show mixL A 135 (fstB k ||| 128) = _
    exact mixL_or (by omega) _ (fst_and k)
  | succ m =>
    have e : (fstB k :: List.replicate (m + 1) 0).set (m + 1) ((fstB k :: List.replicate (m + 1) 0).getD (m + 1) 0 ||| 128) = fstB k :: (List.replicate m 0 ++ [128]) := by
      rw [List.set_cons_succ, List.replicate_succ', List.set_append_right _ _ (by simp), List.length_replicate, Nat.sub_self]
      simp [List.getD]
    rw [e, mixs, mixs_app, mixs_zeros (by rw [mixL_len]; exact hA) m _ (by omega), List.length_replicate, mixs, mixs, show X.length % 136 + 1 + m = 135 by omega]

end Go.Proofs.YtmhcgjkemlcgoaaDoor.K

namespace Go.Proofs.YtmhcgjkemlcgoaaDoor.K
open Go.RowKit Go.Sort

theorem Byo.drew {W : World} {b o : Nat} {X : List (BitVec 8)} (h : Byo W b o X) : Byo W.drew b o X := h
theorem Byo.far {W : World} {b b' o i : Nat} {v : Value} {X : List (BitVec 8)} (h : Byo W b o X) (ne : b' ≠ b) : Byo (W.setCell ⟨b', i, none⟩ v) b o X := fun j hj => by rw [World.cell?_setCell_far _ _ _ _ ne]; exact h j hj
theorem Byo.farCells {W : World} {b b' o i : Nat} {X : List (BitVec 8)} (h : Byo W b o X) (ne : b' ≠ b) (cs : List Value) : Byo (W.setCells b' i cs) b o X := fun j hj => by rw [World.cell?_setCells_out _ _ _ _ _ (fun e => absurd e.symm ne)]; exact h j hj
theorem Arr.zeros25 {W : World} {b : Nat} (e : b = W.heap.size) : Arr (W.alloc (.cells #[.int .u64 0, .int .u64 0, .int .u64 0, .int .u64 0, .int .u64 0, .int .u64 0, .int .u64 0, .int .u64 0, .int .u64 0, .int .u64 0, .int .u64 0, .int .u64 0, .int .u64 0, .int .u64 0, .int .u64 0, .int .u64 0, .int .u64 0, .int .u64 0, .int .u64 0, .int .u64 0, .int .u64 0, .int .u64 0, .int .u64 0, .int .u64 0, .int .u64 0] 47)) b (List.replicate 25 0) := fresh_arr e

end Go.Proofs.YtmhcgjkemlcgoaaDoor.K

namespace Go.Proofs.YtmhcgjkemlcgoaaDoor.K
open Go.RowKit Go.Sort

/-- What a fresh row of bytes is as an argument. -/
theorem own_arg {B : Nat} {W : World} {v : Value} {X : List (BitVec 8)} (h : Own B W v X) : ∃ a g c, v = .slice a X.length c ∧ At a g 0 X ∧ (a = none → c = 0) ∧ Byo W g 0 X := by
  rcases h.2 with ⟨e, hx⟩ | ⟨g, cap, cur, e, _, _, hle, _⟩
  · have hx' : X = [] := List.length_eq_zero_iff.1 hx
    subst hx'
    exact ⟨none, 0, 0, e, .inl rfl, fun _ => rfl, fun i hi => absurd hi (Nat.not_lt_zero _)⟩
  · subst e
    refine ⟨_, g, cap, rfl, .inr rfl, (fun h => nomatch h), fun i hi => ?_⟩
    rw [Nat.zero_add, h.row.cellAt i (by omega)]
    simp [byts, List.getD, hi]

end Go.Proofs.YtmhcgjkemlcgoaaDoor.K
