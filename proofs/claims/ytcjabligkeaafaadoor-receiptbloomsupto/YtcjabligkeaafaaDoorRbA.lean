import Derived.Test.YtcjabligkeaafaaDoorRfC
import Derived.Test.YtcjabligkeaafaaDoorBmS
import Derived.Test.YtcjabligkeaafaaDoorBmX
/- Filters over bytes as numbers; what is set by texts. -/
namespace Go.Proofs.YtcjabligkeaafaaDoor.tq
open Go.RowKit Go.Sort
/-- Bytes as bit vectors. -/
def bv (X : List Int) : List (BitVec 8) := X.map fun x => BitVec.ofNat 8 x.toNat
theorem bv_len (X : List Int) : (bv X).length = X.length := List.length_map _
theorem Y_bv {x : Int} (h : 0 ≤ x ∧ x < 256) : S.Y (BitVec.ofNat 8 x.toNat) = x := by
  rw [S.Y_eq, BitVec.toNat_ofNat]
  omega
theorem partB {W : World} {b o c n : Nat} {X : List Int} (hl : X.length = n) (hB : Bys X) (hc : n ≤ c) (r : W.rangeAt b o (hC X)) : S.Part.ok W ⟨some ⟨b, o, none⟩, b, o, c, bv X⟩ := by
  refine ⟨.inr rfl, by show (bv X).length ≤ c; rw [bv_len, hl]; exact hc, fun i hi => ?_⟩
  have hi' : i < X.length := by rw [← bv_len]; exact hi
  have h := r i (.int .u8 X[i]) (by unfold hC; rw [List.getElem?_map, List.getElem?_eq_getElem hi']; rfl)
  rw [h]
  have e : (bv X).getD i 0 = BitVec.ofNat 8 X[i].toNat := by unfold bv; rw [List.getD, List.getElem?_map, List.getElem?_eq_getElem hi']; rfl
  show some (Value.int .u8 X[i]) = some (.int .u8 (S.Y ((bv X).getD i 0)))
  rw [e, Y_bv (hB _ (List.getElem_mem hi'))]
/-- The places of a text. -/
noncomputable def plX (X : List Int) : List Nat := S.plL (bv X)
noncomputable def hasX (F : List (BitVec 8)) (X : List Int) : Bool := S.hasT F (bv X)
theorem add_I {W : World} {b o c n : Nat} {X : List Int} {F : List (BitVec 8)} (hF : F.length = 256) (hl : X.length = n) (hn : n < 1000000000) (hB : Bys X) (hc : n ≤ c) (r : W.rangeAt b o (hC X)) (hk : S.KtB W) :
    Calls Tryd.prog 8 #[.agg (S.byts F).toArray, .slice (some ⟨b, o, none⟩) n c] W fun e w' => e = .returned (.agg (S.byts (S.setsF F (plX X))).toArray) ∧ Below W.heap.size W w' := by
  have h := S.add_any (p := ⟨some ⟨b, o, none⟩, b, o, c, bv X⟩) hF (by show (bv X).length < _; rw [bv_len]; omega) W (partB hl hB hc r) hk
  rw [S.Part.val] at h
  simp only [bv_len, hl] at h
  exact h
theorem has_I {W : World} {b o c n : Nat} {X : List Int} {F : List (BitVec 8)} (hF : F.length = 256) (hl : X.length = n) (hn : n < 1000000000) (hB : Bys X) (hc : n ≤ c) (r : W.rangeAt b o (hC X)) (hk : S.KtB W) :
    Calls Tryd.prog 6 #[.agg (S.byts F).toArray, .slice (some ⟨b, o, none⟩) n c] W fun e w' => e = .returned (.bool (hasX F X)) ∧ Below W.heap.size W w' := by
  have h := S.has_any (p := ⟨some ⟨b, o, none⟩, b, o, c, bv X⟩) hF (by show (bv X).length < _; rw [bv_len]; omega) W (partB hl hB hc r) hk
  rw [S.Part.val] at h
  simp only [bv_len, hl] at h
  exact h
/-- What texts set in a filter. -/
noncomputable def stF (F : List (BitVec 8)) (XS : List (List Int)) : List (BitVec 8) := XS.foldl (fun G X => S.setsF G (plX X)) F
theorem stF_app (F : List (BitVec 8)) (XS ZS : List (List Int)) : stF F (XS ++ ZS) = stF (stF F XS) ZS := by unfold stF; rw [List.foldl_append]
theorem plX_lt {X : List Int} {x : Nat} (h : x ∈ plX X) : x < 2048 := S.plL_lt h
theorem stF_len : ∀ (XS : List (List Int)) {F : List (BitVec 8)}, F.length = 256 → (stF F XS).length = 256
  | [], _, h => h
  | _ :: XS, _, h => stF_len XS (S.setsF_len _ h)
theorem tF_st : ∀ (XS : List (List Int)) {F : List (BitVec 8)}, F.length = 256 → ∀ j, j < 2048 → S.tF (stF F XS) j = (S.tF F j || XS.any fun X => decide (j ∈ plX X))
  | [], _, _, _, _ => by simp [stF]
  | X :: XS, F, h, j, hj => by
    show S.tF (stF (S.setsF F (plX X)) XS) j = _
    rw [tF_st XS (S.setsF_len _ h) j hj, S.tF_sets _ h (fun x hx => plX_lt hx) j hj, List.any_cons, Bool.or_assoc]
/-- The texts of a log. -/
def txL (l : Lg) : List (List Int) := l.adr :: l.Tl
noncomputable def blL (ls : List Lg) : List (BitVec 8) := stF S.zF (ls.flatMap txL)
theorem blL_len (ls : List Lg) : (blL ls).length = 256 := stF_len _ S.zF_len
theorem tF_bl {ls : List Lg} {j : Nat} (hj : j < 2048) : S.tF (blL ls) j = ls.any fun l => (txL l).any fun X => decide (j ∈ plX X) := by
  unfold blL
  rw [tF_st _ S.zF_len j hj, S.tF_zero, Bool.false_or]
  induction ls with
  | nil => rfl
  | cons l ls ih => rw [List.flatMap_cons, List.any_append, ih, List.any_cons]
/-- What was put in is there. -/
theorem has_bl {ls : List Lg} {l : Lg} {X : List Int} (hl : l ∈ ls) (hX : X ∈ txL l) : hasX (blL ls) X = true := by
  have h : ∀ j, j ∈ plX X → S.tF (blL ls) j = true := fun j hj => by
    rw [tF_bl (plX_lt hj)]
    exact List.any_eq_true.2 ⟨l, hl, List.any_eq_true.2 ⟨X, hX, decide_eq_true hj⟩⟩
  unfold hasX S.hasT
  rw [h _ (by unfold plX S.plL; simp), h _ (by unfold plX S.plL; simp), h _ (by unfold plX S.plL; simp)]
  rfl
theorem bl_nil : blL [] = S.zF := rfl
theorem bl_pos (l : Lg) : blL [l] ≠ S.zF := fun e => by
  have hj : S.plN (bv l.adr) 0 ∈ plX l.adr := by unfold plX S.plL; simp
  have h := tF_bl (ls := [l]) (plX_lt hj)
  rw [e, S.tF_zero] at h
  have : ([l].any fun l => (txL l).any fun X => decide (S.plN (bv l.adr) 0 ∈ plX X)) = true := by
    refine List.any_eq_true.2 ⟨l, by simp, List.any_eq_true.2 ⟨l.adr, by simp [txL], decide_eq_true hj⟩⟩
  have h2 : ([l].any fun l' => (txL l').any fun X => decide (S.plN (bv l.adr) 0 ∈ plX X)) = true := List.any_eq_true.2 ⟨l, by simp, List.any_eq_true.2 ⟨l.adr, by simp [txL], decide_eq_true hj⟩⟩
  rw [h2] at h
  cases h
/-- Filters put together. -/
theorem bl_or {ls ks : List Lg} : S.orF (blL ls) (blL ks) = blL (ls ++ ks) := by
  refine S.ext_F (S.orF_len (blL_len _) (blL_len _)) (blL_len _) fun j hj => ?_
  rw [S.tF_or (blL_len _) (blL_len _), tF_bl hj, tF_bl hj, tF_bl hj, List.any_append]
theorem bl_same {ls ks : List Lg} (h : ∀ X, (∃ l ∈ ls, X ∈ txL l) ↔ (∃ l ∈ ks, X ∈ txL l)) : blL ls = blL ks := by
  refine S.ext_F (blL_len _) (blL_len _) fun j hj => ?_
  rw [tF_bl hj, tF_bl hj, Bool.eq_iff_iff]
  simp only [List.any_eq_true, decide_eq_true_iff]
  constructor
  · rintro ⟨l, hl, X, hX, hj⟩
    obtain ⟨k, hk, hX'⟩ := (h X).1 ⟨l, hl, hX⟩
    exact ⟨k, hk, X, hX', hj⟩
  · rintro ⟨l, hl, X, hX, hj⟩
    obtain ⟨k, hk, hX'⟩ := (h X).2 ⟨l, hl, hX⟩
    exact ⟨k, hk, X, hX', hj⟩
end Go.Proofs.YtcjabligkeaafaaDoor.tq
