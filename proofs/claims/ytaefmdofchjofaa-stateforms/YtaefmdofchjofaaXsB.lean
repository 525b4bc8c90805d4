import Derived.Test.YtaefmdofchjofaaRxW
import Derived.Test.YtaefmdofchjofaaRxY
import Derived.Test.YtaefmdofchjofaaRwC
import Derived.Test.YtaefmdofchjofaaRsE
import Derived.Test.YtaefmdofchjofaaXsA
/- Layer 21: an account in plain numbers. -/
namespace Go.Proofs.Ytaefmdofchjofaa
open Go.RowKit Go.Sort
/-- An account's cells. -/
def acM (n b : Int) (S C : List Value) : List Value := .int .u64 n :: .int .u64 (l0 b) :: .int .u64 (l1 b) :: .int .u64 (l2 b) :: .int .u64 (l3 b) :: (S ++ C)
def z32 : List Value := List.replicate 32 (Value.int .u8 0)
def acZ : List Value := acM 0 0 z32 z32
theorem acM_len {n b : Int} {S C : List Value} (hS : S.length = 32) (hC : C.length = 32) : (acM n b S C).length = 69 := by simp [acM, hS, hC]
theorem acZ_len : acZ.length = 69 := acM_len (by simp [z32]) (by simp [z32])
theorem acM_one {n b : Int} {S C : List Value} (hS : ∀ v ∈ S, v.oneCell' = true) (hC : ∀ v ∈ C, v.oneCell' = true) : (acM n b S C).toArray.all (·.oneCell') = true := by
  refine all_oneCell_toArray fun v hv => ?_
  simp only [acM, List.mem_cons, List.mem_append] at hv
  rcases hv with rfl | rfl | rfl | rfl | rfl | h | h
  all_goals first | rfl | exact hS v h | exact hC v h
theorem z32_one : ∀ v ∈ z32, v.oneCell' = true := fun v hv => by rw [(List.mem_replicate.1 hv).2]; rfl
theorem ac_size : (Try.prog.info? 28).map (·.size) = some 69 := by kernel_rfl
theorem acz_zero (w : World) : (zeroValue 28).run Try.prog w = .ok (.agg acZ.toArray) w := by
  have h : (Try.prog.info? 28).map (·.zero) = some (some (.agg acZ.toArray)) := by kernel_rfl
  obtain ⟨i, hi, hz⟩ := Option.map_eq_some_iff.1 h
  simp [zeroValue, typeInfo, go_sem, hi, hz]
theorem z32_zero (w : World) : (zeroValue 26).run Try.prog w = .ok (.agg z32.toArray) w := by
  have h : (Try.prog.info? 26).map (·.zero) = some (some (.agg z32.toArray)) := by kernel_rfl
  obtain ⟨i, hi, hz⟩ := Option.map_eq_some_iff.1 h
  simp [zeroValue, typeInfo, go_sem, hi, hz]
theorem ha_size : (Try.prog.info? 26).map (·.size) = some 32 := by kernel_rfl
theorem built_ac64 (s0 s1 s2 s3 s4 s5 s6 s7 s8 s9 s10 s11 s12 s13 s14 s15 s16 s17 s18 s19 s20 s21 s22 s23 s24 s25 s26 s27 s28 s29 s30 s31 c0 c1 c2 c3 c4 c5 c6 c7 c8 c9 c10 c11 c12 c13 c14 c15 c16 c17 c18 c19 c20 c21 c22 c23 c24 c25 c26 c27 c28 c29 c30 c31 : Value) (n b0 b1 b2 b3 : Int) : Try.prog.built 28 [(0, .int .u64 n), (1, .agg #[.int .u64 b0, .int .u64 b1, .int .u64 b2, .int .u64 b3]), (2, .agg #[s0, s1, s2, s3, s4, s5, s6, s7, s8, s9, s10, s11, s12, s13, s14, s15, s16, s17, s18, s19, s20, s21, s22, s23, s24, s25, s26, s27, s28, s29, s30, s31]), (3, .agg #[c0, c1, c2, c3, c4, c5, c6, c7, c8, c9, c10, c11, c12, c13, c14, c15, c16, c17, c18, c19, c20, c21, c22, c23, c24, c25, c26, c27, c28, c29, c30, c31])] = some #[.int .u64 n, .int .u64 b0, .int .u64 b1, .int .u64 b2, .int .u64 b3, s0, s1, s2, s3, s4, s5, s6, s7, s8, s9, s10, s11, s12, s13, s14, s15, s16, s17, s18, s19, s20, s21, s22, s23, s24, s25, s26, s27, s28, s29, s30, s31, c0, c1, c2, c3, c4, c5, c6, c7, c8, c9, c10, c11, c12, c13, c14, c15, c16, c17, c18, c19, c20, c21, c22, c23, c24, c25, c26, c27, c28, c29, c30, c31] := by kernel_rfl
theorem built_ac {n b : Int} {S C : List Value} (hS : S.length = 32) (hC : C.length = 32) : Try.prog.built 28 [(0, .int .u64 n), (1, .agg #[.int .u64 (l0 b), .int .u64 (l1 b), .int .u64 (l2 b), .int .u64 (l3 b)]), (2, .agg S.toArray), (3, .agg C.toArray)] = some (acM n b S C).toArray := by
  match S, hS with
  | [s0, s1, s2, s3, s4, s5, s6, s7, s8, s9, s10, s11, s12, s13, s14, s15, s16, s17, s18, s19, s20, s21, s22, s23, s24, s25, s26, s27, s28, s29, s30, s31], _ =>
    match C, hC with
    | [c0, c1, c2, c3, c4, c5, c6, c7, c8, c9, c10, c11, c12, c13, c14, c15, c16, c17, c18, c19, c20, c21, c22, c23, c24, c25, c26, c27, c28, c29, c30, c31], _ => exact built_ac64 s0 s1 s2 s3 s4 s5 s6 s7 s8 s9 s10 s11 s12 s13 s14 s15 s16 s17 s18 s19 s20 s21 s22 s23 s24 s25 s26 s27 s28 s29 s30 s31 c0 c1 c2 c3 c4 c5 c6 c7 c8 c9 c10 c11 c12 c13 c14 c15 c16 c17 c18 c19 c20 c21 c22 c23 c24 c25 c26 c27 c28 c29 c30 c31 n (l0 b) (l1 b) (l2 b) (l3 b)
theorem built_acZ : Try.prog.built 28 [] = some acZ.toArray := by kernel_rfl
/-- The tree of an account. -/
def acT (n b : Int) (S C : List Int) : Tr := .mk true [] [.mk false (stripL (putL n)) [], .mk false (stripL (putL b)) [], .mk false S [], .mk false C []]
def acX (n b : Int) (S C : List Int) : List Int := encT (acT n b S C)
theorem acT_err {n b : Int} {S C : List Int} : errT (acT n b S C) = 0 := by
  unfold errT acT
  rw [oddT, oddS, oddS, oddS, oddS, oddS, oddT, oddT, oddT, oddT, oddS, dpT, dpS, dpS, dpS, dpS, dpS, dpT, dpT, dpT, dpT]
  simp [odd1]
theorem acT_wt {n b : Int} {S C : List Int} (hS : S.length = 32) (hC : C.length = 32) : wtT (acT n b S C) ≤ 133 := by
  have h1 := strip_len (putL n) (k := 32) (by rw [putL_len]; exact Nat.le_refl _)
  have h2 := strip_len (putL b) (k := 32) (by rw [putL_len]; exact Nat.le_refl _)
  unfold acT
  rw [wtT, wtS, wtS, wtS, wtS, wtS, wtT, wtT, wtT, wtT, wtS]
  simp only [List.length_nil, hS, hC]
  omega
theorem encZ_ac {n b : Int} {S C : List Int} : encZ (acT n b S C) = acX n b S C := by rw [encZ, if_pos acT_err, acX]
theorem acX_len {n b : Int} {S C : List Int} (hS : S.length = 32) (hC : C.length = 32) : (acX n b S C).length ≤ 1000 := by
  have h := acT_wt (n := n) (b := b) hS hC
  have h2 := encT_len (acT n b S C)
  rw [acX]; omega
def tI (A : List Int) (i : Nat) : Tr := (decP A).2.ts.getD i zT
def nuE (t : Tr) (k : Nat) : Int := numE t.l t.X t.ts k
def nuV (t : Tr) (k : Nat) : Int := numV t.l t.X t.ts k
def fiE (t : Tr) : Int := fixE t.l t.X t.ts 32
/-- Is it an account's form? -/
def paOk (A : List Int) : Prop := A.length ≤ 16777216 ∧ (decP A).1 = 0 ∧ (decP A).2.l = true ∧ (decP A).2.ts.length = 4 ∧ nuE (tI A 0) 8 = 0 ∧ nuE (tI A 1) 32 = 0 ∧ fiE (tI A 2) = 0 ∧ fiE (tI A 3) = 0
open Classical in
noncomputable def paE (A : List Int) : Int := if 16777216 < A.length then 2 else if paOk A then 0 else 214
def u8L (X : List Int) : List Value := X.map (Value.int .u8)
open Classical in
noncomputable def paM (A : List Int) : List Value := if paOk A then acM (l0 (nuV (tI A 0) 8)) (nuV (tI A 1) 32) (u8L (tI A 2).X) (u8L (tI A 3).X) else acZ
theorem fi_len {t : Tr} (h : fiE t = 0) : t.X.length = 32 := by
  unfold fiE fixE at h
  split at h
  · omega
  · split at h
    · omega
    · split at h
      · omega
      · omega
theorem nu_len {t : Tr} {k : Nat} (h : nuE t k = 0) : t.l = false ∧ t.X.length ≤ k := by
  unfold nuE numE at h
  split at h
  · omega
  · rename_i h1
    have h1 : wantE t.l t.X t.ts false = 0 := by simpa using h1
    unfold wantE at h1
    split at h
    · omega
    · refine ⟨?_, by omega⟩
      split at h1
      · omega
      · split at h1
        · assumption
        · omega
theorem fi_text {t : Tr} (h : fiE t = 0) : t.l = false := by
  unfold fiE fixE at h
  split at h
  · omega
  · split at h
    · omega
    · rename_i h1
      have h1 : wantE t.l t.X t.ts false = 0 := by simpa using h1
      unfold wantE at h1
      split at h1
      · omega
      · split at h1
        · assumption
        · omega
theorem paM_len (A : List Int) : (paM A).length = 69 := by
  unfold paM
  split
  · rename_i h
    exact acM_len (by rw [u8L, List.length_map]; exact fi_len h.2.2.2.2.2.2.1) (by rw [u8L, List.length_map]; exact fi_len h.2.2.2.2.2.2.2)
  · exact acZ_len
theorem u8L_one (X : List Int) : ∀ v ∈ u8L X, v.oneCell' = true := fun v hv => by
  obtain ⟨z, _, rfl⟩ := List.mem_map.1 hv; rfl
theorem paM_one (A : List Int) : (paM A).toArray.all (·.oneCell') = true := by
  unfold paM
  split
  · exact acM_one (u8L_one _) (u8L_one _)
  · exact acM_one z32_one z32_one
theorem encX_short {X : List Int} (h : X.length ≤ 55) : (encX X).length ≤ 1 + X.length := by
  unfold encX
  split
  · omega
  · unfold hdR
    rw [if_pos h]
    simp; omega
theorem encT_text {t : Tr} (h : t.l = false) : encT t = encX t.X := by
  cases t with
  | mk l X ts =>
    have : l = false := h
    subst this
    rw [encT]; rfl
/-- An account's form is short. -/
theorem paOk_short {A : List Int} (hA : Byts A) (h : paOk A) : A.length ≤ 110 := by
  obtain ⟨h0, h1, h2, h3, h4, h5, h6, h7⟩ := h
  have hi := (decP_inv hA (t := (decP A).2) (Prod.ext h1 rfl)).1
  rw [← hi]
  unfold tI at h4 h5 h6 h7
  generalize (decP A).2 = t at *
  cases t with
  | mk l X ts =>
    have e2 : l = true := h2
    subst e2
    match ts, h3 with
    | [t0, t1, t2, t3], _ =>
      have k4 := nu_len (t := t0) h4
      have k5 := nu_len (t := t1) h5
      have k6 := fi_len (t := t2) h6
      have k7 := fi_len (t := t3) h7
      have f6 := fi_text (t := t2) h6
      have f7 := fi_text (t := t3) h7
      rw [encT, if_pos rfl, encS, encS, encS, encS, encS, encT_text k4.1, encT_text k5.1, encT_text f6, encT_text f7]
      have a0 := encX_short (X := t0.X) (by omega)
      have a1 := encX_short (X := t1.X) (by omega)
      have a2 := encX_short (X := t2.X) (by omega)
      have a3 := encX_short (X := t3.X) (by omega)
      have e : (encX t0.X ++ (encX t1.X ++ (encX t2.X ++ (encX t3.X ++ [])))).length ≤ 108 := by simp only [List.length_append, List.length_nil]; omega
      generalize (encX t0.X ++ (encX t1.X ++ (encX t2.X ++ (encX t3.X ++ [])))) = Y at *
      rw [List.length_append]
      have : (hdR 192 Y.length).length ≤ 2 := by
        unfold hdR
        split
        · simp
        · unfold beN
          rw [if_pos (by omega)]
          simp
      omega
theorem paE_far {A : List Int} (h : 16777216 < A.length) : paE A = 2 ∧ paM A = acZ := by
  unfold paE paM
  rw [if_pos h, if_neg (fun k => by have := k.1; omega)]
  exact ⟨rfl, rfl⟩
theorem paE_no {A : List Int} (h : ¬ 16777216 < A.length) (k : ¬ paOk A) : paE A = 214 ∧ paM A = acZ := by
  unfold paE paM
  rw [if_neg h, if_neg k, if_neg k]
  exact ⟨rfl, rfl⟩
theorem paE_ok {A : List Int} (k : paOk A) : paE A = 0 ∧ paM A = acM (l0 (nuV (tI A 0) 8)) (nuV (tI A 1) 32) (u8L (tI A 2).X) (u8L (tI A 3).X) := by
  unfold paE paM
  rw [if_neg (by have := k.1; omega), if_pos k, if_pos k]
  exact ⟨rfl, rfl⟩
/-- Four items that were decoded are a list's. -/
theorem four_list {A : List Int} (hA : Byts A) (h1 : (decP A).1 = 0) (h3 : (decP A).2.ts.length = 4) : (decP A).2.l = true := by
  have hi := (decP_inv hA (t := (decP A).2) (Prod.ext h1 rfl)).2.1
  generalize (decP A).2 = t at *
  cases t with
  | mk l X ts =>
    rw [oddT] at hi
    cases l with
    | true => rfl
    | false =>
      have : ts.length = 4 := h3
      simp [odd1, this] at hi
end Go.Proofs.Ytaefmdofchjofaa
