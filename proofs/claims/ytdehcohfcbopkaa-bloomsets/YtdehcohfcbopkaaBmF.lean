import Derived.Test.YtdehcohfcbopkaaBmF2
/- BloomSets: the law. -/
namespace Go.Proofs.Ytdehcohfcbopkaa
open Go.RowKit Go.Sort

set_option maxRecDepth 100000 in
set_option maxHeartbeats 16000000 in
theorem sets_any {a : Option Addr} {bp op cp : Nat} {FS : List (List (BitVec 8))} {A B : List (BitVec 8)} (hn : FS.length < 1099511627775) (ha : FS = [] ∨ a = some ⟨bp, op, none⟩) (hA : A.length = 256) (hB : B.length = 256) (w : World) (hL : Fls w bp op FS) :
    Calls Try.prog 3 #[.slice a FS.length cp, .agg (byts A).toArray, .agg (byts B).toArray] w fun e w' => e = .returned (.bool true) ∧ Below w.heap.size w w' := by
  have HH : Hid ((FS = [] ∨ a = some ⟨bp, op, none⟩) ∧ FS.length < 1099511627775 ∧ A.length = 256 ∧ B.length = 256) := ⟨ha, hn, hA, hB⟩
  have KL : Hid (∀ W, Below w.heap.size w W → Fls W bp op FS) := fun W B => hL.keep B
  have FL : Hid (∀ F ∈ FS, F.length = 256) := hL.len
  have CL : Hid ((FS.flatMap byts).length = FS.length * 256) := flat_len FS hL.len
  have n1 : (FS.length : Int) < 1099511627775 := by omega
  have hp : a = some (a.getD ⟨0, 0, none⟩) ∨ (a = none ∧ FS.flatMap byts = []) := by
    cases a with
    | some x => exact .inl rfl
    | none =>
      rcases ha with e | e
      · exact .inr ⟨rfl, by rw [e]; rfl⟩
      · cases e
  have SRC : Hid (∀ W, Below w.heap.size w W → ∀ j v, (FS.flatMap byts)[j]? = some v → W.cell? ((a.getD ⟨0, 0, none⟩).add j) = some v) := fun W B j v hv => by
    rcases HH.out.1 with e | e
    · rw [e] at hv; cases hv
    · rw [e, Option.getD_some, Addr.add_mid]; exact (KL.out W B).flat j v hv
  have ONE : Hid (∀ v ∈ FS.flatMap byts, v.oneCell' = true) := fun v hv => by
    obtain ⟨F, _, hF⟩ := List.mem_flatMap.1 hv
    obtain ⟨x, _, rfl⟩ := List.mem_map.1 hF
    rfl
  clear hn ha hA hB hL
  have LO : Hid (∀ W : World, ∀ g, W.heap[g]? = some (.cells (splice (List.replicate ((FS.length + 1) * 256) (Value.int .u8 0)) 0 (FS.flatMap byts)).toArray 24 (0, 0)) → W.there g (FS.length * 256) 256 ∧ Lst (W.setCells g (FS.length * 256) (byts markF)) g FS) := fun W g h => lst_of FL.out h
  generalize FS.flatMap byts = CS at *
  have oc := one_byts markF
  have ia := size_bloomA markF_len
  have sz : (byts markF).toArray.size = 256 := by rw [List.size_toArray, byts_len, markF_len]
  obtain ⟨MB, hMB⟩ : ∃ MB, MB = byts markF := ⟨_, rfl⟩
  rw [← hMB] at oc ia sz LO
  have HM : Hid (MB = byts markF) := hMB
  clear hMB
  have e256 : ((FS.length : Int) * 256).toNat = FS.length * 256 := by omega
  generalize hfn : FS.length = n at *
  have EN : Hid (FS.length = n) := hfn
  clear hfn
  go_enter Try.func3, Try.ntmps3
  go_wp2_with (first
    | (at_make; (refine wpList_make_blooms _ rfl _ _ rfl .i64 .i64 _ _ (n + 1) rfl rfl (by omega) (by omega) (by omega) ?_); (refine wpList_world (fun W => W.heap[w.heap.size + 2]? = some (.cells (List.replicate ((n + 1) * 256) (Value.int .u8 0)).toArray 24 (0, 0)) ∧ Below w.heap.size w W ∧ Blm W w.heap.size A ∧ Blm W (w.heap.size + 1) B) ⟨heap_at (by simp), (((Below.refl _ _).alloc (Nat.le_refl _) _).alloc (by simp) _).alloc (by simp; omega) _, ((Blm.new HH.out.2.2.1 _ rfl).alloc _).alloc _, (Blm.new HH.out.2.2.2 _ (by simp)).alloc _⟩ ?_); intro w1 h1; have S1 : Hid (w1.heap[w.heap.size + 2]? = some (.cells (List.replicate ((n + 1) * 256) (Value.int .u8 0)).toArray 24 (0, 0)) ∧ Below w.heap.size w w1 ∧ Blm w1 w.heap.size A ∧ Blm w1 (w.heap.size + 1) B) := h1; clear h1)
    | (refine wpList_copy_wide rfl _ _ 22 22 rfl 24 256 Try.underlying22 (by kernel_rfl) (w.heap.size + 2) 0 (n + 1) (n + 1) (a.getD ⟨0, 0, none⟩) a n cp rfl rfl (List.replicate ((n + 1) * 256) (Value.int .u8 0)) 24 S1.out.1 CS n (Nat.min_eq_left (Nat.le_succ _)).symm CL.out hp (SRC.out _ S1.out.2.1) (by rw [CL.out, List.length_replicate]; omega) ONE.out (w.heap.size + 2) w1 (Below.refl _ _) (Nat.le_refl _) ?_; intro w2 G2 B2; have S2 : Hid ((w2.there (w.heap.size + 2) (n * 256) 256 ∧ Lst (w2.setCells (w.heap.size + 2) (n * 256) MB) (w.heap.size + 2) FS) ∧ Below w.heap.size w w2 ∧ Blm w2 w.heap.size A ∧ Blm w2 (w.heap.size + 1) B) := ⟨LO.out w2 _ G2.out, S1.out.2.1.trans (B2.mono (by omega)), S1.out.2.2.1.block (B2.block _ (by omega)), S1.out.2.2.2.block (B2.block _ (by omega))⟩; clear S1 G2 B2 SRC ONE LO hp; have tr : w2.there (w.heap.size + 2) (n * 256) MB.toArray.size := by rw [sz]; exact S2.out.1.1)
    | refine wpList_build_markN HM rfl rfl ?_
    | refine wpList_index_bloom rfl _ _ rfl (w.heap.size + 1 + 1) 0 (n + 1) (n + 1) n (n * 256) rfl rfl (by omega) (by omega) ?_
    | (refine wpList_store_mid rfl 24 _ _ rfl (w.heap.size + 2) (n * 256) _ rfl rfl tr ia oc ?_; refine wpList_world (fun W => Below w.heap.size w W ∧ Blm W w.heap.size A ∧ Blm W (w.heap.size + 1) B ∧ Lst W (w.heap.size + 2) FS) ⟨below_setCells (by omega) _ _ _ S2.out.2.1, S2.out.2.2.1.otherCells (by omega) _, S2.out.2.2.2.otherCells (by omega) _, S2.out.1.2⟩ ?_; intro w3 h3; have S3 : Hid (Below w.heap.size w w3 ∧ Blm w3 w.heap.size A ∧ Blm w3 (w.heap.size + 1) B ∧ Lst w3 (w.heap.size + 1 + 1) FS) := h3; clear h3 S2 tr))
  generalize w.heap.size + 1 + 1 = g at *
  have bAB : w.heap.size ≤ w.heap.size + 1 := by omega
  generalize w.heap.size + 1 = bB at *
  clear oc ia sz
  have WB : Hid (∀ W, Below w3.heap.size w3 W → Below w.heap.size w W) := fun W B => S3.out.1.trans (B.mono S3.out.1.size)
  have LU : Hid ((orA zF FS).length = 256) := orA_len _ zF_len fun k hk => (KL.out w (Below.refl _ _) k hk).1
  have C1 : Hid (∀ W, Below w3.heap.size w3 W → Calls Try.prog 4 #[.slice (some ⟨g, 0, none⟩) n (n + 1)] W fun e w' => e = .returned (.agg (byts (orA zF FS)).toArray) ∧ Below W.heap.size W w') := fun W B => by
    have h := union_any (a := some ⟨g, 0, none⟩) (bp := g) (op := 0) (cp := n + 1) (FS := FS) (by rw [EN.out]; have := HH.out.2.1; omega) (.inr rfl) W (S3.out.2.2.2.keep B).1
    rw [EN.out] at h
    exact h
  have C2 : Hid (∀ W, Below w3.heap.size w3 W → Calls Try.prog 5 #[.slice a n cp] W fun e w' => e = .returned (.agg (byts (orA zF FS)).toArray) ∧ Below W.heap.size W w') := fun W B => by
    have h := runion_any (a := a) (bp := bp) (op := op) (cp := cp) (FS := FS) (by rw [EN.out]; have := HH.out.2.1; omega) HH.out.1 W (KL.out W (WB.out W B))
    rw [EN.out] at h
    exact h
  have C3 : Hid (∀ W, Below w3.heap.size w3 W → Calls Try.prog 6 #[.agg (byts A).toArray, .agg (byts B).toArray] W fun e w' => e = .returned (.bool (inF A B)) ∧ Below W.heap.size W w') := fun W _ => within_any HH.out.2.2.1 HH.out.2.2.2 W
  have C4 : Hid (∀ W, Below w3.heap.size w3 W → Calls Try.prog 7 #[.agg (byts A).toArray, .agg (byts B).toArray] W fun e w' => e = .returned (.bool (inF A B)) ∧ Below W.heap.size W w') := fun W _ => rwithin_any HH.out.2.2.1 HH.out.2.2.2 W
  have C5 : Hid (∀ W, Below w3.heap.size w3 W → Calls Try.prog 8 #[.agg (byts A).toArray] W fun e w' => e = .returned (.int .i64 (cntF A : Nat)) ∧ Below W.heap.size W w') := fun W _ => count_any HH.out.2.2.1 W
  have C6 : Hid (∀ W, Below w3.heap.size w3 W → Calls Try.prog 9 #[.agg (byts A).toArray] W fun e w' => e = .returned (.int .i64 (cntF A : Nat)) ∧ Below W.heap.size W w') := fun W _ => rcount_any HH.out.2.2.1 W
  have eqb := fun w => eq_bloom LU.out LU.out w
  rw [decide_eq_true rfl] at eqb
  have ww : (inF A B == inF A B) = true := beq_self_eq_true _
  have cc : (((cntF A : Nat) : Int) == ((cntF A : Nat) : Int)) = true := beq_self_eq_true _
  generalize inF A B = iw at *
  generalize ((cntF A : Nat) : Int) = ct at *
  generalize byts (orA zF FS) = UB at *
  have icA := size_bloom HH.out.2.2.1
  have icB := size_bloom HH.out.2.2.2
  have ldA : ∀ w', (∃ p : Regrown, w' = grow (redrawn w3 p.d) p.os) → w'.rangeAt w.heap.size 0 (byts A) := by rintro w' ⟨p, rfl⟩; exact (S3.out.2.1.grown _ _).range
  have ldB : ∀ w', (∃ p : Regrown, w' = grow (redrawn w3 p.d) p.os) → w'.rangeAt bB 0 (byts B) := by rintro w' ⟨p, rfl⟩; exact (S3.out.2.2.1.grown _ _).range
  have CC : ∀ d os, Below w3.heap.size w3 (grow (redrawn w3 d) os) := fun d os => below_regrown w3 d os
  try simp only [Act.put]
  refine wp_region_quiet_below (by kernel_rfl) (by kernel_rfl) ?_
  repeat
    first
      | go_big_quiet_skip
      | (go_big_quiet_want; go_big_quiet_op; go_big_quiet_on)
      | (go_big_quiet_want; refine quiet_load_mid 24 _ rfl w.heap.size 0 rfl (byts A) _ ldA Try.underlying24 rfl icA ?_; simp only [Act.put, List.setIfInBounds_toArray, List.set_cons_succ, List.set_cons_zero]; go_big_quiet_on)
      | (go_big_quiet_want; refine quiet_load_mid 24 _ rfl bB 0 rfl (byts B) _ ldB Try.underlying24 rfl icB ?_; simp only [Act.put, List.setIfInBounds_toArray, List.set_cons_succ, List.set_cons_zero]; go_big_quiet_on)
      | (go_big_quiet_want
         go_big_quiet_op
         apply Exists.intro
         refine ⟨fun p => ?_, ?_⟩
         · (first | (go_at_call 4; with_reducible exact Calls.regrown_of (C1.out (grow (redrawn w3 p.d) p.os) (CC p.d p.os))) | (go_at_call 5; with_reducible exact Calls.regrown_of (C2.out (grow (redrawn w3 p.d) p.os) (CC p.d p.os))) | (go_at_call 6; with_reducible exact Calls.regrown_of (C3.out (grow (redrawn w3 p.d) p.os) (CC p.d p.os))) | (go_at_call 7; with_reducible exact Calls.regrown_of (C4.out (grow (redrawn w3 p.d) p.os) (CC p.d p.os))) | (go_at_call 8; with_reducible exact Calls.regrown_of (C5.out (grow (redrawn w3 p.d) p.os) (CC p.d p.os))) | (go_at_call 9; with_reducible exact Calls.regrown_of (C6.out (grow (redrawn w3 p.d) p.os) (CC p.d p.os))))
         go_big_quiet_on)
  refine wpQuiet_nil ?_
  rintro w4 ⟨r, rfl⟩
  have B4 : Hid (Below w3.heap.size w3 (grow (redrawn w3 r.d) r.os)) := below_regrown w3 r.d r.os
  generalize grow (redrawn w3 r.d) r.os = w4 at *
  have S4 : Hid (Below w.heap.size w w4 ∧ Blm w4 w.heap.size A ∧ Blm w4 bB B ∧ Lst w4 g FS) := ⟨WB.out _ B4.out, S3.out.2.1.keep B4.out, S3.out.2.2.1.keep B4.out, S3.out.2.2.2.keep B4.out⟩
  clear ldA ldB CC C1 C2 C3 C4 C5 C6 eqb S3 WB B4
  go_wp2_with fail
  clear ww cc e256
  go_loopg [9] n (fun k iv wr => ∃ i : Nat, k = n - i ∧ i ≤ n ∧ iv = .int .i64 i ∧ Below w.heap.size w wr ∧ Blm wr w.heap.size A ∧ Blm wr bB B ∧ Lst wr g FS)
  case atStart => exact ⟨0, rfl, Nat.zero_le _, rfl, S4.out⟩
  case round =>
    clear S4
    obtain ⟨i, hk, hi, rfl, Q0, Q1, Q2, Q3⟩ := hrel
    have HK : Hid (gk = n - i) := hk
    have SR : Hid (Below w.heap.size w wr ∧ Blm wr w.heap.size A ∧ Blm wr bB B ∧ Lst wr g FS) := ⟨Q0, Q1, Q2, Q3⟩
    clear hk Q0 Q1 Q2 Q3
    by_cases h8 : i = n
    · subst h8
      clear HK
      have rA := SR.out.2.1.range
      go_wp2_with (refine wpList_load_mid rfl 24 _ rfl w.heap.size 0 rfl (byts A) _ rA Try.underlying24 rfl icA ?_)
      clear rA
      refine (bits_any HH.out.2.2.1 wr).mono ?_
      rintro e w5 ⟨v1, rfl, O1, hb⟩
      have S5 : Hid (Below w.heap.size w w5 ∧ Blm w5 w.heap.size A ∧ Blm w5 bB B ∧ Lst w5 g FS ∧ OwI wr.heap.size w5 v1 (natI (bitsF A)) ∧ (w.heap.size < wr.heap.size ∧ bB < wr.heap.size ∧ g < wr.heap.size) ∧ wr.heap.size ≤ w5.heap.size) := ⟨SR.out.1.trans (hb.mono SR.out.1.size), SR.out.2.1.keep hb, SR.out.2.2.1.keep hb, SR.out.2.2.2.keep hb, O1, ⟨SR.out.2.1.lt, SR.out.2.2.1.lt, SR.out.2.2.2.2.2⟩, hb.size⟩
      clear O1 hb SR
      have rB := S5.out.2.2.1.range
      go_wp2_with (refine wpList_load_mid rfl 24 _ rfl bB 0 rfl (byts B) _ rB Try.underlying24 rfl icB ?_)
      clear rB
      refine (bits_any HH.out.2.2.2 w5).mono ?_
      rintro e w6 ⟨v9, rfl, _, hb⟩
      have S6 : Hid (Below w.heap.size w w6 ∧ Blm w6 w.heap.size A ∧ Blm w6 bB B ∧ Lst w6 g FS ∧ OwI wr.heap.size w6 v1 (natI (bitsF A)) ∧ (w.heap.size < wr.heap.size ∧ bB < wr.heap.size ∧ g < wr.heap.size) ∧ wr.heap.size ≤ w6.heap.size) := ⟨S5.out.1.trans (hb.mono S5.out.1.size), S5.out.2.1.keep hb, S5.out.2.2.1.keep hb, S5.out.2.2.2.1.keep hb, S5.out.2.2.2.2.1.keep hb, S5.out.2.2.2.2.2.1, Nat.le_trans S5.out.2.2.2.2.2.2 hb.size⟩
      clear hb S5
      have rA := S6.out.2.1.range
      go_wp2_with (refine wpList_load_mid rfl 24 _ rfl w.heap.size 0 rfl (byts A) _ rA Try.underlying24 rfl icA ?_)
      clear rA
      refine (bits_any HH.out.2.2.1 w6).mono ?_
      rintro e w7 ⟨v2, rfl, O2, hb⟩
      have Z7 : Hid (w6.heap.size ≤ w7.heap.size) := hb.size
      have S7 : Hid (Below w.heap.size w w7 ∧ Blm w7 w.heap.size A ∧ Blm w7 bB B ∧ Lst w7 g FS ∧ OwI wr.heap.size w7 v1 (natI (bitsF A)) ∧ (w.heap.size < wr.heap.size ∧ bB < wr.heap.size ∧ g < wr.heap.size) ∧ wr.heap.size ≤ w7.heap.size ∧ OwI w6.heap.size w7 v2 (natI (bitsF A)) ∧ (∀ k, v1.ownBlock = some k → k < w6.heap.size)) := ⟨S6.out.1.trans (hb.mono S6.out.1.size), S6.out.2.1.keep hb, S6.out.2.2.1.keep hb, S6.out.2.2.2.1.keep hb, S6.out.2.2.2.2.1.keep hb, S6.out.2.2.2.2.2.1, Nat.le_trans S6.out.2.2.2.2.2.2 hb.size, O2, fun k hk => (S6.out.2.2.2.2.1.row.lt k hk).2⟩
      clear hb S6 O2
      have rA := S7.out.2.1.range
      go_wp2_with (refine wpList_load_mid rfl 24 _ rfl w.heap.size 0 rfl (byts A) _ rA Try.underlying24 rfl icA ?_)
      clear rA
      refine (rbits_any HH.out.2.2.1 w7).mono ?_
      rintro e w8 ⟨v3, rfl, O3, hb⟩
      have S8 : Hid (Below w.heap.size w w8 ∧ Blm w8 w.heap.size A ∧ Blm w8 bB B ∧ Lst w8 g FS ∧ OwI wr.heap.size w8 v1 (natI (bitsF A)) ∧ (w.heap.size < wr.heap.size ∧ bB < wr.heap.size ∧ g < wr.heap.size) ∧ wr.heap.size ≤ w8.heap.size ∧ OwI w6.heap.size w8 v2 (natI (bitsF A)) ∧ (∀ k, v1.ownBlock = some k → k < w6.heap.size) ∧ OwI w7.heap.size w8 v3 (natI (bitsF A))) := ⟨S7.out.1.trans (hb.mono S7.out.1.size), S7.out.2.1.keep hb, S7.out.2.2.1.keep hb, S7.out.2.2.2.1.keep hb, S7.out.2.2.2.2.1.keep hb, S7.out.2.2.2.2.2.1, Nat.le_trans S7.out.2.2.2.2.2.2.1 hb.size, S7.out.2.2.2.2.2.2.2.1.keep hb, S7.out.2.2.2.2.2.2.2.2, O3⟩
      clear hb S7 O3
      rename_i K1 h1 K2 h2
      have H1 : Hid _ := h1
      clear h1
      go_wp2
      refine H1.out _ _ ?_
      exact (sets_tail HH.out.2.2.1 EN.out HH.out.2.1 rfl (by rw [natI_len]; exact bitsT_len A 2048) w w8 S8.out.1 (by have := S8.out.1.size; have := S8.out.2.2.2.2.2.1.1; have := S8.out.2.2.2.2.2.2.1; omega) S8.out.2.1 S8.out.2.2.2.1 S8.out.2.2.2.2.1 S8.out.2.2.2.2.2.2.2.1 S8.out.2.2.2.2.2.2.2.2.2 (Nat.le_of_lt S8.out.2.2.2.2.2.1.1) S8.out.2.2.2.2.2.1.1 S8.out.2.2.2.2.2.2.2.2.1 Z7.out S8.out.2.2.2.2.2.2.1 _ _ _ _ _ _ _ _ _ _ _ _ _ _ _ _ _ _ _ _ _ _ _ _ _ _ _ _ _ _ _ _ _ _ _ _ _ _ _ _ _ _ _ _ _ _ _ _ _ _ _ _ _ _ _ _ _ _ _ _ _).out rfl
    · have hlt : i < n := by omega
      have hlt' : (i : Int) < (n : Int) := by omega
      obtain rfl : a = some ⟨bp, op, none⟩ := by
        rcases HH.out.1 with e | e
        · have := EN.out; rw [e] at this; simp at this; omega
        · exact e
      have hF : i < FS.length := by rw [EN.out]; exact hlt
      have r1 : ∀ w', (∃ p : Regrown, w' = grow (redrawn wr p.d) p.os) → w'.rangeAt g (0 + i * 256) (byts (FS.getD i zF)) := by rintro w' ⟨p, rfl⟩; exact ((SR.out.2.2.2.keep (below_regrown wr p.d p.os)).1 i hF).2
      have r2 : ∀ w', (∃ p : Regrown, w' = grow (redrawn wr p.d) p.os) → w'.rangeAt bp (op + i * 256) (byts (FS.getD i zF)) := by rintro w' ⟨p, rfl⟩; exact (KL.out _ (SR.out.1.trans ((below_regrown wr p.d p.os).mono SR.out.1.size)) i hF).2
      have lF : (FS.getD i zF).length = 256 := (SR.out.2.2.2.1 i hF).1
      have icF := size_bloom lF
      have eqb := fun w => eq_bloom lF lF w
      rw [decide_eq_true rfl] at eqb
      have e256 : ((i : Int) * 256).toNat = i * 256 := by omega
      rw [Nat.zero_add] at r1
      clear lF hF h8
      generalize byts (FS.getD i zF) = FB at *
      go_wp2_with fail
      try simp only [Act.put]
      refine wp_region_quiet_below (by kernel_rfl) (by kernel_rfl) ?_
      repeat
        first
          | go_big_quiet_skip
          | (go_big_quiet_want; go_big_quiet_op; go_big_quiet_on)
          | (go_big_quiet_want; refine quiet_load_mid 24 _ rfl g (i * 256) rfl FB _ r1 Try.underlying24 rfl icF ?_; simp only [Act.put, List.setIfInBounds_toArray, List.set_cons_succ, List.set_cons_zero]; go_big_quiet_on)
          | (go_big_quiet_want; refine quiet_load_mid 24 _ rfl bp (op + i * 256) rfl FB _ r2 Try.underlying24 rfl icF ?_; simp only [Act.put, List.setIfInBounds_toArray, List.set_cons_succ, List.set_cons_zero]; go_big_quiet_on)
      refine wpQuiet_nil ?_
      rintro w6 ⟨r, rfl⟩
      have B6 : Hid (Below wr.heap.size wr (grow (redrawn wr r.d) r.os)) := below_regrown wr r.d r.os
      generalize grow (redrawn wr r.d) r.os = w6 at *
      have S6 : Hid (Below w.heap.size w w6 ∧ Blm w6 w.heap.size A ∧ Blm w6 bB B ∧ Lst w6 g FS) := ⟨SR.out.1.trans (B6.out.mono SR.out.1.size), SR.out.2.1.keep B6.out, SR.out.2.2.1.keep B6.out, SR.out.2.2.2.keep B6.out⟩
      clear r1 r2 eqb SR B6
      go_wp2
      go_roundg (n - (i + 1))
      case measure => have := HK.out; omega
      case rel => exact ⟨i + 1, rfl, by omega, by go_num, S6.out⟩
end Go.Proofs.Ytdehcohfcbopkaa
