import Derived.Test.YtdehcohfcbopkaaBmY
import Derived.Test.YtdehcohfcbopkaaBmJ
import Derived.Test.YtdehcohfcbopkaaBmB
/- The document's Within, Bits, Count, Union. -/
namespace Go.Proofs.Ytdehcohfcbopkaa
open Go.RowKit Go.Sort

theorem inF_bits {A B : List (BitVec 8)} (hA : A.length = 256) (hB : B.length = 256) : inF A B = true ↔ ∀ j, j < 2048 → tF A j = true → tF B j = true := by
  rw [inF, decide_eq_true_eq]
  constructor
  · intro h j _ hj
    rw [← h, tF_or hA hB, hj]; rfl
  · intro h
    refine ext_F (orF_len hA hB) hB fun j hj => ?_
    rw [tF_or hA hB]
    cases e : tF A j
    · rfl
    · rw [h j hj e]; rfl
theorem sets_next (A F : List (BitVec 8)) (j : Nat) : setsF A (bitsT F (j + 1)) = if tF F j = true then setF (setsF A (bitsT F j)) j else setsF A (bitsT F j) := by
  rw [bitsT_next]
  by_cases h : tF F j = true
  · rw [if_pos h, if_pos h, setsF, List.foldl_append]; rfl
  · rw [if_neg h, if_neg h, List.append_nil]
theorem sets_or {A F : List (BitVec 8)} (hA : A.length = 256) (hF : F.length = 256) : setsF A (bitsF F) = orF A F := by
  refine ext_F (setsF_len _ hA) (orF_len hA hF) fun j hj => ?_
  have hm : ∀ x ∈ bitsF F, x < 2048 := fun x hx => bitsF_lt hx
  rw [tF_sets _ hA hm j hj, tF_or hA hF]
  have h : decide (j ∈ bitsF F) = tF F j := by
    by_cases e : tF F j = true
    · rw [e, decide_eq_true (show j ∈ bitsF F from List.mem_filter.2 ⟨by simpa using hj, e⟩)]
    · rw [Bool.eq_false_iff.2 e, decide_eq_false (show ¬ j ∈ bitsF F from fun h => e (List.mem_filter.1 h).2)]
  rw [h]

set_option maxRecDepth 100000 in
set_option maxHeartbeats 8000000 in
theorem rwithin_any {A B : List (BitVec 8)} (hA : A.length = 256) (hB : B.length = 256) (w : World) :
    Calls Try.prog 7 #[.agg (byts A).toArray, .agg (byts B).toArray] w fun e w' => e = .returned (.bool (inF A B)) ∧ Below w.heap.size w w' := by
  have IW : Hid (inF A B = true ↔ ∀ j, j < 2048 → tF A j = true → tF B j = true) := inF_bits hA hB
  have HL : Hid (A.length = 256 ∧ B.length = 256) := ⟨hA, hB⟩
  have icA := size_bloom hA
  have icB := size_bloom hB
  clear hA hB
  go_enter Try.func7, Try.ntmps7
  go_wp2
  refine wp_world (fun W => Below w.heap.size w W ∧ Blm W w.heap.size A ∧ Blm W (w.heap.size + 1) B) ⟨((Below.refl _ _).alloc (Nat.le_refl _) _).alloc (by simp) _, (Blm.new HL.out.1 _ rfl).alloc _, Blm.new HL.out.2 _ (by simp)⟩ ?_
  rintro W ⟨B0, M0, M1⟩
  have S0 : Hid (Below w.heap.size w W ∧ Blm W w.heap.size A ∧ Blm W (w.heap.size + 1) B) := ⟨B0, M0, M1⟩
  clear B0 M0 M1
  generalize w.heap.size + 1 = bb at *
  generalize e0 : w.heap.size = ba at *
  go_loopg [5] 2048 (fun k iv wr => ∃ i : Nat, k = 2048 - i ∧ i ≤ 2048 ∧ iv = .int .i64 i ∧ (∀ j, j < i → tF A j = true → tF B j = true) ∧ Below ba w wr ∧ Blm wr ba A ∧ Blm wr bb B)
  case atStart => exact ⟨0, rfl, by decide, rfl, fun k hk => absurd hk (Nat.not_lt_zero _), S0.out⟩
  case round =>
    clear S0
    obtain ⟨i, hk, hi, rfl, ev, B0, MA, MB⟩ := hrel
    have HK : Hid (gk = 2048 - i) := hk
    have EV : Hid (∀ j, j < i → tF A j = true → tF B j = true) := ev
    have SR : Hid (Below ba w wr ∧ Blm wr ba A ∧ Blm wr bb B) := ⟨B0, MA, MB⟩
    clear hk ev B0 MA MB
    by_cases h8 : i = 2048
    · subst h8
      have E : Hid (inF A B = true) := IW.out.2 EV.out
      go_wp2
      simp [bodyPost, results, Try.results7, go_sem]
      exact ⟨E.out, e0 ▸ SR.out.1⟩
    · have hlt : (i : Int) < 2048 := by omega
      have H3 : Hid (i < 2048) := show i < 2048 by omega
      have rA := SR.out.2.1.range
      have st := rbit_any (x := (i : Int)) HL.out.1 (by omega) hlt wr
      rw [Int.toNat_natCast] at st
      clear h8
      by_cases ha : tF A i = true
      · rw [ha] at st
        go_wp2_with (refine wpList_load_mid rfl 24 _ rfl ba 0 rfl (byts A) _ rA Try.underlying24 rfl icA ?_)
        refine st.mono ?_
        clear st rA
        rintro e w3 ⟨rfl, hb⟩
        have S3 : Hid (Below ba w w3 ∧ Blm w3 ba A ∧ Blm w3 bb B) := ⟨SR.out.1.trans (hb.mono (e0 ▸ SR.out.1.size)), SR.out.2.1.keep hb, SR.out.2.2.keep hb⟩
        clear hb SR
        have rB := S3.out.2.2.range
        have st := rbit_any (x := (i : Int)) HL.out.2 (by omega) hlt w3
        rw [Int.toNat_natCast] at st
        by_cases hb' : tF B i = true
        · rw [hb'] at st
          have N1 : Hid (∀ j, j < i + 1 → tF A j = true → tF B j = true) := fun j hj h => by
            by_cases e : j = i
            · rw [e]; exact hb'
            · exact EV.out j (by omega) h
          clear ha hb'
          go_wp2_with fail
          refine wp_load_mid 24 _ rfl bb 0 rfl (byts B) _ rB Try.underlying24 rfl icB ?_
          go_wp2_with fail
          refine st.mono ?_
          clear st rB
          rintro e w4 ⟨rfl, hb⟩
          have S4 : Hid (Below ba w w4 ∧ Blm w4 ba A ∧ Blm w4 bb B) := ⟨S3.out.1.trans (hb.mono (e0 ▸ S3.out.1.size)), S3.out.2.1.keep hb, S3.out.2.2.keep hb⟩
          clear hb S3
          go_wp2
          go_roundg (2048 - (i + 1))
          case measure => have := HK.out; omega
          case rel => exact ⟨i + 1, rfl, by omega, by go_num, N1.out, S4.out⟩
        · have E : Hid (inF A B = false) := by
            have h : inF A B = false := Bool.eq_false_iff.2 fun h => hb' (IW.out.1 h i H3.out ha)
            exact h
          rw [Bool.eq_false_iff.2 hb'] at st
          clear ha hb'
          go_wp2_with fail
          refine wp_load_mid 24 _ rfl bb 0 rfl (byts B) _ rB Try.underlying24 rfl icB ?_
          go_wp2_with fail
          refine st.mono ?_
          clear st rB
          rintro e w4 ⟨rfl, hb⟩
          have S4 : Hid (Below ba w w4) := S3.out.1.trans (hb.mono (e0 ▸ S3.out.1.size))
          clear hb S3
          go_wp2
          simp [bodyPost, results, Try.results7, go_sem]
          exact ⟨E.out, e0 ▸ S4.out⟩
      · rw [Bool.eq_false_iff.2 ha] at st
        have N1 : Hid (∀ j, j < i + 1 → tF A j = true → tF B j = true) := fun j hj h => by
          by_cases e : j = i
          · rw [e] at h; exact absurd h ha
          · exact EV.out j (by omega) h
        clear ha
        go_wp2_with (refine wpList_load_mid rfl 24 _ rfl ba 0 rfl (byts A) _ rA Try.underlying24 rfl icA ?_)
        refine st.mono ?_
        clear st rA
        rintro e w3 ⟨rfl, hb⟩
        have S3 : Hid (Below ba w w3 ∧ Blm w3 ba A ∧ Blm w3 bb B) := ⟨SR.out.1.trans (hb.mono (e0 ▸ SR.out.1.size)), SR.out.2.1.keep hb, SR.out.2.2.keep hb⟩
        clear hb SR
        go_wp2
        go_roundg (2048 - (i + 1))
        case measure => have := HK.out; omega
        case rel => exact ⟨i + 1, rfl, by omega, by go_num, N1.out, S3.out⟩

set_option maxRecDepth 100000 in
set_option maxHeartbeats 8000000 in
theorem rbits_any {F : List (BitVec 8)} (hF : F.length = 256) (w : World) :
    Calls Try.prog 11 #[.agg (byts F).toArray] w fun e w' => ∃ v, e = .returned v ∧ OwI w.heap.size w' v (natI (bitsF F)) ∧ Below w.heap.size w w' := by
  have HF : Hid (F.length = 256) := hF
  have ic := size_bloom hF
  obtain ⟨i0, hi, hz0, hz1, hz2⟩ := info_parts info_int
  clear hF
  go_enter Try.func11, Try.ntmps11
  go_wp2
  refine wp_world (fun W => Below w.heap.size w W ∧ Blm W w.heap.size F) ⟨(Below.refl _ _).alloc (Nat.le_refl _) _, Blm.new HF.out _ rfl⟩ ?_
  rintro w1 ⟨B0, M0⟩
  have S2 : Hid (Below w.heap.size w w1 ∧ Blm w1 w.heap.size F ∧ w.heap.size < w1.heap.size) := ⟨B0, M0, M0.lt⟩
  clear B0 M0
  go_loopg [3, 4] 2048 (fun k lv iv wr => ∃ i : Nat, k = 2048 - i ∧ i ≤ 2048 ∧ iv = .int .i64 i ∧ Below w.heap.size w wr ∧ Blm wr w.heap.size F ∧ OwI w1.heap.size wr lv (natI (bitsT F i)) ∧ w1.heap.size ≤ wr.heap.size)
  case atStart => exact ⟨0, rfl, by decide, rfl, S2.out.1, S2.out.2.1, ⟨rfl, .inl ⟨rfl, rfl⟩⟩, Nat.le_refl _⟩
  case round =>
    have C2 : Hid (w.heap.size < w1.heap.size) := S2.out.2.2
    clear S2
    obtain ⟨i, hk, hi9, rfl, B, hM, hO, hz⟩ := hrel
    have HK : Hid (gk = 2048 - i) := hk
    have SR : Hid (Below w.heap.size w wr ∧ Blm wr w.heap.size F ∧ OwI w1.heap.size wr u3 (natI (bitsT F i)) ∧ w1.heap.size ≤ wr.heap.size) := ⟨B, hM, hO, hz⟩
    clear hk B hM hO hz
    by_cases h8 : i = 2048
    · subst h8
      go_wp2
      go_ret
      refine ⟨_, rfl, ?_, SR.out.1⟩
      have h := SR.out.2.2.1
      exact ⟨h.1, by
        rcases h.2 with e | ⟨g, cap, cur, e1, e2, e3⟩
        · exact .inl e
        · exact .inr ⟨g, cap, cur, e1, Nat.le_trans (Nat.le_of_lt C2.out) e2, e3⟩⟩
    · have hlt : (i : Int) < 2048 := by omega
      have st := rbit_any (x := (i : Int)) HF.out (by omega) hlt wr
      have rF := SR.out.2.1.range
      rw [Int.toNat_natCast] at st
      have bn := bitsT_next F i
      have bl := bitsT_len F i
      have HL : Hid (i < 2048) := show i < 2048 by omega
      clear h8
      by_cases ht : tF F i = true
      · rw [ht] at st
        rw [if_pos ht] at bn
        have BN : Hid (natI (bitsT F (i + 1)) = natI (bitsT F i) ++ [(i : Int)] ∧ (natI (bitsT F i)).length ≤ i) := ⟨by rw [bn, natI, List.map_append]; rfl, by rw [natI_len]; exact bl⟩
        clear ht bn bl
        go_wp2_with (refine wpList_load_mid rfl 24 _ rfl w.heap.size 0 rfl (byts F) _ rF Try.underlying24 rfl ic ?_)
        refine st.mono ?_
        clear st rF
        rintro e w3 ⟨rfl, hb⟩
        have S3 : Hid (Below w.heap.size w w3 ∧ Blm w3 w.heap.size F ∧ OwI w1.heap.size w3 u3 (natI (bitsT F i)) ∧ w1.heap.size ≤ w3.heap.size) := ⟨SR.out.1.trans (hb.mono SR.out.1.size), SR.out.2.1.keep hb, SR.out.2.2.1.keep hb, Nat.le_trans SR.out.2.2.2 hb.size⟩
        clear hb SR
        go_wp2_with ((at_builtin; go_loud (refine wpList_append_own_at _ rfl _ _ 29 rfl w1.heap.size 3 i0 (.int .i64 0) 1 8 Try.underlying29 hi hz0 hz1 hz2 rfl (by decide) u3 _ _ rfl (S3.out.2.2.1.row.alloc _) ⟨w3.heap.size, 0, none⟩ 1 1 [.int .i64 (i : Int)] rfl rfl (cell_one_int _ _ _) (fun u hu => by simp at hu; subst hu; rfl) (by unfold maxLen; have := BN.out.2; have := HL.out; omega) (by have := BN.out.2; have := HL.out; omega) (by have := S3.out.2.2.2; simp; omega) ?_); intro v' w4 hown' hgrow4 hnil4 hblk4))
        have N4 : Hid (Below w.heap.size w w4 ∧ Blm w4 w.heap.size F ∧ OwI w1.heap.size w4 v' (natI (bitsT F (i + 1))) ∧ w1.heap.size ≤ w4.heap.size) := by
          have g1 : ∀ k, u3.ownBlock = some k → w1.heap.size ≤ k := fun k hk => (S3.out.2.2.1.row.lt k hk).1
          refine ⟨(S3.out.1.alloc S3.out.1.size _).grown hgrow4 (by have := S3.out.1.size; simp; omega) (fun k hk => Nat.le_trans (Nat.le_of_lt C2.out) (g1 k hk)), ?_, ?_, Nat.le_trans S3.out.2.2.2 (Nat.le_trans (by simp) hgrow4.size)⟩
          · have hA := S3.out.2.1.alloc (.cells #[.int .i64 (i : Int)] 3)
            have eb := hgrow4.block w.heap.size (by have := S3.out.2.1.lt; simp; omega) (fun h => by have := g1 _ h.symm; have := C2.out; omega)
            exact ⟨hA.1, fun j hj => by rw [World.cell?_of_block (w := w3.alloc (.cells #[.int .i64 (i : Int)] 3)) (a := ⟨w.heap.size, j, none⟩) eb]; exact hA.2.1 j hj, fun j hj => by rw [World.frozen?_of_block eb]; exact hA.2.2 j hj⟩
          · rw [BN.out.1, OwI, List.length_append, vals, List.map_append]
            exact hown'
        clear hown' hgrow4 hnil4 hblk4 S3
        go_roundg (2048 - (i + 1))
        case measure => have := HK.out; omega
        case rel => exact ⟨i + 1, rfl, by omega, by go_num, N4.out⟩
      · have ht' : tF F i = false := by simpa using ht
        rw [ht'] at st
        rw [if_neg ht, List.append_nil] at bn
        have BN : Hid (bitsT F (i + 1) = bitsT F i) := bn
        clear ht ht' bn bl
        go_wp2_with (refine wpList_load_mid rfl 24 _ rfl w.heap.size 0 rfl (byts F) _ rF Try.underlying24 rfl ic ?_)
        refine st.mono ?_
        clear st rF
        rintro e w3 ⟨rfl, hb⟩
        have N3 : Hid (Below w.heap.size w w3 ∧ Blm w3 w.heap.size F ∧ OwI w1.heap.size w3 u3 (natI (bitsT F (i + 1))) ∧ w1.heap.size ≤ w3.heap.size) := by
          rw [BN.out]
          exact ⟨SR.out.1.trans (hb.mono SR.out.1.size), SR.out.2.1.keep hb, SR.out.2.2.1.keep hb, Nat.le_trans SR.out.2.2.2 hb.size⟩
        clear hb SR
        go_wp2
        go_roundg (2048 - (i + 1))
        case measure => have := HK.out; omega
        case rel => exact ⟨i + 1, rfl, by omega, by go_num, N3.out⟩

set_option maxRecDepth 100000 in
set_option maxHeartbeats 4000000 in
theorem rcount_any {F : List (BitVec 8)} (hF : F.length = 256) (w : World) :
    Calls Try.prog 9 #[.agg (byts F).toArray] w fun e w' => e = .returned (.int .i64 (cntF F : Nat)) ∧ Below w.heap.size w w' := by
  have HF : Hid (F.length = 256) := hF
  have rb : ∀ t, (w.alloc (.cells (byts F).toArray t)).rangeAt w.heap.size 0 (byts F) := fun t => (Blm.new hF t rfl).range
  have ic := size_bloom hF
  clear hF
  go_enter Try.func9, Try.ntmps9
  go_wp2_with (refine wpList_load_mid rfl 24 _ rfl w.heap.size 0 rfl (byts F) _ (rb _) Try.underlying24 rfl ic ?_)
  clear rb ic
  refine calls_world (fun W => Below w.heap.size w W) ((Below.refl _ _).alloc (Nat.le_refl _) _) ?_
  intro W B0
  refine (rbits_any HF.out W).mono ?_
  rintro e w1 ⟨v, rfl, hO, hb⟩
  obtain ⟨a, g, c, rfl, _, _⟩ := hO.lies
  have S1 : Hid (Below w.heap.size w w1) := B0.trans (hb.mono B0.size)
  have EN : Hid ((natI (bitsF F)).length = cntF F) := natI_len _
  clear B0 hb hO
  rw [EN.out]
  go_wp2
  go_ret
  exact ⟨rfl, S1.out⟩
end Go.Proofs.Ytdehcohfcbopkaa
