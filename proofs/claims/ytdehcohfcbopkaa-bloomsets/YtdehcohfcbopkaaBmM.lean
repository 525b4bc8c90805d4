import Derived.Test.YtdehcohfcbopkaaBmK
/- The document's Union. -/
namespace Go.Proofs.Ytdehcohfcbopkaa
open Go.RowKit Go.Sort

set_option maxRecDepth 100000 in
set_option maxHeartbeats 8000000 in
theorem runion_any {a : Option Addr} {bp op cp : Nat} {FS : List (List (BitVec 8))} (hn : FS.length < 1099511627776) (ha : FS = [] ∨ a = some ⟨bp, op, none⟩) (w : World) (hL : Fls w bp op FS) :
    Calls Try.prog 5 #[.slice a FS.length cp] w fun e w' => e = .returned (.agg (byts (orA zF FS)).toArray) ∧ Below w.heap.size w w' := by
  have HH : Hid ((FS = [] ∨ a = some ⟨bp, op, none⟩) ∧ (∀ k, k < FS.length → (FS.getD k zF).length = 256)) := ⟨ha, fun k hk => (hL k hk).1⟩
  have KL : Hid (∀ W, Below w.heap.size w W → Fls W bp op FS) := fun W B => hL.keep B
  have n1 : (FS.length : Int) < 1099511627776 := by omega
  have LA : Hid (∀ i, (orA zF (FS.take i)).length = 256) := fun i => orA_len _ zF_len fun k hk => by
    rw [List.length_take] at hk
    have e : (FS.take i).getD k zF = FS.getD k zF := by rw [List.getD, List.getElem?_take, if_pos (by omega), ← List.getD]
    rw [e]; exact (hL k (by omega)).1
  clear hn ha hL
  go_enter Try.func5, Try.ntmps5
  go_wp2_with (refine wpList_alloc_zero rfl 24 rfl _ zero_bloom ?_)
  refine wp_world (fun W => Below w.heap.size w W ∧ Blm W w.heap.size zF ∧ Blm W (w.heap.size + 1) zF) ⟨((Below.refl _ _).alloc (Nat.le_refl _) _).alloc (by simp) _, (Blm.new zF_len _ rfl).alloc _, Blm.new zF_len _ (by simp)⟩ ?_
  rintro W ⟨B, hR, hF⟩
  have o1 : w.heap.size ≤ w.heap.size + 1 := by omega
  have c1 : w.heap.size ≠ w.heap.size + 1 := by omega
  generalize w.heap.size + 1 = bf at *
  go_loopg [4] FS.length (fun k iv wr => ∃ i : Nat, k = FS.length - i ∧ i ≤ FS.length ∧ iv = .int .i64 i ∧ Below w.heap.size w wr ∧ Blm wr w.heap.size zF ∧ Blm wr bf (orA zF (FS.take i)))
  case atStart => exact ⟨0, rfl, Nat.zero_le _, rfl, B, hR, hF⟩
  case round =>
    clear B hR hF
    obtain ⟨i, hk, hi, rfl, B, hR, hF⟩ := hrel
    have HK : Hid (gk = FS.length - i) := hk
    have SR : Hid (Below w.heap.size w wr ∧ Blm wr w.heap.size zF ∧ Blm wr bf (orA zF (FS.take i))) := ⟨B, hR, hF⟩
    clear hk B hR hF
    by_cases h8 : i = FS.length
    · subst h8
      have hS := SR.out.2.2
      rw [List.take_length] at hS
      have rb := hS.range
      have ic := size_bloom hS.1
      have ia := size_bloomA hS.1
      have oc := one_byts (orA zF FS)
      obtain ⟨N, hN⟩ : ∃ N, N = byts (orA zF FS) := ⟨_, rfl⟩
      have HN : Hid (N = byts (orA zF FS) ∧ N.length = 256) := ⟨hN, by rw [hN, byts_len]; exact hS.1⟩
      rw [← hN] at rb ic ia oc
      have sz : N.toArray.size = 256 := by simp [HN.out.2]
      have tr : wr.there w.heap.size 0 N.toArray.size := by rw [sz]; exact SR.out.2.1.there
      have B' := SR.out.1
      clear SR hN hS
      go_wp2_with (first | refine wpList_load_mid rfl 24 _ rfl bf 0 rfl N _ rb Try.underlying24 rfl ic ?_ | refine wpList_store_mid rfl 24 _ _ rfl w.heap.size 0 _ rfl rfl tr ia oc ?_)
      have ld := run_loadVar_mid (P := Try.prog) (wr.setCells w.heap.size 0 N) w.heap.size 0 24 N _ (World.rangeAt_setCells_same _ _ _ _ (by simpa using tr)) Try.underlying24 rfl ic
      refine bodyPost_ret (v := .agg N.toArray) ?_ rfl ⟨by rw [HN.out.1], below_setCells (Nat.le_refl _) N 0 wr B'⟩
      simp [results, Try.results5, Act.put, asAddr, ld]
    · have hlt : i < FS.length := by omega
      have hlt' : (i : Int) < (FS.length : Int) := by omega
      obtain rfl : a = some ⟨bp, op, none⟩ := by
        rcases HH.out.1 with e | e
        · rw [e] at hlt; simp at hlt
        · exact e
      obtain ⟨l0, _⟩ := KL.out wr SR.out.1 i hlt
      have RG : Hid (∀ W, Below w.heap.size w W → W.rangeAt bp (op + i * 256) (byts (FS.getD i zF))) := fun W B => (KL.out W B i hlt).2
      have NX : Hid (orA zF (FS.take (i + 1)) = orF (orA zF (FS.take i)) (FS.getD i zF)) := orA_next hlt zF
      have LL : Hid ((FS.getD i zF).length = 256 ∧ (orA zF (FS.take i)).length = 256) := ⟨l0, LA.out i⟩
      have icF := size_bloom l0
      clear l0 h8
      generalize FS.getD i zF = F at *
      generalize orA zF (FS.take i) = A at *
      have e256 : ((i : Int) * 256).toNat = i * 256 := by omega
      have HLT : Hid (i < FS.length ∧ i ≤ FS.length) := ⟨hlt, hi⟩
      go_wp2
      go_loopg [5] 2048 (fun k jv wq => ∃ j : Nat, k = 2048 - j ∧ j ≤ 2048 ∧ jv = .int .i64 j ∧ Below w.heap.size w wq ∧ Blm wq w.heap.size zF ∧ Blm wq bf (setsF A (bitsT F j)))
      case atStart => exact ⟨0, rfl, by decide, rfl, SR.out⟩
      case round =>
        clear SR
        obtain ⟨j, hk, hj, rfl, B, hR, hF⟩ := hrel
        have HJ : Hid (gk = 2048 - j) := hk
        have SQ : Hid (Below w.heap.size w wr ∧ Blm wr w.heap.size zF ∧ Blm wr bf (setsF A (bitsT F j))) := ⟨B, hR, hF⟩
        clear hk B hR hF
        by_cases h8 : j = 2048
        · subst h8
          have N6 : Hid (Below w.heap.size w wr ∧ Blm wr w.heap.size zF ∧ Blm wr bf (orA zF (FS.take (i + 1)))) := ⟨SQ.out.1, SQ.out.2.1, by rw [NX.out, ← sets_or LL.out.2 LL.out.1]; exact SQ.out.2.2⟩
          clear SQ
          go_wp2
          go_roundg (FS.length - (i + 1))
          case measure => have := HK.out; have := HLT.out; omega
          case rel => exact ⟨i + 1, rfl, by have := HLT.out; omega, by go_num, N6.out⟩
        · have hl2 : (j : Int) < 2048 := by omega
          have r0 := RG.out wr SQ.out.1
          have st := rbit_any (x := (j : Int)) LL.out.1 (by omega) hl2 wr
          rw [Int.toNat_natCast] at st
          have SN := sets_next A F j
          have lS : (setsF A (bitsT F j)).length = 256 := setsF_len _ LL.out.2
          have HJ2 : Hid (j < 2048) := show j < 2048 by omega
          clear h8
          generalize setsF A (bitsT F j) = G at *
          by_cases ht : tF F j = true
          · rw [ht] at st
            rw [if_pos ht] at SN
            have SN' : Hid (setsF A (bitsT F (j + 1)) = setF G j) := SN
            clear ht SN
            go_wp2_with (refine wpList_load_mid rfl 24 _ rfl bp (op + i * 256) rfl (byts F) _ r0 Try.underlying24 rfl icF ?_)
            refine st.mono ?_
            clear st r0
            rintro e w3 ⟨rfl, hb⟩
            have S3 : Hid (Below w.heap.size w w3 ∧ Blm w3 w.heap.size zF ∧ Blm w3 bf G) := ⟨SQ.out.1.trans (hb.mono SQ.out.1.size), SQ.out.2.1.keep hb, SQ.out.2.2.keep hb⟩
            clear hb SQ
            have rG := S3.out.2.2.range
            have icG := size_bloom lS
            go_wp2_with (refine wpList_load_mid rfl 24 _ rfl bf 0 rfl (byts G) _ rG Try.underlying24 rfl icG ?_)
            have st := rset_any (x := (j : Int)) lS (by omega) hl2 w3
            rw [Int.toNat_natCast] at st
            refine st.mono ?_
            clear st rG
            rintro e w4 ⟨rfl, hb⟩
            have S4 : Hid (Below w.heap.size w w4 ∧ Blm w4 w.heap.size zF ∧ Blm w4 bf G) := ⟨S3.out.1.trans (hb.mono S3.out.1.size), S3.out.2.1.keep hb, S3.out.2.2.keep hb⟩
            clear hb S3
            have lH : (setF G j).length = 256 := by rw [setF_len]; exact lS
            have ia := size_bloomA lH
            have oc := one_byts (setF G j)
            have sz : (byts (setF G j)).toArray.size = 256 := by rw [List.size_toArray, byts_len, lH]
            have tr : w4.there bf 0 (byts (setF G j)).toArray.size := by rw [sz]; exact S4.out.2.2.there
            have N5 : Hid (Below w.heap.size w (w4.setCells bf 0 (byts (setF G j))) ∧ Blm (w4.setCells bf 0 (byts (setF G j))) w.heap.size zF ∧ Blm (w4.setCells bf 0 (byts (setF G j))) bf (setsF A (bitsT F (j + 1)))) := by
              rw [SN'.out]
              exact ⟨below_setCells o1 _ 0 w4 S4.out.1, S4.out.2.1.otherCells (Ne.symm c1) _, S4.out.2.2.stored lH⟩
            clear S4 sz lH
            generalize setF G j = H at *
            go_wp2_with (refine wpList_store_mid rfl 24 _ _ rfl bf 0 _ rfl rfl tr ia oc ?_)
            go_roundg (2048 - (j + 1))
            case measure => have := HJ.out; omega
            case rel => exact ⟨j + 1, rfl, by omega, by go_num, N5.out⟩
          · rw [Bool.eq_false_iff.2 ht] at st
            rw [if_neg ht] at SN
            have SN' : Hid (setsF A (bitsT F (j + 1)) = G) := SN
            clear ht SN
            go_wp2_with (refine wpList_load_mid rfl 24 _ rfl bp (op + i * 256) rfl (byts F) _ r0 Try.underlying24 rfl icF ?_)
            refine st.mono ?_
            clear st r0
            rintro e w3 ⟨rfl, hb⟩
            have S3 : Hid (Below w.heap.size w w3 ∧ Blm w3 w.heap.size zF ∧ Blm w3 bf (setsF A (bitsT F (j + 1)))) := by
              rw [SN'.out]
              exact ⟨SQ.out.1.trans (hb.mono SQ.out.1.size), SQ.out.2.1.keep hb, SQ.out.2.2.keep hb⟩
            clear hb SQ
            go_wp2
            go_roundg (2048 - (j + 1))
            case measure => have := HJ.out; omega
            case rel => exact ⟨j + 1, rfl, by omega, by go_num, S3.out⟩
end Go.Proofs.Ytdehcohfcbopkaa
