import Derived.Test.YtlmlhiookoediaaRjD
/- Layer 7: the program's Join. -/
namespace Go.Proofs.Ytlmlhiookoediaa
open Go.RowKit Go.Sort

theorem own_empty (w : World) (m : Nat) (hm : m ≤ maxLen) : OwnB w.heap.size (w.alloc (.cells (madeCells #[Value.int .u8 0] m) 5)) (.slice (some ⟨w.heap.size, 0, none⟩) 0 m) [] := by
  refine ⟨rfl, .inr ⟨w.heap.size, m, madeCells #[Value.int .u8 0] m, rfl, Nat.le_refl _, ?_, Nat.zero_le _, hm, by simp [madeCells], rfl⟩⟩
  show (w.heap.push _)[w.heap.size]? = _
  simp
set_option maxRecDepth 100000 in
set_option maxHeartbeats 8000000 in
theorem join_any {a : Option Addr} {b o c : Nat} {XS : List (List Int)} {V : Nat → Value} (hl : lenS XS XS.length ≤ 1048576) (hn : XS.length ≤ 1048576) (ha : AzP a b o XS) (w : World) (hE : Pz w b o XS V) :
    Calls Try.prog 5 #[.slice a XS.length c] w fun e w' => ∃ v, e = .returned (.tuple #[v, .int .i64 0]) ∧ OwnB w.heap.size w' v (hdR 192 (lenS XS XS.length) ++ flS XS XS.length) ∧ Below w.heap.size w w' := by
  have HA : Hid (AzP a b o XS ∧ LimS XS.length ∧ ∀ i, i ≤ XS.length → LimS (lenS XS i)) := ⟨ha, hn, fun i hi => Nat.le_trans (lenS_mono XS _ hi) hl⟩
  have HI : Hid (∀ W, Below w.heap.size w W → Pz W b o XS V) := fun W B => hE.keep B
  have n1 : (XS.length : Int) ≤ 1048576 := by omega
  have HS : Hid (∀ W, Calls Try.prog 11 #[.int .i64 (lenS XS XS.length : Int)] W fun e w' => e = .returned (.int .i64 ((hdR 192 (lenS XS XS.length)).length : Int)) ∧ w' = W) := fun W => headSize_any (by omega) W
  have BF : Hid (∀ W B v, B ≤ W.heap.size → OwnB B W v [] → Calls Try.prog 12 #[v, .bool true, .int .i64 (lenS XS XS.length : Int)] W fun e w' => ∃ v', e = .returned v' ∧ OwnB B w' v' (hdR 192 (lenS XS XS.length)) ∧ Below B W w') := fun W B v hB h => withHead_any (by omega) (by decide) W hB h
  have HL : Hid ((hdR 192 (lenS XS XS.length)).length ≤ 4) := hdR_len _ _
  have SX : Hid (∀ i, lenS XS (i + 1) = lenS XS i + (XS.getD i []).length ∧ flS XS (i + 1) = flS XS i ++ XS.getD i [] ∧ (flS XS i).length = lenS XS i) := fun i => ⟨rfl, rfl, flS_len XS i⟩
  clear hl hn ha hE
  obtain ⟨hd, ehd⟩ : ∃ hd, hd = hdR 192 (lenS XS XS.length) := ⟨_, rfl⟩
  rw [← ehd] at BF HL HS ⊢
  clear ehd
  go_enter Try.func5, Try.ntmps5
  go_wp2_with fail
  go_loopg [4, 13] XS.length (fun k sv iv wr => ∃ i : Nat, k = XS.length - i ∧ i ≤ XS.length ∧ sv = .int .i64 (lenS XS i : Int) ∧ iv = .int .i64 (i : Int) ∧ Below w.heap.size w wr)
  case atStart => exact ⟨0, rfl, Nat.zero_le _, rfl, rfl, Below.refl _ _⟩
  case round =>
    obtain ⟨i, hk, hi, rfl, rfl, B⟩ := hrel
    have HK : Hid (gk = XS.length - i ∧ i ≤ XS.length) := ⟨hk, hi⟩
    have l0' : (lenS XS i : Int) ≤ 1048576 := by have := (HA.out.2.2 i hi).le; omega
    clear hk
    by_cases h8 : i = XS.length
    · subst h8
      clear HK hi
      have l4 : (hd.length : Int) ≤ 4 := by have := HL.out; omega
      obtain ⟨i0, hi0, hz0, hz1, hz2⟩ := info_parts info_byte
      have sB := B.size
      go_wp2_with (first
        | ((with_reducible refine (HS.out _).mono ?_); rintro e1 w1 ⟨rfl, hw⟩; (rw [hw]); (clear hw w1))
        | (refine wpList_make_capZ _ rfl _ _ _ rfl 5 i0 (.int .u8 0) Try.underlying23 hi0 hz0 hz1 rfl hz2 _ _ _ _ 0 (hd.length + lenS XS XS.length) rfl rfl rfl (by omega) (Nat.zero_le _) (by omega) ?_))
      have OE := own_empty wr (hd.length + lenS XS XS.length) (by unfold maxLen; omega)
      refine calls_world (fun W => Below wr.heap.size wr W ∧ OwnB wr.heap.size W (.slice (some ⟨wr.heap.size, 0, none⟩) 0 (hd.length + lenS XS XS.length)) []) ⟨(Below.refl _ _).alloc (Nat.le_refl _) _, OE⟩ ?_
      rintro W1 ⟨b1, o1⟩
      with_reducible refine (BF.out W1 wr.heap.size _ b1.size o1).mono ?_
      rintro e w2 ⟨v2, rfl, o2, b2⟩
      replace b1 := b1.trans b2
      replace B := B.trans (b1.mono B.size)
      have O1 := o2.base (B' := w.heap.size) sB
      clear BF HS o1 o2 b1 b2 OE sB
      go_wp2_with fail
      go_loopg [8, 34] XS.length (fun k ov iv wr => ∃ i : Nat, k = XS.length - i ∧ i ≤ XS.length ∧ iv = .int .i64 (i : Int) ∧ OwnB w.heap.size wr ov (hd ++ flS XS i) ∧ Below w.heap.size w wr)
      case atStart => exact ⟨0, rfl, Nat.zero_le _, rfl, by rw [show flS XS 0 = [] from rfl, List.append_nil]; exact O1, B⟩
      case round =>
        clear O1 B
        obtain ⟨i, hk, hi, rfl, oo, B⟩ := hrel
        have HK : Hid (gk = XS.length - i ∧ i ≤ XS.length) := ⟨hk, hi⟩
        have HF : Hid (OwnB w.heap.size wr u8 (hd ++ flS XS i) ∧ Below w.heap.size w wr) := ⟨oo, B⟩
        clear hk oo
        by_cases h8 : i = XS.length
        · subst h8
          go_wp2
          simp [bodyPost, results, Try.results5, go_sem]
          exact ⟨HF.out.1, HF.out.2⟩
        · have hlt : i < XS.length := by omega
          have hlt' : (i : Int) < (XS.length : Int) := by omega
          obtain rfl := HA.out.1.cons (by omega)
          obtain ⟨c1, ak, gk', pk, ck, ev, h2, h3, h4, h5⟩ := HI.out wr B i hlt
          rw [ev] at c1
          have SR : Hid (Az ak gk' pk (XS.getD i []) ∧ (ak = none → ck = 0) ∧ Bz wr gk' pk (XS.getD i []) ∧ (hd ++ flS XS i).length + (XS.getD i []).length < 140737488355000 ∧ w.heap.size ≤ wr.heap.size) := ⟨h3, h4, h5, by
            rw [List.length_append, (SX.out i).2.2]
            have := HL.out
            have := (HA.out.2.2 (i + 1) hlt).le
            rw [(SX.out i).1] at this
            omega, B.size⟩
          have NX : Hid (hd ++ flS XS (i + 1) = (hd ++ flS XS i) ++ XS.getD i []) := by show _ = _; rw [(SX.out i).2.1, List.append_assoc]
          clear ev h2 h3 h4 h5 hi h8 B SX HI HL
          generalize XS.getD i [] = X at *
          generalize hd ++ flS XS i = Z at *
          go_wp2_with ((at_builtin; refine wpList_append_rd rfl _ _ rfl rfl rfl rfl HF.out.1 SR.out.1 SR.out.2.1 SR.out.2.2.1 SR.out.2.2.2.1 SR.out.2.2.2.2 ?_); intro v3 w3 o3 g3)
          have HO : Hid (OwnB w.heap.size w3 v3 (hd ++ flS XS (i + 1)) ∧ Below w.heap.size w w3) := ⟨by rw [NX.out]; exact o3, HF.out.2.grown g3 HF.out.2.size (fun k hk => (HF.out.1.lt k hk).1)⟩
          clear o3 g3
          go_roundg (XS.length - (i + 1))
          case measure => have := HK.out.1; omega
          case rel => exact ⟨i + 1, rfl, hlt, by go_num, HO.out⟩
    · have hlt : i < XS.length := by omega
      have hlt' : (i : Int) < (XS.length : Int) := by omega
      obtain rfl := HA.out.1.cons (by omega)
      obtain ⟨c1, ak, gk', pk, ck, ev, h2, h3, h4, h5⟩ := HI.out wr B i hlt
      rw [ev] at c1
      have l1' : (lenS XS i : Int) + ((XS.getD i []).length : Int) ≤ 1048576 := by have := (HA.out.2.2 (i + 1) hlt).le; rw [(SX.out i).1] at this; omega
      have NX : Hid (lenS XS (i + 1) = lenS XS i + (XS.getD i []).length) := (SX.out i).1
      clear ev h2 h3 h4 h5 hi h8
      generalize (XS.getD i []).length = m at *
      generalize lenS XS i = s at *
      go_wp2
      go_roundg (XS.length - (i + 1))
      case measure => have := HK.out.1; omega
      case rel => exact ⟨i + 1, rfl, hlt, by rw [NX.out, Int.natCast_add], by go_num, B⟩
end Go.Proofs.Ytlmlhiookoediaa
