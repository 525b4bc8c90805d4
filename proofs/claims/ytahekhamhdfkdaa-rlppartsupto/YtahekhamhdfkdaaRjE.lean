import Derived.Test.YtahekhamhdfkdaaRjC
import Derived.Test.YtahekhamhdfkdaaRoomy
import Derived.Test.YtahekhamhdfkdaaGet
/- Layer 7: the program's Join. -/
namespace Go.Proofs.Ytahekhamhdfkdaa
open Go.RowKit Go.Sort

theorem own_empty (w : World) (m : Nat) (hm : m ≤ maxLen) : OwnB w.heap.size (w.alloc (.cells (madeCells #[Value.int .u8 0] m) 5)) (.slice (some ⟨w.heap.size, 0, none⟩) 0 m) [] := by
  refine ⟨rfl, .inr ⟨w.heap.size, m, madeCells #[Value.int .u8 0] m, rfl, Nat.le_refl _, ?_, Nat.zero_le _, hm, by simp [madeCells], rfl⟩⟩
  show (w.heap.push _)[w.heap.size]? = _
  simp
set_option maxRecDepth 100000 in
set_option maxHeartbeats 8000000 in
theorem join_any {a : Option Addr} {b o c : Nat} {XS : List (List Int)} {V : Nat → Value} (hl : lenS XS XS.length ≤ 1048576) (hn : XS.length ≤ 1048576) (ha : AzP a b o XS) (w : World) (hE : Pz w b o XS V) :
    Calls Try.prog 23 #[.slice a XS.length c] w fun e w' => ∃ v, e = .returned (.tuple #[v, .int .i64 0]) ∧ OwnB w.heap.size w' v (hdR 192 (lenS XS XS.length) ++ flS XS XS.length) ∧ Below w.heap.size w w' := by
  have HA : Hid (AzP a b o XS ∧ LimS XS.length ∧ ∀ i, i ≤ XS.length → LimS (lenS XS i)) := ⟨ha, hn, fun i hi => Nat.le_trans (lenS_mono XS _ hi) hl⟩
  have HI : Hid (∀ W, Below w.heap.size w W → Pz W b o XS V) := fun W B => hE.keep B
  have n1 : (XS.length : Int) ≤ 1048576 := by omega
  have HS : Hid (∀ W, Calls Try.prog 40 #[.int .i64 (lenS XS XS.length : Int)] W fun e w' => e = .returned (.int .i64 ((hdR 192 (lenS XS XS.length)).length : Int)) ∧ w' = W) := fun W => headSize_any (by omega) W
  have BF : Hid (∀ W B v, B ≤ W.heap.size → OwnB B W v [] → Calls Try.prog 41 #[v, .bool true, .int .i64 (lenS XS XS.length : Int)] W fun e w' => ∃ v', e = .returned v' ∧ OwnB B w' v' (hdR 192 (lenS XS XS.length)) ∧ Below B W w') := fun W B v hB h => withHead_any (by omega) (by decide) W hB h
  have HL : Hid ((hdR 192 (lenS XS XS.length)).length ≤ 4) := hdR_len _ _
  have SX : Hid (∀ i, lenS XS (i + 1) = lenS XS i + (XS.getD i []).length ∧ flS XS (i + 1) = flS XS i ++ XS.getD i [] ∧ (flS XS i).length = lenS XS i) := fun i => ⟨rfl, rfl, flS_len XS i⟩
  clear hl hn ha hE
  obtain ⟨hd, ehd⟩ : ∃ hd, hd = hdR 192 (lenS XS XS.length) := ⟨_, rfl⟩
  rw [← ehd] at BF HL HS ⊢
  clear ehd
  go_enter Try.func23, Try.ntmps23
  go_wp2_with fail
  go_loopg [4, 13] XS.length (fun k sv iv wr => ∃ i : Nat, k = XS.length - i ∧ i ≤ XS.length ∧ sv = .int .i64 (lenS XS i : Int) ∧ iv = .int .i64 (i : Int) ∧ Below w.heap.size w wr)
  case atStart => exact ⟨0, rfl, Nat.zero_le _, rfl, rfl, Below.refl _ _⟩
  case round =>
    obtain ⟨i, hk, hi, rfl, rfl, B⟩ := hrel
    have HK : Hid (gk = XS.length - i ∧ i ≤ XS.length) := ⟨hk, hi⟩
    have l0' : (lenS XS i : Int) ≤ 1048576 := by have := (HA.out.2.2 i hi).le; omega
    clear hk
    by_cases h8 : i = XS.length
    · subst h8
      clear HK hi
      have l4 : (hd.length : Int) ≤ 4 := by have := HL.out; omega
      obtain ⟨i0, hi0, hz0, hz1, hz2⟩ := info_parts info_byte
      have sB := B.size
      go_wp2_with (first
        | ((with_reducible refine (HS.out _).mono ?_); rintro e1 w1 ⟨rfl, hw⟩; (rw [hw]); (clear hw w1))
        | (refine wpList_make_capZ _ rfl _ _ _ rfl 5 i0 (.int .u8 0) Try.underlying22 hi0 hz0 hz1 rfl hz2 _ _ _ _ 0 (hd.length + lenS XS XS.length) rfl rfl rfl (by omega) (Nat.zero_le _) (by omega) ?_))
      have OE := own_empty wr (hd.length + lenS XS XS.length) (by unfold maxLen; omega)
      refine calls_world (fun W => Below wr.heap.size wr W ∧ OwnB wr.heap.size W (.slice (some ⟨wr.heap.size, 0, none⟩) 0 (hd.length + lenS XS XS.length)) []) ⟨(Below.refl _ _).alloc (Nat.le_refl _) _, OE⟩ ?_
      rintro W1 ⟨b1, o1⟩
      with_reducible refine (BF.out W1 wr.heap.size _ b1.size o1).mono ?_
      rintro e w2 ⟨v2, rfl, o2, b2⟩
      replace b1 := b1.trans b2
      replace B := B.trans (b1.mono B.size)
      have O1 := o2.base (B' := w.heap.size) sB
      clear BF HS o1 o2 b1 b2 OE sB
      go_wp2_with fail
      go_loopg [8, 34] XS.length (fun k ov iv wr => ∃ i : Nat, k = XS.length - i ∧ i ≤ XS.length ∧ iv = .int .i64 (i : Int) ∧ OwnB w.heap.size wr ov (hd ++ flS XS i) ∧ Below w.heap.size w wr)
      case atStart => exact ⟨0, rfl, Nat.zero_le _, rfl, by rw [show flS XS 0 = [] from rfl, List.append_nil]; exact O1, B⟩
      case round =>
        clear O1 B
        obtain ⟨i, hk, hi, rfl, oo, B⟩ := hrel
        have HK : Hid (gk = XS.length - i ∧ i ≤ XS.length) := ⟨hk, hi⟩
        have HF : Hid (OwnB w.heap.size wr u8 (hd ++ flS XS i) ∧ Below w.heap.size w wr) := ⟨oo, B⟩
        clear hk oo
        by_cases h8 : i = XS.length
        · subst h8
          go_wp2
          simp [bodyPost, results, Try.results23, go_sem]
          exact ⟨HF.out.1, HF.out.2⟩
        · have hlt : i < XS.length := by omega
          have hlt' : (i : Int) < (XS.length : Int) := by omega
          obtain rfl := HA.out.1.cons (by omega)
          obtain ⟨c1, ak, gk', pk, ck, ev, h2, h3, h4, h5⟩ := HI.out wr B i hlt
          rw [ev] at c1
          have SR : Hid (Az ak gk' pk (XS.getD i []) ∧ (ak = none → ck = 0) ∧ Bz wr gk' pk (XS.getD i []) ∧ (hd ++ flS XS i).length + (XS.getD i []).length < 140737488355000 ∧ w.heap.size ≤ wr.heap.size) := ⟨h3, h4, h5, by
            rw [List.length_append, (SX.out i).2.2]
            have := HL.out
            have := (HA.out.2.2 (i + 1) hlt).le
            rw [(SX.out i).1] at this
            omega, B.size⟩
          have NX : Hid (hd ++ flS XS (i + 1) = (hd ++ flS XS i) ++ XS.getD i []) := by show _ = _; rw [(SX.out i).2.1, List.append_assoc]
          clear ev h2 h3 h4 h5 hi h8 B SX HI HL
          generalize XS.getD i [] = X at *
          generalize hd ++ flS XS i = Z at *
          go_wp2_with ((at_builtin; refine wpList_append_rd rfl _ _ rfl rfl rfl rfl HF.out.1 SR.out.1 SR.out.2.1 SR.out.2.2.1 SR.out.2.2.2.1 SR.out.2.2.2.2 ?_); intro v3 w3 o3 g3)
          have HO : Hid (OwnB w.heap.size w3 v3 (hd ++ flS XS (i + 1)) ∧ Below w.heap.size w w3) := ⟨by rw [NX.out]; exact o3, HF.out.2.grown g3 HF.out.2.size (fun k hk => (HF.out.1.lt k hk).1)⟩
          clear o3 g3
          go_roundg (XS.length - (i + 1))
          case measure => have := HK.out.1; omega
          case rel => exact ⟨i + 1, rfl, hlt, by go_num, HO.out⟩
    · have hlt : i < XS.length := by omega
      have hlt' : (i : Int) < (XS.length : Int) := by omega
      obtain rfl := HA.out.1.cons (by omega)
      obtain ⟨c1, ak, gk', pk, ck, ev, h2, h3, h4, h5⟩ := HI.out wr B i hlt
      rw [ev] at c1
      have l1' : (lenS XS i : Int) + ((XS.getD i []).length : Int) ≤ 1048576 := by have := (HA.out.2.2 (i + 1) hlt).le; rw [(SX.out i).1] at this; omega
      have NX : Hid (lenS XS (i + 1) = lenS XS i + (XS.getD i []).length) := (SX.out i).1
      clear ev h2 h3 h4 h5 hi h8
      generalize (XS.getD i []).length = m at *
      generalize lenS XS i = s at *
      go_wp2
      go_roundg (XS.length - (i + 1))
      case measure => have := HK.out.1; omega
      case rel => exact ⟨i + 1, rfl, hlt, by rw [NX.out, Int.natCast_add], by go_num, B⟩
/-- The same under a name that no other layer bears. -/
theorem joinP_any {a : Option Addr} {b o c : Nat} {XS : List (List Int)} {V : Nat → Value} (hl : lenS XS XS.length ≤ 1048576) (hn : XS.length ≤ 1048576) (ha : AzP a b o XS) (w : World) (hE : Pz w b o XS V) :
    Calls Try.prog 23 #[.slice a XS.length c] w fun e w' => ∃ v, e = .returned (.tuple #[v, .int .i64 0]) ∧ OwnB w.heap.size w' v (hdR 192 (lenS XS XS.length) ++ flS XS XS.length) ∧ Below w.heap.size w w' := join_any hl hn ha w hE
end Go.Proofs.Ytahekhamhdfkdaa

/- Layer 7: the statement's same, roomy, spared. -/
namespace Go.Proofs.Ytahekhamhdfkdaa
open Go.RowKit Go.Sort


set_option maxRecDepth 100000 in
set_option maxHeartbeats 4000000 in
theorem same7_any {a a' : Option Addr} {b o c b' o' c' : Nat} {X Z : List Int} (hl : X.length < 281474976710656) (ha : Az a b o X) (ha' : Az a' b' o' Z) (w : World) (hz : Bz w b o X) (hz' : Bz w b' o' Z) :
    Calls Try.prog 14 #[.slice a X.length c, .slice a' Z.length c'] w fun e w' => e = .returned (.bool (decide (X = Z))) ∧ Below w.heap.size w w' := by
  by_cases hn : X.length = Z.length
  case neg =>
    have ne : decide (X = Z) = false := decide_eq_false fun e => hn (by rw [e])
    rw [ne]
    have hn' : ¬ ((X.length : Int) = (Z.length : Int)) := by omega
    clear hl ha ha' hz hz' hn ne
    go_enter Try.func14, Try.ntmps14
    go_wp2
    simp [bodyPost, results, Try.results14, go_sem]
    exact Below.refl _ _
  rw [← hn]
  have HH : Hid (Az a b o X ∧ Az a' b' o' Z ∧ X.length = Z.length) := ⟨ha, ha', hn⟩
  have KL : Hid (∀ W, Below w.heap.size w W → Bz W b o X ∧ Bz W b' o' Z) := fun W B => ⟨hz.keep B, hz'.keep B⟩
  have n1 : (X.length : Int) < 281474976710656 := by omega
  clear hl ha ha' hz hz' hn
  go_enter Try.func14, Try.ntmps14
  go_wp2_with fail
  go_loopg [5] X.length (fun k iv wr => ∃ i : Nat, k = X.length - i ∧ i ≤ X.length ∧ iv = .int .i64 i ∧ X.take i = Z.take i ∧ Below w.heap.size w wr)
  case atStart => exact ⟨0, rfl, Nat.zero_le _, rfl, rfl, Below.refl _ _⟩
  case round =>
    obtain ⟨i, hk, hi, rfl, ht, B⟩ := hrel
    have HK : Hid (gk = X.length - i ∧ X.take i = Z.take i) := ⟨hk, ht⟩
    clear hk ht
    by_cases h8 : i = X.length
    · subst h8
      have HT : Hid (X = Z) := by
        have := HK.out.2
        rw [List.take_length, HH.out.2.2, List.take_length] at this
        exact this
      clear HH KL HK
      go_wp2
      simp [bodyPost, results, Try.results14, go_sem]
      exact ⟨HT.out, B⟩
    · have hlt : i < X.length := by omega
      have hlt' : (i : Int) < (X.length : Int) := by omega
      obtain ⟨g1, g2⟩ := KL.out wr B
      have c1 := g1 i hlt
      have c2 := g2 i (by rw [← HH.out.2.2]; exact hlt)
      obtain rfl := HH.out.1.cons (by omega)
      obtain rfl := HH.out.2.1.cons (by rw [← HH.out.2.2]; omega)
      clear g1 g2
      by_cases hx : X.getD i 0 = Z.getD i 0
      · have NX : Hid (X.take (i + 1) = Z.take (i + 1)) := take_same hlt (by rw [← HH.out.2.2]; exact hlt) HK.out.2 hx
        rw [← hx] at c2
        generalize X.getD i 0 = x at *
        have c1' : ∀ n, (wr.drewN n).cell? ⟨b, o + i, none⟩ = some (.int .u8 x) := fun _ => c1
        have c2' : ∀ n, (wr.drewN n).cell? ⟨b', o' + i, none⟩ = some (.int .u8 x) := fun _ => c2
        go_wp2_with fail
        refine wp_region_quiet_lit (by kernel_rfl) (by kernel_rfl) ?_
        repeat (first | go_big_quiet_skip | (go_big_quiet_want; go_big_quiet_op; go_big_quiet_on))
        refine wpQuiet_nil ?_
        rintro w' ⟨n, rfl⟩
        have BN : Hid (Below w.heap.size w (wr.drewN n)) := ⟨B.os, B.tape, B.output, B.size, B.block⟩
        clear c1 c2 c1' c2' B
        generalize wr.drewN n = w2 at *
        go_wp2
        go_roundg (X.length - (i + 1))
        case measure => have := HK.out; omega
        case rel => exact ⟨i + 1, rfl, by omega, by go_num, NX.out, BN.out⟩
      · have NX : Hid (X ≠ Z) := fun e => hx (by rw [e])
        generalize X.getD i 0 = x at *
        generalize Z.getD i 0 = z at *
        have c1' : ∀ n, (wr.drewN n).cell? ⟨b, o + i, none⟩ = some (.int .u8 x) := fun _ => c1
        have c2' : ∀ n, (wr.drewN n).cell? ⟨b', o' + i, none⟩ = some (.int .u8 z) := fun _ => c2
        have HB : Hid ((x != z) = true) := bne_iff_ne.2 hx
        clear hx
        go_wp2_with fail
        refine wp_region_quiet_lit (by kernel_rfl) (by kernel_rfl) ?_
        repeat (first | go_big_quiet_skip | (go_big_quiet_want; go_big_quiet_op; go_big_quiet_on))
        refine wpQuiet_nil ?_
        rintro w' ⟨n, rfl⟩
        have BN : Hid (Below w.heap.size w (wr.drewN n)) := ⟨B.os, B.tape, B.output, B.size, B.block⟩
        clear c1 c2 c1' c2' B
        generalize wr.drewN n = w2 at *
        rw [HB.out]
        go_wp2
        simp [bodyPost, results, Try.results14, go_sem]
        exact ⟨NX.out, BN.out⟩


end Go.Proofs.Ytahekhamhdfkdaa

/- Layer 7: alike; the lists that the statement gives. -/
namespace Go.Proofs.Ytahekhamhdfkdaa
open Go.RowKit Go.Sort

/-- The texts that were given so far. -/
def GvE (W : World) (gv : Value) (XS : List (List Int)) (VS : List Value) (i : Nat) : Prop := ∀ j, j < i → ∃ gj, VS[j]? = some (.slice (some ⟨gj, 0, none⟩) (XS.getD j []).length ((XS.getD j []).length + 9)) ∧ Bz W gj 0 (XS.getD j [] ++ List.replicate 9 165) ∧ gv.ownBlock ≠ some gj
theorem bz9_lt {W : World} {g : Nat} {X : List Int} (h : Bz W g 0 (X ++ List.replicate 9 165)) : g < W.heap.size := World.block_lt_of_cell? W _ (h 0 (by rw [List.length_append, List.length_replicate]; omega))
theorem Bz.grownE {W W' : World} {g p : Nat} {X : List Int} {row : Option Nat} (h : Bz W g p X) (hg : W.grownBy W' row) (hn : row ≠ some g) : Bz W' g p X := fun i hi => by
  have h1 := h i hi
  have e : W'.heap[g]? = W.heap[g]? := hg.block g (World.block_lt_of_cell? W _ h1) (fun e => hn e.symm)
  rw [← h1]; simp only [World.cell?, e]
theorem GvE.keep {W W' : World} {gv : Value} {XS : List (List Int)} {VS : List Value} {i : Nat} (h : GvE W gv XS VS i) (hb : Below W.heap.size W W') : GvE W' gv XS VS i := fun j hj => by
  obtain ⟨gj, h1, h2, h3⟩ := h j hj
  exact ⟨gj, h1, h2.keep hb, h3⟩
/-- One more, appended. -/
theorem GvE.step {W W' : World} {gv v' : Value} {XS : List (List Int)} {VS : List Value} {i gi : Nat} (hl : VS.length = i) (h : GvE W gv XS VS i) (hz : Bz W gi 0 (XS.getD i [] ++ List.replicate 9 165)) (hn : gv.ownBlock ≠ some gi) (hg : W.grownBy W' gv.ownBlock) (hv : v'.ownBlock = gv.ownBlock ∨ v'.ownBlock = some W.heap.size) :
    GvE W' v' XS (VS ++ [.slice (some ⟨gi, 0, none⟩) (XS.getD i []).length ((XS.getD i []).length + 9)]) (i + 1) := fun j hj => by
  by_cases e : j = i
  · subst e
    refine ⟨gi, by rw [List.getElem?_append_right (by omega), hl, Nat.sub_self]; rfl, hz.grownE hg hn, ?_⟩
    rcases hv with k | k
    · rw [k]; exact hn
    · rw [k]; intro e; have := Option.some.inj e; have := bz9_lt hz; omega
  · obtain ⟨gj, h1, h2, h3⟩ := h j (by omega)
    refine ⟨gj, by rw [List.getElem?_append_left (by omega)]; exact h1, h2.grownE hg h3, ?_⟩
    rcases hv with k | k
    · rw [k]; exact h3
    · rw [k]; intro e; have := Option.some.inj e; have := bz9_lt h2; omega
end Go.Proofs.Ytahekhamhdfkdaa
