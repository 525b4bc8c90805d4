import Derived.Test.YtllfmlgnemkklaaDoorTsB
/- waybillplay: Same, Still, StillHashes; the document's sameBytes. -/
namespace Go.Proofs.YtllfmlgnemkklaaDoor.tq
open Go.RowKit Go.Sort
set_option maxRecDepth 100000 in
set_option maxHeartbeats 4000000 in
theorem same_any {a a' : Option Addr} {b o c b' o' c' : Nat} {X Z : List Int} (hl : X.length < 281474976710656) (ha : Az a b o X) (ha' : Az a' b' o' Z) (w : World) (hz : Bz w b o X) (hz' : Bz w b' o' Z) :
    Calls Tryd.prog 48 #[.slice a X.length c, .slice a' Z.length c'] w fun e w' => e = .returned (.bool (decide (X = Z))) ∧ Below w.heap.size w w' := by
  by_cases hn : X.length = Z.length
  case neg =>
    have ne : decide (X = Z) = false := decide_eq_false fun e => hn (by rw [e])
    rw [ne]
    have hn' : ¬ ((X.length : Int) = (Z.length : Int)) := by omega
    clear hl ha ha' hz hz' hn ne
    go_enter Tryd.func48, Tryd.ntmps48
    go_wp2
    simp [bodyPost, results, Tryd.results48, go_sem]
    exact Below.refl _ _
  rw [← hn]
  have HH : Hid (Az a b o X ∧ Az a' b' o' Z ∧ X.length = Z.length) := ⟨ha, ha', hn⟩
  have KL : Hid (∀ W, Below w.heap.size w W → Bz W b o X ∧ Bz W b' o' Z) := fun W B => ⟨hz.keep B, hz'.keep B⟩
  have n1 : (X.length : Int) < 281474976710656 := by omega
  clear hl ha ha' hz hz' hn
  go_enter Tryd.func48, Tryd.ntmps48
  go_wp2_with fail
  go_loopg [5] X.length (fun k iv wr => ∃ i : Nat, k = X.length - i ∧ i ≤ X.length ∧ iv = .int .i64 i ∧ X.take i = Z.take i ∧ Below w.heap.size w wr)
  case atStart => exact ⟨0, rfl, Nat.zero_le _, rfl, rfl, Below.refl _ _⟩
  case round =>
    obtain ⟨i, hk, hi, rfl, ht, B⟩ := hrel
    have HK : Hid (gk = X.length - i ∧ X.take i = Z.take i) := ⟨hk, ht⟩
    clear hk ht
    by_cases h8 : i = X.length
    · subst h8
      have HT : Hid (X = Z) := by
        have := HK.out.2
        rw [List.take_length, HH.out.2.2, List.take_length] at this
        exact this
      clear HH KL HK
      go_wp2
      simp [bodyPost, results, Tryd.results48, go_sem]
      exact ⟨HT.out, B⟩
    · have hlt : i < X.length := by omega
      have hlt' : (i : Int) < (X.length : Int) := by omega
      obtain ⟨g1, g2⟩ := KL.out wr B
      have c1 := g1 i hlt
      have c2 := g2 i (by rw [← HH.out.2.2]; exact hlt)
      obtain rfl := HH.out.1.cons (by omega)
      obtain rfl := HH.out.2.1.cons (by rw [← HH.out.2.2]; omega)
      clear g1 g2
      by_cases hx : X.getD i 0 = Z.getD i 0
      · have NX : Hid (X.take (i + 1) = Z.take (i + 1)) := take_same hlt (by rw [← HH.out.2.2]; exact hlt) HK.out.2 hx
        rw [← hx] at c2
        generalize X.getD i 0 = x at *
        have c1' : ∀ n, (wr.drewN n).cell? ⟨b, o + i, none⟩ = some (.int .u8 x) := fun _ => c1
        have c2' : ∀ n, (wr.drewN n).cell? ⟨b', o' + i, none⟩ = some (.int .u8 x) := fun _ => c2
        go_wp2_with fail
        refine wp_region_quiet_lit (by kernel_rfl) (by kernel_rfl) ?_
        repeat (first | go_big_quiet_skip | (go_big_quiet_want; go_big_quiet_op; go_big_quiet_on))
        refine wpQuiet_nil ?_
        rintro w' ⟨n, rfl⟩
        have BN : Hid (Below w.heap.size w (wr.drewN n)) := ⟨B.os, B.tape, B.output, B.size, B.block⟩
        clear c1 c2 c1' c2' B
        generalize wr.drewN n = w2 at *
        go_wp2
        go_roundg (X.length - (i + 1))
        case measure => have := HK.out; omega
        case rel => exact ⟨i + 1, rfl, by omega, by go_num, NX.out, BN.out⟩
      · have NX : Hid (X ≠ Z) := fun e => hx (by rw [e])
        generalize X.getD i 0 = x at *
        generalize Z.getD i 0 = z at *
        have c1' : ∀ n, (wr.drewN n).cell? ⟨b, o + i, none⟩ = some (.int .u8 x) := fun _ => c1
        have c2' : ∀ n, (wr.drewN n).cell? ⟨b', o' + i, none⟩ = some (.int .u8 z) := fun _ => c2
        have HB : Hid ((x != z) = true) := bne_iff_ne.2 hx
        clear hx
        go_wp2_with fail
        refine wp_region_quiet_lit (by kernel_rfl) (by kernel_rfl) ?_
        repeat (first | go_big_quiet_skip | (go_big_quiet_want; go_big_quiet_op; go_big_quiet_on))
        refine wpQuiet_nil ?_
        rintro w' ⟨n, rfl⟩
        have BN : Hid (Below w.heap.size w (wr.drewN n)) := ⟨B.os, B.tape, B.output, B.size, B.block⟩
        clear c1 c2 c1' c2' B
        generalize wr.drewN n = w2 at *
        rw [HB.out]
        go_wp2
        simp [bodyPost, results, Tryd.results48, go_sem]
        exact ⟨NX.out, BN.out⟩
set_option maxRecDepth 100000 in
set_option maxHeartbeats 4000000 in
theorem rsameB_any {a a' : Option Addr} {b o c b' o' c' : Nat} {X Z : List Int} (hl : X.length < 281474976710656) (ha : Az a b o X) (ha' : Az a' b' o' Z) (w : World) (hz : Bz w b o X) (hz' : Bz w b' o' Z) :
    Calls Tryd.prog 33 #[.slice a X.length c, .slice a' Z.length c'] w fun e w' => e = .returned (.bool (decide (X = Z))) ∧ Below w.heap.size w w' := by
  by_cases hn : X.length = Z.length
  case neg =>
    have ne : decide (X = Z) = false := decide_eq_false fun e => hn (by rw [e])
    rw [ne]
    have hn' : ¬ ((X.length : Int) = (Z.length : Int)) := by omega
    clear hl ha ha' hz hz' hn ne
    go_enter Tryd.func33, Tryd.ntmps33
    go_wp2
    simp [bodyPost, results, Tryd.results33, go_sem]
    exact Below.refl _ _
  rw [← hn]
  have HH : Hid (Az a b o X ∧ Az a' b' o' Z ∧ X.length = Z.length) := ⟨ha, ha', hn⟩
  have KL : Hid (∀ W, Below w.heap.size w W → Bz W b o X ∧ Bz W b' o' Z) := fun W B => ⟨hz.keep B, hz'.keep B⟩
  have n1 : (X.length : Int) < 281474976710656 := by omega
  clear hl ha ha' hz hz' hn
  go_enter Tryd.func33, Tryd.ntmps33
  go_wp2_with fail
  go_loopg [5] X.length (fun k iv wr => ∃ i : Nat, k = X.length - i ∧ i ≤ X.length ∧ iv = .int .i64 i ∧ X.take i = Z.take i ∧ Below w.heap.size w wr)
  case atStart => exact ⟨0, rfl, Nat.zero_le _, rfl, rfl, Below.refl _ _⟩
  case round =>
    obtain ⟨i, hk, hi, rfl, ht, B⟩ := hrel
    have HK : Hid (gk = X.length - i ∧ X.take i = Z.take i) := ⟨hk, ht⟩
    clear hk ht
    by_cases h8 : i = X.length
    · subst h8
      have HT : Hid (X = Z) := by
        have := HK.out.2
        rw [List.take_length, HH.out.2.2, List.take_length] at this
        exact this
      clear HH KL HK
      go_wp2
      simp [bodyPost, results, Tryd.results33, go_sem]
      exact ⟨HT.out, B⟩
    · have hlt : i < X.length := by omega
      have hlt' : (i : Int) < (X.length : Int) := by omega
      obtain ⟨g1, g2⟩ := KL.out wr B
      have c1 := g1 i hlt
      have c2 := g2 i (by rw [← HH.out.2.2]; exact hlt)
      obtain rfl := HH.out.1.cons (by omega)
      obtain rfl := HH.out.2.1.cons (by rw [← HH.out.2.2]; omega)
      clear g1 g2
      by_cases hx : X.getD i 0 = Z.getD i 0
      · have NX : Hid (X.take (i + 1) = Z.take (i + 1)) := take_same hlt (by rw [← HH.out.2.2]; exact hlt) HK.out.2 hx
        rw [← hx] at c2
        generalize X.getD i 0 = x at *
        have c1' : ∀ n, (wr.drewN n).cell? ⟨b, o + i, none⟩ = some (.int .u8 x) := fun _ => c1
        have c2' : ∀ n, (wr.drewN n).cell? ⟨b', o' + i, none⟩ = some (.int .u8 x) := fun _ => c2
        go_wp2_with fail
        refine wp_region_quiet_lit (by kernel_rfl) (by kernel_rfl) ?_
        repeat (first | go_big_quiet_skip | (go_big_quiet_want; go_big_quiet_op; go_big_quiet_on))
        refine wpQuiet_nil ?_
        rintro w' ⟨n, rfl⟩
        have BN : Hid (Below w.heap.size w (wr.drewN n)) := ⟨B.os, B.tape, B.output, B.size, B.block⟩
        clear c1 c2 c1' c2' B
        generalize wr.drewN n = w2 at *
        go_wp2
        go_roundg (X.length - (i + 1))
        case measure => have := HK.out; omega
        case rel => exact ⟨i + 1, rfl, by omega, by go_num, NX.out, BN.out⟩
      · have NX : Hid (X ≠ Z) := fun e => hx (by rw [e])
        generalize X.getD i 0 = x at *
        generalize Z.getD i 0 = z at *
        have c1' : ∀ n, (wr.drewN n).cell? ⟨b, o + i, none⟩ = some (.int .u8 x) := fun _ => c1
        have c2' : ∀ n, (wr.drewN n).cell? ⟨b', o' + i, none⟩ = some (.int .u8 z) := fun _ => c2
        have HB : Hid ((x != z) = true) := bne_iff_ne.2 hx
        clear hx
        go_wp2_with fail
        refine wp_region_quiet_lit (by kernel_rfl) (by kernel_rfl) ?_
        repeat (first | go_big_quiet_skip | (go_big_quiet_want; go_big_quiet_op; go_big_quiet_on))
        refine wpQuiet_nil ?_
        rintro w' ⟨n, rfl⟩
        have BN : Hid (Below w.heap.size w (wr.drewN n)) := ⟨B.os, B.tape, B.output, B.size, B.block⟩
        clear c1 c2 c1' c2' B
        generalize wr.drewN n = w2 at *
        rw [HB.out]
        go_wp2
        simp [bodyPost, results, Tryd.results33, go_sem]
        exact ⟨NX.out, BN.out⟩
theorem lentT_at {X : List Int} {i : Nat} (h : i < 70) : (lentT X).getD (X.length + i) 0 = 165 := by
  rw [lentT, List.getD, List.getElem?_append_right (by omega), List.getElem?_replicate, if_pos (by omega)]; rfl
theorem cell_hC {W : World} {b o : Nat} {A : List Int} (h : W.rangeAt b o (hC A)) {i : Nat} (hi : i < A.length) : W.cell? ⟨b, o + i, none⟩ = some (.int .u8 (A.getD i 0)) := h i _ (by simp [hC, List.getD, List.getElem?_eq_getElem hi])
theorem bz_hC {W : World} {b o : Nat} {A : List Int} (h : W.rangeAt b o (hC A)) : Bz W b o A := fun _ hi => cell_hC h hi
theorem hC_app (A D : List Int) : hC (A ++ D) = hC A ++ hC D := List.map_append
set_option maxRecDepth 100000 in
set_option maxHeartbeats 4000000 in
theorem still_yes {a : Option Addr} {b o c g cap : Nat} {X : List Int} (hl : X.length < 1000000000) (hcap : X.length + 70 ≤ cap) (w : World) (hG : BtG w a b o c X) (hr : w.rangeAt g 0 (hC (lentT X))) :
    Calls Tryd.prog 31 #[.slice (some ⟨g, 0, none⟩) X.length cap, .slice a X.length c] w fun e w' => e = .returned (.bool true) ∧ Below w.heap.size w w' := by
  have SM : Hid (∀ W, Below w.heap.size w W → Calls Tryd.prog 48 #[.slice (some ⟨g, 0, none⟩) X.length cap, .slice a X.length c] W fun e w' => e = .returned (.bool true) ∧ Below W.heap.size W w') := fun W B => by
    have h0 : Bz w g 0 X := bz_hC (range_app.1 (by rw [lentT, hC_app] at hr; exact hr)).1
    have := same_any (c := cap) (c' := c) (by omega) (.inr rfl) hG.2.1 W (h0.keep B) (hG.2.2.1.keep B)
    rw [decide_eq_true rfl] at this
    exact this
  have HR : Hid (∀ W, Below w.heap.size w W → ∀ i, i < 70 → W.cell? ⟨g, X.length + i, none⟩ = some (.int .u8 165)) := fun W B i hi => by
    have := cell_hC hr (i := X.length + i) (by rw [lentT_len]; omega)
    rw [Nat.zero_add, lentT_at hi] at this
    exact cell_keep B this
  obtain ⟨m, em⟩ : ∃ m, m = X.length := ⟨_, rfl⟩
  rw [← em] at SM HR hcap hl ⊢
  have n1 : (m : Int) < 1000000000 := by omega
  have n2 : (m : Int) + 70 ≤ (cap : Int) := by omega
  clear hG hr hl em
  go_enter Tryd.func31, Tryd.ntmps31
  go_wp2_with fail
  go_loopg [6] 70 (fun k iv wr => ∃ i : Nat, k = 70 - i ∧ i ≤ 70 ∧ iv = .int .i64 i ∧ Below w.heap.size w wr)
  case atStart => exact ⟨0, rfl, by decide, rfl, Below.refl _ _⟩
  case round =>
    obtain ⟨i, hk, hi, rfl, B⟩ := hrel
    have HK : Hid (gk = 70 - i) := hk
    clear hk
    by_cases h8 : i = 70
    · subst h8
      go_wp2_with fail
      refine (SM.out _ B).mono ?_
      rintro e w1 ⟨rfl, B1⟩
      go_wp2
      simp [bodyPost, results, Tryd.results31, go_sem]
      exact B.trans (B1.mono B.size)
    · have hlt : i < 70 := by omega
      have hlt' : (i : Int) < 70 := by omega
      have gx := HR.out wr B i hlt
      have n3 : (m : Int) + (i : Int) < (cap : Int) := by omega
      have n4 : (m : Int) + (i : Int) < (m : Int) + 70 := by omega
      go_wp2
      go_roundg (70 - (i + 1))
      case measure => have := HK.out; omega
      case rel => exact ⟨i + 1, rfl, by omega, by go_num, B⟩
end Go.Proofs.YtllfmlgnemkklaaDoor.tq
