import Derived.Test.YtgndlkhmleafiaaDoorNbA
/- Layer 11: split, Of. -/
namespace Go.Proofs.YtgndlkhmleafiaaDoor
open Go.RowKit Go.Sort

theorem cells_two (w : World) (x y : Value) (t : TypeId) : ∀ j u, [x, y][j]? = some u → (w.alloc (.cells #[x, y] t)).cell? ((⟨w.heap.size, 0, none⟩ : Addr).add j) = some u := by
  intro j u hu
  rw [Addr.add_mid, Nat.zero_add, World.cell?_alloc_mark]
  simpa using hu
theorem Az.cons {a : Option Addr} {b o : Nat} {X : List Int} (h : Az a b o X) (hx : 0 < X.length) : a = some ⟨b, o, none⟩ := by
  rcases h with e | e
  · rw [e] at hx; simp at hx
  · exact e
theorem made_own {w : World} (B n : Nat) (hB : B ≤ w.heap.size) (hn : n ≤ 281474976710656) : OwnB B (w.alloc (.cells (madeCells #[Value.int .u8 0] n) 5)) (.slice (some ⟨w.heap.size, 0, none⟩) 0 n) [] := by
  refine ⟨rfl, .inr ⟨w.heap.size, n, _, rfl, hB, heap_new _ _, Nat.zero_le _, by unfold maxLen; omega, ?_, by simp⟩⟩
  rw [made_bytes]; simp
theorem Az.far {a : Option Addr} {b o g : Nat} {X : List Int} {w : World} (h : Az a b o X) (hz : Bz w b o X) (hg : w.heap.size ≤ g) : ∃ b', b' ≠ g ∧ Az a b' o X ∧ ∀ W, Bz W b o X → Bz W b' o X := by
  by_cases hx : X = []
  · subst hx
    exact ⟨g + 1, by omega, .inl rfl, fun W _ i hi => absurd hi (Nat.not_lt_zero _)⟩
  · refine ⟨b, ?_, h, fun W h => h⟩
    have := World.block_lt_of_cell? w _ (hz 0 (List.length_pos_iff.2 hx))
    simp at this
    omega
set_option maxRecDepth 100000 in
set_option maxHeartbeats 4000000 in
theorem split_any {B g cap b o c : Nat} {a : Option Addr} {R X : List Int} (hX : Bys X) (hl : X.length < 140737488355328) (hc : R.length + 2 * X.length ≤ cap) (ha : Az a b o X) (w : World) (hz : Bz w b o X) (ne : b ≠ g)
    (h : OwnB B w (.slice (some ⟨g, 0, none⟩) R.length cap) R) :
    Calls Tryd.prog 30 #[.slice (some ⟨g, 0, none⟩) R.length cap, .slice a X.length c] w fun e w' => e = .returned (.slice (some ⟨g, 0, none⟩) (R.length + 2 * X.length) cap) ∧ OwnB B w' (.slice (some ⟨g, 0, none⟩) (R.length + 2 * X.length) cap) (R ++ ofL X) ∧ w.grownBy w' (some g) := by
  obtain ⟨i0, hi, hz0, hz1, hz2⟩ := info_parts info_byte
  have HA : Hid (Bys X ∧ X.length < 140737488355328 ∧ Az a b o X ∧ Bz w b o X ∧ b ≠ g ∧ OwnB B w (.slice (some ⟨g, 0, none⟩) R.length cap) R ∧ R.length + 2 * X.length ≤ cap) := ⟨hX, hl, ha, hz, ne, h, hc⟩
  have l1 : (X.length : Int) < 140737488355328 := by omega
  obtain ⟨r, er⟩ : ∃ r, r = R.length := ⟨_, rfl⟩
  rw [← er] at HA ⊢
  have HR : Hid (R.length = r) := er.symm
  clear er hX hl ha hz ne h hc
  go_enter Tryd.func30, Tryd.ntmps30
  go_wp2_with fail
  go_loopg [0, 6, 9] X.length (fun k rv bv iv wr => ∃ i : Nat, k = X.length - i ∧ i ≤ X.length ∧ iv = .int .i64 (i : Int) ∧ rv = .slice (some ⟨g, 0, none⟩) (r + 2 * i) cap ∧ OwnB B wr (.slice (some ⟨g, 0, none⟩) (r + 2 * i) cap) (R ++ ofL (X.take i)) ∧ w.grownBy wr (some g))
  case atStart => exact ⟨0, rfl, Nat.zero_le _, rfl, rfl, by simpa [ofL] using HA.out.2.2.2.2.2.1, World.grownBy.refl _ _⟩
  case round =>
    obtain ⟨i, hk, hi9, rfl, rfl, hown, hG⟩ := hrel
    have HK : Hid (gk = X.length - i) := hk
    have HF : Hid (OwnB B wr (.slice (some ⟨g, 0, none⟩) (r + 2 * i) cap) (R ++ ofL (X.take i)) ∧ w.grownBy wr (some g)) := ⟨hown, hG⟩
    clear hk hown hG
    by_cases h8 : i = X.length
    · subst h8
      have HT : Hid (X.take X.length = X) := List.take_length
      rw [HT.out] at HF
      go_wp2
      simp [bodyPost, results, Tryd.results30, go_sem]
      exact HF.out
    · have hlt : i < X.length := by omega
      have hlt' : (i : Int) < (X.length : Int) := by omega
      obtain rfl := HA.out.2.2.1.cons (by omega)
      have gx : wr.cell? ⟨b, o + i, none⟩ = some (.int .u8 (X.getD i 0)) := HA.out.2.2.2.1.grown HF.out.2 (fun _ e => HA.out.2.2.2.2.1 (Option.some.inj e).symm) i hlt
      obtain ⟨x0, x1⟩ := HA.out.1.at i
      have NX : Hid (R ++ ofL (X.take (i + 1)) = (R ++ ofL (X.take i)) ++ [X.getD i 0 / 16, X.getD i 0 % 16]) := by rw [take_snocI hlt, ofL_snoc, List.append_assoc]; exact rfl
      have LN : Hid ((R ++ ofL (X.take i)).length = r + 2 * i) := by
        show _ = _
        rw [List.length_append, ofL_len, List.length_take, HR.out]; omega
      generalize X.getD i 0 = x at *
      have a15 := and15 x0 x1
      go_wp2_with ((at_builtin; go_loud (refine wpList_append_fits _ rfl _ _ 23 rfl B 5 i0 1 Tryd.underlying23 hi hz1 g (r + 2 * i) cap ((R ++ ofL (X.take i)).map (Value.int .u8)) rfl (by have := HF.out.1.alloc (.cells #[.int .u8 (x / 16), .int .u8 (x % 16)] 5); rw [OwnB, LN.out] at this; exact this) ⟨wr.heap.size, 0, none⟩ 2 2 [.int .u8 (x / 16), .int .u8 (x % 16)] rfl rfl (cells_two _ _ _ _) (fun u hu => by simp at hu; rcases hu with rfl | rfl <;> rfl) (by have := HA.out.2.2.2.2.2.2; omega) ?_); intro w3 hown' hgrow3))
      have HO : Hid (OwnB B w3 (.slice (some ⟨g, 0, none⟩) (r + 2 * (i + 1)) cap) (R ++ ofL (X.take (i + 1))) ∧ w.grownBy w3 (some g)) := by
        refine ⟨?_, HF.out.2.trans ((grown_of_below ((Below.refl _ _).alloc (Nat.le_refl _) _) (some g)).trans hgrow3)⟩
        have e : (R ++ ofL (X.take (i + 1))).length = r + 2 * (i + 1) := by rw [NX.out, List.length_append, LN.out]; rfl
        rw [OwnB, e, NX.out, List.map_append]
        exact hown'
      clear hown' hgrow3
      go_roundg (X.length - (i + 1))
      case measure => have := HK.out; omega
      case rel => exact ⟨i + 1, rfl, by omega, by go_num, rfl, HO.out⟩
set_option maxRecDepth 100000 in
set_option maxHeartbeats 4000000 in
theorem of_any {b o c : Nat} {a : Option Addr} {X : List Int} (hX : Bys X) (hl : X.length < 140737488355328) (ha : Az a b o X) (w : World) (hz : Bz w b o X) :
    Calls Tryd.prog 16 #[.slice a X.length c] w fun e w' => ∃ v, e = .returned v ∧ OwnB w.heap.size w' v (ofL X) ∧ Below w.heap.size w w' := by
  obtain ⟨i0, hi, hz0, hz1, hz2⟩ := info_parts info_byte
  have HA : Hid (Bys X ∧ X.length < 140737488355328 ∧ Az a b o X ∧ Bz w b o X) := ⟨hX, hl, ha, hz⟩
  have l1 : (X.length : Int) < 140737488355328 := by omega
  clear hX hl ha hz
  go_enter Tryd.func16, Tryd.ntmps16
  go_wp2_with (at_make; refine wpList_make_cap _ rfl _ _ 23 rfl 5 i0 (.int .u8 0) Tryd.underlying23 hi hz0 hz1 rfl hz2 .i64 .i64 _ _ 0 (2 * X.length) rfl rfl (by omega) (by omega) (Nat.zero_le _) (by have := HA.out.2.1; omega) ?_; refine wpList_world (fun W => OwnB w.heap.size W (.slice (some ⟨w.heap.size, 0, none⟩) 0 (2 * X.length)) [] ∧ Below w.heap.size w W) ⟨made_own _ _ (Nat.le_refl _) (by have := HA.out.2.1; omega), (Below.refl _ _).alloc (Nat.le_refl _) _⟩ ?_; intro w1 h1; have H1 : Hid _ := h1; clear h1)
  obtain ⟨b', ne, ha', hz'⟩ := HA.out.2.2.1.far HA.out.2.2.2 (Nat.le_refl _)
  have hc := split_any (R := []) (g := w.heap.size) (cap := 2 * X.length) (c := c) (B := w.heap.size) (b := b') (o := o) (a := a) HA.out.1 HA.out.2.1 (by simp) ha' w1 (hz' _ (HA.out.2.2.2.keep H1.out.2)) ne H1.out.1
  simp only [List.length_nil, List.nil_append, Nat.zero_add] at hc
  with_reducible refine hc.mono ?_
  rintro e w2 ⟨rfl, ho, hg⟩
  have HO : Hid (OwnB w.heap.size w2 (.slice (some ⟨w.heap.size, 0, none⟩) (2 * X.length) (2 * X.length)) (ofL X) ∧ Below w.heap.size w w2) := ⟨ho, H1.out.2.grown hg H1.out.2.size (fun k hk => by have := Option.some.inj hk; omega)⟩
  clear hc ho hg H1 hz' ha'
  go_wp2
  simp [bodyPost, results, Tryd.results16, go_sem]
  exact HO.out
theorem and1 (n : Nat) (h : n < 281474976710656) : bits .and .i64 (n : Int) 1 = ((n % 2 : Nat) : Int) := by
  have e : (BitVec.ofInt 64 (n : Int)).toNat = n := by simp; omega
  have h2 : n &&& 1 = n % 2 := Nat.and_one_is_mod n
  have e2 : bits .and .i64 (n : Int) 1 = IntKind.i64.wrap (((BitVec.ofInt 64 (n : Int) &&& BitVec.ofInt 64 1).toNat : Nat) : Int) := rfl
  rw [e2, BitVec.toNat_and, e, show (BitVec.ofInt 64 1).toNat = 1 from rfl, h2, IntKind.wrap_i64]
  omega
set_option maxRecDepth 100000 in
theorem odd_any {a : Option Addr} {n c : Nat} (hl : n < 281474976710656) (w : World) :
    Calls Tryd.prog 41 #[.slice a n c] w fun e w' => e = .returned (.bool (decide (n % 2 = 1))) ∧ w' = w := by
  have h := and1 n hl
  have l1 : (n : Int) < 281474976710656 := by omega
  clear hl
  go_enter Tryd.func41, Tryd.ntmps41
  go_wp2
  simp [bodyPost, results, Tryd.results41, go_sem]
  by_cases h2 : n % 2 = 1
  · rw [decide_eq_true h2, bne, beq_eq_false_iff_ne.2 (by omega)]
    rfl
  · rw [decide_eq_false h2, show (n : Int) % 2 = 0 by omega]
    rfl
theorem rowB_take {X : List Int} {i : Nat} (hi : i < X.length) (h : rowB (X.take i) = true) (hx : X.getD i 0 ≤ 15) : rowB (X.take (i + 1)) = true := by
  unfold rowB at *
  rw [take_snocI hi, List.all_append, h, Bool.true_and]
  simp only [List.all_cons, List.all_nil, Bool.and_true]
  exact decide_eq_true hx
theorem rowB_not {X : List Int} {i : Nat} (hi : i < X.length) (hx : ¬ X.getD i 0 ≤ 15) : rowB X = false := by
  unfold rowB
  apply List.all_eq_false.2
  refine ⟨X.getD i 0, ?_, by simpa using hx⟩
  rw [List.getD, List.getElem?_eq_getElem hi]
  exact List.getElem_mem hi
set_option maxRecDepth 100000 in
theorem row_any {b o c : Nat} {a : Option Addr} {X : List Int} (hl : X.length < 281474976710656) (ha : Az a b o X) (w : World) (hz : Bz w b o X) :
    Calls Tryd.prog 42 #[.slice a X.length c] w fun e w' => e = .returned (.bool (rowB X)) ∧ w' = w := by
  have HA : Hid (X.length < 281474976710656 ∧ Az a b o X ∧ Bz w b o X) := ⟨hl, ha, hz⟩
  have l1 : (X.length : Int) < 281474976710656 := by omega
  clear hl ha hz
  go_enter Tryd.func42, Tryd.ntmps42
  go_wp2_with fail
  go_loopg [4, 7] X.length (fun k bv iv wr => ∃ i : Nat, k = X.length - i ∧ i ≤ X.length ∧ iv = .int .i64 (i : Int) ∧ rowB (X.take i) = true ∧ wr = w)
  case atStart => exact ⟨0, rfl, Nat.zero_le _, rfl, rfl, rfl⟩
  case round =>
    obtain ⟨i, hk, hi9, rfl, hr, rfl⟩ := hrel
    have HK : Hid (gk = X.length - i ∧ rowB (X.take i) = true) := ⟨hk, hr⟩
    clear hk hr
    by_cases h8 : i = X.length
    · subst h8
      have HT : Hid (rowB X = true) := by have := HK.out.2; rw [List.take_length] at this; exact this
      go_wp2
      simp [bodyPost, results, Tryd.results42, go_sem]
      exact HT.out
    · have hlt : i < X.length := by omega
      have hlt' : (i : Int) < (X.length : Int) := by omega
      obtain rfl := HA.out.2.1.cons (by omega)
      have gx := HA.out.2.2 i hlt
      by_cases h9 : X.getD i 0 ≤ 15
      · have HR : Hid (rowB (X.take (i + 1)) = true) := rowB_take hlt HK.out.2 h9
        generalize X.getD i 0 = x at *
        have h10 : ¬ (15 < x) := by omega
        clear h9
        go_wp2
        go_roundg (X.length - (i + 1))
        case measure => have := HK.out; omega
        case rel => exact ⟨i + 1, rfl, by omega, by go_num, HR.out, rfl⟩
      · have HR : Hid (rowB X = false) := rowB_not hlt h9
        generalize X.getD i 0 = x at *
        have h10 : 15 < x := by omega
        go_wp2
        simp [bodyPost, results, Tryd.results42, go_sem]
        exact HR.out
/-- Of two lists, are the first i the same? -/
theorem take_same {X Z : List Int} {i : Nat} (h1 : i < X.length) (h2 : i < Z.length) (h : X.take i = Z.take i) (e : X.getD i 0 = Z.getD i 0) : X.take (i + 1) = Z.take (i + 1) := by
  rw [take_snocI h1, take_snocI h2, h, e]
end Go.Proofs.YtgndlkhmleafiaaDoor
