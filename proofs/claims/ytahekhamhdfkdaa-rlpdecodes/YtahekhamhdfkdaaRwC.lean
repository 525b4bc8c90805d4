import Derived.Test.YtahekhamhdfkdaaRwB
/- Layer 7: the document's item and Decode, of any bytes. -/
namespace Go.Proofs.Ytahekhamhdfkdaa
open Go.RowKit Go.Sort
theorem ritem_any {A : List Int} {a : Option Addr} {b o c : Nat} (hA : Byts A) (hl : A.length ≤ 16777216) (hc : A.length ≤ c) (hnc : a = none → c = 0) (ha : Az a b o A) : ∀ (N p q k : Nat), q - p ≤ N → p ≤ q → q ≤ A.length → k ≤ 1024 → ∀ w, Bz w b o A →
    Calls Try.prog 34 #[.slice a A.length c, .int .i64 (p : Int), .int .i64 (q : Int), .int .i64 (k : Int)] w fun e w' => ∃ d x, e = .returned (.tuple #[itV (dT k (slD A p q)).2 d x, .int .i64 (endV (dT k (slD A p q)) (p + totP (slD A p q))), .int .i64 (dT k (slD A p q)).1]) ∧ Ot w' (dT k (slD A p q)).2 (fun j => w.heap.size ≤ j) d x ∧ Below w.heap.size w w' := by
  intro N
  induction N with
  | zero => ?_
  | succ N ih => ?_
  all_goals
    intro p q k hN hpq hq hk w hz
    have lq : (A.take q).length = q := by rw [List.length_take]; omega
    have eX : (A.take q).drop p = slD A p q := by unfold slD; rw [List.drop_take]
    have aq : Az a b o (A.take q) := by
      rcases ha with x | x
      · exact .inl (by rw [x, List.take_nil])
      · exact .inr x
    have FH0 : ∀ w1, Below w.heap.size w w1 → Calls Try.prog 50 #[.slice a A.length c, .int .i64 (p : Int), .int .i64 (q : Int)] w1 fun e w' => e = .returned (hdV p (hdP (slD A p q))) ∧ Below w1.heap.size w1 w' := fun w1 B => by
      have r := rv_all (A := A.take q) (p := p) (M := A.length) (c := c) (by omega) (byts_takeR hA q) (by omega) (by omega) aq (by omega) w1 ((hz.keep B).take)
      rw [lq, eX] at r
      exact r
    have sl := slD_len (p := p) hq
    by_cases k1 : (hdP (slD A p q)).2.2.2 = 0
    · have tf := totP_fits k1
      have et : totP (slD A p q) = (hdP (slD A p q)).2.1 + (hdP (slD A p q)).2.2.1 := rfl
      have hv : hdV p (hdP (slD A p q)) = .tuple #[.agg #[.bool (hdP (slD A p q)).1, .int .i64 ((p + (hdP (slD A p q)).2.1 : Nat) : Int), .int .i64 ((p + totP (slD A p q) : Nat) : Int)], .int .i64 0] := by
        unfold hdV
        rw [if_pos k1, et]
        have i1 : (p : Int) + ((hdP (slD A p q)).2.1 : Int) = ((p + (hdP (slD A p q)).2.1 : Nat) : Int) := by omega
        have i2 : ((p + (hdP (slD A p q)).2.1 : Nat) : Int) + ((hdP (slD A p q)).2.2.1 : Int) = ((p + ((hdP (slD A p q)).2.1 + (hdP (slD A p q)).2.2.1) : Nat) : Int) := by omega
        rw [i1, i2]
      rw [hv] at FH0
      have ei : innP (slD A p q) = slD A (p + (hdP (slD A p q)).2.1) (p + totP (slD A p q)) := by
        unfold innP
        rw [slD_drop, show p + totP (slD A p q) = p + (hdP (slD A p q)).2.1 + (hdP (slD A p q)).2.2.1 by omega, slD_take (by omega)]
      by_cases k2 : (hdP (slD A p q)).1 = false
      · rw [k2] at FH0
        rw [dT_text k k1 k2]
        have il := innP_len k1
        obtain ⟨a2, o2, cu2, az2, nn2, bz2⟩ := cut_slD hc hnc ha (p := p + (hdP (slD A p q)).2.1) (q := p + totP (slD A p q)) (by omega) (by omega)
        rw [← ei] at az2 bz2
        refine (item_text (X := innP (slD A p q)) w FH0 cu2 (fun V B => ?_)).mono ?_
        · exact r7bytes_any (by omega) (by omega) az2 nn2 V (bz2 V (hz.keep B))
        · rintro e w' ⟨v, rfl, h2, h3⟩
          refine ⟨v, .slice none 0 0, ?_, Ot.mk (row_base h2 fun _ _ => Nat.zero_le _) (fun j x => (h2.lt j x).1) (Orow.nil _ _), h3⟩
          unfold endV
          rw [if_pos rfl]
          rfl
      · have k3 : (hdP (slD A p q)).1 = true := by simpa using k2
        rw [k3] at FH0
        by_cases k4 : 1024 ≤ k
        · obtain rfl : k = 1024 := by omega
          rw [dT_deep k1 k3 k4]
          exact (item_deep w FH0).mono fun e w' x => ⟨.slice none 0 0, .slice none 0 0, x.1, Ot.mk (OwnB.nil _ _) (fun j x => by cases x) (Orow.nil _ _), x.2⟩
        · have sz := hdP_size k1 k3
          first
            | (exfalso; omega)
            | (rw [dT_list k1 k3 k4, ei]
               refine item_list (A := A) (by omega) (by omega) hl (by omega) w rfl FH0 (fun p' V h1 h2 B => ?_)
               have r := ih p' (p + totP (slD A p q)) (k + 1) (by omega) (by omega) (by omega) (by omega) V (hz.keep B)
               rw [show ((k + 1 : Nat) : Int) = (k : Int) + 1 by omega] at r
               exact r)
    · have hv : hdV p (hdP (slD A p q)) = .tuple #[.agg #[.bool false, .int .i64 ((0 : Nat) : Int), .int .i64 ((0 : Nat) : Int)], .int .i64 (hdP (slD A p q)).2.2.2] := if_neg k1
      rw [hv] at FH0
      rw [dT_err k k1]
      refine (item_err k1 w FH0).mono fun e w' x => ⟨.slice none 0 0, .slice none 0 0, ?_, Ot.mk (OwnB.nil _ _) (fun j x => by cases x) (Orow.nil _ _), x.2⟩
      rw [x.1]
      unfold endV
      rw [if_neg k1]
      rfl
set_option maxRecDepth 100000 in
set_option maxHeartbeats 8000000 in
/-- The document's Decode, of any bytes. -/
theorem rDecode_any {A : List Int} {a : Option Addr} {b o c : Nat} (hA : Byts A) (hc : A.length ≤ c) (hnc : a = none → c = 0) (ha : Az a b o A) (w : World) (hz : Bz w b o A) :
    Calls Try.prog 11 #[.slice a A.length c] w fun e w' => ∃ d q, e = .returned (.tuple #[itV (decP A).2 d q, .int .i64 (decP A).1]) ∧ Ot w' (decP A).2 (fun k => w.heap.size ≤ k) d q ∧ Below w.heap.size w w' := by
  by_cases k0 : 16777216 < A.length
  · have e : decP A = (2, zT) := by unfold decP; rw [if_pos k0]
    rw [e]
    have k1 : (16777216 : Int) < (A.length : Int) := by omega
    generalize A.length = m at *
    go_enter Try.func11, Try.ntmps11
    go_wp2
    simp [bodyPost, results, Try.results11, go_sem]
    refine ⟨.slice none 0 0, .slice none 0 0, rfl, Ot.mk (OwnB.nil _ _) (fun j x => by cases x) (Orow.nil _ _), ?_⟩
    exact (Below.refl _ _).alloc (Nat.le_refl _) _
  · have e0 : slD A 0 A.length = A := by unfold slD; rw [List.drop_zero, Nat.sub_zero, List.take_length]
    have IC0 := ritem_any hA (by omega) hc hnc ha A.length 0 A.length 0 (by omega) (by omega) (Nat.le_refl _) (by omega)
    rw [e0, Nat.zero_add] at IC0
    have k1 : ¬ (16777216 : Int) < (A.length : Int) := by omega
    have PF : Hid (∀ e1 u T, (e1, u) = dT 0 A → T = totP A → (e1 ≠ 0 → decP A = (e1, zT)) ∧ (e1 = 0 → T < A.length → decP A = (73, zT)) ∧ (e1 = 0 → ¬ T < A.length → decP A = (0, u))) := fun e1 u T h hT => by
      subst hT
      unfold decP
      rw [if_neg k0, ← h]
      exact ⟨fun x => if_pos x, fun x y => by rw [if_neg (fun z => z x), if_pos y], fun x y => by rw [if_neg (fun z => z x), if_neg y]⟩
    have IC1 : Hid (∀ V, Below w.heap.size w V → Calls Try.prog 34 #[.slice a A.length c, .int .i64 0, .int .i64 (A.length : Int), .int .i64 0] V fun e w' => ∃ d x, e = .returned (.tuple #[itV (dT 0 A).2 d x, .int .i64 (endV (dT 0 A) (totP A)), .int .i64 (dT 0 A).1]) ∧ Ot w' (dT 0 A).2 (fun j => V.heap.size ≤ j) d x ∧ Below V.heap.size V w') := fun V B => IC0 V (hz.keep B)
    clear IC0 hA hc hnc ha hz k0 e0
    obtain ⟨R, hR⟩ : ∃ R, R = decP A := ⟨_, rfl⟩
    rw [← hR] at PF ⊢
    clear hR
    obtain ⟨m, hm⟩ : ∃ m, m = A.length := ⟨_, rfl⟩
    rw [← hm] at PF IC1 k1 ⊢
    clear hm
    obtain ⟨T, hT⟩ : ∃ T, T = totP A := ⟨_, rfl⟩
    rw [← hT] at IC1
    obtain ⟨y, hy⟩ : ∃ y, y = dT 0 A := ⟨_, rfl⟩
    rw [← hy] at IC1
    obtain ⟨e1, u⟩ := y
    have P3 := PF.out e1 u T hy hT
    have HP3 : Hid ((e1 ≠ 0 → R = (e1, zT)) ∧ (e1 = 0 → T < m → R = (73, zT)) ∧ (e1 = 0 → ¬ T < m → R = (0, u))) := P3
    clear P3 PF hT hy
    have IC : Hid (∀ V, Below w.heap.size w V → Calls Try.prog 34 #[.slice a m c, .int .i64 0, .int .i64 (m : Int), .int .i64 0] V fun e w' => ∃ d x, e = .returned (.tuple #[itV u d x, .int .i64 (endV (e1, u) T), .int .i64 e1]) ∧ Ot w' u (fun j => V.heap.size ≤ j) d x ∧ Below V.heap.size V w') := IC1
    clear IC1
    obtain ⟨pn, hpn⟩ : ∃ pn : Nat, endV (e1, u) T = (pn : Int) ∧ (e1 = 0 → T = pn) := by
      unfold endV
      by_cases z : e1 = 0
      · exact ⟨T, by rw [if_pos z], fun _ => rfl⟩
      · exact ⟨0, by rw [if_neg z]; rfl, fun h => absurd h z⟩
    rw [hpn.1] at IC
    have HPN : Hid (e1 = 0 → T = pn) := hpn.2
    clear hpn
    go_enter Try.func11, Try.ntmps11
    refine wp_seq_k fun K h => ?_
    have H : Hid _ := h
    clear h
    go_wp2_with fail
    refine H.out _ _ ?_
    clear H K
    refine wp_world (fun V => Below w.heap.size w V ∧ V.there w.heap.size 0 3) ⟨(Below.refl _ _).alloc (Nat.le_refl _) _, fun j hj => ?_⟩ ?_
    · have : j = 0 ∨ j = 1 ∨ j = 2 := by omega
      rcases this with rfl | rfl | rfl <;> simp [go_sem]
    rintro W0 ⟨B0, T0⟩
    refine wp_seq_k fun K h => ?_
    have H : Hid _ := h
    clear h
    go_wp2_with fail
    refine H.out _ _ ?_
    clear H K
    refine wp_seq_k fun K h => ?_
    have H : Hid _ := h
    clear h
    go_wp2_with (go_at_call 34; (refine (IC.out _ B0).mono ?_); rintro e U ⟨d, x, rfl, OU, BU⟩; obtain ⟨da, dn, dc, qa, qn, qc, rfl, rfl⟩ := (Ot.it _ OU).slices; unfold itV)
    refine H.out _ _ ?_
    clear H K
    clear IC
    have BB0 := B0.trans (BU.mono B0.size)
    refine wp_world (fun V => Below w.heap.size w V ∧ V.there w.heap.size 0 3 ∧ V.rangeAt U.heap.size 0 [.bool u.l, .slice da dn dc, .slice qa qn qc] ∧ Ot V u (fun j => w.heap.size + 1 ≤ j) (.slice da dn dc) (.slice qa qn qc)) ⟨BB0.alloc BB0.size _, there_keep (there_keep T0 BU (by omega)) ((Below.refl _ _).alloc (Nat.le_refl _) _) (by omega), fun j v hv => ?_, Ot.conv _ (fun j hj hS => ⟨Nat.le_trans (there_lt T0 (by omega)) hS, ((Below.refl U.heap.size U).alloc (Nat.le_refl _) _).block j hj⟩) OU⟩ ?_
    · rw [Nat.zero_add]
      match j, hv with
      | 0, hv => simp at hv; subst hv; simp [go_sem]
      | 1, hv => simp at hv; subst hv; simp [go_sem]
      | 2, hv => simp at hv; subst hv; simp [go_sem]
      | j + 3, hv => simp at hv
    rintro V ⟨BV, TV, RV, OV⟩
    generalize U.heap.size = xb at *
    clear OU BU BB0 T0 B0 U
    have SET : Hid (∀ vs : List Value, vs.length = 3 → Below w.heap.size w (V.setCells w.heap.size 0 vs) ∧ (V.setCells w.heap.size 0 vs).rangeAt w.heap.size 0 vs ∧ Ot (V.setCells w.heap.size 0 vs) u (fun j => w.heap.size ≤ j) (.slice da dn dc) (.slice qa qn qc)) := fun vs hv => by
      have c := chg_setCells w.heap.size vs 0 V
      exact ⟨BV.trans (c.below BV.size fun k hk => by omega), World.rangeAt_setCells_same _ _ _ _ (by rw [hv]; exact TV), Ot.conv _ (fun k hk hS => ⟨by omega, c.block k hk (by omega)⟩) OV⟩
    have HRV : Hid (V.rangeAt xb 0 [.bool u.l, .slice da dn dc, .slice qa qn qc]) := RV
    have HTV : Hid (V.there w.heap.size 0 3) := TV
    clear RV TV OV
    by_cases ke : e1 = 0
    · subst ke
      obtain rfl := HPN.out rfl
      by_cases kt : T < m
      · have kt' : (T : Int) < (m : Int) := by omega
        have hR := HP3.out.2.1 rfl kt
        subst hR
        go_wp2_with ((refine wpList_store_mid rfl _ _ _ rfl w.heap.size 0 #[.bool false, .slice none 0 0, .slice none 0 0] rfl rfl HTV.out size_it (by kernel_rfl) ?_); (refine wpList_worldE (fun V => Below w.heap.size w V ∧ V.rangeAt w.heap.size 0 [.bool false, .slice none 0 0, .slice none 0 0] ∧ True) ⟨(SET.out _ rfl).1, (SET.out _ rfl).2.1, trivial⟩ ?_); rintro V4 ⟨BV4, RV4, _⟩)
        have c0 : V4.cell? ⟨w.heap.size, 0, none⟩ = some (.bool false) := RV4 0 _ rfl
        have c1 : V4.cell? ⟨w.heap.size, 1, none⟩ = some (.slice none 0 0) := RV4 1 _ rfl
        have c2 : V4.cell? ⟨w.heap.size, 2, none⟩ = some (.slice none 0 0) := RV4 2 _ rfl
        simp [bodyPost, results, Try.results11, go_sem, c0, c1, c2]
        exact ⟨.slice none 0 0, .slice none 0 0, rfl, Ot.mk (OwnB.nil _ _) (fun j x => by cases x) (Orow.nil _ _), BV4⟩
      · have kt' : ¬ (T : Int) < (m : Int) := by omega
        have hR := HP3.out.2.2 rfl kt
        subst hR
        go_wp2_with (first | (refine wpList_load_mid rfl _ _ rfl xb 0 rfl _ _ HRV.out Try.underlying26 rfl size_it ?_) | ((refine wpList_store_mid rfl _ _ _ rfl w.heap.size 0 #[.bool u.l, .slice da dn dc, .slice qa qn qc] rfl rfl HTV.out size_it (by kernel_rfl) ?_); (refine wpList_worldE (fun V => Below w.heap.size w V ∧ V.rangeAt w.heap.size 0 [.bool u.l, .slice da dn dc, .slice qa qn qc] ∧ Ot V u (fun j => w.heap.size ≤ j) (.slice da dn dc) (.slice qa qn qc)) (SET.out _ rfl) ?_); rintro V4 ⟨BV4, RV4, OV4⟩))
        have c0 : V4.cell? ⟨w.heap.size, 0, none⟩ = some (.bool u.l) := RV4 0 _ rfl
        have c1 : V4.cell? ⟨w.heap.size, 1, none⟩ = some (.slice da dn dc) := RV4 1 _ rfl
        have c2 : V4.cell? ⟨w.heap.size, 2, none⟩ = some (.slice qa qn qc) := RV4 2 _ rfl
        simp [bodyPost, results, Try.results11, go_sem, c0, c1, c2]
        exact ⟨_, _, rfl, OV4, BV4⟩
    · have hR := HP3.out.1 ke
      subst hR
      have b6 : (e1 == 0) = false := beq_false_of_ne ke
      have b7 : (e1 != 0) = true := bne_iff_ne.2 ke
      go_wp2_with ((refine wpList_store_mid rfl _ _ _ rfl w.heap.size 0 #[.bool false, .slice none 0 0, .slice none 0 0] rfl rfl HTV.out size_it (by kernel_rfl) ?_); (refine wpList_worldE (fun V => Below w.heap.size w V ∧ V.rangeAt w.heap.size 0 [.bool false, .slice none 0 0, .slice none 0 0] ∧ True) ⟨(SET.out _ rfl).1, (SET.out _ rfl).2.1, trivial⟩ ?_); rintro V4 ⟨BV4, RV4, _⟩)
      have c0 : V4.cell? ⟨w.heap.size, 0, none⟩ = some (.bool false) := RV4 0 _ rfl
      have c1 : V4.cell? ⟨w.heap.size, 1, none⟩ = some (.slice none 0 0) := RV4 1 _ rfl
      have c2 : V4.cell? ⟨w.heap.size, 2, none⟩ = some (.slice none 0 0) := RV4 2 _ rfl
      simp [bodyPost, results, Try.results11, go_sem, c0, c1, c2]
      exact ⟨.slice none 0 0, .slice none 0 0, rfl, Ot.mk (OwnB.nil _ _) (fun j x => by cases x) (Orow.nil _ _), BV4⟩
end Go.Proofs.Ytahekhamhdfkdaa
