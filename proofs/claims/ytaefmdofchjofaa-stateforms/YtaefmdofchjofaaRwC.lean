import Derived.Test.YtaefmdofchjofaaRwB
import Derived.Test.YtaefmdofchjofaaRdF
/- Layer 7: the document's item and Decode, of any bytes. -/
namespace Go.Proofs.Ytaefmdofchjofaa
open Go.RowKit Go.Sort
theorem ritem_any {A : List Int} {a : Option Addr} {b o c : Nat} (hA : Byts A) (hl : A.length ≤ 16777216) (hc : A.length ≤ c) (hnc : a = none → c = 0) (ha : Az a b o A) : ∀ (N p q k : Nat), q - p ≤ N → p ≤ q → q ≤ A.length → k ≤ 1024 → ∀ w, Bz w b o A →
    Calls Try.prog 46 #[.slice a A.length c, .int .i64 (p : Int), .int .i64 (q : Int), .int .i64 (k : Int)] w fun e w' => ∃ d x, e = .returned (.tuple #[itV (dT k (slD A p q)).2 d x, .int .i64 (endV (dT k (slD A p q)) (p + totP (slD A p q))), .int .i64 (dT k (slD A p q)).1]) ∧ Ot w' (dT k (slD A p q)).2 (fun j => w.heap.size ≤ j) d x ∧ Below w.heap.size w w' := by
  intro N
  induction N with
  | zero => ?_
  | succ N ih => ?_
  all_goals
    intro p q k hN hpq hq hk w hz
    have lq : (A.take q).length = q := by rw [List.length_take]; omega
    have eX : (A.take q).drop p = slD A p q := by unfold slD; rw [List.drop_take]
    have aq : Az a b o (A.take q) := by
      rcases ha with x | x
      · exact .inl (by rw [x, List.take_nil])
      · exact .inr x
    have FH0 : ∀ w1, Below w.heap.size w w1 → Calls Try.prog 64 #[.slice a A.length c, .int .i64 (p : Int), .int .i64 (q : Int)] w1 fun e w' => e = .returned (hdV p (hdP (slD A p q))) ∧ Below w1.heap.size w1 w' := fun w1 B => by
      have r := rv_all (A := A.take q) (p := p) (M := A.length) (c := c) (by omega) (byts_takeR hA q) (by omega) (by omega) aq (by omega) w1 ((hz.keep B).take)
      rw [lq, eX] at r
      exact r
    have sl := slD_len (p := p) hq
    by_cases k1 : (hdP (slD A p q)).2.2.2 = 0
    · have tf := totP_fits k1
      have et : totP (slD A p q) = (hdP (slD A p q)).2.1 + (hdP (slD A p q)).2.2.1 := rfl
      have hv : hdV p (hdP (slD A p q)) = .tuple #[.agg #[.bool (hdP (slD A p q)).1, .int .i64 ((p + (hdP (slD A p q)).2.1 : Nat) : Int), .int .i64 ((p + totP (slD A p q) : Nat) : Int)], .int .i64 0] := by
        unfold hdV
        rw [if_pos k1, et]
        have i1 : (p : Int) + ((hdP (slD A p q)).2.1 : Int) = ((p + (hdP (slD A p q)).2.1 : Nat) : Int) := by omega
        have i2 : ((p + (hdP (slD A p q)).2.1 : Nat) : Int) + ((hdP (slD A p q)).2.2.1 : Int) = ((p + ((hdP (slD A p q)).2.1 + (hdP (slD A p q)).2.2.1) : Nat) : Int) := by omega
        rw [i1, i2]
      rw [hv] at FH0
      have ei : innP (slD A p q) = slD A (p + (hdP (slD A p q)).2.1) (p + totP (slD A p q)) := by
        unfold innP
        rw [slD_drop, show p + totP (slD A p q) = p + (hdP (slD A p q)).2.1 + (hdP (slD A p q)).2.2.1 by omega, slD_take (by omega)]
      by_cases k2 : (hdP (slD A p q)).1 = false
      · rw [k2] at FH0
        rw [dT_text k k1 k2]
        have il := innP_len k1
        obtain ⟨a2, o2, cu2, az2, nn2, bz2⟩ := cut_slD hc hnc ha (p := p + (hdP (slD A p q)).2.1) (q := p + totP (slD A p q)) (by omega) (by omega)
        rw [← ei] at az2 bz2
        refine (item_text (X := innP (slD A p q)) w FH0 cu2 (fun V B => ?_)).mono ?_
        · exact r7bytes_any (by omega) (by omega) az2 nn2 V (bz2 V (hz.keep B))
        · rintro e w' ⟨v, rfl, h2, h3⟩
          refine ⟨v, .slice none 0 0, ?_, Ot.mk (row_base h2 fun _ _ => Nat.zero_le _) (fun j x => (h2.lt j x).1) (Orow.nil _ _), h3⟩
          unfold endV
          rw [if_pos rfl]
          rfl
      · have k3 : (hdP (slD A p q)).1 = true := by simpa using k2
        rw [k3] at FH0
        by_cases k4 : 1024 ≤ k
        · obtain rfl : k = 1024 := by omega
          rw [dT_deep k1 k3 k4]
          exact (item_deep w FH0).mono fun e w' x => ⟨.slice none 0 0, .slice none 0 0, x.1, Ot.mk (OwnB.nil _ _) (fun j x => by cases x) (Orow.nil _ _), x.2⟩
        · have sz := hdP_size k1 k3
          first
            | (exfalso; omega)
            | (rw [dT_list k1 k3 k4, ei]
               refine item_list (A := A) (by omega) (by omega) hl (by omega) w rfl FH0 (fun p' V h1 h2 B => ?_)
               have r := ih p' (p + totP (slD A p q)) (k + 1) (by omega) (by omega) (by omega) (by omega) V (hz.keep B)
               rw [show ((k + 1 : Nat) : Int) = (k : Int) + 1 by omega] at r
               exact r)
    · have hv : hdV p (hdP (slD A p q)) = .tuple #[.agg #[.bool false, .int .i64 ((0 : Nat) : Int), .int .i64 ((0 : Nat) : Int)], .int .i64 (hdP (slD A p q)).2.2.2] := if_neg k1
      rw [hv] at FH0
      rw [dT_err k k1]
      refine (item_err k1 w FH0).mono fun e w' x => ⟨.slice none 0 0, .slice none 0 0, ?_, Ot.mk (OwnB.nil _ _) (fun j x => by cases x) (Orow.nil _ _), x.2⟩
      rw [x.1]
      unfold endV
      rw [if_neg k1]
      rfl
set_option maxRecDepth 100000 in
set_option maxHeartbeats 8000000 in
/-- The document's Decode, of any bytes. -/
theorem rDecode_any {A : List Int} {a : Option Addr} {b o c : Nat} (hA : Byts A) (hc : A.length ≤ c) (hnc : a = none → c = 0) (ha : Az a b o A) (w : World) (hz : Bz w b o A) :
    Calls Try.prog 28 #[.slice a A.length c] w fun e w' => ∃ d q, e = .returned (.tuple #[itV (decP A).2 d q, .int .i64 (decP A).1]) ∧ Ot w' (decP A).2 (fun k => w.heap.size ≤ k) d q ∧ Below w.heap.size w w' := by
  by_cases k0 : 16777216 < A.length
  · have e : decP A = (2, zT) := by unfold decP; rw [if_pos k0]
    rw [e]
    have k1 : (16777216 : Int) < (A.length : Int) := by omega
    generalize A.length = m at *
    go_enter Try.func28, Try.ntmps28
    go_wp2
    simp [bodyPost, results, Try.results28, go_sem]
    refine ⟨.slice none 0 0, .slice none 0 0, rfl, Ot.mk (OwnB.nil _ _) (fun j x => by cases x) (Orow.nil _ _), ?_⟩
    exact (Below.refl _ _).alloc (Nat.le_refl _) _
  · have e0 : slD A 0 A.length = A := by unfold slD; rw [List.drop_zero, Nat.sub_zero, List.take_length]
    have IC0 := ritem_any hA (by omega) hc hnc ha A.length 0 A.length 0 (by omega) (by omega) (Nat.le_refl _) (by omega)
    rw [e0, Nat.zero_add] at IC0
    have k1 : ¬ (16777216 : Int) < (A.length : Int) := by omega
    have PF : Hid (∀ e1 u T, (e1, u) = dT 0 A → T = totP A → (e1 ≠ 0 → decP A = (e1, zT)) ∧ (e1 = 0 → T < A.length → decP A = (73, zT)) ∧ (e1 = 0 → ¬ T < A.length → decP A = (0, u))) := fun e1 u T h hT => by
      subst hT
      unfold decP
      rw [if_neg k0, ← h]
      exact ⟨fun x => if_pos x, fun x y => by rw [if_neg (fun z => z x), if_pos y], fun x y => by rw [if_neg (fun z => z x), if_neg y]⟩
    have IC1 : Hid (∀ V, Below w.heap.size w V → Calls Try.prog 46 #[.slice a A.length c, .int .i64 0, .int .i64 (A.length : Int), .int .i64 0] V fun e w' => ∃ d x, e = .returned (.tuple #[itV (dT 0 A).2 d x, .int .i64 (endV (dT 0 A) (totP A)), .int .i64 (dT 0 A).1]) ∧ Ot w' (dT 0 A).2 (fun j => V.heap.size ≤ j) d x ∧ Below V.heap.size V w') := fun V B => IC0 V (hz.keep B)
    clear IC0 hA hc hnc ha hz k0 e0
    obtain ⟨R, hR⟩ : ∃ R, R = decP A := ⟨_, rfl⟩
    rw [← hR] at PF ⊢
    clear hR
    obtain ⟨m, hm⟩ : ∃ m, m = A.length := ⟨_, rfl⟩
    rw [← hm] at PF IC1 k1 ⊢
    clear hm
    obtain ⟨T, hT⟩ : ∃ T, T = totP A := ⟨_, rfl⟩
    rw [← hT] at IC1
    obtain ⟨y, hy⟩ : ∃ y, y = dT 0 A := ⟨_, rfl⟩
    rw [← hy] at IC1
    obtain ⟨e1, u⟩ := y
    have P3 := PF.out e1 u T hy hT
    have HP3 : Hid ((e1 ≠ 0 → R = (e1, zT)) ∧ (e1 = 0 → T < m → R = (73, zT)) ∧ (e1 = 0 → ¬ T < m → R = (0, u))) := P3
    clear P3 PF hT hy
    have IC : Hid (∀ V, Below w.heap.size w V → Calls Try.prog 46 #[.slice a m c, .int .i64 0, .int .i64 (m : Int), .int .i64 0] V fun e w' => ∃ d x, e = .returned (.tuple #[itV u d x, .int .i64 (endV (e1, u) T), .int .i64 e1]) ∧ Ot w' u (fun j => V.heap.size ≤ j) d x ∧ Below V.heap.size V w') := IC1
    clear IC1
    obtain ⟨pn, hpn⟩ : ∃ pn : Nat, endV (e1, u) T = (pn : Int) ∧ (e1 = 0 → T = pn) := by
      unfold endV
      by_cases z : e1 = 0
      · exact ⟨T, by rw [if_pos z], fun _ => rfl⟩
      · exact ⟨0, by rw [if_neg z]; rfl, fun h => absurd h z⟩
    rw [hpn.1] at IC
    have HPN : Hid (e1 = 0 → T = pn) := hpn.2
    clear hpn
    go_enter Try.func28, Try.ntmps28
    refine wp_seq_k fun K h => ?_
    have H : Hid _ := h
    clear h
    go_wp2_with fail
    refine H.out _ _ ?_
    clear H K
    refine wp_world (fun V => Below w.heap.size w V ∧ V.there w.heap.size 0 3) ⟨(Below.refl _ _).alloc (Nat.le_refl _) _, fun j hj => ?_⟩ ?_
    · have : j = 0 ∨ j = 1 ∨ j = 2 := by omega
      rcases this with rfl | rfl | rfl <;> simp [go_sem]
    rintro W0 ⟨B0, T0⟩
    refine wp_seq_k fun K h => ?_
    have H : Hid _ := h
    clear h
    go_wp2_with fail
    refine H.out _ _ ?_
    clear H K
    refine wp_seq_k fun K h => ?_
    have H : Hid _ := h
    clear h
    go_wp2_with (go_at_call 46; (refine (IC.out _ B0).mono ?_); rintro e U ⟨d, x, rfl, OU, BU⟩; obtain ⟨da, dn, dc, qa, qn, qc, rfl, rfl⟩ := (Ot.it _ OU).slices; unfold itV)
    refine H.out _ _ ?_
    clear H K
    clear IC
    have BB0 := B0.trans (BU.mono B0.size)
    refine wp_world (fun V => Below w.heap.size w V ∧ V.there w.heap.size 0 3 ∧ V.rangeAt U.heap.size 0 [.bool u.l, .slice da dn dc, .slice qa qn qc] ∧ Ot V u (fun j => w.heap.size + 1 ≤ j) (.slice da dn dc) (.slice qa qn qc)) ⟨BB0.alloc BB0.size _, there_keep (there_keep T0 BU (by omega)) ((Below.refl _ _).alloc (Nat.le_refl _) _) (by omega), fun j v hv => ?_, Ot.conv _ (fun j hj hS => ⟨Nat.le_trans (there_lt T0 (by omega)) hS, ((Below.refl U.heap.size U).alloc (Nat.le_refl _) _).block j hj⟩) OU⟩ ?_
    · rw [Nat.zero_add]
      match j, hv with
      | 0, hv => simp at hv; subst hv; simp [go_sem]
      | 1, hv => simp at hv; subst hv; simp [go_sem]
      | 2, hv => simp at hv; subst hv; simp [go_sem]
      | j + 3, hv => simp at hv
    rintro V ⟨BV, TV, RV, OV⟩
    generalize U.heap.size = xb at *
    clear OU BU BB0 T0 B0 U
    have SET : Hid (∀ vs : List Value, vs.length = 3 → Below w.heap.size w (V.setCells w.heap.size 0 vs) ∧ (V.setCells w.heap.size 0 vs).rangeAt w.heap.size 0 vs ∧ Ot (V.setCells w.heap.size 0 vs) u (fun j => w.heap.size ≤ j) (.slice da dn dc) (.slice qa qn qc)) := fun vs hv => by
      have c := chg_setCells w.heap.size vs 0 V
      exact ⟨BV.trans (c.below BV.size fun k hk => by omega), World.rangeAt_setCells_same _ _ _ _ (by rw [hv]; exact TV), Ot.conv _ (fun k hk hS => ⟨by omega, c.block k hk (by omega)⟩) OV⟩
    have HRV : Hid (V.rangeAt xb 0 [.bool u.l, .slice da dn dc, .slice qa qn qc]) := RV
    have HTV : Hid (V.there w.heap.size 0 3) := TV
    clear RV TV OV
    by_cases ke : e1 = 0
    · subst ke
      obtain rfl := HPN.out rfl
      by_cases kt : T < m
      · have kt' : (T : Int) < (m : Int) := by omega
        have hR := HP3.out.2.1 rfl kt
        subst hR
        go_wp2_with ((refine wpList_store_mid rfl _ _ _ rfl w.heap.size 0 #[.bool false, .slice none 0 0, .slice none 0 0] rfl rfl HTV.out size_it (by kernel_rfl) ?_); (refine wpList_worldE (fun V => Below w.heap.size w V ∧ V.rangeAt w.heap.size 0 [.bool false, .slice none 0 0, .slice none 0 0] ∧ True) ⟨(SET.out _ rfl).1, (SET.out _ rfl).2.1, trivial⟩ ?_); rintro V4 ⟨BV4, RV4, _⟩)
        have c0 : V4.cell? ⟨w.heap.size, 0, none⟩ = some (.bool false) := RV4 0 _ rfl
        have c1 : V4.cell? ⟨w.heap.size, 1, none⟩ = some (.slice none 0 0) := RV4 1 _ rfl
        have c2 : V4.cell? ⟨w.heap.size, 2, none⟩ = some (.slice none 0 0) := RV4 2 _ rfl
        simp [bodyPost, results, Try.results28, go_sem, c0, c1, c2]
        exact ⟨.slice none 0 0, .slice none 0 0, rfl, Ot.mk (OwnB.nil _ _) (fun j x => by cases x) (Orow.nil _ _), BV4⟩
      · have kt' : ¬ (T : Int) < (m : Int) := by omega
        have hR := HP3.out.2.2 rfl kt
        subst hR
        go_wp2_with (first | (refine wpList_load_mid rfl _ _ rfl xb 0 rfl _ _ HRV.out Try.underlying48 rfl size_it ?_) | ((refine wpList_store_mid rfl _ _ _ rfl w.heap.size 0 #[.bool u.l, .slice da dn dc, .slice qa qn qc] rfl rfl HTV.out size_it (by kernel_rfl) ?_); (refine wpList_worldE (fun V => Below w.heap.size w V ∧ V.rangeAt w.heap.size 0 [.bool u.l, .slice da dn dc, .slice qa qn qc] ∧ Ot V u (fun j => w.heap.size ≤ j) (.slice da dn dc) (.slice qa qn qc)) (SET.out _ rfl) ?_); rintro V4 ⟨BV4, RV4, OV4⟩))
        have c0 : V4.cell? ⟨w.heap.size, 0, none⟩ = some (.bool u.l) := RV4 0 _ rfl
        have c1 : V4.cell? ⟨w.heap.size, 1, none⟩ = some (.slice da dn dc) := RV4 1 _ rfl
        have c2 : V4.cell? ⟨w.heap.size, 2, none⟩ = some (.slice qa qn qc) := RV4 2 _ rfl
        simp [bodyPost, results, Try.results28, go_sem, c0, c1, c2]
        exact ⟨_, _, rfl, OV4, BV4⟩
    · have hR := HP3.out.1 ke
      subst hR
      have b6 : (e1 == 0) = false := beq_false_of_ne ke
      have b7 : (e1 != 0) = true := bne_iff_ne.2 ke
      go_wp2_with ((refine wpList_store_mid rfl _ _ _ rfl w.heap.size 0 #[.bool false, .slice none 0 0, .slice none 0 0] rfl rfl HTV.out size_it (by kernel_rfl) ?_); (refine wpList_worldE (fun V => Below w.heap.size w V ∧ V.rangeAt w.heap.size 0 [.bool false, .slice none 0 0, .slice none 0 0] ∧ True) ⟨(SET.out _ rfl).1, (SET.out _ rfl).2.1, trivial⟩ ?_); rintro V4 ⟨BV4, RV4, _⟩)
      have c0 : V4.cell? ⟨w.heap.size, 0, none⟩ = some (.bool false) := RV4 0 _ rfl
      have c1 : V4.cell? ⟨w.heap.size, 1, none⟩ = some (.slice none 0 0) := RV4 1 _ rfl
      have c2 : V4.cell? ⟨w.heap.size, 2, none⟩ = some (.slice none 0 0) := RV4 2 _ rfl
      simp [bodyPost, results, Try.results28, go_sem, c0, c1, c2]
      exact ⟨.slice none 0 0, .slice none 0 0, rfl, Ot.mk (OwnB.nil _ _) (fun j x => by cases x) (Orow.nil _ _), BV4⟩
end Go.Proofs.Ytaefmdofchjofaa

/- Layer 7: Decode's machine. -/
namespace Go.Proofs.Ytaefmdofchjofaa
open Go.RowKit Go.Sort
set_option maxRecDepth 100000 in
set_option maxHeartbeats 8000000 in
theorem ins_more {A : List Int} {R : Int × Tr} {QQ : Exit → Act → World → Prop} {inn ev qv : Value} {ba : Option Addr} {bn bc p n g k cap e : Nat} (w0 W : World) (hk : (k : Int) ≤ 1024) (hp : (p : Int) < (e : Int)) (ce : W.cell? ⟨g, k * 2, none⟩ = some (.int .i64 (e : Int)))
    (GO : Hid (∀ a inn, FrD w0 (.slice ba bn bc) (.slice (some ⟨g, 0, none⟩) (k + 1) cap) inn (.int .i64 (p : Int)) (.int .i64 (e : Int)) ev a → ∃ m, m < n ∧ JD A (.slice ba bn bc) w0 R m 1 a W))
    (x11 x12 x13 x14 x15 x16 x17 x18 x19 x20 x21 x22 x23 x24 x25 x26 x27 x28 x29 x30 x31 x32 x33 x34 x35 x36 x37 x38 x39 x40 x41 x42 x43 x44 x45 x46 x47 x48 x49 x50 x51 x52 x53 x54 x55 x56 x57 x58 x59 x60 x61 x62 x63 x64 x65 x66 x67 x68 x69 x70 x71 x72 x73 x74 x75 x76 x77 x78 x79 x80 x81 x82 x83 x84 x85 x86 x87 x88 x89 x90 x91 x92 x93 x94 x95 x96 x97 x98 x99 x100 x101 x102 x103 : Value) : WpLab Try.prog Try.f24 4 (jumps (fun l a w => ∃ m, m < n ∧ JD A (.slice ba bn bc) w0 R m l a w) QQ) { tmps := #[.slice ba bn bc, undef, .pointer (some ⟨w0.heap.size, 0, none⟩), .int .i64 0, .slice (some ⟨g, 0, none⟩) (k + 1) cap, inn, .int .i64 (p : Int), qv, .pointer (some ⟨w0.heap.size + 1, 0, none⟩), .pointer (some ⟨w0.heap.size + 2, 0, none⟩), ev, x11, x12, x13, x14, x15, x16, x17, x18, x19, x20, x21, x22, x23, x24, x25, x26, x27, x28, x29, x30, x31, x32, x33, x34, x35, x36, x37, x38, x39, x40, x41, x42, x43, x44, x45, x46, x47, x48, x49, x50, x51, x52, x53, x54, x55, x56, x57, x58, x59, x60, x61, x62, x63, x64, x65, x66, x67, x68, x69, x70, x71, x72, x73, x74, x75, x76, x77, x78, x79, x80, x81, x82, x83, x84, x85, x86, x87, x88, x89, x90, x91, x92, x93, x94, x95, x96, x97, x98, x99, x100, x101, x102, x103], defers := [] } W := by
  refine WpLab.intro (by rfl) (by rfl) ?_
  go_wp2_with fail
  go_step3
  refine GO.out _ (.pointer (some ⟨g, k * 2, none⟩)) ?_
  exact ⟨_, _, _, _, _, _, _, _, _, _, _, _, _, _, _, _, _, _, _, _, _, _, _, _, _, _, _, _, _, _, _, _, _, _, _, _, _, _, _, _, _, _, _, _, _, _, _, _, _, _, _, _, _, _, _, _, _, _, _, _, _, _, _, _, _, _, _, _, _, _, _, _, _, _, _, _, _, _, _, _, _, _, _, _, _, _, _, _, _, _, _, _, _, rfl⟩
set_option maxRecDepth 100000 in
set_option maxHeartbeats 8000000 in
theorem ins_pop {A : List Int} {R : Int × Tr} {QQ : Exit → Act → World → Prop} {inn ev qv : Value} {ba va : Option Addr} {bn bc p n g k cap e vn vc : Nat} (w0 W : World) (hk : (k : Int) ≤ 1024) (hc : k + 1 ≤ cap) (hp : ¬ (p : Int) < (e : Int)) (ce : W.cell? ⟨g, k * 2, none⟩ = some (.int .i64 (e : Int))) (cv : W.cell? ⟨g, k * 2 + 1, none⟩ = some (.slice va vn vc))
    (DM : Hid (Dm w0 W)) (GO : Hid (∀ a inn, FrD w0 (.slice ba bn bc) (.slice (some ⟨g, 0, none⟩) k cap) inn (.int .i64 (p : Int)) (.int .i64 (e : Int)) ev a → WpLab Try.prog Try.f24 3 (jumps (fun l a w => ∃ m, m < n ∧ JD A (.slice ba bn bc) w0 R m l a w) QQ) a (W.setCells (w0.heap.size + 2) 0 [.bool true, .slice none 0 0, .slice va vn vc])))
    (x11 x12 x13 x14 x15 x16 x17 x18 x19 x20 x21 x22 x23 x24 x25 x26 x27 x28 x29 x30 x31 x32 x33 x34 x35 x36 x37 x38 x39 x40 x41 x42 x43 x44 x45 x46 x47 x48 x49 x50 x51 x52 x53 x54 x55 x56 x57 x58 x59 x60 x61 x62 x63 x64 x65 x66 x67 x68 x69 x70 x71 x72 x73 x74 x75 x76 x77 x78 x79 x80 x81 x82 x83 x84 x85 x86 x87 x88 x89 x90 x91 x92 x93 x94 x95 x96 x97 x98 x99 x100 x101 x102 x103 : Value) : WpLab Try.prog Try.f24 4 (jumps (fun l a w => ∃ m, m < n ∧ JD A (.slice ba bn bc) w0 R m l a w) QQ) { tmps := #[.slice ba bn bc, undef, .pointer (some ⟨w0.heap.size, 0, none⟩), .int .i64 0, .slice (some ⟨g, 0, none⟩) (k + 1) cap, inn, .int .i64 (p : Int), qv, .pointer (some ⟨w0.heap.size + 1, 0, none⟩), .pointer (some ⟨w0.heap.size + 2, 0, none⟩), ev, x11, x12, x13, x14, x15, x16, x17, x18, x19, x20, x21, x22, x23, x24, x25, x26, x27, x28, x29, x30, x31, x32, x33, x34, x35, x36, x37, x38, x39, x40, x41, x42, x43, x44, x45, x46, x47, x48, x49, x50, x51, x52, x53, x54, x55, x56, x57, x58, x59, x60, x61, x62, x63, x64, x65, x66, x67, x68, x69, x70, x71, x72, x73, x74, x75, x76, x77, x78, x79, x80, x81, x82, x83, x84, x85, x86, x87, x88, x89, x90, x91, x92, x93, x94, x95, x96, x97, x98, x99, x100, x101, x102, x103], defers := [] } W := by
  refine WpLab.intro (by rfl) (by rfl) ?_
  have j1 : (k : Int) ≤ (cap : Int) := by omega
  go_wp2_with ((refine wpList_store_mid rfl _ _ _ rfl (w0.heap.size + 2) 0 #[.bool true, .slice none 0 0, .slice va vn vc] rfl rfl DM.out.it size_it (by kernel_rfl) ?_); (refine wpList_worldE (fun V => V = W.setCells (w0.heap.size + 2) 0 [.bool true, .slice none 0 0, .slice va vn vc]) rfl ?_); rintro V eV; (have EV : Hid (V = W.setCells (w0.heap.size + 2) 0 [.bool true, .slice none 0 0, .slice va vn vc]) := eV); clear eV)
  rename_i KK hKK
  go_step3
  refine hKK _ _ ?_
  rw [EV.out]
  refine (GO.out _ (.pointer (some ⟨g, k * 2, none⟩)) ?_).out (by rfl) (by rfl)
  exact ⟨_, _, _, _, _, _, _, _, _, _, _, _, _, _, _, _, _, _, _, _, _, _, _, _, _, _, _, _, _, _, _, _, _, _, _, _, _, _, _, _, _, _, _, _, _, _, _, _, _, _, _, _, _, _, _, _, _, _, _, _, _, _, _, _, _, _, _, _, _, _, _, _, _, _, _, _, _, _, _, _, _, _, _, _, _, _, _, _, _, _, _, _, _, rfl⟩
/-- At 'inside'. -/
theorem dec_ins {A : List Int} {R : Int × Tr} {inn ev qv sv v : Value} {ba : Option Addr} {bn bc p n e : Nat} {ts : List Tr} {L : List LvT} {M : Nat} {a : Act} (w0 W : World) (hbn : bn = A.length) (hA : A.length ≤ 16777216)
    (hf : FrD w0 (.slice ba bn bc) sv inn (.int .i64 (p : Int)) qv ev a) (DM : Dm w0 W) (SK : Stk (w0.heap.size + 3) W sv ((e, ts, v) :: L) M) (hpe : p ≤ e) (hwf : WfD A e L) (hcn : CnS p L) (hts : ts.length ≤ p) (hL : L.length + 1 ≤ 1024) (hR : R = insD A e ts L p) (hn : 4 * (A.length - p) + 2 * (L.length + 1) + 2 ≤ n) :
    WpLab Try.prog Try.f24 4 (jumps (fun l a w => ∃ m, m < n ∧ JD A (.slice ba bn bc) w0 R m l a w) (bodyPost Try.prog Try.f24 (fun e w' => ∃ d q, e = .returned (.tuple #[itV R.2 d q, .int .i64 R.1]) ∧ Ot w' R.2 (fun k => w0.heap.size ≤ k) d q ∧ Below w0.heap.size w0 w'))) a W := by
  obtain ⟨x11, x12, x13, x14, x15, x16, x17, x18, x19, x20, x21, x22, x23, x24, x25, x26, x27, x28, x29, x30, x31, x32, x33, x34, x35, x36, x37, x38, x39, x40, x41, x42, x43, x44, x45, x46, x47, x48, x49, x50, x51, x52, x53, x54, x55, x56, x57, x58, x59, x60, x61, x62, x63, x64, x65, x66, x67, x68, x69, x70, x71, x72, x73, x74, x75, x76, x77, x78, x79, x80, x81, x82, x83, x84, x85, x86, x87, x88, x89, x90, x91, x92, x93, x94, x95, x96, x97, x98, x99, x100, x101, x102, x103, rfl⟩ := hf
  obtain ⟨g, cap, rfl, hc, gB, gW, ce, cv, _, _⟩ := SK.top
  have hk : (L.length : Int) ≤ 1024 := by omega
  have hel := hwf.le
  by_cases k : p < e
  · refine ins_more w0 W hk (by omega) ce (fun a inn hf => ?_) x11 x12 x13 x14 x15 x16 x17 x18 x19 x20 x21 x22 x23 x24 x25 x26 x27 x28 x29 x30 x31 x32 x33 x34 x35 x36 x37 x38 x39 x40 x41 x42 x43 x44 x45 x46 x47 x48 x49 x50 x51 x52 x53 x54 x55 x56 x57 x58 x59 x60 x61 x62 x63 x64 x65 x66 x67 x68 x69 x70 x71 x72 x73 x74 x75 x76 x77 x78 x79 x80 x81 x82 x83 x84 x85 x86 x87 x88 x89 x90 x91 x92 x93 x94 x95 x96 x97 x98 x99 x100 x101 x102 x103
    rw [ins_beg (v := v) k hel] at hR
    exact ⟨_, by rw [List.length_cons]; omega, _, inn, ev, p, e, (e, ts, v) :: L, M, hf, DM, SK, hpe, ⟨Nat.le_refl _, hwf⟩, fun x hx => by
      rcases List.mem_cons.1 hx with rfl | hx
      · exact hts
      · exact hcn.weak x hx, hL, hR, Nat.le_refl _⟩
  · obtain ⟨ps, _, _, _, va, vc, rfl⟩ := SK.row
    refine ins_pop w0 W hk hc (by omega) ce cv DM (fun a inn hf => ?_) x11 x12 x13 x14 x15 x16 x17 x18 x19 x20 x21 x22 x23 x24 x25 x26 x27 x28 x29 x30 x31 x32 x33 x34 x35 x36 x37 x38 x39 x40 x41 x42 x43 x44 x45 x46 x47 x48 x49 x50 x51 x52 x53 x54 x55 x56 x57 x58 x59 x60 x61 x62 x63 x64 x65 x66 x67 x68 x69 x70 x71 x72 x73 x74 x75 x76 x77 x78 x79 x80 x81 x82 x83 x84 x85 x86 x87 x88 x89 x90 x91 x92 x93 x94 x95 x96 x97 x98 x99 x100 x101 x102 x103
    obtain ⟨m, hm, SP, OR⟩ := SK.pop
    have ep : p = e := by omega
    rw [ins_end (by omega)] at hR
    have c := chg_setCells (w0.heap.size + 2) [.bool true, .slice none 0 0, .slice va ts.length vc] 0 W
    have mb := SP.2.1.base
    refine dec_end w0 _ hbn hA hf (DM.set 2 _ (by omega) (by omega)) (SP.set 2 _ (by omega)) (t := .mk true [] ts) (World.rangeAt_setCells_same _ _ _ _ DM.it) ?_ (by rw [ep]; exact hwf) hcn (by omega) (by rw [ep]; exact hR) (by omega)
    exact Ot.mk (OwnB.nil _ _) (fun j x => by cases x) (Orow.conv (fun j hj hS => ⟨hS, c.block j hj (by have := hS.1; omega)⟩) OR)
theorem two_new7 (W : World) (u v : Value) (t : TypeId) : ∀ j x, [u, v][j]? = some x → (W.alloc (.cells #[u, v] t)).cell? ((⟨W.heap.size, 0, none⟩ : Addr).add j) = some x := fun j x hx => by
  have hn : (W.alloc (.cells #[u, v] t)).heap[W.heap.size]? = some (.cells #[u, v] t) := by
    show (W.heap.push _)[W.heap.size]? = _
    simp
  rw [Addr.add_mid, Nat.zero_add, cell_of_row _ _ j _ _ _ hn]
  simpa using hx
theorem info_lv : (Try.prog.info? 84).map (fun i => (i.zero, i.size, i.bytes)) = some (some (.agg #[.int .i64 0, .slice none 0 0]), 2, 32) := by kernel_rfl
set_option maxRecDepth 100000 in
set_option maxHeartbeats 8000000 in
theorem dwn_deep {A : List Int} {R : Int × Tr} {QQ : Exit → Act → World → Prop} {inn ev qv : Value} {sa ba : Option Addr} {bn bc p n sc : Nat} (w0 W : World) (DM : Hid (Dm w0 W)) (HN : Hid (1 ≤ n)) (HR : Hid (R = (74, zT)))
    (x11 x12 x13 x14 x15 x16 x17 x18 x19 x20 x21 x22 x23 x24 x25 x26 x27 x28 x29 x30 x31 x32 x33 x34 x35 x36 x37 x38 x39 x40 x41 x42 x43 x44 x45 x46 x47 x48 x49 x50 x51 x52 x53 x54 x55 x56 x57 x58 x59 x60 x61 x62 x63 x64 x65 x66 x67 x68 x69 x70 x71 x72 x73 x74 x75 x76 x77 x78 x79 x80 x81 x82 x83 x84 x85 x86 x87 x88 x89 x90 x91 x92 x93 x94 x95 x96 x97 x98 x99 x100 x101 x102 x103 : Value) : WpLab Try.prog Try.f24 2 (jumps (fun l a w => ∃ m, m < n ∧ JD A (.slice ba bn bc) w0 R m l a w) QQ) { tmps := #[.slice ba bn bc, undef, .pointer (some ⟨w0.heap.size, 0, none⟩), .int .i64 0, .slice sa 1024 sc, inn, .int .i64 (p : Int), qv, .pointer (some ⟨w0.heap.size + 1, 0, none⟩), .pointer (some ⟨w0.heap.size + 2, 0, none⟩), ev, x11, x12, x13, x14, x15, x16, x17, x18, x19, x20, x21, x22, x23, x24, x25, x26, x27, x28, x29, x30, x31, x32, x33, x34, x35, x36, x37, x38, x39, x40, x41, x42, x43, x44, x45, x46, x47, x48, x49, x50, x51, x52, x53, x54, x55, x56, x57, x58, x59, x60, x61, x62, x63, x64, x65, x66, x67, x68, x69, x70, x71, x72, x73, x74, x75, x76, x77, x78, x79, x80, x81, x82, x83, x84, x85, x86, x87, x88, x89, x90, x91, x92, x93, x94, x95, x96, x97, x98, x99, x100, x101, x102, x103], defers := [] } W := by
  refine WpLab.intro (by rfl) (by rfl) ?_
  go_wp2_with fail
  go_step3
  exact ⟨0, HN.out, 74, _, inn, _, _, HR.out, ⟨_, _, _, _, _, _, _, _, _, _, _, _, _, _, _, _, _, _, _, _, _, _, _, _, _, _, _, _, _, _, _, _, _, _, _, _, _, _, _, _, _, _, _, _, _, _, _, _, _, _, _, _, _, _, _, _, _, _, _, _, _, _, _, _, _, _, _, _, _, _, _, _, _, _, _, _, _, _, _, _, _, _, _, _, _, _, _, _, _, _, _, _, _, rfl⟩, DM.out⟩
set_option maxRecDepth 100000 in
set_option maxHeartbeats 8000000 in
theorem dwn_push {A : List Int} {R : Int × Tr} {QQ : Exit → Act → World → Prop} {inn ev qv : Value} {sa ba : Option Addr} {bn bc p n k sc h E : Nat} {L : List LvT} (w0 W : World) (hk : ((k : Int) == 1024) = false) (hh : (h : Int) ≤ 16777216) (hp : (p : Int) ≤ 16777216) (hE : (p : Int) + (h : Int) = (E : Int)) (ch : W.cell? ⟨w0.heap.size + 1, 2, none⟩ = some (.int .i64 (h : Int)))
    (SK : Hid (W.ownsRow (w0.heap.size + 3) 84 2 (.slice sa k sc) k (stC L) ∧ k < 1024 ∧ w0.heap.size + 3 ≤ W.heap.size))
    (GO : Hid (∀ V W1 v' a inn, Below W.heap.size W W1 → V.ownsRow (w0.heap.size + 3) 84 2 v' (k + 1) (stC L ++ [.int .i64 (E : Int), .slice none 0 0]) → W1.grownBy V (Value.slice sa k sc).ownBlock → (v'.ownBlock = (Value.slice sa k sc).ownBlock ∨ v'.ownBlock = some W1.heap.size) → FrD w0 (.slice ba bn bc) v' inn (.int .i64 (p : Int)) qv ev a → WpLab Try.prog Try.f24 4 (jumps (fun l a w => ∃ m, m < n ∧ JD A (.slice ba bn bc) w0 R m l a w) QQ) a V))
    (x11 x12 x13 x14 x15 x16 x17 x18 x19 x20 x21 x22 x23 x24 x25 x26 x27 x28 x29 x30 x31 x32 x33 x34 x35 x36 x37 x38 x39 x40 x41 x42 x43 x44 x45 x46 x47 x48 x49 x50 x51 x52 x53 x54 x55 x56 x57 x58 x59 x60 x61 x62 x63 x64 x65 x66 x67 x68 x69 x70 x71 x72 x73 x74 x75 x76 x77 x78 x79 x80 x81 x82 x83 x84 x85 x86 x87 x88 x89 x90 x91 x92 x93 x94 x95 x96 x97 x98 x99 x100 x101 x102 x103 : Value) : WpLab Try.prog Try.f24 2 (jumps (fun l a w => ∃ m, m < n ∧ JD A (.slice ba bn bc) w0 R m l a w) QQ) { tmps := #[.slice ba bn bc, undef, .pointer (some ⟨w0.heap.size, 0, none⟩), .int .i64 0, .slice sa k sc, inn, .int .i64 (p : Int), qv, .pointer (some ⟨w0.heap.size + 1, 0, none⟩), .pointer (some ⟨w0.heap.size + 2, 0, none⟩), ev, x11, x12, x13, x14, x15, x16, x17, x18, x19, x20, x21, x22, x23, x24, x25, x26, x27, x28, x29, x30, x31, x32, x33, x34, x35, x36, x37, x38, x39, x40, x41, x42, x43, x44, x45, x46, x47, x48, x49, x50, x51, x52, x53, x54, x55, x56, x57, x58, x59, x60, x61, x62, x63, x64, x65, x66, x67, x68, x69, x70, x71, x72, x73, x74, x75, x76, x77, x78, x79, x80, x81, x82, x83, x84, x85, x86, x87, x88, x89, x90, x91, x92, x93, x94, x95, x96, x97, x98, x99, x100, x101, x102, x103], defers := [] } W := by
  refine WpLab.intro (by rfl) (by rfl) ?_
  obtain ⟨i, hi, hi2⟩ := Option.map_eq_some_iff.1 info_lv
  simp only [Prod.mk.injEq] at hi2
  have hz0 := hi2.1
  have hz1 := hi2.2.1
  have hz2 := hi2.2.2
  clear hi2
  go_wp2_with (at_builtin; go_loud (refine wpList_append_own_at _ rfl _ _ 77 rfl (w0.heap.size + 3) 84 i (.agg #[.int .i64 0, .slice none 0 0]) 2 32 Try.underlying77 hi hz0 hz1 hz2 rfl (by decide) (.slice sa k sc) k (stC L) rfl (row_kept SK.out.1 fun j _ hj => ((Below.refl W.heap.size W).alloc (Nat.le_refl _) _).block j hj) ⟨W.heap.size, 0, none⟩ 1 1 [.int .i64 (E : Int), .slice none 0 0] rfl rfl (two_new7 W _ _ _) (fun y hy => by simp at hy; rcases hy with rfl | rfl <;> rfl) (by unfold maxLen; have := SK.out.2.1; omega) (by have := SK.out.2.1; omega) (by have := SK.out.2.2; simp; omega) ?_); intro v' V ho hg hnil hv)
  rename_i KK hKK
  go_step3
  refine hKK _ _ ?_
  refine (GO.out V _ v' _ inn ((Below.refl W.heap.size W).alloc (Nat.le_refl _) _) ho hg hv ?_).out (by rfl) (by rfl)
  exact ⟨_, _, _, _, _, _, _, _, _, _, _, _, _, _, _, _, _, _, _, _, _, _, _, _, _, _, _, _, _, _, _, _, _, _, _, _, _, _, _, _, _, _, _, _, _, _, _, _, _, _, _, _, _, _, _, _, _, _, _, _, _, _, _, _, _, _, _, _, _, _, _, _, _, _, _, _, _, _, _, _, _, _, _, _, _, _, _, _, _, _, _, _, _, rfl⟩
end Go.Proofs.Ytaefmdofchjofaa
