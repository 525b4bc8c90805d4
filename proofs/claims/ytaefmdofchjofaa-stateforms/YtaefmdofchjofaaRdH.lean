import Derived.Test.YtaefmdofchjofaaRwC
/- Layer 7: Decode's machine. -/
namespace Go.Proofs.Ytaefmdofchjofaa
open Go.RowKit Go.Sort
theorem wp_mono7 {P : Program} {c : Code} {Q Q' : Exit → Act → World → Prop} {a : Act} {w : World} (h : ∀ e a w, Q e a w → Q' e a w) (k : c.wp P Q a w) : c.wp P Q' a w := fun b kk cs => by
  obtain ⟨e, a', w', hq, ha⟩ := k b kk cs
  exact ⟨e, a', w', h _ _ _ hq, ha⟩
/-- At 'down'. -/
theorem dec_dwn {A : List Int} {R : Int × Tr} {inn ev qv sv : Value} {ba : Option Addr} {bn bc p n s h : Nat} {L : List LvT} {M : Nat} {a : Act} (w0 W : World) (hbn : bn = A.length) (hA : A.length ≤ 16777216)
    (hf : FrD w0 (.slice ba bn bc) sv inn (.int .i64 (p : Int)) qv ev a) (DM : Dm w0 W) (SK : Stk (w0.heap.size + 3) W sv L M) (RT : W.rangeAt (w0.heap.size + 1) 0 [.bool true, .int .i64 (s : Int), .int .i64 (h : Int)]) (hwf : WfD A (p + h) L) (hcn : CnS p L) (hL : L.length ≤ 1024) (hR : R = if 1024 ≤ L.length then (74, zT) else insD A (p + h) [] L p) (hn : 4 * (A.length - p) + 2 * L.length + 4 ≤ n) :
    WpLab Try.prog Try.f24 2 (jumps (fun l a w => ∃ m, m < n ∧ JD A (.slice ba bn bc) w0 R m l a w) (bodyPost Try.prog Try.f24 (fun e w' => ∃ d q, e = .returned (.tuple #[itV R.2 d q, .int .i64 R.1]) ∧ Ot w' R.2 (fun k => w0.heap.size ≤ k) d q ∧ Below w0.heap.size w0 w'))) a W := by
  obtain ⟨x11, x12, x13, x14, x15, x16, x17, x18, x19, x20, x21, x22, x23, x24, x25, x26, x27, x28, x29, x30, x31, x32, x33, x34, x35, x36, x37, x38, x39, x40, x41, x42, x43, x44, x45, x46, x47, x48, x49, x50, x51, x52, x53, x54, x55, x56, x57, x58, x59, x60, x61, x62, x63, x64, x65, x66, x67, x68, x69, x70, x71, x72, x73, x74, x75, x76, x77, x78, x79, x80, x81, x82, x83, x84, x85, x86, x87, x88, x89, x90, x91, x92, x93, x94, x95, x96, x97, x98, x99, x100, x101, x102, x103, rfl⟩ := hf
  obtain ⟨sa, sc, rfl⟩ : ∃ sa sc, sv = .slice sa L.length sc := by
    rcases SK.1.2 with ⟨x, y⟩ | ⟨g, cap, _, x, _⟩
    · rw [y]; exact ⟨_, _, x⟩
    · exact ⟨_, _, x⟩
  have hel := hwf.le
  by_cases k : 1024 ≤ L.length
  · rw [if_pos k] at hR
    rw [show L.length = 1024 by omega]
    exact dwn_deep w0 W DM (by show 1 ≤ n; omega) hR x11 x12 x13 x14 x15 x16 x17 x18 x19 x20 x21 x22 x23 x24 x25 x26 x27 x28 x29 x30 x31 x32 x33 x34 x35 x36 x37 x38 x39 x40 x41 x42 x43 x44 x45 x46 x47 x48 x49 x50 x51 x52 x53 x54 x55 x56 x57 x58 x59 x60 x61 x62 x63 x64 x65 x66 x67 x68 x69 x70 x71 x72 x73 x74 x75 x76 x77 x78 x79 x80 x81 x82 x83 x84 x85 x86 x87 x88 x89 x90 x91 x92 x93 x94 x95 x96 x97 x98 x99 x100 x101 x102 x103
  · rw [if_neg k] at hR
    refine dwn_push (L := L) (E := p + h) w0 W (beq_false_of_ne (by omega)) (by omega) (by omega) (by omega) (RT 2 _ rfl) ⟨SK.1, by omega, DM.size⟩ (fun V W1 v' a inn hb ho hg hv hf => ?_) x11 x12 x13 x14 x15 x16 x17 x18 x19 x20 x21 x22 x23 x24 x25 x26 x27 x28 x29 x30 x31 x32 x33 x34 x35 x36 x37 x38 x39 x40 x41 x42 x43 x44 x45 x46 x47 x48 x49 x50 x51 x52 x53 x54 x55 x56 x57 x58 x59 x60 x61 x62 x63 x64 x65 x66 x67 x68 x69 x70 x71 x72 x73 x74 x75 x76 x77 x78 x79 x80 x81 x82 x83 x84 x85 x86 x87 x88 x89 x90 x91 x92 x93 x94 x95 x96 x97 x98 x99 x100 x101 x102 x103
    have S1 := (SK.keep hb).push ho hg hv
    have D1 := (DM.keep hb).chg ⟨hg.os, hg.tape, hg.output, hg.size, fun j hj hn => hg.block j hj fun x => hn (World.ownsRow.lt SK.1 j x.symm).1⟩
    exact dec_ins w0 V hbn hA hf D1 S1 (by omega) hwf hcn (Nat.zero_le _) (by omega) hR (by omega)
/-- At 'begin'. -/
theorem dec_beg {A : List Int} {R : Int × Tr} {inn ev sv : Value} {ba : Option Addr} {b o bn bc p q n : Nat} {L : List LvT} {M : Nat} {a : Act} {QQ : Exit → Act → World → Prop} (w0 W : World) (hbn : bn = A.length) (hA : A.length ≤ 16777216) (hB : Byts A) (hc : A.length ≤ bc) (hnc : ba = none → bc = 0) (ha : Az ba b o A) (hz : Bz w0 b o A)
    (hf : FrD w0 (.slice ba bn bc) sv inn (.int .i64 (p : Int)) (.int .i64 (q : Int)) ev a) (DM : Dm w0 W) (SK : Stk (w0.heap.size + 3) W sv L M) (hpq : p ≤ q) (hwf : WfD A q L) (hcn : CnW p L) (hL : L.length ≤ 1024) (hR : R = begD A L p q) (hn : 4 * (A.length - p) + 2 * L.length + 1 ≤ n) :
    WpLab Try.prog Try.f24 1 (jumps (fun l a w => ∃ m, m < n ∧ JD A (.slice ba bn bc) w0 R m l a w) QQ) a W := by
  subst hbn
  obtain ⟨x11, x12, x13, x14, x15, x16, x17, x18, x19, x20, x21, x22, x23, x24, x25, x26, x27, x28, x29, x30, x31, x32, x33, x34, x35, x36, x37, x38, x39, x40, x41, x42, x43, x44, x45, x46, x47, x48, x49, x50, x51, x52, x53, x54, x55, x56, x57, x58, x59, x60, x61, x62, x63, x64, x65, x66, x67, x68, x69, x70, x71, x72, x73, x74, x75, x76, x77, x78, x79, x80, x81, x82, x83, x84, x85, x86, x87, x88, x89, x90, x91, x92, x93, x94, x95, x96, x97, x98, x99, x100, x101, x102, x103, rfl⟩ := hf
  have hql := hwf.le
  obtain ⟨a', o', cu, az, _, bz⟩ := cut_slD hc hnc ha hpq hql
  have sl := slD_len (p := p) hql
  have RH : ∀ V, Below W.heap.size W V → Calls Try.prog 43 #[.slice a' (q - p) (bc - p)] V fun e w' => e = .returned (.tuple #[.agg #[.bool (hdP (slD A p q)).1, .int .i64 ((hdP (slD A p q)).2.1 : Int), .int .i64 ((hdP (slD A p q)).2.2.1 : Int)], .int .i64 (hdP (slD A p q)).2.2.2]) ∧ Below V.heap.size V w' := fun V hV => by
    have r := rh_all (c := bc - p) (byts_slD hB p q) (by omega) (by omega) az V (bz V (hz.keep (DM.below.trans (hV.mono DM.below.size))))
    rwa [sl] at r
  have DK : Hid (∀ V, Below W.heap.size W V → Dm w0 V) := fun V hV => DM.keep hV
  have SKK : Hid (∀ V, Below W.heap.size W V → Stk (w0.heap.size + 3) V sv L M) := fun V hV => SK.keep hV
  by_cases k1 : (hdP (slD A p q)).2.2.2 = 0
  · have tf := totP_fits k1
    have et : totP (slD A p q) = (hdP (slD A p q)).2.1 + (hdP (slD A p q)).2.2.1 := rfl
    by_cases k2 : (hdP (slD A p q)).1 = false
    · rw [beg_text k1 k2] at hR
      have la : slD A (p + (hdP (slD A p q)).2.1) (p + (hdP (slD A p q)).2.1 + (hdP (slD A p q)).2.2.1) = innP (slD A p q) := by
        unfold innP
        rw [slD_drop, slD_take (by omega)]
      obtain ⟨a2, o2, cu2, az2, _, bz2⟩ := cut_slD hc hnc ha (p := p + (hdP (slD A p q)).2.1) (q := p + (hdP (slD A p q)).2.1 + (hdP (slD A p q)).2.2.1) (by omega) (by omega)
      rw [la] at az2 bz2
      have il := innP_len k1
      refine beg_txt (l1 := (hdP (slD A p q)).1) (s1 := (hdP (slD A p q)).2.1) (h1 := (hdP (slD A p q)).2.2.1) (e1 := (hdP (slD A p q)).2.2.2) (P1 := p + (hdP (slD A p q)).2.1) (P2 := p + (hdP (slD A p q)).2.1 + (hdP (slD A p q)).2.2.1) (X1 := innP (slD A p q)) w0 W k2 k1 (by omega) (by omega) (by omega) (by omega) (by show _ < n; omega) (by show _ = _; rw [hR, et, Nat.add_assoc]) ⟨hwf.less (by omega), hcn.to (by omega), hL⟩ cu2 (fun V DV => ?_) DK SKK cu RH x11 x12 x13 x14 x15 x16 x17 x18 x19 x20 x21 x22 x23 x24 x25 x26 x27 x28 x29 x30 x31 x32 x33 x34 x35 x36 x37 x38 x39 x40 x41 x42 x43 x44 x45 x46 x47 x48 x49 x50 x51 x52 x53 x54 x55 x56 x57 x58 x59 x60 x61 x62 x63 x64 x65 x66 x67 x68 x69 x70 x71 x72 x73 x74 x75 x76 x77 x78 x79 x80 x81 x82 x83 x84 x85 x86 x87 x88 x89 x90 x91 x92 x93 x94 x95 x96 x97 x98 x99 x100 x101 x102 x103
      rw [show p + (hdP (slD A p q)).2.1 + (hdP (slD A p q)).2.2.1 - (p + (hdP (slD A p q)).2.1) = (innP (slD A p q)).length by omega]
      exact bclone_all rfl (by omega) az2 V (bz2 V (hz.keep DV.below))
    · have k3 : (hdP (slD A p q)).1 = true := by simpa using k2
      refine beg_lst (l1 := (hdP (slD A p q)).1) (s1 := (hdP (slD A p q)).2.1) (h1 := (hdP (slD A p q)).2.2.1) (e1 := (hdP (slD A p q)).2.2.2) (P1 := p + (hdP (slD A p q)).2.1) w0 W k3 k1 (by omega) (by omega) (by omega) (by show _ < n; have := hdP_size k1 k3; omega) ?_ ⟨hwf.less (by omega), hcn.to (by have := hdP_size k1 k3; omega), hL⟩ DK SKK cu RH x11 x12 x13 x14 x15 x16 x17 x18 x19 x20 x21 x22 x23 x24 x25 x26 x27 x28 x29 x30 x31 x32 x33 x34 x35 x36 x37 x38 x39 x40 x41 x42 x43 x44 x45 x46 x47 x48 x49 x50 x51 x52 x53 x54 x55 x56 x57 x58 x59 x60 x61 x62 x63 x64 x65 x66 x67 x68 x69 x70 x71 x72 x73 x74 x75 x76 x77 x78 x79 x80 x81 x82 x83 x84 x85 x86 x87 x88 x89 x90 x91 x92 x93 x94 x95 x96 x97 x98 x99 x100 x101 x102 x103
      show R = _
      by_cases k4 : 1024 ≤ L.length
      · rw [if_pos k4, hR, beg_deep k1 k3 k4]
      · rw [if_neg k4, hR, beg_list k1 k3 k4 hql hpq, et, Nat.add_assoc]
  · rw [beg_err k1] at hR
    exact beg_bad w0 W k1 (by show 1 ≤ n; omega) hR DK SKK cu RH x11 x12 x13 x14 x15 x16 x17 x18 x19 x20 x21 x22 x23 x24 x25 x26 x27 x28 x29 x30 x31 x32 x33 x34 x35 x36 x37 x38 x39 x40 x41 x42 x43 x44 x45 x46 x47 x48 x49 x50 x51 x52 x53 x54 x55 x56 x57 x58 x59 x60 x61 x62 x63 x64 x65 x66 x67 x68 x69 x70 x71 x72 x73 x74 x75 x76 x77 x78 x79 x80 x81 x82 x83 x84 x85 x86 x87 x88 x89 x90 x91 x92 x93 x94 x95 x96 x97 x98 x99 x100 x101 x102 x103
set_option maxRecDepth 100000 in
set_option maxHeartbeats 8000000 in
theorem dec_brk {R : Int × Tr} {J : Nat → Act → World → Prop} {inn qv pv sv bv : Value} {e : Int} (w0 W : World) (DM : Hid (Dm w0 W)) (HR : Hid (R = (e, zT)))
    (x11 x12 x13 x14 x15 x16 x17 x18 x19 x20 x21 x22 x23 x24 x25 x26 x27 x28 x29 x30 x31 x32 x33 x34 x35 x36 x37 x38 x39 x40 x41 x42 x43 x44 x45 x46 x47 x48 x49 x50 x51 x52 x53 x54 x55 x56 x57 x58 x59 x60 x61 x62 x63 x64 x65 x66 x67 x68 x69 x70 x71 x72 x73 x74 x75 x76 x77 x78 x79 x80 x81 x82 x83 x84 x85 x86 x87 x88 x89 x90 x91 x92 x93 x94 x95 x96 x97 x98 x99 x100 x101 x102 x103 : Value) : WpLab Try.prog Try.f24 0 (jumps J (bodyPost Try.prog Try.f24 (fun e w' => ∃ d q, e = .returned (.tuple #[itV R.2 d q, .int .i64 R.1]) ∧ Ot w' R.2 (fun k => w0.heap.size ≤ k) d q ∧ Below w0.heap.size w0 w'))) { tmps := #[bv, undef, .pointer (some ⟨w0.heap.size, 0, none⟩), .int .i64 0, sv, inn, pv, qv, .pointer (some ⟨w0.heap.size + 1, 0, none⟩), .pointer (some ⟨w0.heap.size + 2, 0, none⟩), .int .i64 e, x11, x12, x13, x14, x15, x16, x17, x18, x19, x20, x21, x22, x23, x24, x25, x26, x27, x28, x29, x30, x31, x32, x33, x34, x35, x36, x37, x38, x39, x40, x41, x42, x43, x44, x45, x46, x47, x48, x49, x50, x51, x52, x53, x54, x55, x56, x57, x58, x59, x60, x61, x62, x63, x64, x65, x66, x67, x68, x69, x70, x71, x72, x73, x74, x75, x76, x77, x78, x79, x80, x81, x82, x83, x84, x85, x86, x87, x88, x89, x90, x91, x92, x93, x94, x95, x96, x97, x98, x99, x100, x101, x102, x103], defers := [] } W := by
  refine WpLab.intro (by rfl) (by rfl) ?_
  have hR := HR.out
  subst hR
  clear HR
  have ST : Hid (Below w0.heap.size w0 (W.setCells w0.heap.size 0 [.bool false, .slice none 0 0, .slice none 0 0]) ∧ (W.setCells w0.heap.size 0 [.bool false, .slice none 0 0, .slice none 0 0]).rangeAt w0.heap.size 0 [.bool false, .slice none 0 0, .slice none 0 0]) := by
    have c := chg_setCells w0.heap.size [.bool false, .slice none 0 0, .slice none 0 0] 0 W
    have ds := DM.out.size
    exact ⟨DM.out.below.trans (c.below (by omega) fun k hk => by omega), World.rangeAt_setCells_same _ _ _ _ DM.out.fr⟩
  go_wp2_with ((refine wpList_store_mid rfl _ _ _ rfl w0.heap.size 0 #[.bool false, .slice none 0 0, .slice none 0 0] rfl rfl DM.out.fr size_it (by kernel_rfl) ?_); (refine wpList_worldE (fun V => Below w0.heap.size w0 V ∧ V.rangeAt w0.heap.size 0 [.bool false, .slice none 0 0, .slice none 0 0]) ST.out ?_); rintro V ⟨BV, RV⟩)
  have c0 : V.cell? ⟨w0.heap.size, 0, none⟩ = some (.bool false) := RV 0 _ rfl
  have c1 : V.cell? ⟨w0.heap.size, 1, none⟩ = some (.slice none 0 0) := RV 1 _ rfl
  have c2 : V.cell? ⟨w0.heap.size, 2, none⟩ = some (.slice none 0 0) := RV 2 _ rfl
  simp [bodyPost, results, Try.results24, go_sem, c0, c1, c2]
  exact ⟨_, _, rfl, Ot.mk (OwnB.nil _ _) (fun j x => by cases x) (Orow.nil _ _), BV⟩
end Go.Proofs.Ytaefmdofchjofaa

/- Layer 7: Decode's machine. -/
namespace Go.Proofs.Ytaefmdofchjofaa
open Go.RowKit Go.Sort
theorem Dm.new7 (w0 : World) : Dm w0 (((w0.alloc (.cells #[.bool false, .slice none 0 0, .slice none 0 0] 48)).alloc (.cells #[.bool false, .int .i64 0, .int .i64 0] 80)).alloc (.cells #[.bool false, .slice none 0 0, .slice none 0 0] 48)) := by
  refine ⟨(((Below.refl _ _).alloc (Nat.le_refl _) _).alloc (by simp) _).alloc (by simp; omega) _, by simp, ⟨by simp [go_sem], by simp [go_sem], by simp [go_sem]⟩, fun j hj => ?_, fun j hj => ?_, fun j hj => ?_⟩ <;> (have : j = 0 ∨ j = 1 ∨ j = 2 := by omega) <;> rcases this with rfl | rfl | rfl <;> simp [go_sem]
set_option maxRecDepth 100000 in
set_option maxHeartbeats 8000000 in
/-- Decode, of any bytes. -/
theorem Decode_any {A : List Int} {ba : Option Addr} {b o bc : Nat} (hB : Byts A) (hc : A.length ≤ bc) (hnc : ba = none → bc = 0) (ha : Az ba b o A) (w0 : World) (hz : Bz w0 b o A) :
    Calls Try.prog 24 #[.slice ba A.length bc] w0 fun e w' => ∃ d q, e = .returned (.tuple #[itV (decP A).2 d q, .int .i64 (decP A).1]) ∧ Ot w' (decP A).2 (fun k => w0.heap.size ≤ k) d q ∧ Below w0.heap.size w0 w' := by
  obtain ⟨R, hR⟩ : ∃ R, R = decP A := ⟨_, rfl⟩
  rw [← hR]
  have HC : Hid (Byts A ∧ A.length ≤ bc ∧ (ba = none → bc = 0) ∧ Az ba b o A ∧ Bz w0 b o A ∧ R = decP A) := ⟨hB, hc, hnc, ha, hz, hR⟩
  clear hB hc hnc ha hz hR
  obtain ⟨bn, hbn⟩ : ∃ n, n = A.length := ⟨_, rfl⟩
  have HBN : Hid (bn = A.length) := hbn
  rw [← hbn]
  clear hbn
  go_enter Try.func24, Try.ntmps24
  go_wp2_with fail
  have DW : Hid (Dm w0 (((w0.alloc (.cells #[.bool false, .slice none 0 0, .slice none 0 0] 48)).alloc (.cells #[.bool false, .int .i64 0, .int .i64 0] 80)).alloc (.cells #[.bool false, .slice none 0 0, .slice none 0 0] 48))) := Dm.new7 w0
  by_cases k : 16777216 < bn
  · have k1 : (16777216 : Int) < (bn : Int) := by omega
    have RR : Hid (R = (2, zT)) := by
      show R = _
      rw [HC.out.2.2.2.2.2]
      unfold decP
      rw [if_pos (by rw [← HBN.out]; exact k)]
    refine wp_scope_many (fun n l a W => l = 0 ∧ JD A (.slice ba bn bc) w0 R n 0 a W) ?_ ?_
    · go_wp2_with fail
      go_step3
      exact ⟨0, rfl, 2, _, _, _, _, RR.out, ⟨_, _, _, _, _, _, _, _, _, _, _, _, _, _, _, _, _, _, _, _, _, _, _, _, _, _, _, _, _, _, _, _, _, _, _, _, _, _, _, _, _, _, _, _, _, _, _, _, _, _, _, _, _, _, _, _, _, _, _, _, _, _, _, _, _, _, _, _, _, _, _, _, _, _, _, _, _, _, _, _, _, _, _, _, _, _, _, _, _, _, _, _, _, rfl⟩, DW.out⟩
    · rintro n l a W ⟨rfl, e, sv, inn, pv, qv, h1, ⟨x11, x12, x13, x14, x15, x16, x17, x18, x19, x20, x21, x22, x23, x24, x25, x26, x27, x28, x29, x30, x31, x32, x33, x34, x35, x36, x37, x38, x39, x40, x41, x42, x43, x44, x45, x46, x47, x48, x49, x50, x51, x52, x53, x54, x55, x56, x57, x58, x59, x60, x61, x62, x63, x64, x65, x66, x67, x68, x69, x70, x71, x72, x73, x74, x75, x76, x77, x78, x79, x80, x81, x82, x83, x84, x85, x86, x87, x88, x89, x90, x91, x92, x93, x94, x95, x96, x97, x98, x99, x100, x101, x102, x103, rfl⟩, h3⟩
      exact (dec_brk w0 W h3 h1 x11 x12 x13 x14 x15 x16 x17 x18 x19 x20 x21 x22 x23 x24 x25 x26 x27 x28 x29 x30 x31 x32 x33 x34 x35 x36 x37 x38 x39 x40 x41 x42 x43 x44 x45 x46 x47 x48 x49 x50 x51 x52 x53 x54 x55 x56 x57 x58 x59 x60 x61 x62 x63 x64 x65 x66 x67 x68 x69 x70 x71 x72 x73 x74 x75 x76 x77 x78 x79 x80 x81 x82 x83 x84 x85 x86 x87 x88 x89 x90 x91 x92 x93 x94 x95 x96 x97 x98 x99 x100 x101 x102 x103).rest (by rfl) (by rfl)
  have HA : A.length ≤ 16777216 := by have := HBN.out; omega
  refine wp_scope_many (JD A (.slice ba bn bc) w0 R) ?_ ?_
  · refine wp_mono7 (Q := jumps (fun l a w => ∃ m, m < 4 * A.length + 5 ∧ JD A (.slice ba bn bc) w0 R m l a w) (bodyPost Try.prog Try.f24 (fun e w' => ∃ d q, e = .returned (.tuple #[itV R.2 d q, .int .i64 R.1]) ∧ Ot w' R.2 (fun k => w0.heap.size ≤ k) d q ∧ Below w0.heap.size w0 w'))) ?_ ?_
    · intro e a w h
      cases e <;> first | exact h | (obtain ⟨m, _, h⟩ := h; exact ⟨m, h⟩)
    · have k1 : ¬ (16777216 : Int) < (bn : Int) := by omega
      clear HA
      go_wp2_with fail
      rename_i KK hKK
      go_step3
      refine hKK _ _ ?_
      obtain ⟨z1, z2, z3, z4, z5, z6⟩ := HC.out
      have hb := HBN.out
      refine (dec_beg (p := 0) (q := bn) (L := []) (M := w0.heap.size + 3) w0 (((w0.alloc (.cells #[.bool false, .slice none 0 0, .slice none 0 0] 48)).alloc (.cells #[.bool false, .int .i64 0, .int .i64 0] 80)).alloc (.cells #[.bool false, .slice none 0 0, .slice none 0 0] 48)) hb (by omega) z1 z2 z3 z4 z5 ⟨_, _, _, _, _, _, _, _, _, _, _, _, _, _, _, _, _, _, _, _, _, _, _, _, _, _, _, _, _, _, _, _, _, _, _, _, _, _, _, _, _, _, _, _, _, _, _, _, _, _, _, _, _, _, _, _, _, _, _, _, _, _, _, _, _, _, _, _, _, _, _, _, _, _, _, _, _, _, _, _, _, _, _, _, _, _, _, _, _, _, _, _, _, rfl⟩ DW.out (Stk.nil (by simp)) (Nat.zero_le _) (by rw [WfD]; omega) (fun x hx => by cases hx) (by simp) ?_ ?_).out (by rfl) (by rfl)
      · rw [z6, hb, beg_start (by omega)]
      · simp
  · intro n l a W hJ
    obtain ⟨z1, z2, z3, z4, z5, z6⟩ := HC.out
    have hb := HBN.out
    match l, hJ with
    | 0, hJ =>
      obtain ⟨e, sv, inn, pv, qv, h1, ⟨x11, x12, x13, x14, x15, x16, x17, x18, x19, x20, x21, x22, x23, x24, x25, x26, x27, x28, x29, x30, x31, x32, x33, x34, x35, x36, x37, x38, x39, x40, x41, x42, x43, x44, x45, x46, x47, x48, x49, x50, x51, x52, x53, x54, x55, x56, x57, x58, x59, x60, x61, x62, x63, x64, x65, x66, x67, x68, x69, x70, x71, x72, x73, x74, x75, x76, x77, x78, x79, x80, x81, x82, x83, x84, x85, x86, x87, x88, x89, x90, x91, x92, x93, x94, x95, x96, x97, x98, x99, x100, x101, x102, x103, rfl⟩, h3⟩ := hJ
      exact (dec_brk w0 W h3 h1 x11 x12 x13 x14 x15 x16 x17 x18 x19 x20 x21 x22 x23 x24 x25 x26 x27 x28 x29 x30 x31 x32 x33 x34 x35 x36 x37 x38 x39 x40 x41 x42 x43 x44 x45 x46 x47 x48 x49 x50 x51 x52 x53 x54 x55 x56 x57 x58 x59 x60 x61 x62 x63 x64 x65 x66 x67 x68 x69 x70 x71 x72 x73 x74 x75 x76 x77 x78 x79 x80 x81 x82 x83 x84 x85 x86 x87 x88 x89 x90 x91 x92 x93 x94 x95 x96 x97 x98 x99 x100 x101 x102 x103).rest (by rfl) (by rfl)
    | 1, hJ =>
      obtain ⟨sv, inn, ev, p, q, L, M, h1, h2, h3, h4, h5, h6, h7, h8, h9⟩ := hJ
      exact (dec_beg w0 W hb HA z1 z2 z3 z4 z5 h1 h2 h3 h4 h5 h6 h7 h8 h9).rest (by rfl) (by rfl)
    | 2, hJ =>
      obtain ⟨sv, inn, ev, qv, p, s, h, L, M, h1, h2, h3, h4, h5, h6, h7, h8, h9⟩ := hJ
      exact (dec_dwn w0 W hb HA h1 h2 h3 h4 h5 h6 h7 h8 h9).rest (by rfl) (by rfl)
    | 3, hJ =>
      obtain ⟨sv, inn, ev, qv, d, q, p, t, L, M, h1, h2, h3, h4, h5, h6, h7, h8, h9, h10⟩ := hJ
      exact (dec_end w0 W hb HA h1 h2 h3 h4 h5 h6 h7 h8 h9 h10).rest (by rfl) (by rfl)
    | 4, hJ =>
      obtain ⟨sv, inn, ev, qv, v, p, e, ts, L, M, h1, h2, h3, h4, h5, h6, h7, h8, h9, h10⟩ := hJ
      exact (dec_ins w0 W hb HA h1 h2 h3 h4 h5 h6 h7 h8 h9 h10).rest (by rfl) (by rfl)
    | _ + 5, hJ => exact hJ.elim
end Go.Proofs.Ytaefmdofchjofaa
