import Derived.Test.YtahekhamhdfkdaaRdH
import Derived.Test.YtahekhamhdfkdaaRdD
import Derived.Test.YtahekhamhdfkdaaRdE
import Derived.Test.YtahekhamhdfkdaaRxN
/- Layer 7: Decode's machine. -/
namespace Go.Proofs.Ytahekhamhdfkdaa
open Go.RowKit Go.Sort
theorem Dm.new7 (w0 : World) : Dm w0 (((w0.alloc (.cells #[.bool false, .slice none 0 0, .slice none 0 0] 26)).alloc (.cells #[.bool false, .int .i64 0, .int .i64 0] 67)).alloc (.cells #[.bool false, .slice none 0 0, .slice none 0 0] 26)) := by
  refine ⟨(((Below.refl _ _).alloc (Nat.le_refl _) _).alloc (by simp) _).alloc (by simp; omega) _, by simp, ⟨by simp [go_sem], by simp [go_sem], by simp [go_sem]⟩, fun j hj => ?_, fun j hj => ?_, fun j hj => ?_⟩ <;> (have : j = 0 ∨ j = 1 ∨ j = 2 := by omega) <;> rcases this with rfl | rfl | rfl <;> simp [go_sem]
set_option maxRecDepth 100000 in
set_option maxHeartbeats 8000000 in
/-- Decode, of any bytes. -/
theorem Decode_any {A : List Int} {ba : Option Addr} {b o bc : Nat} (hB : Byts A) (hc : A.length ≤ bc) (hnc : ba = none → bc = 0) (ha : Az ba b o A) (w0 : World) (hz : Bz w0 b o A) :
    Calls Try.prog 10 #[.slice ba A.length bc] w0 fun e w' => ∃ d q, e = .returned (.tuple #[itV (decP A).2 d q, .int .i64 (decP A).1]) ∧ Ot w' (decP A).2 (fun k => w0.heap.size ≤ k) d q ∧ Below w0.heap.size w0 w' := by
  obtain ⟨R, hR⟩ : ∃ R, R = decP A := ⟨_, rfl⟩
  rw [← hR]
  have HC : Hid (Byts A ∧ A.length ≤ bc ∧ (ba = none → bc = 0) ∧ Az ba b o A ∧ Bz w0 b o A ∧ R = decP A) := ⟨hB, hc, hnc, ha, hz, hR⟩
  clear hB hc hnc ha hz hR
  obtain ⟨bn, hbn⟩ : ∃ n, n = A.length := ⟨_, rfl⟩
  have HBN : Hid (bn = A.length) := hbn
  rw [← hbn]
  clear hbn
  go_enter Try.func10, Try.ntmps10
  go_wp2_with fail
  have DW : Hid (Dm w0 (((w0.alloc (.cells #[.bool false, .slice none 0 0, .slice none 0 0] 26)).alloc (.cells #[.bool false, .int .i64 0, .int .i64 0] 67)).alloc (.cells #[.bool false, .slice none 0 0, .slice none 0 0] 26))) := Dm.new7 w0
  by_cases k : 16777216 < bn
  · have k1 : (16777216 : Int) < (bn : Int) := by omega
    have RR : Hid (R = (2, zT)) := by
      show R = _
      rw [HC.out.2.2.2.2.2]
      unfold decP
      rw [if_pos (by rw [← HBN.out]; exact k)]
    refine wp_scope_many (fun n l a W => l = 0 ∧ JD A (.slice ba bn bc) w0 R n 0 a W) ?_ ?_
    · go_wp2_with fail
      go_step3
      exact ⟨0, rfl, 2, _, _, _, _, RR.out, ⟨_, _, _, _, _, _, _, _, _, _, _, _, _, _, _, _, _, _, _, _, _, _, _, _, _, _, _, _, _, _, _, _, _, _, _, _, _, _, _, _, _, _, _, _, _, _, _, _, _, _, _, _, _, _, _, _, _, _, _, _, _, _, _, _, _, _, _, _, _, _, _, _, _, _, _, _, _, _, _, _, _, _, _, _, _, _, _, _, _, _, _, _, _, rfl⟩, DW.out⟩
    · rintro n l a W ⟨rfl, e, sv, inn, pv, qv, h1, ⟨x11, x12, x13, x14, x15, x16, x17, x18, x19, x20, x21, x22, x23, x24, x25, x26, x27, x28, x29, x30, x31, x32, x33, x34, x35, x36, x37, x38, x39, x40, x41, x42, x43, x44, x45, x46, x47, x48, x49, x50, x51, x52, x53, x54, x55, x56, x57, x58, x59, x60, x61, x62, x63, x64, x65, x66, x67, x68, x69, x70, x71, x72, x73, x74, x75, x76, x77, x78, x79, x80, x81, x82, x83, x84, x85, x86, x87, x88, x89, x90, x91, x92, x93, x94, x95, x96, x97, x98, x99, x100, x101, x102, x103, rfl⟩, h3⟩
      exact (dec_brk w0 W h3 h1 x11 x12 x13 x14 x15 x16 x17 x18 x19 x20 x21 x22 x23 x24 x25 x26 x27 x28 x29 x30 x31 x32 x33 x34 x35 x36 x37 x38 x39 x40 x41 x42 x43 x44 x45 x46 x47 x48 x49 x50 x51 x52 x53 x54 x55 x56 x57 x58 x59 x60 x61 x62 x63 x64 x65 x66 x67 x68 x69 x70 x71 x72 x73 x74 x75 x76 x77 x78 x79 x80 x81 x82 x83 x84 x85 x86 x87 x88 x89 x90 x91 x92 x93 x94 x95 x96 x97 x98 x99 x100 x101 x102 x103).rest (by rfl) (by rfl)
  have HA : A.length ≤ 16777216 := by have := HBN.out; omega
  refine wp_scope_many (JD A (.slice ba bn bc) w0 R) ?_ ?_
  · refine wp_mono7 (Q := jumps (fun l a w => ∃ m, m < 4 * A.length + 5 ∧ JD A (.slice ba bn bc) w0 R m l a w) (bodyPost Try.prog Try.f10 (fun e w' => ∃ d q, e = .returned (.tuple #[itV R.2 d q, .int .i64 R.1]) ∧ Ot w' R.2 (fun k => w0.heap.size ≤ k) d q ∧ Below w0.heap.size w0 w'))) ?_ ?_
    · intro e a w h
      cases e <;> first | exact h | (obtain ⟨m, _, h⟩ := h; exact ⟨m, h⟩)
    · have k1 : ¬ (16777216 : Int) < (bn : Int) := by omega
      clear HA
      go_wp2_with fail
      rename_i KK hKK
      go_step3
      refine hKK _ _ ?_
      obtain ⟨z1, z2, z3, z4, z5, z6⟩ := HC.out
      have hb := HBN.out
      refine (dec_beg (p := 0) (q := bn) (L := []) (M := w0.heap.size + 3) w0 (((w0.alloc (.cells #[.bool false, .slice none 0 0, .slice none 0 0] 26)).alloc (.cells #[.bool false, .int .i64 0, .int .i64 0] 67)).alloc (.cells #[.bool false, .slice none 0 0, .slice none 0 0] 26)) hb (by omega) z1 z2 z3 z4 z5 ⟨_, _, _, _, _, _, _, _, _, _, _, _, _, _, _, _, _, _, _, _, _, _, _, _, _, _, _, _, _, _, _, _, _, _, _, _, _, _, _, _, _, _, _, _, _, _, _, _, _, _, _, _, _, _, _, _, _, _, _, _, _, _, _, _, _, _, _, _, _, _, _, _, _, _, _, _, _, _, _, _, _, _, _, _, _, _, _, _, _, _, _, _, _, rfl⟩ DW.out (Stk.nil (by simp)) (Nat.zero_le _) (by rw [WfD]; omega) (fun x hx => by cases hx) (by simp) ?_ ?_).out (by rfl) (by rfl)
      · rw [z6, hb, beg_start (by omega)]
      · simp
  · intro n l a W hJ
    obtain ⟨z1, z2, z3, z4, z5, z6⟩ := HC.out
    have hb := HBN.out
    match l, hJ with
    | 0, hJ =>
      obtain ⟨e, sv, inn, pv, qv, h1, ⟨x11, x12, x13, x14, x15, x16, x17, x18, x19, x20, x21, x22, x23, x24, x25, x26, x27, x28, x29, x30, x31, x32, x33, x34, x35, x36, x37, x38, x39, x40, x41, x42, x43, x44, x45, x46, x47, x48, x49, x50, x51, x52, x53, x54, x55, x56, x57, x58, x59, x60, x61, x62, x63, x64, x65, x66, x67, x68, x69, x70, x71, x72, x73, x74, x75, x76, x77, x78, x79, x80, x81, x82, x83, x84, x85, x86, x87, x88, x89, x90, x91, x92, x93, x94, x95, x96, x97, x98, x99, x100, x101, x102, x103, rfl⟩, h3⟩ := hJ
      exact (dec_brk w0 W h3 h1 x11 x12 x13 x14 x15 x16 x17 x18 x19 x20 x21 x22 x23 x24 x25 x26 x27 x28 x29 x30 x31 x32 x33 x34 x35 x36 x37 x38 x39 x40 x41 x42 x43 x44 x45 x46 x47 x48 x49 x50 x51 x52 x53 x54 x55 x56 x57 x58 x59 x60 x61 x62 x63 x64 x65 x66 x67 x68 x69 x70 x71 x72 x73 x74 x75 x76 x77 x78 x79 x80 x81 x82 x83 x84 x85 x86 x87 x88 x89 x90 x91 x92 x93 x94 x95 x96 x97 x98 x99 x100 x101 x102 x103).rest (by rfl) (by rfl)
    | 1, hJ =>
      obtain ⟨sv, inn, ev, p, q, L, M, h1, h2, h3, h4, h5, h6, h7, h8, h9⟩ := hJ
      exact (dec_beg w0 W hb HA z1 z2 z3 z4 z5 h1 h2 h3 h4 h5 h6 h7 h8 h9).rest (by rfl) (by rfl)
    | 2, hJ =>
      obtain ⟨sv, inn, ev, qv, p, s, h, L, M, h1, h2, h3, h4, h5, h6, h7, h8, h9⟩ := hJ
      exact (dec_dwn w0 W hb HA h1 h2 h3 h4 h5 h6 h7 h8 h9).rest (by rfl) (by rfl)
    | 3, hJ =>
      obtain ⟨sv, inn, ev, qv, d, q, p, t, L, M, h1, h2, h3, h4, h5, h6, h7, h8, h9, h10⟩ := hJ
      exact (dec_end w0 W hb HA h1 h2 h3 h4 h5 h6 h7 h8 h9 h10).rest (by rfl) (by rfl)
    | 4, hJ =>
      obtain ⟨sv, inn, ev, qv, v, p, e, ts, L, M, h1, h2, h3, h4, h5, h6, h7, h8, h9, h10⟩ := hJ
      exact (dec_ins w0 W hb HA h1 h2 h3 h4 h5 h6 h7 h8 h9 h10).rest (by rfl) (by rfl)
    | _ + 5, hJ => exact hJ.elim
end Go.Proofs.Ytahekhamhdfkdaa

/- Layer 7: the document's item: a list. -/
namespace Go.Proofs.Ytahekhamhdfkdaa
open Go.RowKit Go.Sort
/-- What the loop of item holds. -/
structure Li (w W : World) (hb : Nat) (s t : Nat) (v : Value) (us : List Tr) (ps : List (Value × Value)) : Prop where
  below : Below w.heap.size w W
  hlt : w.heap.size < hb
  res : W.there w.heap.size 0 3
  hd : Hb W hb true (s : Int) (t : Int)
  it : W.rangeAt (hb + 1) 0 [.bool true, .slice none 0 0, v]
  itw : W.there (hb + 1) 0 3
  oe : Oe (hb + 2) W v us ps
theorem there_lt {W : World} {b o n : Nat} (h : W.there b o n) (hn : 0 < n) : b < W.heap.size := World.block_lt_of_cell? W _ (Option.isSome_iff_exists.1 (h 0 hn).1).choose_spec
theorem there_keep {W W' : World} {b o n : Nat} (h : W.there b o n) (hb : Below W.heap.size W W') (hn : 0 < n) : W'.there b o n := there_chg (S := fun _ => False) (ChgT.of_below hb) (fun x => x) (there_lt h hn) h
theorem Li.keep {w W W' : World} {hb s t : Nat} {v : Value} {us : List Tr} {ps : List (Value × Value)} (h : Li w W hb s t v us ps) (k : Below W.heap.size W W') : Li w W' hb s t v us ps :=
  ⟨h.below.trans (k.mono h.below.size), h.hlt, there_keep h.res k (by omega), h.hd.keep k, rangeT_keep h.it k, there_keep h.itw k (by omega), h.oe.keep k⟩
/-- One more item: 'it.Items = append(it.Items, x)'. -/
theorem Li.put {w W : World} {hb s t : Nat} {v : Value} {us : List Tr} {ps : List (Value × Value)} (h : Li w W hb s t v us ps) (vs : List Value) : Li w (W.setCells w.heap.size 0 vs) hb s t v us ps := by
  have c := chg_setCells w.heap.size vs 0 W
  have hs := h.hlt
  have hl := h.hd.lt
  have il := there_lt h.itw (by omega)
  obtain ⟨e1, e2, e3, e4⟩ := h.oe
  exact ⟨h.below.trans (c.below h.below.size fun k hk => by omega), hs, World.there_setCells h.res _ _ _, ⟨c.cell (by omega) h.hd.1, c.cell (by omega) h.hd.2.1, c.cell (by omega) h.hd.2.2⟩, World.rangeAt_setCells_apart h.it _ _ _ (.inl (by omega)), World.there_setCells h.itw _ _ _, e1, row_kept e2 fun k x hk => c.block k hk (by have := e3 k x; omega), e3, Ots.of fun i hi => Ot.conv _ (fun k hk hS => ⟨hS, c.block k hk (by have := hS.1; omega)⟩) (e4.at i hi)⟩
theorem there_setCells7 {W : World} {b b' o n i : Nat} {v : Value} (h : W.there b' o n) : (W.setCell ⟨b, i, none⟩ v).there b' o n := World.there_setCells h b i [v]
/-- One more item: 'it.Items = append(it.Items, x)'. -/
theorem Li.step {w W W1 W2 : World} {hb s t : Nat} {v v' d q : Value} {us : List Tr} {u : Tr} {ps : List (Value × Value)} (h : Li w W hb s t v us ps) (k1 : Below W.heap.size W W1) (ou : Ot W1 u (fun j => hb + 2 ≤ j ∧ v.ownBlock ≠ some j) d q)
    (ho : W2.ownsRow (hb + 2) 26 3 v' (us.length + 1) (itC us ps ++ [.bool u.l, d, q])) (hg : W1.grownBy W2 v.ownBlock) (hv : v'.ownBlock = v.ownBlock ∨ v'.ownBlock = some W1.heap.size) :
    Li w (W2.setCell ⟨hb + 1, 2, none⟩ v') hb s t v' (us ++ [u]) (ps ++ [(d, q)]) := by
  have h1 := h.keep k1
  have lb : hb + 1 < W1.heap.size := there_lt h1.itw (by omega)
  have vb : ∀ k, v.ownBlock = some k → hb + 2 ≤ k := h.oe.2.2.1
  have bl : ∀ j, j < hb + 2 → j < W1.heap.size → W2.heap[j]? = W1.heap[j]? := fun j hj hj2 => hg.block j hj2 fun x => by have := vb j x.symm; omega
  have oe2 := Oe.step h1.oe ou (by omega) ho hg hv
  have c2 : ChgT (fun k => k = hb + 1) W2 (W2.setCell ⟨hb + 1, 2, none⟩ v') := chg_setCells (hb + 1) [v'] 2 W2
  have c1 : ChgT (fun k => hb + 2 ≤ k) W1 W2 := ⟨hg.os, hg.tape, hg.output, hg.size, fun j hj hn => bl j (by omega) hj⟩
  have hs := h.hlt
  have hdl := h1.hd.lt
  have it2 : W2.there (hb + 1) 0 3 := there_chg c1 (by omega) lb h1.itw
  refine ⟨h1.below.trans ((c1.below h1.below.size fun k hk => by omega).trans (c2.below (by have := h1.below.size; have := hg.size; omega) fun k hk => by omega)), hs, there_chg c2 (by omega) (by have := hg.size; omega) (there_chg c1 (by omega) (by omega) h1.res), ?_, ?_, there_setCells7 it2, ?_⟩
  · exact ⟨c2.cell (by omega) (c1.cell (by omega) h1.hd.1), c2.cell (by omega) (c1.cell (by omega) h1.hd.2.1), c2.cell (by omega) (c1.cell (by omega) h1.hd.2.2)⟩
  · have r0 : W2.cell? ⟨hb + 1, 0, none⟩ = some (.bool true) := c1.cell (by omega) (h1.it 0 _ rfl)
    have r1 : W2.cell? ⟨hb + 1, 1, none⟩ = some (.slice none 0 0) := c1.cell (by omega) (h1.it 1 _ rfl)
    have r2 : W2.cell? ⟨hb + 1, 2, none⟩ = some v := c1.cell (by omega) (h1.it 2 _ rfl)
    intro j x hx
    rw [Nat.zero_add]
    match j, hx with
    | 0, hx => simp at hx; subst hx; simp [go_sem, r0]
    | 1, hx => simp at hx; subst hx; simp [go_sem, r1]
    | 2, hx => simp at hx; subst hx; simp [go_sem, r2]
    | j + 3, hx => simp at hx
  · obtain ⟨e1, e2, e3, e4⟩ := oe2
    refine ⟨e1, row_kept e2 fun k x hk => c2.block k hk (by have := e3 k x; omega), e3, Ots.of fun i hi => Ot.conv _ (fun k hk hS => ⟨hS, c2.block k hk (by have := hS.1; omega)⟩) (e4.at i hi)⟩
end Go.Proofs.Ytahekhamhdfkdaa

/- Layer 7: the document's item and Decode, of any bytes. -/
namespace Go.Proofs.Ytahekhamhdfkdaa
open Go.RowKit Go.Sort
end Go.Proofs.Ytahekhamhdfkdaa

/- Layer 7: the law RlpDecodes. -/
namespace Go.Proofs.Ytahekhamhdfkdaa
open Go.RowKit Go.Sort
end Go.Proofs.Ytahekhamhdfkdaa

/- Layer 7: the law RlpStrict. -/
namespace Go.Proofs.Ytahekhamhdfkdaa
open Go.RowKit Go.Sort
theorem it_zT (W : World) : It W zT (.slice none 0 0) (.slice none 0 0) := Ot.it zT (S := fun _ => True) (Ot.mk (OwnB.nil _ _) (fun j x => by cases x) (Orow.nil _ _))
end Go.Proofs.Ytahekhamhdfkdaa
